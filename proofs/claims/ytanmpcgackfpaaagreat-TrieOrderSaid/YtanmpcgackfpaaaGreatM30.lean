/- What the laws of tries begin with. -/
import Derived.Test.YtanmpcgackfpaaaGreatM01
import Derived.Test.YtanmpcgackfpaaaGreatM10
import Derived.Test.YtanmpcgackfpaaaGreatM23
import Derived.Test.YtanmpcgackfpaaaGreatM29
import Derived.Lib.ConvBytes
set_option linter.unusedVariables false
set_option linter.unusedSimpArgs false
namespace Go.Proofs.YtanmpcgackfpaaaGreat
open Go.RowKit Tr
set_option maxRecDepth 100000
theorem str_tyT : Tryz.prog.underlying 9 = some .string := by kernel_rfl
theorem bytesW_tch (w : World) (e : TypeId) (s : ByteArray) : Tch [] w (Lib.bytesWorld w e s) := by
  refine ⟨?_, ?_, ?_, by rw [Lib.bytesWorld_size]; omega, fun k hk _ => Lib.bytesWorld_at_old w e s k hk⟩
  all_goals (unfold Lib.bytesWorld World.freeze; split <;> rfl)
section
variable {bs : List Nat} {w0 w : World} {L : List Ent} {a : Act} {o : Oper} {ops : Array Oper} {rest : List Oper} {Q : Exit → Act → World → Prop}
theorem st_cvtS {s : ByteArray} {l : List Nat} {x : Operand} (hS : St bs w0 w L) (hgd : o.guard = none) (ho : o.op = .convert 9 23 x) (hx : a.eval x = .string s) (hl : s.data.toList.map UInt8.toNat = l)
    (h : ∀ w' p c, St bs w0 w' L → RdB w' (.slice p l.length c) l → Tch [] w w' → wpList Tryz.prog ops Q rest (a.put o.dst (.slice p l.length c)) w') : wpList Tryz.prog ops Q (o :: rest) a w :=
  wpList_plain hgd fun K hK => by
    have hr := Lib.run_convert_string_bytes (P := Tryz.prog) w 9 23 5 s str_tyT qb5 qk9
    have hlen : l.length = s.size := by rw [← hl, List.length_map, Array.length_toList]; rfl
    unfold Oper.wp execOp
    simp only [ho, hx, Sem.run_bind, hr, Result.andThen_ok, Sem.run_pure]
    have hT := bytesW_tch w 5 s
    rw [← hlen]
    refine hK _ _ (h _ _ _ (hS.call hT) ⟨_, _, rfl, ?_, ?_, fun _ => ⟨_, _, rfl, by rw [Lib.bytesWorld_size]; omega, fun i hi => ?_⟩⟩ hT)
    · rw [hlen]; exact grownCap_ge _ _ _ _
    · intro y hy
      rw [← hl] at hy
      obtain ⟨z, _, rfl⟩ := List.mem_map.1 hy
      exact UInt8.toNat_lt z
    · have hi' : i < s.size := by omega
      have hi2 : i < s.data.toList.length := by rw [Array.length_toList]; exact hi'
      rw [Nat.zero_add, Lib.bytesWorld_cell w 5 s i hi']
      congr 2
      subst hl
      simp only [List.getD_eq_getElem?_getD, List.getElem?_map, List.getElem?_eq_getElem hi2]
      rfl
end
section
variable {bs : List Nat} {w0 w : World} {L : List Ent} {a : Act} {o : Oper} {ops : Array Oper} {rest : List Oper} {Q : Exit → Act → World → Prop}
theorem st_buildVT {n : Nat} {ty t : TypeId} {c : Array Value} {parts : Array (Nat × Operand)} (vals : Array (Nat × Value)) (hS : St bs w0 w L) (hgd : o.guard = none) (ho : o.op = .buildSlice ty n parts)
    (hv : (parts.map fun (i, x) => (i, a.eval x)) = vals) (hr : ∀ w : World, (Instr.buildSlice ty n vals).run Tryz.prog w = .ok (.slice (some ⟨w.heap.size, 0, none⟩) n n) (w.alloc (.cells c t)))
    (h : ∀ w' b, St bs w0 w' ((b, t, c) :: L) → Tch [] w w' → wpList Tryz.prog ops Q rest (a.put o.dst (.slice (some ⟨b, 0, none⟩) n n)) w') : wpList Tryz.prog ops Q (o :: rest) a w :=
  wpList_plain hgd fun K hK => by
    subst hv
    have hr2 := hr w
    unfold Oper.wp execOp
    simp only [ho, Sem.run_bind, hr2, Result.andThen_ok, Sem.run_pure]
    exact hK _ _ (h _ _ (hS.new t c) ((Tch.refl _ _).alloc _))
end
theorem pair_nob : ∀ (j : Nat) (x : Int), (#[Value.slice none 0 0, .slice none 0 0])[j]? ≠ some (.int .u8 x) := fun j x hx => by
  match j with
  | 0 => cases hx
  | 1 => cases hx
  | k + 2 => simp at hx
theorem build_pair (p q : Option Addr) (n c m d : Nat) (w : World) : (Instr.build 28 #[(0, .slice p n c), (1, .slice q m d)]).run Tryz.prog w = .ok (.agg #[.slice p n c, .slice q m d]) w := by kernel_rfl
theorem pair_sty : ∃ d, Tryz.prog.underlying 28 = some (.struct d) := struct_of (by kernel_rfl)
theorem pair2_one (p q : Option Addr) (n c m d : Nat) : (#[Value.slice p n c, .slice q m d]).all (·.oneCell') = true := by simp [Value.oneCell']
def LPair (k v : List Nat) (w : World) (e : Ending) (w' : World) : Prop := Tch [] w w' ∧ ∃ p c q d, e = .returned (.agg #[.slice p k.length c, .slice q v.length d]) ∧ RdB w' (.slice p k.length c) k ∧ RdB w' (.slice q v.length d) v
theorem lpair_any (ks vs : ByteArray) (k v : List Nat) (w : World) (hk : ks.data.toList.map UInt8.toNat = k) (hv : vs.data.toList.map UInt8.toNat = v) :
    Calls Tryz.prog 19 #[.string ks, .string vs] w (LPair k v w) := by
  have hS := St.start w
  have kb := build_pair
  obtain ⟨ds, hds⟩ := pair_sty
  go_enter Tryz.func19, Tryz.ntmps19
  go_wp2_with (first
    | (refine qe3 hS rfl 28 rfl kvpair_zero ?_; clear hS; intro w1 b1 hS)
    | (have hq := hr1; refine st_cvtS (l := v) hS rfl rfl rfl hv ?_; clear hS; intro w3 q d hS hr2 hT3; replace hr1 := hr1.tch hT3 (by simp); clear hT3)
    | (refine st_cvtS (l := k) hS rfl rfl rfl hk ?_; clear hS; intro w2 p c hS hr1 hT2; clear hT2)
    | (have hW := hS.frame; have hbn := (hS.own .head).resolve_right (by simp); refine qd1 (b := b1) (c' := #[.slice p k.length c, .slice q v.length d]) hS rfl 28 _ _ rfl rfl rfl .head pair_size rfl rfl (pair2_one _ _ _ _ _ _) ?_; have hB := hS.get .head; clear hS; intro w4 hS hO; replace hr1 := ((hr1.off hB pair_nob).tch hO.tch).rdB; replace hr2 := ((hr2.off hB pair_nob).tch hO.tch).rdB))
  exact qf5 hS 4 28 rfl rfl rfl .head hds rfl pair_size rfl (fun hT => ⟨hT, _, _, _, _, rfl, hr1, hr2⟩)
theorem build4P (p1 q1 p2 q2 p3 q3 p4 q4 : Option Addr) (a1 b1 c1 d1 a2 b2 c2 d2 a3 b3 c3 d3 a4 b4 c4 d4 : Nat) (w : World) :
    (Instr.buildSlice 22 4 #[(0, .agg #[.slice p1 a1 b1, .slice q1 c1 d1]), (1, .agg #[.slice p2 a2 b2, .slice q2 c2 d2]), (2, .agg #[.slice p3 a3 b3, .slice q3 c3 d3]), (3, .agg #[.slice p4 a4 b4, .slice q4 c4 d4])]).run Tryz.prog w = .ok (.slice (some ⟨w.heap.size, 0, none⟩) 4 4) (w.alloc (.cells #[.slice p1 a1 b1, .slice q1 c1 d1, .slice p2 a2 b2, .slice q2 c2 d2, .slice p3 a3 b3, .slice q3 c3 d3, .slice p4 a4 b4, .slice q4 c4 d4] 28)) := by kernel_rfl
theorem root_nilP (w : World) : Calls Tryz.prog 9 #[.slice none 0 0] w fun e w' => e = .returned (.tuple #[.agg (wf (rootW [])), .int .i64 0]) ∧ Tch [] w w' := by
  have h := Root_any (.slice none 0 0) [] w ⟨none, 0, rfl, Nat.le_refl _, fun h => absurd rfl h⟩ (by simp) (fun _ p hp => by simp at hp)
  rw [none_may] at h
  exact h
theorem root_dogsP (v : Value) (w : World) (hv : PairsAt w v dogPs) : Calls Tryz.prog 9 #[v] w fun e w' => e = .returned (.tuple #[.agg (wf (rootW dogPs)), .int .i64 0]) ∧ Tch [] w w' := by
  have h := Root_any v dogPs w hv (by decide) (fun _ p hp => by
    have : ∀ p ∈ dogPs, p.2.length ≤ 900000 := by decide
    exact this p hp)
  rw [dogs_may] at h
  exact h
theorem num6_any (n : Int) (w : World) : Calls Tryz.prog 10 #[.int .i64 n] w fun e w' => e = .returned (.int .i64 n) ∧ Tch [] w w' := by
  go_enter Tryz.func10, Tryz.ntmps10
  go_wp2
  go_ret
  exact ⟨rfl, Tch.refl _ _⟩
theorem dogs_at {w : World} {bd : Nat} {p1 q1 p2 q2 p3 q3 p4 q4 : Option Addr} {b1 d1 b2 d2 b3 d3 b4 d4 : Nat} (hBd : Blk w bd 28 #[.slice p1 3 b1, .slice q1 5 d1, .slice p2 2 b2, .slice q2 4 d2, .slice p3 4 b3, .slice q3 4 d3, .slice p4 5 b4, .slice q4 8 d4])
    (hk1 : RdB w (.slice p1 3 b1) [100, 111, 103]) (hv1 : RdB w (.slice q1 5 d1) [112, 117, 112, 112, 121]) (hk2 : RdB w (.slice p2 2 b2) [100, 111]) (hv2 : RdB w (.slice q2 4 d2) [118, 101, 114, 98]) (hk3 : RdB w (.slice p3 4 b3) [100, 111, 103, 101]) (hv3 : RdB w (.slice q3 4 d3) [99, 111, 105, 110]) (hk4 : RdB w (.slice p4 5 b4) [104, 111, 114, 115, 101]) (hv4 : RdB w (.slice q4 8 d4) [115, 116, 97, 108, 108, 105, 111, 110]) : PairsAt w (.slice (some ⟨bd, 0, none⟩) 4 4) dogPs :=
  ⟨_, _, rfl, Nat.le_refl _, fun _ => ⟨bd, 0, rfl, hBd.lt, fun i hi => by
    match i, hi with
    | 0, _ => exact ⟨_, _, hBd.cell (j := 0) rfl, hBd.cell (j := 1) rfl, hk1, hv1⟩
    | 1, _ => exact ⟨_, _, hBd.cell (j := 2) rfl, hBd.cell (j := 3) rfl, hk2, hv2⟩
    | 2, _ => exact ⟨_, _, hBd.cell (j := 4) rfl, hBd.cell (j := 5) rfl, hk3, hv3⟩
    | 3, _ => exact ⟨_, _, hBd.cell (j := 6) rfl, hBd.cell (j := 7) rfl, hk4, hv4⟩⟩⟩
def emptyS : ByteArray := ⟨([48, 120, 53, 54, 101, 56, 49, 102, 49, 55, 49, 98, 99, 99, 53, 53, 97, 54, 102, 102, 56, 51, 52, 53, 101, 54, 57, 50, 99, 48, 102, 56, 54].append [101, 53, 98, 52, 56, 101, 48, 49, 98, 57, 57, 54, 99, 97, 100, 99, 48, 48, 49, 54, 50, 50, 102, 98, 53, 101, 51, 54, 51, 98, 52, 50, 49]).toArray⟩
def dogsS : ByteArray := ⟨([48, 120, 53, 57, 57, 49, 98, 98, 56, 99, 54, 53, 49, 52, 49, 52, 56, 97, 50, 57, 100, 98, 54, 55, 54, 97, 49, 52, 97, 99, 53, 48, 54].append [99, 100, 50, 99, 100, 53, 55, 55, 53, 97, 99, 101, 54, 51, 99, 51, 48, 97, 52, 102, 101, 52, 53, 55, 55, 49, 53, 101, 57, 97, 99, 56, 52]).toArray⟩
theorem empty_txt : (⟨(txt emptyH).toArray⟩ : ByteArray) = emptyS := by decide +kernel
theorem dogs_txt : (⟨(txt dogrootH).toArray⟩ : ByteArray) = dogsS := by decide +kernel
set_option maxHeartbeats 4000000 in
set_option maxRecDepth 100000 in
theorem alive6_any (w : World) : Calls Tryz.prog 5 #[] w fun e w' => e = .returned (.bool true) ∧ Tch [] w w' := by
  have hS := St.start w
  go_enter Tryz.func5, Tryz.ntmps5
  go_upto_region 2 with (first
    | (go_at_call 9; go_must (refine (root_nilP _).mono ?_; rintro e w1 ⟨rfl, hT1⟩; replace hS := hS.call hT1; clear hT1))
    | (refine qe3 hS rfl 32 rfl qd5 ?_; clear hS; intro w2 b1 hS)
    | (refine qe4 (b := b1) (c' := wf (rootW [])) hS rfl 32 _ _ rfl rfl rfl .head qb4 (qa5 _) (qa5 _) (qj1 _) ?_; clear hS; intro w3 hS))
  go_upto_region 3 with (first
    | (go_at_call 19; (refine (lpair_any ⟨#[100, 111, 103]⟩ ⟨#[112, 117, 112, 112, 121]⟩ [100, 111, 103] [112, 117, 112, 112, 121] _ rfl rfl).mono ?_; rintro e x1 ⟨hT, p1, m1, q1, n1, rfl, hk1, hv1⟩;  replace hS := hS.call hT; clear hT))
    | (go_at_call 19; (refine (lpair_any ⟨#[100, 111]⟩ ⟨#[118, 101, 114, 98]⟩ [100, 111] [118, 101, 114, 98] _ rfl rfl).mono ?_; rintro e x2 ⟨hT, p2, m2, q2, n2, rfl, hk2, hv2⟩; replace hk1 := hk1.tch hT (by simp); replace hv1 := hv1.tch hT (by simp); replace hS := hS.call hT; clear hT))
    | (go_at_call 19; (refine (lpair_any ⟨#[100, 111, 103, 101]⟩ ⟨#[99, 111, 105, 110]⟩ [100, 111, 103, 101] [99, 111, 105, 110] _ rfl rfl).mono ?_; rintro e x3 ⟨hT, p3, m3, q3, n3, rfl, hk3, hv3⟩; replace hk1 := hk1.tch hT (by simp); replace hv1 := hv1.tch hT (by simp); replace hk2 := hk2.tch hT (by simp); replace hv2 := hv2.tch hT (by simp); replace hS := hS.call hT; clear hT))
    | (go_at_call 19; (refine (lpair_any ⟨#[104, 111, 114, 115, 101]⟩ ⟨#[115, 116, 97, 108, 108, 105, 111, 110]⟩ [104, 111, 114, 115, 101] [115, 116, 97, 108, 108, 105, 111, 110] _ rfl rfl).mono ?_; rintro e x4 ⟨hT, p4, m4, q4, n4, rfl, hk4, hv4⟩; replace hk1 := hk1.tch hT (by simp); replace hv1 := hv1.tch hT (by simp); replace hk2 := hk2.tch hT (by simp); replace hv2 := hv2.tch hT (by simp); replace hk3 := hk3.tch hT (by simp); replace hv3 := hv3.tch hT (by simp); replace hS := hS.call hT; clear hT))
    | (refine st_buildVT #[(0, .agg #[.slice p1 3 m1, .slice q1 5 n1]), (1, .agg #[.slice p2 2 m2, .slice q2 4 n2]), (2, .agg #[.slice p3 4 m3, .slice q3 4 n3]), (3, .agg #[.slice p4 5 m4, .slice q4 8 n4])] hS rfl rfl (by simp only [List.map_toArray, List.map_cons, List.map_nil]; rfl) (build4P _ _ _ _ _ _ _ _ _ _ _ _ _ _ _ _ _ _ _ _ _ _ _ _) ?_; clear hS; intro y5 bd hS hTn; replace hk1 := hk1.tch hTn (by simp); replace hv1 := hv1.tch hTn (by simp); replace hk2 := hk2.tch hTn (by simp); replace hv2 := hv2.tch hTn (by simp); replace hk3 := hk3.tch hTn (by simp); replace hv3 := hv3.tch hTn (by simp); replace hk4 := hk4.tch hTn (by simp); replace hv4 := hv4.tch hTn (by simp); clear hTn)
    | (go_at_call 9; go_must (refine (root_dogsP _ _ (dogs_at (hS.get .head) hk1 hv1 hk2 hv2 hk3 hv3 hk4 hv4)).mono ?_; rintro e w4 ⟨rfl, hT4⟩; replace hS := hS.call hT4; clear hT4 hk1 hv1 hk2 hv2 hk3 hv3 hk4 hv4))
    | (refine qe3 hS rfl 32 rfl qd5 ?_; clear hS; intro w5 b2 hS)
    | (refine qe4 (b := b2) (c' := wf (rootW dogPs)) hS rfl 32 _ _ rfl rfl rfl .head qb4 (qa5 _) (qa5 _) (qj1 _) ?_; clear hS; intro w6 hS))
  have r1 := word_rdL (m := emptyH) (hS.get (.tail (.tail .head))) rfl none_rootW (by decide)
  have r2 := word_rdL (m := dogrootH) (hS.get .head) rfl dogs_rootW (by decide)
  obtain ⟨wz, hwz⟩ : ∃ wz, wz = w6 := ⟨_, rfl⟩
  rw [← hwz] at r1 r2
  have T1 := hQz (fun (w' : World) (h : Tch [] wz w') => refText_any _ _ w' (by decide) (r1.tch h (by simp)))
  have T2 := hQz (fun (w' : World) (h : Tch [] wz w') => refText_any _ _ w' (by decide) (r2.tch h (by simp)))
  rw [empty_txt] at T1
  rw [dogs_txt] at T2
  have HF := hQz hS.frame
  subst hwz
  clear r1 r2 hS
  try simp only [Act.put, ppA, ppB, ppC]
  refine k_seq (C := fun w' => Tch [] wz w') (Tch.refl _ _) ?_
  refine qb8 rfl _ rfl rfl ?_; try simp only [Act.put, ppA, ppB, ppC]
  refine k_callC1 rfl rfl rfl Tryz.call10 (fun w' h => (num6_any _ w').mono fun e w'' h2 => ⟨h2.1, h.trans h2.2⟩) ?_; try simp only [Act.put, ppA, ppB, ppC]
  refine qb8 rfl _ rfl rfl ?_; try simp only [Act.put, ppA, ppB, ppC]
  refine k_callC1 rfl rfl rfl Tryz.call10 (fun w' h => (num6_any _ w').mono fun e w'' h2 => ⟨h2.1, h.trans h2.2⟩) ?_; try simp only [Act.put, ppA, ppB, ppC]
  refine k_add (s := 0) rfl _ _ _ _ rfl rfl rfl rfl ?_; try simp only [Act.put, ppA, ppB, ppC]
  refine k_ints rfl _ _ _ rfl rfl rfl rfl ?_; try simp only [Act.put, ppA, ppB, ppC]
  refine qc0 rfl _ rfl rfl ?_; try simp only [Act.put, ppA, ppB, ppC]
  refine k_slw (b := b1) rfl _ rfl rfl ?_; try simp only [Act.put, ppA, ppB, ppC]
  refine k_callC1 rfl rfl rfl Tryz.call20 (fun w' h => (T1.out w' h).mono fun e w'' h2 => ⟨h2.1, h.trans h2.2⟩) ?_; try simp only [Act.put, ppA, ppB, ppC]
  refine k_strS (s := emptyS) rfl _ _ _ rfl rfl rfl ?_; try simp only [Act.put, ppA, ppB, ppC]
  refine qd0 rfl _ _ _ rfl rfl rfl ?_; try simp only [Act.put, ppA, ppB, ppC]
  refine qc0 rfl _ rfl rfl ?_; try simp only [Act.put, ppA, ppB, ppC]
  refine k_slw (b := b2) rfl _ rfl rfl ?_; try simp only [Act.put, ppA, ppB, ppC]
  refine k_callC1 rfl rfl rfl Tryz.call20 (fun w' h => (T2.out w' h).mono fun e w'' h2 => ⟨h2.1, h.trans h2.2⟩) ?_; try simp only [Act.put, ppA, ppB, ppC]
  refine k_strS (s := dogsS) rfl _ _ _ rfl rfl rfl ?_; try simp only [Act.put, ppA, ppB, ppC]
  refine qd0 rfl _ _ _ rfl rfl rfl ?_; try simp only [Act.put, ppA, ppB, ppC]
  refine qk8 rfl _ rfl rfl ?_; try simp only [Act.put, ppA, ppB, ppC]
  refine qc8 ?_
  intro w8 hT8
  go_wp2
  go_ret
  exact ⟨rfl, HF.out.trans hT8⟩
end Go.Proofs.YtanmpcgackfpaaaGreat
