/- Slices of parts that are built; reslices. -/
import Derived.Test.YtanmpcgackfpaaaGreatM01
import Derived.Test.YtanmpcgackfpaaaGreatM14
import Derived.Test.YtanmpcgackfpaaaGreatM15
import Derived.Test.YtanmpcgackfpaaaGreatM21
set_option linter.unusedVariables false
set_option linter.unusedSimpArgs false
namespace Go.Proofs.YtanmpcgackfpaaaGreat
section
open Go.RowKit
theorem slice_toP (p : Option Addr) (n c k : Nat) (hk : k ≤ n) (hc : n ≤ c) (w : World) : (Instr.sliceAt 23 (.slice p n c) none (some (.int .i64 (k : Int))) none).run Tryz.prog w = .ok (.slice p k c) w := by
  have hel : Tryz.prog.elem 23 = 5 := by kernel_rfl
  have ht : Tryz.prog.underlying 23 = some (.slice (Tryz.prog.elem 23)) := by rw [hel]; exact qb5
  have e1 := run_sliceAt_slice (P := Tryz.prog) (w := w) 23 (.slice p n c) none (some (.int .i64 (k : Int))) none ht
  have e2 := run_slice_h (P := Tryz.prog) (w := w) 23 p n c ht .i64 (k : Int) (by omega) (by omega)
  rw [e1, e2, hel, sizeOf_u8]
  cases p <;> simp [Result.andThen, sliced, Addr.add]
section
variable {a : Act} {w : World} {o : Oper}
theorem x_to {v u n : Value} (x y : Operand) (t : TypeId) (ho : o.op = .slice t x none (some y) none) (hx : a.eval x = v) (hy : a.eval y = n) (hr : (Instr.sliceAt t v none (some n) none).run Tryz.prog w = .ok u w) : (execOp a.eval o).run Tryz.prog w = .ok (.value u) w := by
  unfold execOp; simp only [ho, hx, hy, Option.map_some, Option.map_none]; show Sem.run _ _ w = _; simp only [Sem.run_bind, hr, Result.andThen_ok]; rfl
theorem x_from {v u n : Value} (x y : Operand) (t : TypeId) (ho : o.op = .slice t x (some y) none none) (hx : a.eval x = v) (hy : a.eval y = n) (hr : (Instr.sliceAt t v (some n) none none).run Tryz.prog w = .ok u w) : (execOp a.eval o).run Tryz.prog w = .ok (.value u) w := by
  unfold execOp; simp only [ho, hx, hy, Option.map_some, Option.map_none]; show Sem.run _ _ w = _; simp only [Sem.run_bind, hr, Result.andThen_ok]; rfl
end
end
section
open Go.RowKit Tr
theorem SortPost.pairs {ps : List En} {w w' : World} {e : Ending} (h : SortPost ps w e w') : Tch [] w w' ∧ ∃ (m : List En) (v : Value), (entries ps).Perm m ∧ m.Pairwise (fun x y => ¬ lt y.1 x.1) ∧ e = .returned v ∧ PairsAt w' v m := by
  obtain ⟨hT, m, b, hp, hs, hb, he, xs, hxm, hB, hok⟩ := h
  refine ⟨hT, m, _, hp, hs, he, _, _, rfl, Nat.le_refl _, fun _ => ⟨b, 0, rfl, hB.lt, fun i hi => ?_⟩⟩
  have hi' : i < xs.length := by rw [← hxm] at hi; simpa using hi
  have hf := flat_get xs i hi'
  have hx := hok xs[i] (List.getElem_mem hi')
  have e : m[i] = xs[i].2 := by simp only [← hxm, List.getElem_map]
  refine ⟨xs[i].1.1, xs[i].1.2, ?_, ?_, ?_, ?_⟩
  · rw [Nat.zero_add]; exact hB.cell (by rw [List.getElem?_toArray]; exact hf.1)
  · rw [Nat.zero_add]; exact hB.cell (by rw [List.getElem?_toArray]; exact hf.2)
  · rw [e]; exact hx.1.rdB
  · rw [e]; exact hx.2.rdB
section
variable {a : Act} {w : World} {o : Oper}
theorem x_idxE {b off j n c : Nat} (x y : Operand) (ho : o.op = .indexAddr 103 x y) (hx : a.eval x = .slice (some ⟨b, off, none⟩) n c) (hy : a.eval y = .int .i64 (j : Int)) (hj : j < n) : (execOp a.eval o).run Tryz.prog w = .ok (.value (.pointer (some ⟨b, off + j * 2, none⟩))) w := by
  have hadd : (⟨b, off, none⟩ : Addr).add (j * 2) = ⟨b, off + j * 2, none⟩ := by unfold Addr.add; split <;> simp_all
  unfold execOp
  simp [ho, hx, hy, Instr.indexAt, run_underlying entries_ty, Instr.sureAddr, asIntOf, qe1 ent_size, hj, hadd]
end
theorem fa_ent0 (b o : Nat) (w : World) : (Instr.fieldAt 137 (.pointer (some ⟨b, o, none⟩)) 0).run Tryz.prog w = .ok (.pointer (some ⟨b, o, none⟩)) w := by kernel_rfl
theorem fa_ent1 (b o : Nat) (w : World) : (Instr.fieldAt 137 (.pointer (some ⟨b, o, none⟩)) 1).run Tryz.prog w = .ok (.pointer (some ⟨b, o + 1, none⟩)) w := by kernel_rfl
section
variable {o : Oper} {a : Act} {ops : Array Oper} {rest : List Oper} {C : World → Prop} {Q : Act → Prop}
theorem k_idxE {b off j n c : Nat} (hw : Region.wanted o (yielded ops a.tmps) = true) (x y : Operand) (ho : o.op = .indexAddr 103 x y) (hx : a.eval x = .slice (some ⟨b, off, none⟩) n c) (hy : a.eval y = .int .i64 (j : Int)) (hj : j < n)
    (h : KQ ops C Q rest (a.put o.dst (.pointer (some ⟨b, off + j * 2, none⟩)))) : KQ ops C Q (o :: rest) a := qd6 hw (fun _ => x_idxE x y ho hx hy hj) h
theorem k_fa {v u : Value} (hw : Region.wanted o (yielded ops a.tmps) = true) (ty : TypeId) (x : Operand) (i : Nat) (ho : o.op = .fieldAddr ty x i) (hx : a.eval x = v) (hr : ∀ w, (Instr.fieldAt ty v i).run Tryz.prog w = .ok u w)
    (h : KQ ops C Q rest (a.put o.dst u)) : KQ ops C Q (o :: rest) a := qd6 hw (fun w => x_fa ty x i ho hx (hr w)) h
end
def twB : List En → Bool
  | a :: b :: l => (a.1 == b.1) || twB (b :: l)
  | _ => false
theorem twB_unlike : ∀ l : List En, twB l = false ↔ Unlike l
  | [] => by simp [twB, Unlike]
  | [a] => by simp [twB, Unlike]
  | a :: b :: l => by
    have ih := twB_unlike (b :: l)
    simp only [twB, Unlike, Bool.or_eq_false_iff, ih]
    simp
theorem twB_at : ∀ (l : List En) (i : Nat) (h : i + 1 < l.length), l[i].1 = l[i + 1].1 → twB l = true
  | a :: b :: l, 0, _, e => by simp only [List.getElem_cons_zero, List.getElem_cons_succ] at e; simp [twB, e]
  | a :: b :: l, i + 1, h, e => by
    have := twB_at (b :: l) i (by simpa using h) (by simpa using e)
    simp [twB, this]
  | [a], _, h, _ => by simp at h
  | [], _, h, _ => by simp at h
theorem twB_none : ∀ (l : List En), (∀ i (h : i + 1 < l.length), l[i].1 ≠ l[i + 1].1) → twB l = false
  | [], _ => rfl
  | [a], _ => rfl
  | a :: b :: l, h => by
    have h0 := h 0 (by simp)
    have ih := twB_none (b :: l) fun i hi => by
      have := h (i + 1) (by simpa using hi)
      simpa using this
    simp only [List.getElem_cons_zero, List.getElem_cons_succ] at h0
    simp [twB, h0, ih]
set_option maxHeartbeats 4000000 in
set_option maxRecDepth 100000 in
theorem hasTwice_any (v : Value) (ps : List En) (w : World) (hv : PairsAt w v ps) (hn : ps.length ≤ 4611686018427387904) :
    Calls Tryz.prog 45 #[v] w fun e w' => e = .returned (.bool (twB ps)) ∧ Tch [] w w' := by
  obtain ⟨p, c, rfl, hc, hcells⟩ := hv
  obtain ⟨n, hnn⟩ : ∃ n, n = ps.length := ⟨_, rfl⟩
  rw [← hnn] at hc hn ⊢
  have HL := hQz hnn
  have HC := hQz hcells
  clear hnn hcells
  go_enter Tryz.func45, Tryz.ntmps45
  go_wp2
  go_loopw [3] (fun i wr => ∃ k : Nat, i = .int .i64 ((k + 1 : Nat) : Int) ∧ (k + 1 ≤ n ∨ k = 0) ∧ Tch [] w wr ∧ Hid (∀ j (h : j + 1 < ps.length), j < k → ps[j].1 ≠ ps[j + 1].1)) (fun i _ => n - (intOf i).toNat)
  case atStart => exact ⟨0, rfl, .inr rfl, Tch.refl _ _, hQz (fun j _ h => by omega)⟩
  case round =>
    obtain ⟨k, rfl, hk, hT, HE⟩ := hrel
    by_cases hlt : k + 1 < n
    · have d1 : (((k + 1 : Nat) : Int)) < (n : Int) := by omega
      have hkl : k + 1 < ps.length := by have := HL.out; omega
      obtain ⟨b, o, rfl, hbw, hcs⟩ := HC.out (by intro e; subst e; simp at hkl)
      obtain ⟨kv, vv, g0, _, hkv, _⟩ := hcs k (by omega)
      obtain ⟨kv2, vv2, g02, _, hkv2, _⟩ := hcs (k + 1) hkl
      obtain ⟨q1, c1, rfl⟩ := hkv.shape'
      obtain ⟨q2, c2, rfl⟩ := hkv2.shape'
      have HC0 := hQz ((hT.cell (p := ⟨b, o + k * 2, none⟩) hbw (by simp)).trans g0)
      have HC1 := hQz ((hT.cell (p := ⟨b, o + (k + 1) * 2, none⟩) hbw (by simp)).trans g02)
      have HBW := hQz (Nat.lt_of_lt_of_le hbw hT.size)
      have HEQ := hQz (fun (w1 : World) (hT1 : Tch [] wr w1) => equal_any _ _ ps[k].1 ps[k + 1].1 w1 ((hkv.tch hT (by simp)).tch hT1 (by simp)) ((hkv2.tch hT (by simp)).tch hT1 (by simp)))
      have HJ := hQz (And.intro (show k < n by omega) hlt)
      have HW1 := hQz (show IntKind.i64.wrap (((k + 1 : Nat) : Int) - 1) = ((k : Nat) : Int) by rw [IntWalk.i64_in _ (by omega)]; omega)
      have HT := hQz hT
      have HYES := hQz (fun h => twB_at ps k hkl h)
      have HNO := hQz (fun (h : ps[k].1 ≠ ps[k + 1].1) => fun j (hj : j + 1 < ps.length) (hjk : j < k + 1) => by
        rcases Nat.lt_succ_iff_lt_or_eq.1 hjk with h1 | h1
        · exact HE.out j hj h1
        · subst h1; exact h)
      have HN := hQz hlt
      have HN2 := hQz hn
      clear hcs g0 g02 hkv hkv2 hT hk hlt hn
      go_upto_region 4 with fail
      refine qb7 (C := fun w' => Tch [] wr w') (by kernel_rfl) (by kernel_rfl) ((Tch.refl _ _).drew) ?_
      refine qb0 rfl _ rfl rfl ?_; try simp only [Act.put, ppA, ppB, ppC]
      refine qb8 rfl _ rfl rfl ?_; try simp only [Act.put, ppA, ppB, ppC]
      refine k_sub (s := ((k : Nat) : Int)) rfl _ _ _ _ rfl rfl rfl HW1.out ?_; try simp only [Act.put, ppA, ppB, ppC]
      refine k_idxE (j := k) rfl _ _ rfl rfl rfl HJ.out.1 ?_; try simp only [Act.put, ppA, ppB, ppC]
      refine k_fa rfl _ _ _ rfl rfl (fa_ent0 _ _) ?_; try simp only [Act.put, ppA, ppB, ppC]
      refine qc2 rfl _ _ rfl rfl (fun w' h => (h.cell (p := ⟨b, o + k * 2, none⟩) HBW.out (by simp)).trans HC0.out) qa9 ?_; try simp only [Act.put, ppA, ppB, ppC]
      refine qb0 rfl _ rfl rfl ?_; try simp only [Act.put, ppA, ppB, ppC]
      refine qb8 rfl _ rfl rfl ?_; try simp only [Act.put, ppA, ppB, ppC]
      refine k_idxE (j := k + 1) rfl _ _ rfl rfl rfl HJ.out.2 ?_; try simp only [Act.put, ppA, ppB, ppC]
      refine k_fa rfl _ _ _ rfl rfl (fa_ent0 _ _) ?_; try simp only [Act.put, ppA, ppB, ppC]
      refine qc2 rfl _ _ rfl rfl (fun w' h => (h.cell (p := ⟨b, o + (k + 1) * 2, none⟩) HBW.out (by simp)).trans HC1.out) qa9 ?_; try simp only [Act.put, ppA, ppB, ppC]
      refine qk3 (v := .bool (ps[k].1 == ps[k + 1].1)) rfl rfl rfl rfl Tryz.call77 (fun w' h => (HEQ.out w' h).mono fun e w'' h2 => ⟨h2.1, h.trans h2.2⟩) ?_; try simp only [Act.put, ppA, ppB, ppC]
      refine qc8 ?_
      intro w3 hT3
      have hT4 := HT.out.trans hT3
      cases hx : (ps[k].1 == ps[k + 1].1) with
      | true =>
        have HR := hQz (HYES.out (by simpa using hx))
        clear hx HNO HYES HEQ HC0 HC1
        go_wp2
        go_ret
        exact ⟨by rw [HR.out]; rfl, hT4⟩
      | false =>
        have HR := hQz (HNO.out (by simpa using hx))
        clear hx HNO HYES HEQ HC0 HC1
        have hlt := HN.out
        have hn := HN2.out
        go_wp2
        go_roundw
        case rel => exact ⟨k + 1, by go_num, .inl (by omega), hT4, HR⟩
        case measure => simp [intOf]; omega
    · have hR := hQz (twB_none ps (fun j hj => HE.out j hj (by have := HL.out; omega)))
      have d1 : ¬ (((k + 1 : Nat) : Int)) < (n : Int) := by omega
      clear HE HC
      go_wp2
      go_ret
      exact ⟨by rw [hR.out]; rfl, hT⟩
end
section
open Go.RowKit Tr
def NoB (c : Array Value) : Prop := ∀ (j : Nat) (x : Int), c[j]? ≠ some (.int .u8 x)
theorem RdB.offL {w : World} {v : Value} {l : List Nat} {X : List Nat} (h : RdB w v l) (hX : ∀ x ∈ X, ∃ t c, Blk w x t c ∧ NoB c) : RdA X w v l := by
  obtain ⟨p, cc, h1, h2, h3, h4⟩ := h
  refine ⟨p, cc, h1, h2, h3, fun hl => ?_⟩
  obtain ⟨b', o, h5, h6, h7⟩ := h4 hl
  refine ⟨b', o, h5, h6, fun hm => ?_, h7⟩
  obtain ⟨t, c, hB, hc⟩ := hX b' hm
  have hx := h7 0 (List.length_pos_iff.2 hl)
  unfold Blk at hB
  rw [Lib.cell_of_heap hB] at hx
  exact hc _ _ hx
def brC (c : Nat → Value) (u : Value) : Array Value := ((List.range 16).map c ++ [u]).toArray
theorem brC_size (c : Nat → Value) (u : Value) : (brC c u).size = 17 := by simp [brC]
theorem brC_get (c : Nat → Value) (u : Value) {d : Nat} (h : d < 16) : (brC c u)[d]? = some (c d) := by
  unfold brC
  rw [List.getElem?_toArray, List.getElem?_append_left (by simpa using h), List.getElem?_map, List.getElem?_range h]; rfl
theorem brC_last (c : Nat → Value) (u : Value) : (brC c u)[16]? = some u := by
  unfold brC
  rw [List.getElem?_toArray, List.getElem?_append_right (by simp)]; simp
def TreeV (B : Nat) (w : World) : TN → Value → Prop
  | .nil, v => v = .nilIface
  | .leaf p u, v => ∃ b pv uv, v = .iface 143 (.pointer (some ⟨b, 0, none⟩)) ∧ B ≤ b ∧ Blk w b 144 #[pv, uv] ∧ RdB w pv p ∧ RdB w uv u
  | .ext p s, v => ∃ b pv sv, v = .iface 145 (.pointer (some ⟨b, 0, none⟩)) ∧ B ≤ b ∧ Blk w b 147 #[pv, sv] ∧ RdB w pv p ∧ TreeV B w s sv
  | .branch s u, v => ∃ b c uv, v = .iface 157 (.pointer (some ⟨b, 0, none⟩)) ∧ B ≤ b ∧ Blk w b 161 (brC c uv) ∧ RdB w uv u ∧ ∀ d, d < 16 → TreeV B w (s d) (c d)
theorem TreeV.touch {B : Nat} {X : List Nat} {w w' : World} (hT : Tch X w w') (hX : ∀ x ∈ X, x < B ∧ ∃ t c, Blk w x t c ∧ NoB c) : ∀ {T : TN} {v : Value}, TreeV B w T v → TreeV B w' T v
  | .nil, _, h => h
  | .leaf p u, v, h => by
    obtain ⟨b, pv, uv, h1, h2, h3, h4, h5⟩ := h
    exact ⟨b, pv, uv, h1, h2, hT.blk h3 (fun hm => by have := (hX b hm).1; omega), ((h4.offL fun x hx => (hX x hx).2).tch hT).rdB, ((h5.offL fun x hx => (hX x hx).2).tch hT).rdB⟩
  | .ext p s, v, h => by
    obtain ⟨b, pv, sv, h1, h2, h3, h4, h5⟩ := h
    exact ⟨b, pv, sv, h1, h2, hT.blk h3 (fun hm => by have := (hX b hm).1; omega), ((h4.offL fun x hx => (hX x hx).2).tch hT).rdB, TreeV.touch hT hX h5⟩
  | .branch s u, v, h => by
    obtain ⟨b, c, uv, h1, h2, h3, h4, h5⟩ := h
    exact ⟨b, c, uv, h1, h2, hT.blk h3 (fun hm => by have := (hX b hm).1; omega), ((h4.offL fun x hx => (hX x hx).2).tch hT).rdB, fun d hd => TreeV.touch hT hX (h5 d hd)⟩
theorem TreeV.tch {B : Nat} {w w' : World} {T : TN} {v : Value} (h : TreeV B w T v) (hT : Tch [] w w') : TreeV B w' T v := h.touch hT (by simp)
theorem TreeV.low {B B' : Nat} {w : World} (hB : B' ≤ B) : ∀ {T : TN} {v : Value}, TreeV B w T v → TreeV B' w T v
  | .nil, _, h => h
  | .leaf p u, v, h => by
    obtain ⟨b, pv, uv, h1, h2, h3⟩ := h
    exact ⟨b, pv, uv, h1, Nat.le_trans hB h2, h3⟩
  | .ext p s, v, h => by
    obtain ⟨b, pv, sv, h1, h2, h3, h4, h5⟩ := h
    exact ⟨b, pv, sv, h1, Nat.le_trans hB h2, h3, h4, TreeV.low hB h5⟩
  | .branch s u, v, h => by
    obtain ⟨b, c, uv, h1, h2, h3, h4, h5⟩ := h
    exact ⟨b, c, uv, h1, Nat.le_trans hB h2, h3, h4, fun d hd => TreeV.low hB (h5 d hd)⟩
def BuildPost (T : TN) (w : World) (e : Ending) (w' : World) : Prop := Tch [] w w' ∧ ∃ u, e = .returned u ∧ TreeV w.heap.size w' T u
theorem from_rd {w : World} {v : Value} {l : List Nat} (h : RdB w v l) (k : Nat) (hk : k ≤ l.length) : ∃ p' c', (∀ w, (Instr.sliceAt 23 v (some (.int .i64 (k : Int))) none none).run Tryz.prog w = .ok (.slice p' (l.length - k) c') w) ∧ RdB w (.slice p' (l.length - k) c') (l.drop k) := by
  obtain ⟨p, c, hv⟩ := h.shape'
  have hc : l.length ≤ c := by
    obtain ⟨p', c', h1, h2, _⟩ := h
    rw [hv] at h1
    cases h1
    exact h2
  subst hv
  obtain ⟨p', c', h1, _, h3⟩ := qf6 p l.length c k hk hc
  exact ⟨p', c', h1, (h3 [] w l h.rdA0).rdB⟩
section
variable {a : Act} {w : World} {o : Oper} {Q : Exit → Act → World → Prop}
theorem held_box {l0 : List Oper} {n : Nat} {K : Act → World → Prop} {ty : TypeId} {c : Array Value} {x : Operand} (ho : l0[n]? = some o) (hw : Region.wanted o (yielded l0.toArray a.tmps) = true) (hop : o.op = .box ty x) (hx : a.eval x = .agg c)
    (h : K (a.put o.dst (.pointer (some ⟨w.heap.size, 0, none⟩))) (w.alloc (.cells c ty))) : wpOp Tryz.prog l0.toArray Q n K a w := by
  have ho' : l0.toArray[n]? = some o := by rw [List.getElem?_toArray]; exact ho
  have hr : (Instr.box ty (.agg c)).run Tryz.prog w = .ok (.pointer (some ⟨w.heap.size, 0, none⟩)) (w.alloc (.cells c ty)) := rfl
  unfold wpOp
  simp only [ho', hw, if_true]
  refine .inl ?_
  unfold Oper.wp execOp
  simp only [hop, hx, Sem.run_bind, hr, Result.andThen_ok, Sem.run_pure]
  exact h
theorem x_mkI {v u : Value} (ty : TypeId) (x : Operand) (ho : o.op = .makeInterface ty x) (hx : a.eval x = v) (hr : (Instr.makeInterface ty v).run Tryz.prog w = .ok u w) : (execOp a.eval o).run Tryz.prog w = .ok (.value u) w := by
  unfold execOp; simp only [ho, hx, Sem.run_bind, hr, Result.andThen_ok, Sem.run_pure]
theorem x_build {ty : TypeId} {v1 v2 u : Value} {i1 i2 : Nat} (ho : ∃ x1 x2, o.op = .build ty #[(i1, x1), (i2, x2)] ∧ a.eval x1 = v1 ∧ a.eval x2 = v2) (hr : (Instr.build ty #[(i1, v1), (i2, v2)]).run Tryz.prog w = .ok u w) : (execOp a.eval o).run Tryz.prog w = .ok (.value u) w := by
  obtain ⟨x1, x2, ho, h1, h2⟩ := ho
  unfold execOp
  simp only [ho, List.map_toArray, List.map_cons, List.map_nil, h1, h2, Sem.run_bind, hr, Result.andThen_ok, Sem.run_pure]
end
theorem mkI_leaf (b : Nat) (w : World) : (Instr.makeInterface 143 (.pointer (some ⟨b, 0, none⟩))).run Tryz.prog w = .ok (.iface 143 (.pointer (some ⟨b, 0, none⟩))) w := by kernel_rfl
theorem mkI_ext (b : Nat) (w : World) : (Instr.makeInterface 145 (.pointer (some ⟨b, 0, none⟩))).run Tryz.prog w = .ok (.iface 145 (.pointer (some ⟨b, 0, none⟩))) w := by kernel_rfl
theorem build_leafN (p q : Option Addr) (n c m d : Nat) (w : World) : (Instr.build 144 #[(0, .slice p n c), (1, .slice q m d)]).run Tryz.prog w = .ok (.agg #[.slice p n c, .slice q m d]) w := by kernel_rfl
set_option maxHeartbeats 2000000 in
set_option maxRecDepth 100000 in
theorem build_one (v : Value) (e : En) (D : Nat) (w : World) (hv : PairsAt w v [e]) (hD : D ≤ e.1.length) (hD2 : D ≤ 128) :
    Calls Tryz.prog 46 #[v, .int .i64 (D : Int)] w (BuildPost (.leaf (e.1.drop D) e.2) w) := by
  obtain ⟨p, c, rfl, hc, hcells⟩ := hv
  obtain ⟨b, o, rfl, hbw, hcs⟩ := hcells (by simp)
  obtain ⟨kv, vv, g0, g1, hkv, hvv⟩ := hcs 0 (by simp)
  simp only [List.getElem_cons_zero] at hkv hvv
  obtain ⟨p', c', hsl, hfr⟩ := from_rd hkv D hD
  obtain ⟨q1, c1, rfl⟩ := hkv.shape'
  obtain ⟨q2, c2, rfl⟩ := hvv.shape'
  simp only [List.length_singleton]
  have HC0 := hQz (fun (w' : World) (hT : Tch [] w w') => (hT.cell (p := ⟨b, o + 0 * 2, none⟩) hbw (by simp)).trans g0)
  have HC1 := hQz (fun (w' : World) (hT : Tch [] w w') => (hT.cell (p := ⟨b, o + 0 * 2 + 1, none⟩) hbw (by simp)).trans g1)
  have HR := hQz (And.intro hfr hvv)
  have HS := hQz hsl
  clear hcells hcs g0 g1 hkv hvv hfr hsl
  go_enter Tryz.func46, Tryz.ntmps46
  go_upto_region 5 with fail
  refine wp_region_held_drew (S := fun w' => Tch [] w w') (by kernel_rfl) ((Tch.refl _ _).drew) (fun hC => ?_)
  generalize World.drew w = u0 at hC ⊢
  refine qa0 (v := (.slice (some ⟨b, o, none⟩) 1 c)) 0 rfl (by kernel_rfl) (by kernel_rfl) (by kernel_rfl) (fun _ _ _ h => h) hC rfl (fun w' hw' => qb2 (.inl rfl) rfl) ?_
  try simp only [Act.put, ppA, ppB, ppC]
  refine qa0 (v := .pointer (some ⟨b, o + 0 * 2, none⟩)) 1 rfl (by kernel_rfl) (by kernel_rfl) (by kernel_rfl) (fun _ _ _ h => h) hC rfl (fun w' hw' => x_idxE (j := 0) _ _ rfl rfl (by rfl) (by decide)) ?_
  try simp only [Act.put, ppA, ppB, ppC]
  refine qa0 (v := .pointer (some ⟨b, o + 0 * 2, none⟩)) 2 rfl (by kernel_rfl) (by kernel_rfl) (by kernel_rfl) (fun _ _ _ h => h) hC rfl (fun w' hw' => x_fa _ _ _ rfl rfl (fa_ent0 _ _ _)) ?_
  try simp only [Act.put, ppA, ppB, ppC]
  refine qa0 (v := .slice q1 e.1.length c1) 3 rfl (by kernel_rfl) (by kernel_rfl) (by kernel_rfl) (fun _ _ _ h => h) hC rfl (fun w' hw' => qe2 _ _ rfl rfl (HC0.out w' hw') qa9) ?_
  try simp only [Act.put, ppA, ppB, ppC]
  refine qa0 (v := .int .i64 (D : Int)) 4 rfl (by kernel_rfl) (by kernel_rfl) (by kernel_rfl) (fun _ _ _ h => h) hC rfl (fun w' hw' => qb2 (.inl rfl) rfl) ?_
  try simp only [Act.put, ppA, ppB, ppC]
  refine qa0 (v := .slice p' (e.1.length - D) c') 5 rfl (by kernel_rfl) (by kernel_rfl) (by kernel_rfl) (fun _ _ _ h => h) hC rfl (fun w' hw' => x_from _ _ _ rfl rfl rfl (HS.out w')) ?_
  try simp only [Act.put, ppA, ppB, ppC]
  refine qa0 (v := (.slice (some ⟨b, o, none⟩) 1 c)) 6 rfl (by kernel_rfl) (by kernel_rfl) (by kernel_rfl) (fun _ _ _ h => h) hC rfl (fun w' hw' => qb2 (.inl rfl) rfl) ?_
  try simp only [Act.put, ppA, ppB, ppC]
  refine qa0 (v := .pointer (some ⟨b, o + 0 * 2, none⟩)) 7 rfl (by kernel_rfl) (by kernel_rfl) (by kernel_rfl) (fun _ _ _ h => h) hC rfl (fun w' hw' => x_idxE (j := 0) _ _ rfl rfl (by rfl) (by decide)) ?_
  try simp only [Act.put, ppA, ppB, ppC]
  refine qa0 (v := .pointer (some ⟨b, o + 0 * 2 + 1, none⟩)) 8 rfl (by kernel_rfl) (by kernel_rfl) (by kernel_rfl) (fun _ _ _ h => h) hC rfl (fun w' hw' => x_fa _ _ _ rfl rfl (fa_ent1 _ _ _)) ?_
  try simp only [Act.put, ppA, ppB, ppC]
  refine qa0 (v := .slice q2 e.2.length c2) 9 rfl (by kernel_rfl) (by kernel_rfl) (by kernel_rfl) (fun _ _ _ h => h) hC rfl (fun w' hw' => qe2 _ _ rfl rfl (HC1.out w' hw') qa9) ?_
  try simp only [Act.put, ppA, ppB, ppC]
  refine qa0 (v := .agg #[.slice p' (e.1.length - D) c', .slice q2 e.2.length c2]) 10 rfl (by kernel_rfl) (by kernel_rfl) (by kernel_rfl) (fun _ _ _ h => h) hC rfl (fun w' hw' => x_build ⟨_, _, rfl, rfl, rfl⟩ (build_leafN _ _ _ _ _ _ w')) ?_
  try simp only [Act.put, ppA, ppB, ppC]
  refine qa6 11 (by kernel_rfl) ?_
  refine held_box rfl rfl rfl (by rfl) ?_
  have hC1 : Tch [] w (u0.alloc (.cells #[.slice p' (e.1.length - D) c', .slice q2 e.2.length c2] 144)) := hC.alloc _
  have hB1 := Blk.new u0 144 #[.slice p' (e.1.length - D) c', .slice q2 e.2.length c2]
  refine ⟨hC1, ?_⟩
  generalize u0.alloc (.cells #[.slice p' (e.1.length - D) c', .slice q2 e.2.length c2] 144) = u1 at hC1 hB1 ⊢
  try simp only [Act.put, ppA, ppB, ppC]
  refine qa0 (v := .iface 143 (.pointer (some ⟨u0.heap.size, 0, none⟩))) 12 rfl (by kernel_rfl) (by kernel_rfl) (by kernel_rfl) (fun _ _ _ h => h) hC1 rfl (fun w' hw' => x_mkI _ _ rfl rfl (mkI_leaf _ w')) ?_
  try simp only [Act.put, ppA, ppB, ppC]
  refine qa0 (v := .iface 143 (.pointer (some ⟨u0.heap.size, 0, none⟩))) 13 rfl (by kernel_rfl) (by kernel_rfl) (by kernel_rfl) (fun _ _ _ h => h) hC1 rfl (fun w' hw' => qb2 (.inr rfl) rfl) ?_
  try simp only [Act.put, ppA, ppB, ppC]
  refine wpAnyH_done (by kernel_rfl) ?_ _
  have hfin : BuildPost (.leaf (e.1.drop D) e.2) w (.returned (.iface 143 (.pointer (some ⟨u0.heap.size, 0, none⟩)))) u1 := ⟨hC1, _, rfl, u0.heap.size, _, _, rfl, hC.size, hB1, HR.out.1.tch hC1 (by simp), HR.out.2.tch hC1 (by simp)⟩
  clear HR HS HC0 HC1 hC hC1 hB1
  go_wp2
  go_ret
  exact hfin
end
section
open Go.RowKit
theorem jn_one {l : List Nat} {k : Nat} (h : 2 * k + 1 < l.length) : nb (jn (l.take (2 * (k + 1)))) = nb (jn (l.take (2 * k))) ++ [.int .u8 ((16 * l.getD (2 * k) 0 + l.getD (2 * k + 1) 0 : Nat) : Int)] := by
  rw [jn_step h, nb_snoc]
theorem shl_wrap (x : Nat) (hx : x < 16) : IntKind.u8.wrap ((x : Int) * 16) = (x : Int) * 16 := by
  have all : ∀ a : Fin 16, IntKind.u8.wrap ((a.val : Int) * 16) = (a.val : Int) * 16 := by decide +kernel
  exact all ⟨x, hx⟩
theorem joinL_no {l : List Nat} {j : Nat} (h : j < l.length) (hx : 15 < l.getD j 0) : joinL l = none := by
  have := allN_bad (m := l.length) h h hx
  rw [List.take_length] at this
  unfold joinL; rw [if_neg (fun h => by rw [this] at h; exact absurd h.2 (by decide))]
end
end Go.Proofs.YtanmpcgackfpaaaGreat
