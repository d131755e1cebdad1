/- The document's Keccak. -/
import Derived.Test.YtopfmaoeebgjmaaGreatDoorM01
import Derived.Test.YtopfmaoeebgjmaaGreatDoorM05
import Derived.Test.YtopfmaoeebgjmaaGreatDoorM11
import Derived.Lib.SlBytesConst
import Derived.Deep.RegionLawGrows
import Derived.Deep.AppendLies
set_option linter.unusedVariables false
set_option linter.unusedSimpArgs false
namespace Go.Proofs.YtopfmaoeebgjmaaGreatDoor
section
open Go.RowKit
def lenOf : Value → Nat
  | .slice _ n _ => n
  | _ => 0
theorem own_slice {w : World} {B n : Nat} {v : Value} {xs : List Value} (h : w.ownsRow B 5 1 v n xs) : ∃ p c, v = .slice p n c := by
  obtain ⟨h1, h2⟩ := h
  rcases h2 with ⟨rfl, h0⟩ | ⟨g, cap, cur, rfl, _⟩
  · obtain rfl : n = 0 := by omega
    exact ⟨_, _, rfl⟩
  · exact ⟨_, _, rfl⟩
def Cur (M : List Nat) (cur : Array Value) : Prop := M.length ≤ cur.size ∧ ∀ i, i < M.length → cur[i]? = some (.int .u8 ((M.getD i 0 : Nat) : Int))
theorem own_cur {w : World} {B : Nat} {v : Value} {M : List Nat} (h : w.ownsRow B 5 1 v M.length (nb M)) (hM : M ≠ []) : ∃ g c cur, v = .slice (some ⟨g, 0, none⟩) M.length c ∧ B ≤ g ∧ Blk w g 5 cur ∧ Cur M cur := by
  obtain ⟨h1, h2⟩ := h
  rcases h2 with ⟨rfl, h0⟩ | ⟨g, cap, cur, rfl, hg, hb, hn, _, hcs, htk⟩
  · exact absurd (List.length_eq_zero_iff.1 h0) hM
  · have hB : Blk w g 5 cur := hb
    have key : ∀ i, i < M.length → cur[i]? = some (.int .u8 ((M.getD i 0 : Nat) : Int)) := fun i hi => by
      have e := congrArg (fun x => x[i]?) htk
      simp only [Nat.mul_one, List.getElem?_take, hi, if_true, nb_get hi] at e
      simpa using e
    refine ⟨g, cap, cur, rfl, hg, hB, ?_, key⟩
    by_cases h0 : M.length = 0
    · omega
    · have := key (M.length - 1) (by omega)
      have := (Array.getElem?_eq_some_iff.1 this).1
      omega
theorem Cur.set {M : List Nat} {cur : Array Value} {j x : Nat} (h : Cur M cur) (hj : j < M.length) : Cur (M.set j x) (cur.setIfInBounds j (.int .u8 (x : Int))) := by
  refine ⟨by rw [List.length_set, Array.size_setIfInBounds]; exact h.1, fun i hi => ?_⟩
  rw [List.length_set] at hi
  rw [Array.getElem?_setIfInBounds]
  by_cases hij : j = i
  · subst hij
    rw [if_pos rfl, if_pos (by have := h.1; omega)]
    congr 3
    simp [hj]
  · rw [if_neg hij, h.2 i hi]
    congr 3
    simp [List.getD_eq_getElem?_getD, List.getElem?_set, hij]
theorem or128 : ∀ a : Fin 256, bits BinOp.or IntKind.u8 (a.val : Int) 128 = ((a.val ||| 128 : Nat) : Int) := by decide +kernel
theorem uf_lay (A : Nat → Nat) : uf 25 A = lay (uf 25 fun _ => 0) A := by
  apply Array.ext_getElem?
  intro i
  by_cases hi : i < 25
  · rw [uf_get hi, lay_get hi (by rw [uf_size]; omega)]
  · rw [Array.getElem?_eq_none (by rw [uf_size]; omega), Array.getElem?_eq_none (by rw [lay_size, uf_size]; omega)]
theorem lanes_lit : uf 25 (fun _ => 0) = #[.int .u64 0, .int .u64 0, .int .u64 0, .int .u64 0, .int .u64 0, .int .u64 0, .int .u64 0, .int .u64 0, .int .u64 0, .int .u64 0, .int .u64 0, .int .u64 0, .int .u64 0, .int .u64 0, .int .u64 0, .int .u64 0, .int .u64 0, .int .u64 0, .int .u64 0, .int .u64 0, .int .u64 0, .int .u64 0, .int .u64 0, .int .u64 0, .int .u64 0] := by kernel_rfl
theorem rlanes_zero : (Tryz.prog.info? 114).bind (·.zero) = some (.agg (uf 25 fun _ => 0)) := by rw [lanes_lit]; kernel_rfl
section
variable {P : Program} {ops : Array Oper} {rest : List Oper} {o : Oper} {a : Act} {bs : List Nat} {w0 w : World} {Q : Exit → Act → World → Prop} {L : List Ent}
theorem st_new1 {k : IntKind} {n : Int} (hS : St bs w0 w L) (hgd : o.guard = none) (ty : TypeId) (ho : o.op = .alloc ty) (hz : (P.info? ty).bind (·.zero) = some (.int k n))
    (h : ∀ w' b, St bs w0 w' ((b, ty, #[.int k n]) :: L) → wpList P ops Q rest (a.put o.dst (.pointer (some ⟨b, 0, none⟩))) w') : wpList P ops Q (o :: rest) a w :=
  wpList_plain hgd fun K hK => by
    have hr : (Instr.alloc ty true (.tuple #[])).run P w = .ok (.pointer (some ⟨w.heap.size, 0, none⟩)) (w.alloc (.cells #[.int k n] ty)) := by
      cases hq : P.info? ty with
      | none => simp [hq] at hz
      | some i =>
        have hz' : i.zero = some (.int k n) := by simpa [hq] using hz
        simp [Instr.alloc, zeroValue, typeInfo, hq, hz', newVar, newRow, Value.cells]
    unfold Oper.wp execOp
    simp only [ho, Sem.run_bind, hr, Result.andThen_ok, Sem.run_pure]
    exact hK _ _ (h _ _ (hS.new ty #[.int k n]))
end
theorem xr_step {z : Array Value} (A F : Nat → Nat) (n : Nat) : lay z (fun i => if i = n / 8 then xr A F n (n / 8) ^^^ F n * 2 ^ (8 * (n % 8)) else xr A F n i) = lay z (xr A F (n + 1)) := lay_congr fun i _ => by
  show _ = xorAt (xr A F n) n (F n) i
  rw [two_xor]
  by_cases h : i = n / 8
  · rw [if_pos h, if_pos h, h]
  · rw [if_neg h, if_neg h]
theorem u8_zero : (Tryz.prog.info? 5).bind (·.zero) = some (.int .u8 0) := by kernel_rfl
set_option maxHeartbeats 40000000 in
set_option maxRecDepth 100000 in
theorem keccak_any (v : Value) (l : List Nat) (w : World) (hm : l.length ≤ 1000000) (hv : RdA [] w v l) :
    Calls Tryz.prog 26 #[v] w fun e w' => e = .returned (.agg (wf (hashN l))) ∧ Tch [] w w' := by
  have hS := St.start w
  have HL := hQz hm
  have HLT := hQz hv.lt
  have HV := hQz (fun (w' : World) (h : Tch [] w w') => (hv.tch h).rdB)
  obtain ⟨p0, n0, c0, rfl⟩ := slice_keep hv
  clear hv hm
  go_enter Tryz.func26, Tryz.ntmps26
  go_upto_region 2 with (first
    | (refine st_new hS rfl 25 rfl word_zero ?_; clear hS; intro w1 b2 hS)
    | (at_builtin; (refine st_appB (w0 := w1) (w := w1) (v := .slice none 0 0) (u := .slice p0 n0 c0) (l := []) (m := l) (ty := 5) rfl _ _ rfl rfl rfl (own_nil _ _) (Tch.refl _ _) (HV.out _ hS.frame) (by have := HL.out; simp; omega) ?_; intro v3 w3 hown3 hT3))
    | (at_builtin; (refine st_appB (w0 := w1) (w := w3.alloc _) (v := v3) (u := .slice (some ⟨w3.heap.size, 0, none⟩) 1 1) (l := [] ++ l) (m := [1]) (ty := 5) rfl _ _ rfl rfl rfl (hown3.alloc _) (hT3.alloc _) (RdB.lit w3 _ [1] (by simp) #[.int .u8 1] rfl) (by have := HL.out; simp; omega) ?_; intro v4 w4 hown4 hT4)))
  rw [List.nil_append, part1_zero] at hown4
  clear hown3 hT3
  go_loopw [3] (fun u wr => ∃ k : Nat, k ≤ 135 - l.length % 136 ∧ wr.ownsRow w1.heap.size 5 1 u (part1 l k).length (nb (part1 l k)) ∧ Tch [] w1 wr) (fun u _ => l.length + 1 + 136 - lenOf u)
  case atStart => exact ⟨0, Nat.zero_le _, hown4, hT4⟩
  case round =>
    clear hown4 hT4
    obtain ⟨k, hk, hown, hT⟩ := hrel
    have hNk := part1_len l k
    by_cases h0 : (l.length + 1 + k) % 136 = 0
    · obtain ⟨g, c, cur, rfl, hg, hB, hcur⟩ := own_cur hown (by unfold part1; simp)
      clear hown
      generalize hNe : (part1 l k).length = N at *
      have hl6 := HL.out
      have r1 : (N : Int).tmod 136 = (N : Int) % 136 := Int.tmod_eq_emod_of_nonneg (by omega)
      have r2 : (N : Int) % 136 = 0 := by omega
      obtain ⟨J, hJ⟩ : ∃ J, J = N - 1 := ⟨_, rfl⟩
      have e1 : IntKind.i64.wrap ((N : Int) - 1) = (J : Int) := by rw [IntWalk.i64_in _ (by omega)]; omega
      have e2 : (J : Int) < (N : Int) := by omega
      have e3 : J < N := by omega
      have hset := part1_set l k h0 (by omega)
      rw [show l.length + k = J by omega] at hset
      have hcs := Cur.set (x := (part1 l k).getD J 0 ||| 128) hcur (j := J) (by omega)
      rw [hset] at hcs
      have hcell := hcur.2 J (by omega)
      have hx := getD_lt (part1_lt HLT.out k) J
      have hsz : J < cur.size := by have := hcur.1; omega
      have hor := or128 ⟨(part1 l k).getD J 0, hx⟩
      simp only at hor
      generalize (part1 l k).getD J 0 = x at *
      have hS2 := hS.callNew hT hB hg
      have hg2 := (hS2.get .head).cell hcell
      have HP := hQz (And.intro hcs hNe)
      have HNB := hQz (show N = 136 * (l.length / 136 + 1) by omega)
      have HO := hQz hor
      clear hS hcs hcell hset hB hcur hT hNe hNk hJ hx hk h0 hl6 hor
      go_upto_region 5 with (first
        | (refine st_cell (b := g) (j := J) hS2 rfl 5 _ rfl rfl .head hcell u8_agg ?_)
        | (refine st_store1 (b := g) (j := J) hS2 rfl 5 _ _ rfl rfl rfl u8_size (by repeat (first | exact Upd.head | apply Upd.tail)) hsz ?_; clear hS2; intro w5 hS))
      rw [HO.out] at hS
      obtain ⟨cur2, hc2⟩ : ∃ cur2, cur2 = cur.setIfInBounds J (.int .u8 ((x ||| 128 : Nat) : Int)) := ⟨_, rfl⟩
      rw [← hc2] at hS
      have HC := HP.out.1
      rw [← hc2] at HC
      obtain ⟨M, hM⟩ : ∃ M, M = padded l := ⟨_, rfl⟩
      have hML : M.length = N := by rw [hM, padded_len]; exact HNB.out.symm
      have hMlt : ∀ y ∈ M, y < 256 := by rw [hM]; exact padded_lt HLT.out
      have HH := hQz (show hashN l = outN (stN M (l.length / 136 + 1)) by rw [hM]; exact hash_st l)
      rw [← hM] at HC
      have HCur := hQz (And.intro HC (And.intro hML hMlt))
      obtain ⟨B, hB⟩ : ∃ B, B = l.length / 136 + 1 := ⟨_, rfl⟩
      have HNB2 := hQz (show N = 136 * B ∧ B ≤ 10000 from ⟨by rw [hB]; exact HNB.out, by have := HL.out; omega⟩)
      rw [← hB] at HH
      clear hc2 HC hM hML hMlt hB HNB HP HO hg2 hsz r1 r2 e1 e2 e3
      try simp only [Act.put, ppA, ppB, ppC]
      go_upto_region 7 with (first | (refine st_new hS rfl 114 rfl rlanes_zero ?_; clear hS; intro w6 ba hS))
      rw [uf_lay] at hS
      obtain ⟨z, hz⟩ : ∃ z, z = uf 25 (fun _ => 0) := ⟨_, rfl⟩
      have HZ := hQz (show 25 ≤ z.size by rw [hz, uf_size]; omega)
      rw [← hz] at hS
      clear hz
      go_loopw [5, 6, 7, 8] (fun f _ _ _ wr => ∃ j q : Nat, j ≤ B ∧ Hid (q = 136 * j) ∧ f = .int .i64 (q : Int) ∧ St [] w wr [(ba, 114, lay z (stN M j)), (g, 5, cur2), (b2, 25, wf fun _ => 0)]) (fun f _ _ _ _ => 136 * B + 136 - (intOf f).toNat)
      case atStart => exact ⟨0, 0, Nat.zero_le _, hQz rfl, rfl, hS⟩
      case round =>
        clear hS
        obtain ⟨j, q, hj, HQ, rfl, hS⟩ := hrel
        by_cases hjb : j < B
        · have h1 : (q : Int) < (N : Int) := by have := HQ.out; have := HNB2.out; omega
          obtain ⟨X0, hX0⟩ : ∃ X0, X0 = stN M j := ⟨_, rfl⟩
          obtain ⟨F, hF⟩ : ∃ F : Nat → Nat, F = fun i => M.getD (136 * j + i) 0 := ⟨_, rfl⟩
          have HX0 := hQz (show Lan X0 by rw [hX0]; exact stN_lan HCur.out.2.2 j)
          have HF := hQz (show ∀ i, F i < 256 by intro i; rw [hF]; exact getD_lt HCur.out.2.2 _)
          have HFC := hQz (show ∀ i, i < 136 → cur2[0 + (q + i)]? = some (.int .u8 ((F i : Nat) : Int)) from fun i hi => by
            rw [Nat.zero_add, hF, HCur.out.1.2 (q + i) (by rw [HCur.out.2.1]; have := HQ.out; have := HNB2.out; omega), HQ.out])
          have HST := hQz (show stN M (j + 1) = permN (xr X0 F 136) by rw [hX0, hF]; rfl)
          have HJB := hQz hjb
          rw [← hX0] at hS
          clear hX0 hF hj hjb
          go_upto_region 10 with (fail)
          clear h1
          go_loopw [6] (fun i wr => ∃ n : Nat, n ≤ 136 ∧ i = .int .i64 (n : Int) ∧ St [] w wr [(ba, 114, lay z (xr X0 F n)), (g, 5, cur2), (b2, 25, wf fun _ => 0)]) (fun i _ => 136 - (intOf i).toNat)
          case atStart => exact ⟨0, by omega, rfl, hS⟩
          case round =>
            clear hS
            obtain ⟨n, hn, rfl, hS⟩ := hrel
            by_cases hlt : n < 136
            · have hd : decide ((n : Int) < 136) = true := by simp; omega
              have hd2 : (n : Int) < 136 := by omega
              have HR := hQz (show n / 8 < 25 ∧ n % 8 < 8 ∧ n < 1000000000 ∧ q + n < 1000000000 ∧ q + n < N ∧ cur2[0 + (q + n)]? = some (.int .u8 ((F n : Nat) : Int)) ∧ n < 136 from ⟨by omega, by omega, by omega, by have := HQ.out; have := HNB2.out; have := HJB.out; omega, by have := HQ.out; have := HNB2.out; have := HJB.out; omega, HFC.out n hlt, hlt⟩)
              clear hn hlt
              go_upto_region 12 with (fail)
              try simp only [Act.put, ppA, ppB, ppC]
              refine k_region_head (C := fun w' => St [] w w' _) 20 (by kernel_rfl) (by kernel_rfl) hS.drew ?_
              simp only [List.take_succ_cons, List.take_zero, List.drop_succ_cons, List.drop_zero]
              refine k_intm rfl _ rfl rfl ?_; try simp only [Act.put, ppA, ppB, ppC]
              refine k_in (v := .int .i64 ((n / 8 : Nat) : Int)) rfl (fun w' _ => x_quo8 HR.out.2.2.1 rfl rfl rfl) ?_; try simp only [Act.put, ppA, ppB, ppC]
              refine k_intm rfl _ rfl rfl ?_; try simp only [Act.put, ppA, ppB, ppC]
              refine k_in (v := .int .i64 ((n / 8 : Nat) : Int)) rfl (fun w' _ => x_quo8 HR.out.2.2.1 rfl rfl rfl) ?_; try simp only [Act.put, ppA, ppB, ppC]
              refine k_idx (n / 8) rfl 114 _ _ rfl rfl rfl lanes2_type u64_size HR.out.1 ?_; try simp only [Act.put, ppA, ppB, ppC]
              refine k_cell (j := n / 8) rfl 113 _ rfl rfl .head (lay_get HR.out.1 HZ.out) u64_agg ?_; try simp only [Act.put, ppA, ppB, ppC]
              refine k_slice rfl _ rfl rfl ?_; try simp only [Act.put, ppA, ppB, ppC]
              refine k_intm rfl _ rfl rfl ?_; try simp only [Act.put, ppA, ppB, ppC]
              refine k_intm rfl _ rfl rfl ?_; try simp only [Act.put, ppA, ppB, ppC]
              refine k_in (v := .int .i64 ((q + n : Nat) : Int)) rfl (fun w' _ => x_addN HR.out.2.2.2.1 rfl rfl rfl) ?_; try simp only [Act.put, ppA, ppB, ppC]
              refine k_idxSl (b := g) (off := 0) (j := q + n) rfl 26 _ _ rfl rfl rfl bytes_ty u8_size HR.out.2.2.2.2.1 ?_; try simp only [Act.put, ppA, ppB, ppC]
              refine k_cell (b := g) (j := 0 + (q + n)) rfl 5 _ rfl rfl (.tail .head) HR.out.2.2.2.2.2.1 u8_agg ?_; try simp only [Act.put, ppA, ppB, ppC]
              refine k_in (v := .int .u64 ((F n : Nat) : Int)) rfl (fun w' _ => x_conv8 (HF.out n) rfl rfl) ?_; try simp only [Act.put, ppA, ppB, ppC]
              refine k_intm rfl _ rfl rfl ?_; try simp only [Act.put, ppA, ppB, ppC]
              refine k_in (v := .int .i64 ((n % 8 : Nat) : Int)) rfl (fun w' _ => x_rem8 HR.out.2.2.1 rfl rfl rfl) ?_; try simp only [Act.put, ppA, ppB, ppC]
              refine k_in (v := .int .i64 ((8 * (n % 8) : Nat) : Int)) rfl (fun w' _ => x_mul8 HR.out.2.1 rfl rfl rfl) ?_; try simp only [Act.put, ppA, ppB, ppC]
              refine k_in (v := .int .u64 ((8 * (n % 8) : Nat) : Int)) rfl (fun w' _ => x_convI (by have := HR.out.2.1; omega) rfl rfl) ?_; try simp only [Act.put, ppA, ppB, ppC]
              refine k_in (v := .int .u64 ((F n * 2 ^ (8 * (n % 8)) : Nat) : Int)) rfl (fun w' _ => x_shlB (HF.out n) HR.out.2.1 rfl rfl rfl) ?_; try simp only [Act.put, ppA, ppB, ppC]
              refine k_xor (s := xr X0 F n (n / 8) ^^^ F n * 2 ^ (8 * (n % 8))) rfl _ _ _ _ rfl rfl rfl rfl (xr_lan HX0.out HF.out n _) (shifted_lt (HF.out n) HR.out.2.1) ?_; try simp only [Act.put, ppA, ppB, ppC]
              refine k_idx (n / 8) rfl 114 _ _ rfl rfl rfl lanes2_type u64_size HR.out.1 ?_; try simp only [Act.put, ppA, ppB, ppC]
              refine k_end ?_
              clear hS
              intro w8 hS
              refine st_store1 (j := n / 8) hS rfl 113 _ _ rfl rfl rfl u64_size (by repeat (first | exact Upd.head | apply Upd.tail)) (by rw [lay_size]; have := HZ.out; have := HR.out.1; omega) ?_
              clear hS
              intro w9 hS
              try simp only [Act.put, ppA, ppB, ppC]
              rw [lay_set HR.out.1 HZ.out] at hS
              rw [xr_step] at hS
              go_wp2
              go_roundw
              case rel => exact ⟨n + 1, by have := HR.out.2.2.2.2.2.2; omega, by go_num, hS⟩
              case measure => have := HR.out.2.2.2.2.2.2; simp [intOf]; omega
            · obtain rfl : n = 136 := by omega
              clear hlt hn
              rw [show ((136 : Nat) : Int) = 136 from rfl]
              go_upto_region 15 with (first
                | (refine st_new1 hS rfl 5 rfl u8_zero ?_; clear hS; intro w9 bl hS)
                | (refine st_store1 (b := bl) (j := 0) (c := #[.int .u8 0]) hS rfl 5 _ _ rfl rfl rfl u8_size (by repeat (first | exact Upd.head | apply Upd.tail)) (show 0 < 1 by decide) ?_; clear hS; intro w10 hS; rw [one_set] at hS))
              try simp only [Act.put, ppA, ppB, ppC]
              obtain ⟨X, hX⟩ : ∃ X, X = xr X0 F 136 := ⟨_, rfl⟩
              have HX := hQz (show Lan X by rw [hX]; exact xr_lan HX0.out HF.out 136)
              rw [← hX] at hS HST
              clear hX
              go_loopw [8] (fun kk wr => ∃ k : Nat, k ≤ 24 ∧ kk = .int .i64 (k : Int) ∧ St [] w wr [(bl, 5, #[.int .u8 ((lrd k : Nat) : Int)]), (ba, 114, lay z (perN X k)), (g, 5, cur2), (b2, 25, wf fun _ => 0)]) (fun kk _ => 24 - (intOf kk).toNat)
              case atStart => exact ⟨0, by omega, rfl, hS⟩
              case round =>
                clear hS
                obtain ⟨k, hk, rfl, hS⟩ := hrel
                by_cases hlt : k < 24
                · have hd : decide ((k : Int) < 24) = true := by simp; omega
                  have hd2 : (k : Int) < 24 := by omega
                  have hne : ba ≠ bl := (St.apart2 hS).symm
                  have HK := hQz (show k < 24 from hlt)
                  have hcall := rround_any ba bl 114 z (perN X k) (lrd k) wr (hS.get (.tail .head)) (hS.get .head) hne HZ.out (per_lan HX.out k) (lrd_lt k)
                  rw [iota_is k hlt] at hcall
                  have HCall := hQz hcall
                  have HS := hQz hS
                  have HNE := hQz hne
                  clear hcall hS hlt hk hne
                  go_wp2_with (go_at_call 49; go_must (refine HCall.out.mono ?_; rintro e w11 ⟨rfl, hT11, hB11, hL11⟩))
                  have hS : St [] w w11 [(bl, 5, #[.int .u8 ((lrd (k + 1) : Nat) : Int)]), (ba, 114, lay z (perN X (k + 1))), (g, 5, cur2), (b2, 25, wf fun _ => 0)] := HS.out.on2 (.tail .head) .head hT11 hB11 hL11 HNE.out
                  clear hT11 hB11 hL11 HS HCall
                  go_roundw
                  case rel => exact ⟨k + 1, by have := HK.out; omega, by go_num, hS⟩
                  case measure => have := HK.out; simp [intOf]; omega
                · obtain rfl : k = 24 := by omega
                  clear hlt hk
                  have hS2 : St [] w wr [(ba, 114, lay z (stN M (j + 1))), (g, 5, cur2), (b2, 25, wf fun _ => 0)] := by rw [HST.out]; exact hS.drop
                  have e9 : IntKind.i64.wrap ((q : Int) + 136) = ((q + 136 : Nat) : Int) := by rw [IntWalk.i64_in _ (by have := HQ.out; have := HNB2.out; have := HJB.out; omega)]; omega
                  obtain ⟨q2, hq2⟩ : ∃ q2, q2 = q + 136 := ⟨_, rfl⟩
                  rw [← hq2] at e9
                  have HQ2 := hQz hq2
                  clear hS hq2
                  rw [show ((24 : Nat) : Int) = 24 from rfl]
                  go_wp2
                  go_roundw
                  case rel => exact ⟨j + 1, q2, HJB.out, hQz (by have := HQ.out; have := HQ2.out; omega), rfl, hS2⟩
                  case measure => have := HQ2.out; have := HQ.out; have := HJB.out; simp [intOf]; omega
        · obtain rfl : j = B := by omega
          have hqN : q = N := by have := HQ.out; have := HNB2.out; omega
          obtain ⟨P, hP⟩ : ∃ P, P = stN M j := ⟨_, rfl⟩
          have HP2 := hQz (show Lan P by rw [hP]; exact stN_lan HCur.out.2.2 j)
          rw [← hP] at hS HH
          subst hqN
          clear hP hjb hj HQ HNB2 HCur
          go_upto_region 20 with (first | (refine st_new hS rfl 25 rfl word_zero ?_; clear hS; intro w7 b9 hS))
          go_loopw [10] (fun i wr => ∃ n : Nat, n ≤ 32 ∧ i = .int .i64 (n : Int) ∧ St [] w wr [(b9, 25, wf fun i => if i < n then outN P i else 0), (ba, 114, lay z P), (g, 5, cur2), (b2, 25, wf fun _ => 0)]) (fun i _ => 32 - (intOf i).toNat)
          case atStart =>
            refine ⟨0, by omega, rfl, ?_⟩
            rw [show (wf fun i => if i < 0 then outN P i else 0) = wf fun _ => 0 from wf_congr fun i _ => if_neg (by omega)]
            exact hS
          case round =>
            clear hS
            obtain ⟨n, hn, rfl, hS⟩ := hrel
            by_cases hlt : n < 32
            · skip
              have hd : decide ((n : Int) < 32) = true := by simp; omega
              have hd2 : (n : Int) < 32 := by omega
              have HR := hQz (show n / 8 < 25 ∧ n % 8 < 8 ∧ n < 1000000000 ∧ n < 32 from ⟨by omega, by omega, by omega, hlt⟩)
              clear hn hlt
              go_upto_region 22 with (fail)
              try simp only [Act.put, ppA, ppB, ppC]
              refine l_plain ?_
              refine l_pure rfl (fun w => x_valK (.inl rfl) rfl) ?_; try simp only [Act.put, ppA, ppB, ppC]
              refine l_pure rfl (fun w => x_valK (.inl rfl) rfl) ?_; try simp only [Act.put, ppA, ppB, ppC]
              refine l_pure (v := .int .i64 ((n / 8 : Nat) : Int)) rfl (fun w => x_quo8 HR.out.2.2.1 rfl rfl rfl) ?_; try simp only [Act.put, ppA, ppB, ppC]
              refine l_idx (n / 8) rfl 114 _ _ rfl rfl rfl lanes2_type u64_size HR.out.1 ?_; try simp only [Act.put, ppA, ppB, ppC]
              refine l_cell (j := n / 8) hS rfl 113 _ rfl rfl (.tail .head) (lay_get HR.out.1 HZ.out) u64_agg ?_; try simp only [Act.put, ppA, ppB, ppC]
              refine l_pure rfl (fun w => x_valK (.inl rfl) rfl) ?_; try simp only [Act.put, ppA, ppB, ppC]
              refine l_pure (v := .int .i64 ((n % 8 : Nat) : Int)) rfl (fun w => x_rem8 HR.out.2.2.1 rfl rfl rfl) ?_; try simp only [Act.put, ppA, ppB, ppC]
              refine l_pure (v := .int .i64 ((8 * (n % 8) : Nat) : Int)) rfl (fun w => x_mul8 HR.out.2.1 rfl rfl rfl) ?_; try simp only [Act.put, ppA, ppB, ppC]
              refine l_pure (v := .int .u64 ((8 * (n % 8) : Nat) : Int)) rfl (fun w => x_convI (by have := HR.out.2.1; omega) rfl rfl) ?_; try simp only [Act.put, ppA, ppB, ppC]
              refine l_pure (v := .int .u64 ((P (n / 8) / 2 ^ (8 * (n % 8)) : Nat) : Int)) rfl (fun w => x_shrB HR.out.2.1 rfl rfl rfl) ?_; try simp only [Act.put, ppA, ppB, ppC]
              refine l_pure (v := .int .u64 ((P (n / 8) / 2 ^ (8 * (n % 8)) % 256 : Nat) : Int)) rfl (fun w => x_and255 (Nat.lt_of_le_of_lt (Nat.div_le_self _ _) (HP2.out _)) rfl rfl rfl) ?_; try simp only [Act.put, ppA, ppB, ppC]
              refine l_pure (v := .int .u8 ((outN P n : Nat) : Int)) rfl (fun w => x_convB (outN_lt P n) rfl rfl) ?_; try simp only [Act.put, ppA, ppB, ppC]
              refine l_idx n rfl 25 _ _ rfl rfl rfl word_type u8_size HR.out.2.2.2 ?_; try simp only [Act.put, ppA, ppB, ppC]
              refine l_store (j := n) hS rfl 5 _ _ rfl rfl rfl u8_size (wf_next (g := outN P) (v := outN P n) HR.out.2.2.2 rfl) (by repeat (first | exact Upd.head | apply Upd.tail)) (by rw [wf_size]; exact HR.out.2.2.2) ?_
              clear hS
              intro w11 hS
              try simp only [Act.put, ppA, ppB, ppC]
              refine l_end ?_
              go_wp2
              go_roundw
              case rel => exact ⟨n + 1, by have := HR.out.2.2.2; omega, by go_num, hS⟩
              case measure => have := HR.out.2.2.2; simp [intOf]; omega
            · obtain rfl : n = 32 := by omega
              rw [show (wf fun i => if i < 32 then outN P i else 0) = wf (hashN l) from wf_congr fun i hi => by rw [if_pos hi, HH.out]] at hS
              clear hlt hn
              rw [show ((32 : Nat) : Int) = 32 from rfl]
              go_wp2_with (first | (refine st_load (b := b9) hS rfl 25 _ rfl rfl .head word_type rfl word_size (wf_size _) ?_) | (refine st_store (b := b2) (c' := wf (hashN l)) hS rfl 25 _ _ rfl rfl rfl (by repeat (first | exact Upd.head | apply Upd.tail)) word_size (wf_size _) (wf_size _) (wf_one _) ?_; clear hS; intro w12 hS))
              exact st_post hS 2 25 rfl rfl rfl (.tail (.tail (.tail .head))) word_type rfl word_size (wf_size _) (fun hb => ⟨rfl, hb⟩)
    · obtain ⟨p, c, rfl⟩ := own_slice hown
      generalize hNe : (part1 l k).length = N at *
      have hl6 := HL.out
      have r1 : (N : Int).tmod 136 = (N : Int) % 136 := Int.tmod_eq_emod_of_nonneg (by omega)
      have r2 : ((N : Int) % 136 == 0) = false := by rw [beq_eq_false_iff_ne]; omega
      have r3 : ¬ (N : Int) % 136 = 0 := by omega
      go_wp2_with (first
        | (at_builtin; (refine st_appB (w0 := w1) (w := wr.alloc _) (v := .slice p N c) (u := .slice (some ⟨wr.heap.size, 0, none⟩) 1 1) (l := part1 l k) (m := [0]) (ty := 5) rfl _ _ rfl rfl rfl (by rw [hNe]; exact hown.alloc _) (hT.alloc _) (RdB.lit wr _ [0] (by simp) #[.int .u8 0] rfl) (by rw [hNe]; simp; omega) ?_; intro v4 w4 hown4 hT4)))
      rw [part1_snoc] at hown4
      go_roundw
      case rel => exact ⟨k + 1, by omega, hown4, hT4⟩
      case measure =>
        obtain ⟨p4, c4, rfl⟩ := own_slice hown4
        have := part1_len l (k + 1)
        simp [lenOf]; omega
end
section
open Go.RowKit
def hch (v : Nat) : UInt8 := if v < 10 then UInt8.ofNat (48 + v) else UInt8.ofNat (87 + v)
def hexOf (L : List Nat) : List UInt8 := L.flatMap fun x => [hch (x / 16), hch (x % 16)]
theorem hexOf_length (L : List Nat) : (hexOf L).length = 2 * L.length := by
  induction L with
  | nil => rfl
  | cons x L ih =>
    have : hexOf (x :: L) = [hch (x / 16), hch (x % 16)] ++ hexOf L := rfl
    rw [this, List.length_append, ih, List.length_cons, List.length_cons, List.length_cons, List.length_nil]; omega
def txt (L : List Nat) : List UInt8 := 48 :: 120 :: hexOf L
theorem txt_length (L : List Nat) : (txt L).length = 2 + 2 * L.length := by unfold txt; rw [List.length_cons, List.length_cons, hexOf_length]; omega
theorem byteCells_get (l : List UInt8) (j : Nat) (h : j < l.length) : (Lib.byteCells l)[j]? = some (.int .u8 ((l[j]).toNat : Int)) := by simp [Lib.byteCells, h]
theorem conv_own {w : World} {B : Nat} {v : Value} {l : List UInt8} (h : w.ownsRow B 5 1 v l.length (Lib.byteCells l)) : (convert 26 9 v).run Tryz.prog w = .ok (.string ⟨l.toArray⟩) w := by
  obtain ⟨_, h2⟩ := h
  rcases h2 with ⟨rfl, h0⟩ | ⟨g, cap, cur, rfl, _, hb, _, _, _, htk⟩
  · have : l = [] := List.length_eq_zero_iff.1 h0
    subst this
    rw [run_convert_bytes_string w 26 9 5 none _ 0 bytes_ty byte_ty string_ty]; rfl
  · refine run_convert_bytes_back (P := Tryz.prog) w 26 9 5 ⟨g, 0, none⟩ cap l bytes_ty byte_ty string_ty (fun j hj => ?_)
    have hadd : (⟨g, 0, none⟩ : Addr).add j = ⟨g, j, none⟩ := by unfold Addr.add; split <;> simp_all
    have hB : Blk w g 5 cur → w.cell? ⟨g, j, none⟩ = cur[j]? := fun _ => by rw [Lib.cell_of_heap hb]
    rw [hadd, Lib.cell_of_heap hb]
    have e := congrArg (fun x => x[j]?) htk
    simp only [Nat.mul_one, List.getElem?_take, hj, if_true, byteCells_get l j hj] at e
    simpa using e
def TxtAt (B k : Nat) (L : List Nat) (o : Value) (w : World) : Prop :=
  (k = 0 ∧ o = .slice (some ⟨B, 0, none⟩) 2 2 ∧ w.heap[B]? = some (.cells #[.int .u8 48, .int .u8 120] 5 (2, 3))) ∨ (0 < k ∧ w.ownsRow B 5 1 o (2 + 2 * k) (Lib.byteCells (txt (L.take k))))
theorem TxtAt.conv {B : Nat} {L : List Nat} {o : Value} {w : World} (h : TxtAt B L.length L o w) : (convert 26 9 o).run Tryz.prog w = .ok (.string ⟨(txt L).toArray⟩) w := by
  rcases h with ⟨h0, rfl, hb⟩ | ⟨_, hown⟩
  · have : L = [] := List.length_eq_zero_iff.1 h0
    subst this
    exact run_convert_bytes_back (P := Tryz.prog) w 26 9 5 ⟨B, 0, none⟩ 2 [48, 120] bytes_ty byte_ty string_ty (fun j hj => by
      have hadd : (⟨B, 0, none⟩ : Addr).add j = ⟨B, j, none⟩ := by unfold Addr.add; split <;> simp_all
      rw [hadd, Lib.cell_of_heap hb]
      match j, hj with
      | 0, _ => rfl
      | 1, _ => rfl)
  · rw [List.take_length] at hown
    rw [show 2 + 2 * L.length = (txt L).length from (txt_length L).symm] at hown
    exact conv_own hown
end
section
open Go.RowKit
theorem RdB.part {w : World} {v : Value} {l : List Nat} (h : RdB w v l) (hl : l.length < 1000000) : PartAt w v l := by
  obtain ⟨p, c, h1, h2, h3, h4⟩ := h
  refine ⟨p, c, h1, h2, hl, h3, fun hn => ?_⟩
  obtain ⟨b, o, h5, h6, h7⟩ := h4 hn
  exact ⟨b, o, h5, h6, fun i hi => ⟨h7 i hi, getD_lt h3 i⟩⟩
theorem cat_list : ∀ (ls : List (List Nat)) (n : Nat), n ≤ ls.length → cat (fun i => ls.getD i []) n = (ls.take n).flatten
  | ls, 0, _ => by simp [cat]
  | ls, n + 1, h => by
    show cat _ n ++ ls.getD n [] = _
    rw [cat_list ls n (by omega), List.take_succ_eq_append_getElem (show n < ls.length by omega), List.flatten_append]
    simp [List.getD_eq_getElem?_getD, List.getElem?_eq_getElem (show n < ls.length by omega)]
theorem sum_parts (bl : Nat) (ls : List (List Nat)) (w : World) (hn : ls.length < 1000000) (hlt : bl < w.heap.size) (h : ∀ i, i < ls.length → ∃ v, w.cell? ⟨bl, i, none⟩ = some v ∧ RdB w v (ls.getD i []) ∧ (ls.getD i []).length < 1000000) (c : Nat) :
    Calls Tryz.prog 67 #[.slice (some ⟨bl, 0, none⟩) ls.length c] w fun e w' => e = .returned (.agg (wf (hashN ls.flatten))) ∧ Tch [] w w' := by
  have := sum_any bl 0 ls.length c (fun i => ls.getD i []) w hn (fun _ => hlt) (fun i hi => by
    obtain ⟨v, h1, h2, h3⟩ := h i hi
    exact ⟨v, by rw [Nat.zero_add]; exact h1, h2.part h3⟩) (some ⟨bl, 0, none⟩) (fun _ => rfl)
  rw [cat_list ls ls.length (Nat.le_refl _), List.take_length] at this
  exact this
theorem sum_one (bl : Nat) (v : Value) (l : List Nat) (w : World) (hc : w.cell? ⟨bl, 0, none⟩ = some v) (hlt : bl < w.heap.size) (hv : RdB w v l) (hl : l.length < 1000000) :
    Calls Tryz.prog 67 #[.slice (some ⟨bl, 0, none⟩) 1 1] w fun e w' => e = .returned (.agg (wf (hashN l))) ∧ Tch [] w w' := by
  have := sum_parts bl [l] w (show 1 < 1000000 by decide) hlt (fun i hi => by
    obtain rfl : i = 0 := by simpa using hi
    exact ⟨v, hc, hv, hl⟩) 1
  simpa using this
end
end Go.Proofs.YtopfmaoeebgjmaaGreatDoor
