/- A call told to both (Put). -/
import Derived.Test.YtlliidfkjlmadaaIP1
set_option linter.unusedVariables false
set_option linter.unusedSimpArgs false
namespace Go.Proofs.Ytlliidfkjlmadaa
open Go.RowKit
set_option maxRecDepth 100000
set_option maxHeartbeats 20000000

theorem step1_any {w0 w : World} {bm br bs bt : Nat} {vm vr vs vt : Value} {L : List Nat} {Ws : List (List Nat)} {k : Nat} (HQ : Quad w0 w bm br bs bt vm vr vs vt L L Ws Ws) (hk : L.length = 32 * k) (hk2 : k ≤ 32768) (hL : ∀ x ∈ L, x < 256) (hWl : Ws.length ≤ 1024) (hW : ∀ W ∈ Ws, Wd W)
    (i j : Int) (A N M : List Nat) (vb : Value) (hi : -9223372036854775808 ≤ i ∧ i ≤ 9223372036854775807) (hj : -9223372036854775808 ≤ j ∧ j ≤ 9223372036854775807) (hA : Wd A) (hN : Wd N) (hvb : RdB w0 vb M) (hM : M.length ≤ 500) :
    Calls Try.prog 9 #[.pointer (some ⟨bm, 0, none⟩), .pointer (some ⟨br, 0, none⟩), .pointer (some ⟨bs, 0, none⟩), .pointer (some ⟨bt, 0, none⟩), .agg (actC 1 i j A N vb)] w (StepP w0 bm br bs bt) := by
  have HVB := Lib.hid hvb
  have HMM := Lib.hid hM
  have HH := Lib.hid HQ
  have HKL := Lib.hid (And.intro hk (And.intro hk2 (And.intro hL (And.intro hWl hW))))
  have HI := Lib.hid hi
  have HJ := Lib.hid hj
  have hS := St.start w
  have hsz := actC_size 1 i j A N vb
  have e0 := actC_0 1 i j A N vb
  have e1 := actC_1 1 i j A N vb
  have e2 := actC_2 1 i j A N vb
  have eb := actC_b 1 i j A N vb
  have HRA := Lib.hid (fun w' b t h => act_range_at (w := w') (b := b) (t := t) (way := 1) (i := i) (j := j) (A := A) (N := N) (vb := vb) h)
  have HRN := Lib.hid (fun w' b t h => act_range_n (w := w') (b := b) (t := t) (way := 1) (i := i) (j := j) (A := A) (N := N) (vb := vb) h)
  clear HQ hk hk2 hL hWl hW hi hj
  generalize actC 1 i j A N vb = ca at *
  go_enter Try.func9, Try.ntmps9
  go_upto_region 7 with (first
    | (refine st_box hS rfl 39 _ rfl rfl ?_; clear hS; intro w1 b9 hS)
    | (refine st_cell1 (v := .int .i64 1) hS rfl 3 _ rfl rfl .head e0 int_aggI ?_))
  have hb9 : w.heap.size ≤ b9 := (hS.own .head).elim id (fun h => by simp at h)
  have hB9 := hS.get .head
  have HQ1 := Lib.hid (HH.out.call hS.frame)
  have HL9 := Lib.hid (show (∀ x ∈ fpr bm vm, x < b9) ∧ (∀ x ∈ fpr br vr, x < b9) ∧ (∀ x ∈ fpr bs vs, x < b9) ∧ (∀ x ∈ fpr bt vt, x < b9) from ⟨fun x hx => Nat.lt_of_lt_of_le (HH.out.m.lt hx).2 hb9, fun x hx => Nat.lt_of_lt_of_le (HH.out.r.lt hx).2 hb9, fun x hx => Nat.lt_of_lt_of_le (HH.out.s.lt hx).2 hb9, fun x hx => Nat.lt_of_lt_of_le (HH.out.t.lt hx).2 hb9⟩)
  have HB9 := Lib.hid hB9
  clear HH hS hB9
  have hlt256 : ∀ x ∈ M, x < 256 := hvb.choose_spec.choose_spec.2.2.1
  have hp := fun w' u (h : MemIn w0.heap.size 26 w' bm vm L) (hu : RdB w' u M) => put_any w0.heap.size bm vm u L M i w' h hu HI.out
  have hr := fun w' u (h : MemIn w0.heap.size 32 w' br vr L) (hu : RdB w' u M) => rput_any w0.heap.size br vr u L M i w' h hu HI.out
  have HE := Lib.hid (show (putR L i M).length = 32 * k ∧ ∀ x ∈ putR L i M, x < 256 from ⟨by rw [putR_len]; exact HKL.out.1, putR_lt HKL.out.2.2.1 hlt256⟩)
  have HLT := Lib.hid hlt256
  have HP := Lib.hid hp
  have HR := Lib.hid hr
  have HV1 := Lib.hid (hvb.tch HQ1.out.T (by simp))
  clear hp hr hlt256 hvb
  generalize putR L i M = L' at *
  generalize putOk L i M = ok at *
  go_upto_region 10 with (first
    | (refine st_x (v := vb) rfl (x_cell 24 (.tmp 58) rfl rfl (HB9.out.cell eb) bytes_aggI) ?_)
    | (at_builtin; go_must (refine st_cloneB (v := vb) (l := M) rfl _ _ rfl rfl rfl (HV1.out.rdA (by simp)) (by have := HMM.out; omega) ?_; intro u w2 hown2 hT2; have HQ2 := Lib.hid (HQ1.out.call hT2); have HB2 := Lib.hid (hT2.blk HB9.out (by simp)); have HO2 := Lib.hid hown2; clear hown2))
    | (refine st_x (v := .int .i64 i) rfl (x_cell 3 (.tmp 62) rfl rfl (HB2.out.cell e1) int_aggI) ?_)
    | (go_at_call 22; go_must (refine (HP.out _ _ HQ2.out.m (RdB.own HO2.out HLT.out)).mono ?_; rintro e w3 ⟨vm3, rfl, hM3, hT3⟩; have HQ3 := Lib.hid (HQ2.out.turnM hM3 hT3); have HB3 := Lib.hid (hT3.tch.blk HB2.out (fun hm => Nat.lt_irrefl _ (HL9.out.1 _ hm))); have HT3 := Lib.hid hT3; clear hM3 hT3)))
  have hO3 := own_far HO2.out HT3.out.tch (fun q hq hm => by
    have h1 := (HO2.out.lt q hq).1
    have h2 := (HQ1.out.m.lt hm).2
    omega)
  have HO3 := Lib.hid hO3
  have HU := Lib.hid (show (∀ x ∈ u.ownBlock.toList, w1.heap.size ≤ x) ∧ (∀ x ∈ u.ownBlock.toList, x < w2.heap.size) from ⟨fun x hx => (HO2.out.lt x (by simpa using hx)).1, fun x hx => (HO2.out.lt x (by simpa using hx)).2⟩)
  clear hO3
  obtain ⟨px, cx, rfl, hlx, hpx⟩ := own_sliceB HO3.out
  go_loopw [17] (fun i wr => ∃ (q : Nat), i = .int .i64 (q : Int) ∧ q ≤ M.length ∧ Hid (∃ l', l'.length = M.length ∧ wr.ownsRow w1.heap.size 5 1 (.slice px M.length cx) l'.length (nb l')) ∧ Tch (Value.ownBlock (.slice px M.length cx)).toList w3 wr) (fun i _ => M.length - (intOf i).toNat)
  case atStart => exact ⟨0, rfl, Nat.zero_le _, Lib.hid ⟨M, rfl, HO3.out⟩, Tch.refl _ _⟩
  case round =>
    obtain ⟨q, rfl, hq, HX, hTr⟩ := hrel
    by_cases hlt : q < M.length
    · have hlt' : (q : Int) < (M.length : Int) := by omega
      obtain ⟨gx, rfl⟩ := hpx (by omega)
      obtain ⟨l', hl', hx'⟩ := HX.out
      have hql : q < l'.length := by omega
      have hcx := own_cellB hx' hql
      obtain ⟨y, hy⟩ := xor_byte ((l'.getD q 0 : Nat) : Int)
      have HY := Lib.hid hy
      have HX2 := Lib.hid hx'
      have HLL := Lib.hid hl'
      clear hy hx' HX hl'
      generalize l'.getD q 0 = xq at *
      go_wp2_with (first
        | (refine st_x (v := .pointer (some ⟨gx, q, none⟩)) rfl (by have h := x_idxB (w := wr) (.tmp 74) (.tmp 75) rfl rfl rfl hlt; rwa [Nat.zero_add] at h) ?_)
        | (refine st_x (v := .int .u8 (xq : Int)) rfl (x_cell 5 (.tmp 76) rfl rfl hcx u8_agg) ?_)
        | (refine st_x (v := .int .u8 (y : Int)) rfl (x_xorI (.tmp 77) rfl rfl HY.out) ?_)
        | (refine st_x (v := .pointer (some ⟨gx, q, none⟩)) rfl (by have h := x_idxB (w := wr) (.tmp 72) (.tmp 73) rfl rfl rfl hlt; rwa [Nat.zero_add] at h) ?_)
        | (refine st_stB' (x := y) (k := q) HX2.out hql rfl (.tmp 79) (.tmp 78) rfl rfl rfl ?_; intro wS hOS hS'; have HS' := Lib.hid hS'; clear hS'))
      go_roundw
      case rel => exact ⟨q + 1, by go_num, hlt, Lib.hid ⟨_, by rw [List.length_set]; exact HLL.out, HS'.out⟩, hTr.trans hOS.tch⟩
      case measure => simp [intOf]; omega
    · obtain rfl : q = M.length := by omega
      clear HX
      have hfm : ∀ x ∈ fpr bm vm3, x ∉ (Value.slice px M.length cx).ownBlock.toList := fun x hx hm => by
        have h1 := HU.out.1 x hm
        rcases mem_fpr.1 hx with h | h
        · have := (HQ1.out.m.lt (mem_fpr.2 (.inl h))).2; omega
        · rcases HT3.out.fresh x h with h | h
          · have := (HQ1.out.m.lt (mem_fpr.2 (.inr h))).2; omega
          · have := HU.out.2 x hm; omega
      have HQ4 := Lib.hid (HQ3.out.far hTr (fun x hx => Nat.le_trans HQ1.out.T.size (HU.out.1 x hx)) hfm (fun x hx hm => by have h1 := HU.out.1 x hm; have h2 := (HQ1.out.r.lt hx).2; omega) (fun x hx hm => by have h1 := HU.out.1 x hm; have h2 := (HQ1.out.s.lt hx).2; omega) (fun x hx hm => by have h1 := HU.out.1 x hm; have h2 := (HQ1.out.t.lt hx).2; omega))
      have HB4 := Lib.hid (hTr.blk HB3.out (fun hm => by have h1 := HU.out.1 _ hm; have h2 := HB9.out.lt; omega))
      have HV4 := Lib.hid (HVB.out.tch HQ4.out.T (by simp))
      clear hTr hfm
      go_upto_region 14 with (first
        | (refine st_x (v := .int .i64 i) rfl (x_cell 3 (.tmp 82) rfl rfl (HB4.out.cell e1) int_aggI) ?_)
        | (refine st_x (v := vb) rfl (x_cell 24 (.tmp 84) rfl rfl (HB4.out.cell eb) bytes_aggI) ?_)
        | (go_at_call 25; go_must (refine (HR.out _ _ HQ4.out.r HV4.out).mono ?_; rintro e w5 ⟨vr5, rfl, hM5, hT5⟩; have HQ5 := Lib.hid (HQ4.out.turnR hM5 hT5); clear hM5 hT5))
        | (refine st_x (v := .bool true) rfl (x_boolsE (.tmp 80) (.tmp 86) _ rfl rfl rfl) ?_))
      go_ret
      exact StepP.mk rfl HQ5.out HE.out.1 HKL.out.2.1 HE.out.2 HKL.out.2.2.2.1 HKL.out.2.2.2.2
end Go.Proofs.Ytlliidfkjlmadaa
