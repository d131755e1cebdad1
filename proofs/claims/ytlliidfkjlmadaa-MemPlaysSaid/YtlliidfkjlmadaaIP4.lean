/- A call told to both (Get). -/
import Derived.Test.YtlliidfkjlmadaaIP1
set_option linter.unusedVariables false
set_option linter.unusedSimpArgs false
namespace Go.Proofs.Ytlliidfkjlmadaa
open Go.RowKit
set_option maxRecDepth 100000
set_option maxHeartbeats 20000000

theorem step2_any {w0 w : World} {bm br bs bt : Nat} {vm vr vs vt : Value} {L : List Nat} {Ws : List (List Nat)} {k : Nat} (HQ : Quad w0 w bm br bs bt vm vr vs vt L L Ws Ws) (hk : L.length = 32 * k) (hk2 : k ≤ 32768) (hL : ∀ x ∈ L, x < 256) (hWl : Ws.length ≤ 1024) (hW : ∀ W ∈ Ws, Wd W)
    (i j : Int) (A N M : List Nat) (vb : Value) (hi : -9223372036854775808 ≤ i ∧ i ≤ 9223372036854775807) (hj : -9223372036854775808 ≤ j ∧ j ≤ 9223372036854775807) (hA : Wd A) (hN : Wd N) (hvb : RdB w0 vb M) (hM : M.length ≤ 500) :
    Calls Try.prog 9 #[.pointer (some ⟨bm, 0, none⟩), .pointer (some ⟨br, 0, none⟩), .pointer (some ⟨bs, 0, none⟩), .pointer (some ⟨bt, 0, none⟩), .agg (actC 2 i j A N vb)] w (StepP w0 bm br bs bt) := by
  have HH := Lib.hid HQ
  have HKL := Lib.hid (And.intro hk (And.intro hk2 (And.intro hL (And.intro hWl hW))))
  have HI := Lib.hid hi
  have HJ := Lib.hid hj
  have hS := St.start w
  have hsz := actC_size 2 i j A N vb
  have e0 := actC_0 2 i j A N vb
  have e1 := actC_1 2 i j A N vb
  have e2 := actC_2 2 i j A N vb
  have eb := actC_b 2 i j A N vb
  have HRA := Lib.hid (fun w' b t h => act_range_at (w := w') (b := b) (t := t) (way := 2) (i := i) (j := j) (A := A) (N := N) (vb := vb) h)
  have HRN := Lib.hid (fun w' b t h => act_range_n (w := w') (b := b) (t := t) (way := 2) (i := i) (j := j) (A := A) (N := N) (vb := vb) h)
  clear HQ hk hk2 hL hWl hW hi hj
  generalize actC 2 i j A N vb = ca at *
  go_enter Try.func9, Try.ntmps9
  go_upto_region 15 with (first
    | (refine st_box hS rfl 39 _ rfl rfl ?_; clear hS; intro w1 b9 hS)
    | (refine st_cell1 (v := .int .i64 2) hS rfl 3 _ rfl rfl .head e0 int_aggI ?_))
  have hb9 : w.heap.size ≤ b9 := (hS.own .head).elim id (fun h => by simp at h)
  have hB9 := hS.get .head
  have HQ1 := Lib.hid (HH.out.call hS.frame)
  have HL9 := Lib.hid (show (∀ x ∈ fpr bm vm, x < b9) ∧ (∀ x ∈ fpr br vr, x < b9) ∧ (∀ x ∈ fpr bs vs, x < b9) ∧ (∀ x ∈ fpr bt vt, x < b9) from ⟨fun x hx => Nat.lt_of_lt_of_le (HH.out.m.lt hx).2 hb9, fun x hx => Nat.lt_of_lt_of_le (HH.out.r.lt hx).2 hb9, fun x hx => Nat.lt_of_lt_of_le (HH.out.s.lt hx).2 hb9, fun x hx => Nat.lt_of_lt_of_le (HH.out.t.lt hx).2 hb9⟩)
  have HB9 := Lib.hid hB9
  clear HH hS hB9
  by_cases h1 : 5000 < j ∧ j ≤ 1048576
  · obtain ⟨h1, h2⟩ := h1
    have H9 := Lib.hid (fun w' (h : Tch [] w1 w') => h.blk HB9.out (by simp))
    try simp only [Act.put, List.setIfInBounds_toArray, List.set_cons_zero, List.set_cons_succ]
    refine k_seq (C := fun w' => Tch [] w1 w') (Tch.refl _ _) ?_
    refine k_faI rfl rfl rfl (fun w' => (fa_act b9 w').2.2.1) ?_; try simp only [Act.put, List.setIfInBounds_toArray, List.set_cons_zero, List.set_cons_succ]
    refine k_cellC (b := b9) (j := 2) (v := .int .i64 j) rfl _ _ rfl rfl (fun w' h => (H9.out w' h).cell e2) int_aggI ?_; try simp only [Act.put, List.setIfInBounds_toArray, List.set_cons_zero, List.set_cons_succ]
    refine k_gtr (m := j) (n := 5000) (t := true) rfl _ _ _ rfl rfl rfl (decide_eq_true (by omega)) ?_; try simp only [Act.put, List.setIfInBounds_toArray, List.set_cons_zero, List.set_cons_succ]
    refine k_val (v := .bool true) rfl _ (.inl rfl) rfl ?_; try simp only [Act.put, List.setIfInBounds_toArray, List.set_cons_zero, List.set_cons_succ]
    refine k_faI rfl rfl rfl (fun w' => (fa_act b9 w').2.2.1) ?_; try simp only [Act.put, List.setIfInBounds_toArray, List.set_cons_zero, List.set_cons_succ]
    refine k_cellC (b := b9) (j := 2) (v := .int .i64 j) rfl _ _ rfl rfl (fun w' h => (H9.out w' h).cell e2) int_aggI ?_; try simp only [Act.put, List.setIfInBounds_toArray, List.set_cons_zero, List.set_cons_succ]
    refine k_leqI (m := j) (n := 1048576) (t := true) rfl _ _ _ rfl rfl rfl (decide_eq_true (by omega)) ?_; try simp only [Act.put, List.setIfInBounds_toArray, List.set_cons_zero, List.set_cons_succ]
    refine k_pickT (t := true) rfl _ _ _ rfl rfl rfl ?_; try simp only [Act.put, List.setIfInBounds_toArray, List.set_cons_zero, List.set_cons_succ]
    refine k_end ?_
    intro w2 hT2
    go_wp2
    go_ret
    exact StepP.mk rfl (HQ1.out.call hT2) HKL.out.1 HKL.out.2.1 HKL.out.2.2.1 HKL.out.2.2.2.1 HKL.out.2.2.2.2
  by_cases h2 : 5000 < j
  · have h3 : ¬ j ≤ 1048576 := fun h => h1 ⟨h2, h⟩
    clear h1
    have H9 := Lib.hid (fun w' (h : Tch [] w1 w') => h.blk HB9.out (by simp))
    try simp only [Act.put, List.setIfInBounds_toArray, List.set_cons_zero, List.set_cons_succ]
    refine k_seq (C := fun w' => Tch [] w1 w') (Tch.refl _ _) ?_
    refine k_faI rfl rfl rfl (fun w' => (fa_act b9 w').2.2.1) ?_; try simp only [Act.put, List.setIfInBounds_toArray, List.set_cons_zero, List.set_cons_succ]
    refine k_cellC (b := b9) (j := 2) (v := .int .i64 j) rfl _ _ rfl rfl (fun w' h => (H9.out w' h).cell e2) int_aggI ?_; try simp only [Act.put, List.setIfInBounds_toArray, List.set_cons_zero, List.set_cons_succ]
    refine k_gtr (m := j) (n := 5000) (t := true) rfl _ _ _ rfl rfl rfl (decide_eq_true (by omega)) ?_; try simp only [Act.put, List.setIfInBounds_toArray, List.set_cons_zero, List.set_cons_succ]
    refine k_val (v := .bool true) rfl _ (.inl rfl) rfl ?_; try simp only [Act.put, List.setIfInBounds_toArray, List.set_cons_zero, List.set_cons_succ]
    refine k_faI rfl rfl rfl (fun w' => (fa_act b9 w').2.2.1) ?_; try simp only [Act.put, List.setIfInBounds_toArray, List.set_cons_zero, List.set_cons_succ]
    refine k_cellC (b := b9) (j := 2) (v := .int .i64 j) rfl _ _ rfl rfl (fun w' h => (H9.out w' h).cell e2) int_aggI ?_; try simp only [Act.put, List.setIfInBounds_toArray, List.set_cons_zero, List.set_cons_succ]
    refine k_leqI (m := j) (n := 1048576) (t := false) rfl _ _ _ rfl rfl rfl (decide_eq_false (by omega)) ?_; try simp only [Act.put, List.setIfInBounds_toArray, List.set_cons_zero, List.set_cons_succ]
    refine k_pickT (t := false) rfl _ _ _ rfl rfl rfl ?_; try simp only [Act.put, List.setIfInBounds_toArray, List.set_cons_zero, List.set_cons_succ]
    refine k_end ?_
    intro w2 hT2
    have HQ2 := Lib.hid (HQ1.out.call hT2)
    have HB2 := Lib.hid (hT2.blk HB9.out (by simp))
    have hRl : (getL L i j).length ≤ 5000 := by
      unfold getL
      split
      · simp
      · rw [cutL_len]; omega
    have hRlt : ∀ x ∈ getL L i j, x < 256 := by
      unfold getL
      split
      · simp
      · exact cutL_lt HKL.out.2.2.1 _ _
    have hp := fun w' (h : MemIn w0.heap.size 26 w' bm vm L) => get_any w0.heap.size bm vm L i j w' h HKL.out.2.2.1 HI.out
    have hr := fun w' (h : MemIn w0.heap.size 32 w' br vr L) => rget_any w0.heap.size br vr L i j w' h HKL.out.2.2.1 HI.out
    have HP := Lib.hid hp
    have HR := Lib.hid hr
    have HLT := Lib.hid hRlt
    clear hp hr hRlt
    generalize getL L i j = R at *
    go_upto_region 21 with (first
      | (refine st_x (v := .int .i64 i) rfl (x_cell 3 (.tmp 99) rfl rfl (HB2.out.cell e1) int_aggI) ?_)
      | (refine st_x (v := .int .i64 j) rfl (x_cell 3 (.tmp 101) rfl rfl (HB2.out.cell e2) int_aggI) ?_)
      | (go_at_call 15; go_must (refine (HP.out _ HQ2.out.m).mono ?_; rintro e w3 ⟨u, rfl, hO3, hT3⟩; have HQ3 := Lib.hid (HQ2.out.call hT3); have HB3 := Lib.hid (hT3.blk HB2.out (by simp)); have HO3 := Lib.hid hO3; clear hO3))
      | (refine st_x (v := .int .i64 i) rfl (x_cell 3 (.tmp 105) rfl rfl (HB3.out.cell e1) int_aggI) ?_)
      | (refine st_x (v := .int .i64 j) rfl (x_cell 3 (.tmp 107) rfl rfl (HB3.out.cell e2) int_aggI) ?_)
      | (go_at_call 26; go_must (refine (HR.out _ HQ3.out.r).mono ?_; rintro e w4 ⟨u2, rfl, hO4, hT4⟩; have HQ4 := Lib.hid (HQ3.out.call hT4); have HO4 := Lib.hid (And.intro (own_far HO3.out hT4 (by simp)) hO4); clear hO4))
      | (refine st_x (v := .string (strB R)) rfl (x_convB (.tmp 110) rfl rfl (RdB.own HO4.out.1 HLT.out)) ?_)
      | (refine st_x (v := .string (strB R)) rfl (x_convB (.tmp 112) rfl rfl (RdB.own HO4.out.2 HLT.out)) ?_)
      | (refine st_x (v := .bool true) rfl (x_strS (.tmp 111) (.tmp 113) _ rfl rfl rfl) ?_))
    have HU := Lib.hid (show (∀ x ∈ u.ownBlock.toList, w2.heap.size ≤ x) from fun x hx => (HO3.out.lt x (by simpa using hx)).1)
    have HO5 := Lib.hid HO4.out.1
    clear HO3 HO4
    obtain ⟨px, cx, rfl, hlx, hpx⟩ := own_sliceB HO5.out
    go_loopw [21] (fun i wr => ∃ (q : Nat), i = .int .i64 (q : Int) ∧ q ≤ R.length ∧ Hid (∃ l', l'.length = R.length ∧ wr.ownsRow w2.heap.size 5 1 (.slice px R.length cx) l'.length (nb l')) ∧ Tch (Value.ownBlock (.slice px R.length cx)).toList w4 wr) (fun i _ => R.length - (intOf i).toNat)
    case atStart => exact ⟨0, rfl, Nat.zero_le _, Lib.hid ⟨R, rfl, HO5.out⟩, Tch.refl _ _⟩
    case round =>
      obtain ⟨q, rfl, hq, HX, hTr⟩ := hrel
      by_cases hlt : q < R.length
      · have hlt' : (q : Int) < (R.length : Int) := by omega
        obtain ⟨gx, rfl⟩ := hpx (by omega)
        obtain ⟨l', hl', hx'⟩ := HX.out
        have hql : q < l'.length := by omega
        have hcx := own_cellB hx' hql
        obtain ⟨y, hy⟩ := xor_byte ((l'.getD q 0 : Nat) : Int)
        have HY := Lib.hid hy
        have HX2 := Lib.hid hx'
        have HLL := Lib.hid hl'
        clear hy hx' HX hl'
        generalize l'.getD q 0 = xq at *
        go_wp2_with (first
          | (refine st_x (v := .pointer (some ⟨gx, q, none⟩)) rfl (by have h := x_idxB (w := wr) (.tmp 123) (.tmp 124) rfl rfl rfl hlt; rwa [Nat.zero_add] at h) ?_)
          | (refine st_x (v := .int .u8 (xq : Int)) rfl (x_cell 5 (.tmp 125) rfl rfl hcx u8_agg) ?_)
          | (refine st_x (v := .int .u8 (y : Int)) rfl (x_xorI (.tmp 126) rfl rfl HY.out) ?_)
          | (refine st_x (v := .pointer (some ⟨gx, q, none⟩)) rfl (by have h := x_idxB (w := wr) (.tmp 121) (.tmp 122) rfl rfl rfl hlt; rwa [Nat.zero_add] at h) ?_)
          | (refine st_stB' (x := y) (k := q) HX2.out hql rfl (.tmp 128) (.tmp 127) rfl rfl rfl ?_; intro wS hOS hS'; have HS' := Lib.hid hS'; clear hS'))
        go_roundw
        case rel => exact ⟨q + 1, by go_num, hlt, Lib.hid ⟨_, by rw [List.length_set]; exact HLL.out, HS'.out⟩, hTr.trans hOS.tch⟩
        case measure => simp [intOf]; omega
      · obtain rfl : q = R.length := by omega
        clear HX
        have HQ5 := Lib.hid (HQ4.out.far hTr (fun x hx => Nat.le_trans HQ2.out.T.size (HU.out x hx)) (fun x hx hm => by have h1 := HU.out x hm; have h2 := (HQ2.out.m.lt hx).2; omega) (fun x hx hm => by have h1 := HU.out x hm; have h2 := (HQ2.out.r.lt hx).2; omega) (fun x hx hm => by have h1 := HU.out x hm; have h2 := (HQ2.out.s.lt hx).2; omega) (fun x hx hm => by have h1 := HU.out x hm; have h2 := (HQ2.out.t.lt hx).2; omega))
        clear hTr
        go_wp2
        go_ret
        exact StepP.mk rfl HQ5.out HKL.out.1 HKL.out.2.1 HKL.out.2.2.1 HKL.out.2.2.2.1 HKL.out.2.2.2.2
  · clear h1
    have H9 := Lib.hid (fun w' (h : Tch [] w1 w') => h.blk HB9.out (by simp))
    try simp only [Act.put, List.setIfInBounds_toArray, List.set_cons_zero, List.set_cons_succ]
    refine k_seq (C := fun w' => Tch [] w1 w') (Tch.refl _ _) ?_
    refine k_faI rfl rfl rfl (fun w' => (fa_act b9 w').2.2.1) ?_; try simp only [Act.put, List.setIfInBounds_toArray, List.set_cons_zero, List.set_cons_succ]
    refine k_cellC (b := b9) (j := 2) (v := .int .i64 j) rfl _ _ rfl rfl (fun w' h => (H9.out w' h).cell e2) int_aggI ?_; try simp only [Act.put, List.setIfInBounds_toArray, List.set_cons_zero, List.set_cons_succ]
    refine k_gtr (m := j) (n := 5000) (t := false) rfl _ _ _ rfl rfl rfl (decide_eq_false (by omega)) ?_; try simp only [Act.put, List.setIfInBounds_toArray, List.set_cons_zero, List.set_cons_succ]
    refine k_val (v := .bool false) rfl _ (.inl rfl) rfl ?_; try simp only [Act.put, List.setIfInBounds_toArray, List.set_cons_zero, List.set_cons_succ]
    refine k_skip rfl rfl rfl rfl rfl ?_; try simp only [Act.put, List.setIfInBounds_toArray, List.set_cons_zero, List.set_cons_succ]
    refine k_skip rfl rfl rfl rfl rfl ?_; try simp only [Act.put, List.setIfInBounds_toArray, List.set_cons_zero, List.set_cons_succ]
    refine k_skip rfl rfl rfl rfl rfl ?_; try simp only [Act.put, List.setIfInBounds_toArray, List.set_cons_zero, List.set_cons_succ]
    refine k_pickF (t := false) rfl _ _ _ rfl rfl rfl ?_; try simp only [Act.put, List.setIfInBounds_toArray, List.set_cons_zero, List.set_cons_succ]
    refine k_end ?_
    intro w2 hT2
    have HQ2 := Lib.hid (HQ1.out.call hT2)
    have HB2 := Lib.hid (hT2.blk HB9.out (by simp))
    have hRl : (getL L i j).length ≤ 5000 := by
      unfold getL
      split
      · simp
      · rw [cutL_len]; omega
    have hRlt : ∀ x ∈ getL L i j, x < 256 := by
      unfold getL
      split
      · simp
      · exact cutL_lt HKL.out.2.2.1 _ _
    have hp := fun w' (h : MemIn w0.heap.size 26 w' bm vm L) => get_any w0.heap.size bm vm L i j w' h HKL.out.2.2.1 HI.out
    have hr := fun w' (h : MemIn w0.heap.size 32 w' br vr L) => rget_any w0.heap.size br vr L i j w' h HKL.out.2.2.1 HI.out
    have HP := Lib.hid hp
    have HR := Lib.hid hr
    have HLT := Lib.hid hRlt
    clear hp hr hRlt
    generalize getL L i j = R at *
    go_upto_region 21 with (first
      | (refine st_x (v := .int .i64 i) rfl (x_cell 3 (.tmp 99) rfl rfl (HB2.out.cell e1) int_aggI) ?_)
      | (refine st_x (v := .int .i64 j) rfl (x_cell 3 (.tmp 101) rfl rfl (HB2.out.cell e2) int_aggI) ?_)
      | (go_at_call 15; go_must (refine (HP.out _ HQ2.out.m).mono ?_; rintro e w3 ⟨u, rfl, hO3, hT3⟩; have HQ3 := Lib.hid (HQ2.out.call hT3); have HB3 := Lib.hid (hT3.blk HB2.out (by simp)); have HO3 := Lib.hid hO3; clear hO3))
      | (refine st_x (v := .int .i64 i) rfl (x_cell 3 (.tmp 105) rfl rfl (HB3.out.cell e1) int_aggI) ?_)
      | (refine st_x (v := .int .i64 j) rfl (x_cell 3 (.tmp 107) rfl rfl (HB3.out.cell e2) int_aggI) ?_)
      | (go_at_call 26; go_must (refine (HR.out _ HQ3.out.r).mono ?_; rintro e w4 ⟨u2, rfl, hO4, hT4⟩; have HQ4 := Lib.hid (HQ3.out.call hT4); have HO4 := Lib.hid (And.intro (own_far HO3.out hT4 (by simp)) hO4); clear hO4))
      | (refine st_x (v := .string (strB R)) rfl (x_convB (.tmp 110) rfl rfl (RdB.own HO4.out.1 HLT.out)) ?_)
      | (refine st_x (v := .string (strB R)) rfl (x_convB (.tmp 112) rfl rfl (RdB.own HO4.out.2 HLT.out)) ?_)
      | (refine st_x (v := .bool true) rfl (x_strS (.tmp 111) (.tmp 113) _ rfl rfl rfl) ?_))
    have HU := Lib.hid (show (∀ x ∈ u.ownBlock.toList, w2.heap.size ≤ x) from fun x hx => (HO3.out.lt x (by simpa using hx)).1)
    have HO5 := Lib.hid HO4.out.1
    clear HO3 HO4
    obtain ⟨px, cx, rfl, hlx, hpx⟩ := own_sliceB HO5.out
    go_loopw [21] (fun i wr => ∃ (q : Nat), i = .int .i64 (q : Int) ∧ q ≤ R.length ∧ Hid (∃ l', l'.length = R.length ∧ wr.ownsRow w2.heap.size 5 1 (.slice px R.length cx) l'.length (nb l')) ∧ Tch (Value.ownBlock (.slice px R.length cx)).toList w4 wr) (fun i _ => R.length - (intOf i).toNat)
    case atStart => exact ⟨0, rfl, Nat.zero_le _, Lib.hid ⟨R, rfl, HO5.out⟩, Tch.refl _ _⟩
    case round =>
      obtain ⟨q, rfl, hq, HX, hTr⟩ := hrel
      by_cases hlt : q < R.length
      · have hlt' : (q : Int) < (R.length : Int) := by omega
        obtain ⟨gx, rfl⟩ := hpx (by omega)
        obtain ⟨l', hl', hx'⟩ := HX.out
        have hql : q < l'.length := by omega
        have hcx := own_cellB hx' hql
        obtain ⟨y, hy⟩ := xor_byte ((l'.getD q 0 : Nat) : Int)
        have HY := Lib.hid hy
        have HX2 := Lib.hid hx'
        have HLL := Lib.hid hl'
        clear hy hx' HX hl'
        generalize l'.getD q 0 = xq at *
        go_wp2_with (first
          | (refine st_x (v := .pointer (some ⟨gx, q, none⟩)) rfl (by have h := x_idxB (w := wr) (.tmp 123) (.tmp 124) rfl rfl rfl hlt; rwa [Nat.zero_add] at h) ?_)
          | (refine st_x (v := .int .u8 (xq : Int)) rfl (x_cell 5 (.tmp 125) rfl rfl hcx u8_agg) ?_)
          | (refine st_x (v := .int .u8 (y : Int)) rfl (x_xorI (.tmp 126) rfl rfl HY.out) ?_)
          | (refine st_x (v := .pointer (some ⟨gx, q, none⟩)) rfl (by have h := x_idxB (w := wr) (.tmp 121) (.tmp 122) rfl rfl rfl hlt; rwa [Nat.zero_add] at h) ?_)
          | (refine st_stB' (x := y) (k := q) HX2.out hql rfl (.tmp 128) (.tmp 127) rfl rfl rfl ?_; intro wS hOS hS'; have HS' := Lib.hid hS'; clear hS'))
        go_roundw
        case rel => exact ⟨q + 1, by go_num, hlt, Lib.hid ⟨_, by rw [List.length_set]; exact HLL.out, HS'.out⟩, hTr.trans hOS.tch⟩
        case measure => simp [intOf]; omega
      · obtain rfl : q = R.length := by omega
        clear HX
        have HQ5 := Lib.hid (HQ4.out.far hTr (fun x hx => Nat.le_trans HQ2.out.T.size (HU.out x hx)) (fun x hx hm => by have h1 := HU.out x hm; have h2 := (HQ2.out.m.lt hx).2; omega) (fun x hx hm => by have h1 := HU.out x hm; have h2 := (HQ2.out.r.lt hx).2; omega) (fun x hx hm => by have h1 := HU.out x hm; have h2 := (HQ2.out.s.lt hx).2; omega) (fun x hx hm => by have h1 := HU.out x hm; have h2 := (HQ2.out.t.lt hx).2; omega))
        clear hTr
        go_wp2
        go_ret
        exact StepP.mk rfl HQ5.out HKL.out.1 HKL.out.2.1 HKL.out.2.2.1 HKL.out.2.2.2.1 HKL.out.2.2.2.2
end Go.Proofs.Ytlliidfkjlmadaa
