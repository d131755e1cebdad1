/- A call told to both (Pop). -/
import Derived.Test.YtlliidfkjlmadaaIP5
set_option linter.unusedVariables false
set_option linter.unusedSimpArgs false
namespace Go.Proofs.Ytlliidfkjlmadaa
open Go.RowKit
set_option maxRecDepth 100000
set_option maxHeartbeats 20000000
theorem popL_ok {Ws : List (List Nat)} (hl : Ws.length ≤ 1024) (hW : ∀ W ∈ Ws, Wd W) (i : Int) : (popL Ws i).length ≤ 1024 ∧ ∀ W ∈ popL Ws i, Wd W := by
  unfold popL
  split
  · exact ⟨by rw [List.length_take]; omega, fun W hm => hW W (List.mem_of_mem_take hm)⟩
  · exact ⟨hl, hW⟩
theorem popOut_ok {Ws : List (List Nat)} (hl : Ws.length ≤ 1024) (hW : ∀ W ∈ Ws, Wd W) (i : Int) : (popOut Ws i).length ≤ 1024 ∧ ∀ W ∈ popOut Ws i, Wd W := by
  unfold popOut
  split
  · rename_i h
    refine ⟨by rw [outL_len]; omega, fun W hm => ?_⟩
    obtain ⟨k, hk, rfl⟩ := List.mem_map.1 hm
    exact getD_ok hW (by have := List.mem_range.1 hk; omega)
  · exact ⟨by simp, by simp⟩

theorem step4_any {w0 w : World} {bm br bs bt : Nat} {vm vr vs vt : Value} {L : List Nat} {Ws : List (List Nat)} {k : Nat} (HQ : Quad w0 w bm br bs bt vm vr vs vt L L Ws Ws) (hk : L.length = 32 * k) (hk2 : k ≤ 32768) (hL : ∀ x ∈ L, x < 256) (hWl : Ws.length ≤ 1024) (hW : ∀ W ∈ Ws, Wd W)
    (i j : Int) (A N M : List Nat) (vb : Value) (hi : -9223372036854775808 ≤ i ∧ i ≤ 9223372036854775807) (hj : -9223372036854775808 ≤ j ∧ j ≤ 9223372036854775807) (hA : Wd A) (hN : Wd N) (hvb : RdB w0 vb M) (hM : M.length ≤ 500) :
    Calls Try.prog 9 #[.pointer (some ⟨bm, 0, none⟩), .pointer (some ⟨br, 0, none⟩), .pointer (some ⟨bs, 0, none⟩), .pointer (some ⟨bt, 0, none⟩), .agg (actC 4 i j A N vb)] w (StepP w0 bm br bs bt) := by
  have HH := Lib.hid HQ
  have HKL := Lib.hid (And.intro hk (And.intro hk2 (And.intro hL (And.intro hWl hW))))
  have HI := Lib.hid hi
  have HJ := Lib.hid hj
  have hS := St.start w
  have hsz := actC_size 4 i j A N vb
  have e0 := actC_0 4 i j A N vb
  have e1 := actC_1 4 i j A N vb
  have e2 := actC_2 4 i j A N vb
  have eb := actC_b 4 i j A N vb
  have HRA := Lib.hid (fun w' b t h => act_range_at (w := w') (b := b) (t := t) (way := 4) (i := i) (j := j) (A := A) (N := N) (vb := vb) h)
  have HRN := Lib.hid (fun w' b t h => act_range_n (w := w') (b := b) (t := t) (way := 4) (i := i) (j := j) (A := A) (N := N) (vb := vb) h)
  clear HQ hk hk2 hL hWl hW hi hj
  generalize actC 4 i j A N vb = ca at *
  go_enter Try.func9, Try.ntmps9
  go_upto_region 28 with (first
    | (refine st_box hS rfl 39 _ rfl rfl ?_; clear hS; intro w1 b9 hS)
    | (refine st_cell1 (v := .int .i64 4) hS rfl 3 _ rfl rfl .head e0 int_aggI ?_))
  have hb9 : w.heap.size ≤ b9 := (hS.own .head).elim id (fun h => by simp at h)
  have hB9 := hS.get .head
  have HQ1 := Lib.hid (HH.out.call hS.frame)
  have HL9 := Lib.hid (show (∀ x ∈ fpr bm vm, x < b9) ∧ (∀ x ∈ fpr br vr, x < b9) ∧ (∀ x ∈ fpr bs vs, x < b9) ∧ (∀ x ∈ fpr bt vt, x < b9) from ⟨fun x hx => Nat.lt_of_lt_of_le (HH.out.m.lt hx).2 hb9, fun x hx => Nat.lt_of_lt_of_le (HH.out.r.lt hx).2 hb9, fun x hx => Nat.lt_of_lt_of_le (HH.out.s.lt hx).2 hb9, fun x hx => Nat.lt_of_lt_of_le (HH.out.t.lt hx).2 hb9⟩)
  have HB9 := Lib.hid hB9
  clear HH hS hB9
  have hp := fun w' (h : StkIn w0.heap.size 29 w' bs vs Ws) => pop_any w0.heap.size bs vs Ws i w' h HKL.out.2.2.2.1 HI.out
  have hr := fun w' (h : StkIn w0.heap.size 35 w' bt vt Ws) => rpop_any w0.heap.size bt vt Ws i w' h HKL.out.2.2.2.1 HI.out
  have HFL := Lib.hid (popL_ok HKL.out.2.2.2.1 HKL.out.2.2.2.2 i)
  have HOL := Lib.hid (popOut_ok HKL.out.2.2.2.1 HKL.out.2.2.2.2 i)
  have HP := Lib.hid hp
  have HR := Lib.hid hr
  clear hp hr
  generalize popL Ws i = Ws' at *
  generalize popOut Ws i = Os at *
  generalize popOk Ws i = ok at *
  go_upto_region 30 with (first
    | (refine st_x (v := .int .i64 i) rfl (x_cell 3 (.tmp 145) rfl rfl (HB9.out.cell e1) int_aggI) ?_)
    | (go_at_call 12; go_must (refine (HP.out _ HQ1.out.s).mono ?_; rintro e w2 ⟨vo, vs2, rfl, hO2, hM2, hT2⟩; have HQ2 := Lib.hid (HQ1.out.turnS hM2 hT2); have HB2 := Lib.hid (hT2.tch.blk HB9.out (fun hm => Nat.lt_irrefl _ (HL9.out.2.2.1 _ hm))); have HO2 := Lib.hid hO2; have hsz2 := hT2.tch.size; clear hM2 hT2 hO2))
    | (refine st_x (v := .int .i64 i) rfl (x_cell 3 (.tmp 152) rfl rfl (HB2.out.cell e1) int_aggI) ?_)
    | (go_at_call 13; go_must (refine (HR.out _ HQ2.out.t).mono ?_; rintro e w3 ⟨vo2, vt3, rfl, hO3, hM3, hT3⟩; have HQ3 := Lib.hid (HQ2.out.turnT hM3 hT3); have HO3 := Lib.hid (And.intro (own_far HO2.out hT3.tch (fun q hq hm => absurd (Nat.lt_of_lt_of_le (HQ1.out.t.lt hm).2 (HO2.out.lt q hq).1) (Nat.lt_irrefl _))) hO3); clear hM3 hT3 hO3)))
  have HS := Lib.hid (fun w' (h : Tch [] w3 w') => sameWords_any vo vo2 Os _ _ w' (own_far HO3.out.1 h (by simp)) (own_far HO3.out.2 h (by simp)) HOL.out.2 (by have := HOL.out.1; omega))
  try simp only [Act.put, List.setIfInBounds_toArray, List.set_cons_zero, List.set_cons_succ]
  refine k_seq (C := fun w' => Tch [] w3 w') (Tch.refl _ _) ?_
  refine k_val (v := .bool ok) rfl _ (.inl rfl) rfl ?_; try simp only [Act.put, List.setIfInBounds_toArray, List.set_cons_zero, List.set_cons_succ]
  refine k_val (v := .bool ok) rfl _ (.inl rfl) rfl ?_; try simp only [Act.put, List.setIfInBounds_toArray, List.set_cons_zero, List.set_cons_succ]
  refine k_boolsS (s := ok) rfl _ _ _ rfl rfl rfl ?_; try simp only [Act.put, List.setIfInBounds_toArray, List.set_cons_zero, List.set_cons_succ]
  refine k_val (v := .bool true) rfl _ (.inl rfl) rfl ?_; try simp only [Act.put, List.setIfInBounds_toArray, List.set_cons_zero, List.set_cons_succ]
  refine k_val (v := vo) rfl _ (.inl rfl) rfl ?_; try simp only [Act.put, List.setIfInBounds_toArray, List.set_cons_zero, List.set_cons_succ]
  refine k_val (v := vo2) rfl _ (.inl rfl) rfl ?_; try simp only [Act.put, List.setIfInBounds_toArray, List.set_cons_zero, List.set_cons_succ]
  refine k_callC2 (v := .bool true) rfl rfl rfl rfl Try.call14 (fun w' h => (HS.out w' h).mono (fun e w'' q => ⟨q.1, h.trans q.2⟩)) ?_; try simp only [Act.put, List.setIfInBounds_toArray, List.set_cons_zero, List.set_cons_succ]
  refine k_pickT (t := true) rfl _ _ _ rfl rfl rfl ?_; try simp only [Act.put, List.setIfInBounds_toArray, List.set_cons_zero, List.set_cons_succ]
  refine k_val (v := .bool true) rfl _ (.inr rfl) rfl ?_; try simp only [Act.put, List.setIfInBounds_toArray, List.set_cons_zero, List.set_cons_succ]
  refine k_end ?_
  intro w4 hT4
  go_wp2
  go_ret
  exact StepP.mk rfl (HQ3.out.call hT4) HKL.out.1 HKL.out.2.1 HKL.out.2.2.1 HFL.out.1 HFL.out.2
end Go.Proofs.Ytlliidfkjlmadaa
