/- A call told to both (Swap). -/
import Derived.Test.YtlliidfkjlmadaaIP5
set_option linter.unusedVariables false
set_option linter.unusedSimpArgs false
namespace Go.Proofs.Ytlliidfkjlmadaa
open Go.RowKit
set_option maxRecDepth 100000
set_option maxHeartbeats 20000000

theorem step6_any {w0 w : World} {bm br bs bt : Nat} {vm vr vs vt : Value} {L : List Nat} {Ws : List (List Nat)} {k : Nat} (HQ : Quad w0 w bm br bs bt vm vr vs vt L L Ws Ws) (hk : L.length = 32 * k) (hk2 : k ≤ 32768) (hL : ∀ x ∈ L, x < 256) (hWl : Ws.length ≤ 1024) (hW : ∀ W ∈ Ws, Wd W)
    (i j : Int) (A N M : List Nat) (vb : Value) (hi : -9223372036854775808 ≤ i ∧ i ≤ 9223372036854775807) (hj : -9223372036854775808 ≤ j ∧ j ≤ 9223372036854775807) (hA : Wd A) (hN : Wd N) (hvb : RdB w0 vb M) (hM : M.length ≤ 500) :
    Calls Try.prog 9 #[.pointer (some ⟨bm, 0, none⟩), .pointer (some ⟨br, 0, none⟩), .pointer (some ⟨bs, 0, none⟩), .pointer (some ⟨bt, 0, none⟩), .agg (actC 6 i j A N vb)] w (StepP w0 bm br bs bt) := by
  have HH := Lib.hid HQ
  have HKL := Lib.hid (And.intro hk (And.intro hk2 (And.intro hL (And.intro hWl hW))))
  have HI := Lib.hid hi
  have HJ := Lib.hid hj
  have hS := St.start w
  have hsz := actC_size 6 i j A N vb
  have e0 := actC_0 6 i j A N vb
  have e1 := actC_1 6 i j A N vb
  have e2 := actC_2 6 i j A N vb
  have eb := actC_b 6 i j A N vb
  have HRA := Lib.hid (fun w' b t h => act_range_at (w := w') (b := b) (t := t) (way := 6) (i := i) (j := j) (A := A) (N := N) (vb := vb) h)
  have HRN := Lib.hid (fun w' b t h => act_range_n (w := w') (b := b) (t := t) (way := 6) (i := i) (j := j) (A := A) (N := N) (vb := vb) h)
  clear HQ hk hk2 hL hWl hW hi hj
  generalize actC 6 i j A N vb = ca at *
  go_enter Try.func9, Try.ntmps9
  go_upto_region 34 with (first
    | (refine st_box hS rfl 39 _ rfl rfl ?_; clear hS; intro w1 b9 hS)
    | (refine st_cell1 (v := .int .i64 6) hS rfl 3 _ rfl rfl .head e0 int_aggI ?_))
  have hb9 : w.heap.size ≤ b9 := (hS.own .head).elim id (fun h => by simp at h)
  have hB9 := hS.get .head
  have HQ1 := Lib.hid (HH.out.call hS.frame)
  have HL9 := Lib.hid (show (∀ x ∈ fpr bm vm, x < b9) ∧ (∀ x ∈ fpr br vr, x < b9) ∧ (∀ x ∈ fpr bs vs, x < b9) ∧ (∀ x ∈ fpr bt vt, x < b9) from ⟨fun x hx => Nat.lt_of_lt_of_le (HH.out.m.lt hx).2 hb9, fun x hx => Nat.lt_of_lt_of_le (HH.out.r.lt hx).2 hb9, fun x hx => Nat.lt_of_lt_of_le (HH.out.s.lt hx).2 hb9, fun x hx => Nat.lt_of_lt_of_le (HH.out.t.lt hx).2 hb9⟩)
  have HB9 := Lib.hid hB9
  clear HH hS hB9
  have hp := fun w' (h : StkIn w0.heap.size 29 w' bs vs Ws) => swap_any w0.heap.size bs vs Ws i w' h HKL.out.2.2.2.1 HI.out
  have hr := fun w' (h : StkIn w0.heap.size 35 w' bt vt Ws) => rswap_any w0.heap.size bt vt Ws i w' h HKL.out.2.2.2.1 HI.out
  have HFL := Lib.hid (swapL_ok HKL.out.2.2.2.1 HKL.out.2.2.2.2 i)
  have HP := Lib.hid hp
  have HR := Lib.hid hr
  have hcA : (wv A).size = 32 := bc_size _ _
  clear hp hr
  generalize swapL Ws i = Ws' at *
  generalize swapOk Ws i = ok at *
  have H9 := Lib.hid (fun w' (h : Tch (fpr bs vs ++ fpr bt vt) w1 w') => h.blk HB9.out (fun hm => by
    rcases List.mem_append.1 hm with hm | hm
    · exact Nat.lt_irrefl _ (HL9.out.2.2.1 _ hm)
    · exact Nat.lt_irrefl _ (HL9.out.2.2.2 _ hm)))
  try simp only [Act.put, List.setIfInBounds_toArray, List.set_cons_zero, List.set_cons_succ]
  refine wp_region_held_drew (S := fun w' => Tch (fpr bs vs ++ fpr bt vt) w1 w') (by kernel_rfl) ((Tch.refl _ _).drew) (fun hC => ?_)
  have hD0 : Tch [] w1 w1.drew := (Tch.refl [] w1).drew
  generalize World.drew w1 = u0 at hC hD0 ⊢
  refine held_in (v := (.pointer (some ⟨bs, 0, none⟩))) 0 rfl (by kernel_rfl) (by kernel_rfl) (by kernel_rfl) (fun _ _ _ h => h) hC rfl (fun w' hw' => x_val _ (.inl rfl) rfl) ?_
  try simp only [Act.put, List.setIfInBounds_toArray, List.set_cons_zero, List.set_cons_succ]
  refine held_in (v := (.pointer (some ⟨b9, 1, none⟩))) 1 rfl (by kernel_rfl) (by kernel_rfl) (by kernel_rfl) (fun _ _ _ h => h) hC rfl (fun w' hw' => x_fa _ _ _ rfl rfl (fa_act _ _).2.1) ?_
  try simp only [Act.put, List.setIfInBounds_toArray, List.set_cons_zero, List.set_cons_succ]
  refine held_in (v := (.int .i64 i)) 2 rfl (by kernel_rfl) (by kernel_rfl) (by kernel_rfl) (fun _ _ _ h => h) hC rfl (fun w' hw' => x_cell _ _ rfl rfl ((H9.out w' hw').cell e1) int_aggI) ?_
  try simp only [Act.put, List.setIfInBounds_toArray, List.set_cons_zero, List.set_cons_succ]
  refine held_in (v := (.pointer (some ⟨bt, 0, none⟩))) 4 rfl (by kernel_rfl) (by kernel_rfl) (by kernel_rfl) (fun _ _ _ h => h) hC rfl (fun w' hw' => x_val _ (.inl rfl) rfl) ?_
  try simp only [Act.put, List.setIfInBounds_toArray, List.set_cons_zero, List.set_cons_succ]
  refine held_in (v := (.pointer (some ⟨b9, 1, none⟩))) 5 rfl (by kernel_rfl) (by kernel_rfl) (by kernel_rfl) (fun _ _ _ h => h) hC rfl (fun w' hw' => x_fa _ _ _ rfl rfl (fa_act _ _).2.1) ?_
  try simp only [Act.put, List.setIfInBounds_toArray, List.set_cons_zero, List.set_cons_succ]
  refine held_in (v := (.int .i64 i)) 6 rfl (by kernel_rfl) (by kernel_rfl) (by kernel_rfl) (fun _ _ _ h => h) hC rfl (fun w' hw' => x_cell _ _ rfl rfl ((H9.out w' hw').cell e1) int_aggI) ?_
  try simp only [Act.put, List.setIfInBounds_toArray, List.set_cons_zero, List.set_cons_succ]
  have HQ2 := Lib.hid (HQ1.out.call hD0)
  refine held_one 3 (by kernel_rfl) ?_
  refine held_call2I (v1 := .pointer (some ⟨bs, 0, none⟩)) (v2 := .int .i64 i) rfl rfl rfl (by rfl) (by rfl) Try.call23 (HP.out u0 HQ2.out.s) ?_
  rintro e u1 ⟨vs1, rfl, hM1, hT1⟩
  have hC1 : Tch (fpr bs vs ++ fpr bt vt) w1 u1 := hC.trans (hT1.tch.mono (fun x hx => .inl (List.mem_append_left _ hx)))
  have HQ3 := Lib.hid (HQ2.out.turnS hM1 hT1)
  clear hM1 hT1
  refine ⟨_, rfl, hC1, ?_⟩
  try simp only [Act.put, List.setIfInBounds_toArray, List.set_cons_zero, List.set_cons_succ]
  refine held_one 7 (by kernel_rfl) ?_
  refine held_call2I (v1 := .pointer (some ⟨bt, 0, none⟩)) (v2 := .int .i64 i) rfl rfl rfl (by rfl) (by rfl) Try.call29 (HR.out u1 HQ3.out.t) ?_
  rintro e u2 ⟨vt2, rfl, hM2, hT2⟩
  have hC2 : Tch (fpr bs vs ++ fpr bt vt) w1 u2 := hC1.trans (hT2.tch.mono (fun x hx => .inl (List.mem_append_right _ hx)))
  have HQ4 := Lib.hid (HQ3.out.turnT hM2 hT2)
  clear hM2 hT2
  refine ⟨_, rfl, hC2, ?_⟩
  try simp only [Act.put, List.setIfInBounds_toArray, List.set_cons_zero, List.set_cons_succ]
  refine held_in (v := (.bool true)) 8 rfl (by kernel_rfl) (by kernel_rfl) (by kernel_rfl) (fun _ _ _ h => h) hC2 rfl (fun w' hw' => x_boolsE _ _ _ rfl rfl rfl) ?_
  try simp only [Act.put, List.setIfInBounds_toArray, List.set_cons_zero, List.set_cons_succ]
  refine held_in (v := (.bool true)) 9 rfl (by kernel_rfl) (by kernel_rfl) (by kernel_rfl) (fun _ _ _ h => h) hC2 rfl (fun w' hw' => x_val _ (.inr rfl) rfl) ?_
  try simp only [Act.put, List.setIfInBounds_toArray, List.set_cons_zero, List.set_cons_succ]
  refine wpAnyH_done (by kernel_rfl) ?_ _
  clear hC hC1 hC2
  go_wp2
  go_ret
  exact StepP.mk rfl HQ4.out HKL.out.1 HKL.out.2.1 HKL.out.2.2.1 HFL.out.1 HFL.out.2
end Go.Proofs.Ytlliidfkjlmadaa
