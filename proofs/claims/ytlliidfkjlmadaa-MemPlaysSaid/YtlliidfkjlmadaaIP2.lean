/- A call told to both (Grow). -/
import Derived.Test.YtlliidfkjlmadaaIP1
set_option linter.unusedVariables false
set_option linter.unusedSimpArgs false
namespace Go.Proofs.Ytlliidfkjlmadaa
open Go.RowKit
set_option maxRecDepth 100000
set_option maxHeartbeats 20000000

theorem step0_any {w0 w : World} {bm br bs bt : Nat} {vm vr vs vt : Value} {L : List Nat} {Ws : List (List Nat)} {k : Nat} (HQ : Quad w0 w bm br bs bt vm vr vs vt L L Ws Ws) (hk : L.length = 32 * k) (hk2 : k ≤ 32768) (hL : ∀ x ∈ L, x < 256) (hWl : Ws.length ≤ 1024) (hW : ∀ W ∈ Ws, Wd W)
    (i j : Int) (A N M : List Nat) (vb : Value) (hi : -9223372036854775808 ≤ i ∧ i ≤ 9223372036854775807) (hj : -9223372036854775808 ≤ j ∧ j ≤ 9223372036854775807) (hA : Wd A) (hN : Wd N) (hvb : RdB w0 vb M) (hM : M.length ≤ 500) :
    Calls Try.prog 9 #[.pointer (some ⟨bm, 0, none⟩), .pointer (some ⟨br, 0, none⟩), .pointer (some ⟨bs, 0, none⟩), .pointer (some ⟨bt, 0, none⟩), .agg (actC 0 i j A N vb)] w (StepP w0 bm br bs bt) := by
  have HH := Lib.hid HQ
  have HKL := Lib.hid (And.intro hk (And.intro hk2 (And.intro hL (And.intro hWl hW))))
  have HI := Lib.hid hi
  have HJ := Lib.hid hj
  have hS := St.start w
  have hsz := actC_size 0 i j A N vb
  have e0 := actC_0 0 i j A N vb
  have e1 := actC_1 0 i j A N vb
  have e2 := actC_2 0 i j A N vb
  have eb := actC_b 0 i j A N vb
  have HRA := Lib.hid (fun w' b t h => act_range_at (w := w') (b := b) (t := t) (way := 0) (i := i) (j := j) (A := A) (N := N) (vb := vb) h)
  have HRN := Lib.hid (fun w' b t h => act_range_n (w := w') (b := b) (t := t) (way := 0) (i := i) (j := j) (A := A) (N := N) (vb := vb) h)
  clear HQ hk hk2 hL hWl hW hi hj
  generalize actC 0 i j A N vb = ca at *
  go_enter Try.func9, Try.ntmps9
  go_upto_region 3 with (first
    | (refine st_box hS rfl 39 _ rfl rfl ?_; clear hS; intro w1 b9 hS)
    | (refine st_cell1 (v := .int .i64 0) hS rfl 3 _ rfl rfl .head e0 int_aggI ?_))
  have hb9 : w.heap.size ≤ b9 := (hS.own .head).elim id (fun h => by simp at h)
  have hB9 := hS.get .head
  have HQ1 := Lib.hid (HH.out.call hS.frame)
  have HL9 := Lib.hid (show (∀ x ∈ fpr bm vm, x < b9) ∧ (∀ x ∈ fpr br vr, x < b9) ∧ (∀ x ∈ fpr bs vs, x < b9) ∧ (∀ x ∈ fpr bt vt, x < b9) from ⟨fun x hx => Nat.lt_of_lt_of_le (HH.out.m.lt hx).2 hb9, fun x hx => Nat.lt_of_lt_of_le (HH.out.r.lt hx).2 hb9, fun x hx => Nat.lt_of_lt_of_le (HH.out.s.lt hx).2 hb9, fun x hx => Nat.lt_of_lt_of_le (HH.out.t.lt hx).2 hb9⟩)
  have HB9 := Lib.hid hB9
  clear HH hS hB9
  have hg := fun w' (h : MemIn w0.heap.size 26 w' bm vm L) => grow_any w0.heap.size bm vm L A N w' h (by have := HKL.out.1; have := HKL.out.2.1; omega) hA hN
  have hr := fun w' (h : MemIn w0.heap.size 32 w' br vr L) => rgrow_any w0.heap.size br vr L A N k w' h HKL.out.1 HKL.out.2.1 hA hN
  obtain ⟨k', hl1, hl2⟩ := growL_len (L := L) (A := A) (N := N) HKL.out.1 HKL.out.2.1
  have hl3 : ∀ x ∈ growL L A N, x < 256 := by
    unfold growL
    split
    · exact HKL.out.2.2.1
    · split
      · exact HKL.out.2.2.1
      · intro x hx
        rcases List.mem_append.1 hx with hx | hx
        · exact HKL.out.2.2.1 x hx
        · rw [List.eq_of_mem_replicate hx]; decide
  have HG := Lib.hid hg
  have HR := Lib.hid hr
  have HE := Lib.hid (And.intro hl1 (And.intro hl2 hl3))
  have hcA : (wv A).size = 32 := bc_size _ _
  have hcN : (wv N).size = 32 := bc_size _ _
  clear hg hr hl1 hl2 hl3 hA hN
  generalize growL L A N = L' at *
  generalize growG L A N = gg at *
  generalize growOk A N = ok at *
  generalize wv A = cA at *
  generalize wv N = cN at *
  go_upto_region 5 with (first
    | (refine st_x (v := .agg cA) rfl (x_ldAt' (q := 3) (.tmp 32) rfl rfl (HRA.out _ _ _ HB9.out) hcA) ?_)
    | (refine st_x (v := .agg cN) rfl (x_ldAt' (q := 35) (.tmp 34) rfl rfl (HRN.out _ _ _ HB9.out) hcN) ?_)
    | (go_at_call 16; go_must (refine (HG.out _ HQ1.out.m).mono ?_; rintro e w2 ⟨vm2, rfl, hM2, hT2⟩; have HQ2 := Lib.hid (HQ1.out.turnM hM2 hT2); have HB2 := Lib.hid (hT2.tch.blk HB9.out (fun hm => Nat.lt_irrefl _ (HL9.out.1 _ hm))); clear hM2 hT2))
    | (refine st_x (v := .agg cA) rfl (x_ldAt' (q := 3) (.tmp 41) rfl rfl (HRA.out _ _ _ HB2.out) hcA) ?_)
    | (refine st_x (v := .agg cN) rfl (x_ldAt' (q := 35) (.tmp 43) rfl rfl (HRN.out _ _ _ HB2.out) hcN) ?_)
    | (go_at_call 24; go_must (refine (HR.out _ HQ2.out.r).mono ?_; rintro e w3 ⟨vr3, rfl, hM3, hT3⟩; have HQ3 := Lib.hid (HQ2.out.turnR hM3 hT3); clear hM3 hT3)))
  try simp only [Act.put, List.setIfInBounds_toArray, List.set_cons_zero, List.set_cons_succ]
  refine k_seq (C := fun w' => Tch [] w3 w') (Tch.refl _ _) ?_
  refine k_val (v := .int .i64 (gg : Int)) rfl _ (.inl rfl) rfl ?_; try simp only [Act.put, List.setIfInBounds_toArray, List.set_cons_zero, List.set_cons_succ]
  refine k_val (v := .int .i64 (gg : Int)) rfl _ (.inl rfl) rfl ?_; try simp only [Act.put, List.setIfInBounds_toArray, List.set_cons_zero, List.set_cons_succ]
  refine k_eqlI (m := (gg : Int)) (n := (gg : Int)) (t := true) rfl _ _ _ rfl rfl rfl (decide_eq_true rfl) ?_; try simp only [Act.put, List.setIfInBounds_toArray, List.set_cons_zero, List.set_cons_succ]
  refine k_val (v := .bool true) rfl _ (.inl rfl) rfl ?_; try simp only [Act.put, List.setIfInBounds_toArray, List.set_cons_zero, List.set_cons_succ]
  refine k_val (v := .bool ok) rfl _ (.inl rfl) rfl ?_; try simp only [Act.put, List.setIfInBounds_toArray, List.set_cons_zero, List.set_cons_succ]
  refine k_val (v := .bool ok) rfl _ (.inl rfl) rfl ?_; try simp only [Act.put, List.setIfInBounds_toArray, List.set_cons_zero, List.set_cons_succ]
  refine k_boolsS (s := ok) rfl _ _ _ rfl rfl rfl ?_; try simp only [Act.put, List.setIfInBounds_toArray, List.set_cons_zero, List.set_cons_succ]
  refine k_pickT (t := true) rfl _ _ _ rfl rfl rfl ?_; try simp only [Act.put, List.setIfInBounds_toArray, List.set_cons_zero, List.set_cons_succ]
  refine k_val (v := .bool true) rfl _ (.inr rfl) rfl ?_; try simp only [Act.put, List.setIfInBounds_toArray, List.set_cons_zero, List.set_cons_succ]
  refine k_end ?_
  intro w4 hT4
  go_wp2
  go_ret
  exact StepP.mk rfl (HQ3.out.call hT4) HE.out.1 HE.out.2.1 HE.out.2.2 HKL.out.2.2.2.1 HKL.out.2.2.2.2
end Go.Proofs.Ytlliidfkjlmadaa
