/- A call told to both (no such way). -/
import Derived.Test.YtlliidfkjlmadaaIP1
set_option linter.unusedVariables false
set_option linter.unusedSimpArgs false
namespace Go.Proofs.Ytlliidfkjlmadaa
open Go.RowKit
set_option maxRecDepth 100000
set_option maxHeartbeats 20000000

theorem stepO_any {w0 w : World} {bm br bs bt : Nat} {vm vr vs vt : Value} {L : List Nat} {Ws : List (List Nat)} {k : Nat} (HQ : Quad w0 w bm br bs bt vm vr vs vt L L Ws Ws) (hk : L.length = 32 * k) (hk2 : k ≤ 32768) (hL : ∀ x ∈ L, x < 256) (hWl : Ws.length ≤ 1024) (hW : ∀ W ∈ Ws, Wd W)
    (way i j : Int) (A N M : List Nat) (vb : Value) (hi : -9223372036854775808 ≤ i ∧ i ≤ 9223372036854775807) (hj : -9223372036854775808 ≤ j ∧ j ≤ 9223372036854775807) (hA : Wd A) (hN : Wd N) (hvb : RdB w0 vb M) (hM : M.length ≤ 500) (h0 : way ≠ 0) (h1 : way ≠ 1) (h2 : way ≠ 2) (h3 : way ≠ 3) (h4 : way ≠ 4) (h5 : way ≠ 5) (h6 : way ≠ 6) :
    Calls Try.prog 9 #[.pointer (some ⟨bm, 0, none⟩), .pointer (some ⟨br, 0, none⟩), .pointer (some ⟨bs, 0, none⟩), .pointer (some ⟨bt, 0, none⟩), .agg (actC way i j A N vb)] w (StepP w0 bm br bs bt) := by
  have d0 : (way == 0) = false := by simpa using h0
  have d1 : (way == 1) = false := by simpa using h1
  have d2 : (way == 2) = false := by simpa using h2
  have d3 : (way == 3) = false := by simpa using h3
  have d4 : (way == 4) = false := by simpa using h4
  have d5 : (way == 5) = false := by simpa using h5
  have d6 : (way == 6) = false := by simpa using h6
  have HH := Lib.hid HQ
  have HKL := Lib.hid (And.intro hk (And.intro hk2 (And.intro hL (And.intro hWl hW))))
  have HI := Lib.hid hi
  have HJ := Lib.hid hj
  have hS := St.start w
  have hsz := actC_size way i j A N vb
  have e0 := actC_0 way i j A N vb
  have e1 := actC_1 way i j A N vb
  have e2 := actC_2 way i j A N vb
  have eb := actC_b way i j A N vb
  have HRA := Lib.hid (fun w' b t h => act_range_at (w := w') (b := b) (t := t) (way := way) (i := i) (j := j) (A := A) (N := N) (vb := vb) h)
  have HRN := Lib.hid (fun w' b t h => act_range_n (w := w') (b := b) (t := t) (way := way) (i := i) (j := j) (A := A) (N := N) (vb := vb) h)
  clear HQ hk hk2 hL hWl hW hi hj
  generalize actC way i j A N vb = ca at *
  go_enter Try.func9, Try.ntmps9
  go_upto_region 35 with (first
    | (refine st_box hS rfl 39 _ rfl rfl ?_; clear hS; intro w1 b9 hS)
    | (refine st_cell1 (v := .int .i64 way) hS rfl 3 _ rfl rfl .head e0 int_aggI ?_))
  have hb9 : w.heap.size ≤ b9 := (hS.own .head).elim id (fun h => by simp at h)
  have hB9 := hS.get .head
  have HQ1 := Lib.hid (HH.out.call hS.frame)
  have HL9 := Lib.hid (show (∀ x ∈ fpr bm vm, x < b9) ∧ (∀ x ∈ fpr br vr, x < b9) ∧ (∀ x ∈ fpr bs vs, x < b9) ∧ (∀ x ∈ fpr bt vt, x < b9) from ⟨fun x hx => Nat.lt_of_lt_of_le (HH.out.m.lt hx).2 hb9, fun x hx => Nat.lt_of_lt_of_le (HH.out.r.lt hx).2 hb9, fun x hx => Nat.lt_of_lt_of_le (HH.out.s.lt hx).2 hb9, fun x hx => Nat.lt_of_lt_of_le (HH.out.t.lt hx).2 hb9⟩)
  have HB9 := Lib.hid hB9
  clear HH hS hB9
  have hT := HQ1.out
  go_wp2
  go_ret
  exact StepP.mk rfl HQ1.out HKL.out.1 HKL.out.2.1 HKL.out.2.2.1 HKL.out.2.2.2.1 HKL.out.2.2.2.2
end Go.Proofs.Ytlliidfkjlmadaa
