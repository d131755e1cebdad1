/- The plain mathematics of long division. -/
import Derived.Test.YtcdjinjeogodfaaD6
import Derived.StillTailTactics
namespace Go.Proofs.Ytcdjinjeogodfaa
open Go.RowKit

/-- How long division stands at digit k. -/
structure Dv (U D k Q R : Nat) : Prop where
  sum : Q * D + R = U
  lt : R < D * 2 ^ (64 * k)
  dvd : ∃ q, Q = q * 2 ^ (64 * k)
theorem Dv.step {U D j Q R : Nat} (h : Dv U D (j + 1) Q R) (hD : 0 < D) : Dv U D j (dput Q j (R / (D * 2 ^ (64 * j)))) (R % (D * 2 ^ (64 * j))) ∧ R < D * 2 ^ (64 * j) * 18446744073709551616 ∧ R / (D * 2 ^ (64 * j)) < 2 ^ 64 := by
  obtain ⟨q', hq'⟩ := h.dvd
  have hP : 0 < D * 2 ^ (64 * j) := Nat.mul_pos hD (Nat.two_pow_pos _)
  have hlt : R < D * 2 ^ (64 * j) * 18446744073709551616 := by
    have := h.lt
    rwa [show 64 * (j + 1) = 64 * j + 64 by omega, Nat.pow_add, ← Nat.mul_assoc, show (2 : Nat) ^ 64 = 18446744073709551616 by decide] at this
  have hqb : R / (D * 2 ^ (64 * j)) < 2 ^ 64 := by
    rw [Nat.div_lt_iff_lt_mul hP, show (2 : Nat) ^ 64 = 18446744073709551616 by decide, Nat.mul_comm]; exact hlt
  have h0 : Q / 2 ^ (64 * j) % 2 ^ 64 = 0 := by
    rw [hq', show 64 * (j + 1) = 64 + 64 * j by omega, Nat.pow_add, ← Nat.mul_assoc, Nat.mul_div_cancel _ (Nat.two_pow_pos _), Nat.mul_mod_left]
  have sp := dput_spec Q j (R / (D * 2 ^ (64 * j)))
  rw [h0, Nat.zero_mul, Nat.add_zero] at sp
  have hdm := Nat.div_add_mod R (D * 2 ^ (64 * j))
  refine ⟨⟨?_, Nat.mod_lt _ hP, ⟨q' * 2 ^ 64 + R / (D * 2 ^ (64 * j)), ?_⟩⟩, hlt, hqb⟩
  · rw [sp]
    have hs := h.sum
    generalize R / (D * 2 ^ (64 * j)) = q at *
    generalize R % (D * 2 ^ (64 * j)) = r at *
    generalize 2 ^ (64 * j) = P at *
    rw [← hs, ← hdm]
    grind
  · rw [sp, hq', Nat.add_mul, show 64 * (j + 1) = 64 + 64 * j by omega, Nat.pow_add, ← Nat.mul_assoc]
theorem Dv.done {U D Q R : Nat} (h : Dv U D 0 Q R) (hD : 0 < D) : Q = U / D ∧ R = U % D := by
  have h1 := h.sum
  have h2 := h.lt
  rw [Nat.mul_zero, Nat.pow_zero, Nat.mul_one] at h2
  have e : U = R + D * Q := by rw [Nat.mul_comm]; omega
  constructor
  · rw [e, Nat.add_mul_div_left _ _ hD, Nat.div_eq_of_lt h2, Nat.zero_add]
  · rw [e, Nat.add_mul_mod_self_left, Nat.mod_eq_of_lt h2]
/-- The divisor with its highest bit set. -/
structure Nrm (V n s : Nat) : Prop where
  sh : s < 64
  top : 9223372036854775808 ≤ lm (V * 2 ^ s) (n - 1)
  lt : V * 2 ^ s < 2 ^ (64 * n)
theorem nrm_of {V n : Nat} (h1 : 1 ≤ n) (hV : V < 2 ^ (64 * n)) (ht : lm V (n - 1) ≠ 0) : Nrm V n (64 - bitLen (lm V (n - 1))) := by
  obtain ⟨n1, rfl⟩ : ∃ n1, n = n1 + 1 := ⟨n - 1, by omega⟩
  rw [Nat.add_sub_cancel] at *
  have hsp := bitLen_spec (lm V n1)
  have hlo := hsp.2 ht
  have hlen : bitLen (lm V n1) ≤ 64 := by
    have := (Nat.pow_lt_pow_iff_right (by decide : 1 < 2)).1 (Nat.lt_of_le_of_lt hlo (show lm V n1 < 2 ^ 64 from Nat.mod_lt _ (by decide)))
    omega
  have hlen0 : 0 < bitLen (lm V n1) := by
    rcases Nat.eq_zero_or_pos (bitLen (lm V n1)) with h0 | h0
    · have := hsp.1; rw [h0] at this; simp at this; exact absurd this ht
    · exact h0
  have hhi := hsp.1
  rw [top_limb hV] at *
  generalize bitLen (V / 2 ^ (64 * n1)) = L at *
  have hb : V < 2 ^ L * 2 ^ (64 * n1) := by rw [← Nat.div_lt_iff_lt_mul (Nat.two_pow_pos _)]; exact hhi
  have hlt : V * 2 ^ (64 - L) < 2 ^ (64 * (n1 + 1)) := by
    have := Nat.mul_lt_mul_of_pos_right hb (Nat.two_pow_pos (64 - L))
    rwa [← Nat.pow_add, ← Nat.pow_add, show L + 64 * n1 + (64 - L) = 64 * (n1 + 1) by omega] at this
  refine ⟨by omega, ?_, hlt⟩
  rw [Nat.add_sub_cancel, top_limb hlt, Nat.le_div_iff_mul_le (Nat.two_pow_pos _)]
  have h2 : 2 ^ (L - 1) * 2 ^ (64 * n1) ≤ V := by rw [← Nat.le_div_iff_mul_le (Nat.two_pow_pos _)]; exact hlo
  have h3 := Nat.mul_le_mul_right (2 ^ (64 - L)) h2
  rw [← Nat.pow_add, ← Nat.pow_add, show L - 1 + 64 * n1 + (64 - L) = 63 + 64 * n1 by omega, Nat.pow_add, show (2 : Nat) ^ 63 = 9223372036854775808 by decide] at h3
  exact h3
theorem Nrm.pos {V n s : Nat} (h : Nrm V n s) : 0 < V * 2 ^ s := by
  rcases Nat.eq_zero_or_pos (V * 2 ^ s) with h0 | h0
  · have := h.top; rw [h0] at this; simp [lm] at this
  · exact h0
theorem shifted_lt {U s m e : Nat} (h : U < 2 ^ m) (he : m + s ≤ e) : U * 2 ^ s < 2 ^ e := by
  refine Nat.lt_of_lt_of_le (Nat.mul_lt_mul_of_pos_right h (Nat.two_pow_pos _)) ?_
  rw [← Nat.pow_add]
  exact Nat.pow_le_pow_right (by decide) he
theorem dv_start {U V n s : Nat} (h : Nrm V n s) (h1 : 1 ≤ n) (hn : n ≤ 8) (hU : U < 2 ^ (64 * 8)) : Dv (U * 2 ^ s) (V * 2 ^ s) (8 - n + 1) 0 (U * 2 ^ s) := by
  refine ⟨by simp, ?_, ⟨0, by simp⟩⟩
  obtain ⟨n1, rfl⟩ : ∃ n1, n = n1 + 1 := ⟨n - 1, by omega⟩
  have ht := h.top
  rw [Nat.add_sub_cancel, top_limb h.lt, Nat.le_div_iff_mul_le (Nat.two_pow_pos _)] at ht
  have h2 := Nat.mul_le_mul_right (2 ^ (64 * (8 - (n1 + 1) + 1))) ht
  refine Nat.lt_of_lt_of_le ?_ h2
  rw [show 9223372036854775808 = 2 ^ 63 by decide, ← Nat.pow_add, ← Nat.pow_add]
  exact shifted_lt hU (by have := h.sh; omega)
theorem dig4_of9 (x : Nat) : #[Value.int .u64 ((lm x 0 : Nat) : Int), .int .u64 ((lm x 1 : Nat) : Int), .int .u64 ((lm x 2 : Nat) : Int), .int .u64 ((lm x 3 : Nat) : Int)] = dig 4 x := rfl
end Go.Proofs.Ytcdjinjeogodfaa
