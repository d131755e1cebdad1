/- The plain mathematics of shifts, limb by limb. -/
import Derived.Test.YtcdjinjeogodfaaV3
import Derived.WalkKit
namespace Go.Proofs.Ytcdjinjeogodfaa

/-- One limb of a number shifted to the right: the limb's own bits, and those of the next one. -/
theorem limb_right {X p : Nat} (hp : p < 64) : X / 2 ^ p % 2 ^ 64 = (X % 2 ^ 64) / 2 ^ p ||| (X / 2 ^ 64 % 2 ^ 64 * 2 ^ (64 - p)) % 2 ^ 64 := by
  apply Nat.eq_of_testBit_eq
  intro j
  simp only [Nat.testBit_or, Nat.testBit_mod_two_pow, Nat.testBit_div_two_pow, Nat.testBit_mul_two_pow]
  by_cases hj : j < 64
  · by_cases h1 : j + p < 64
    · have h2 : ¬ 64 - p ≤ j := by omega
      simp [hj, h1, h2]
    · have h2 : 64 - p ≤ j := by omega
      have h3 : j - (64 - p) < 64 := by omega
      have h4 : j - (64 - p) + 64 = j + p := by omega
      simp [hj, h1, h2, h3, h4]
  · have h1 : ¬ j + p < 64 := by omega
    simp [hj, h1]
theorem limb_right_last {X p : Nat} (hX : X < 2 ^ 64) (hp : p < 64) : X / 2 ^ p % 2 ^ 64 = (X % 2 ^ 64) / 2 ^ p := by
  rw [limb_right hp, Nat.div_eq_of_lt hX, Nat.zero_mod, Nat.zero_mul, Nat.zero_mod, Nat.or_zero]
/-- One limb of a number shifted to the left. -/
theorem limb_left {X p : Nat} (hp : p < 64) : X * 2 ^ p / 2 ^ 64 % 2 ^ 64 = (X / 2 ^ 64 % 2 ^ 64 * 2 ^ p) % 2 ^ 64 ||| (X % 2 ^ 64) / 2 ^ (64 - p) := by
  apply Nat.eq_of_testBit_eq
  intro j
  simp only [Nat.testBit_or, Nat.testBit_mod_two_pow, Nat.testBit_div_two_pow, Nat.testBit_mul_two_pow]
  by_cases hj : j < 64
  · by_cases h1 : p ≤ j
    · have h2 : p ≤ j + 64 := by omega
      have h3 : ¬ j + (64 - p) < 64 := by omega
      have h4 : j - p < 64 := by omega
      have h5 : j - p + 64 = j + 64 - p := by omega
      simp [hj, h1, h2, h3, h4, h5]
    · have h2 : p ≤ j + 64 := by omega
      have h3 : j + (64 - p) < 64 := by omega
      have h5 : j + (64 - p) = j + 64 - p := by omega
      rw [h5] at h3 ⊢; simp only [hj, h1, h2, h3, decide_true, decide_false, Bool.true_and, Bool.false_and, Bool.false_or]
  · have h3 : ¬ j + (64 - p) < 64 := by omega
    simp [hj, h3]
theorem or_lt64 {a b : Nat} (ha : a < 18446744073709551616) (hb : b < 18446744073709551616) : a ||| b < 18446744073709551616 := Nat.or_lt_two_pow (n := 64) ha hb
theorem pow_split (n m p s : Nat) (h : n = 64 * s + p) (x : Nat) : x / 2 ^ n / 2 ^ (64 * m) = x / 2 ^ (64 * (s + m)) / 2 ^ p := by
  rw [Nat.div_div_eq_div_mul, Nat.div_div_eq_div_mul, ← Nat.pow_add, ← Nat.pow_add]
  congr 2; omega
end Go.Proofs.Ytcdjinjeogodfaa
