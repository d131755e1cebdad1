/- The plain mathematics of the document's shifts: words bit by bit. -/
import Derived.Test.YtcdjinjeogodfaaN
namespace Go.Proofs.Ytcdjinjeogodfaa
open Go.RowKit

theorem set_bit {y i : Nat} (hi : i < 256) :
    (wcells (y % 2 ^ i)).setIfInBounds (31 - i / 8) (.int .u8 ((byt (y % 2 ^ i) (31 - i / 8) ||| (y.testBit i).toNat * 2 ^ (i % 8) : Nat) : Int)) = wcells (y % 2 ^ (i + 1)) := by
  rw [wf_set (by omega)]
  refine wf_congr fun j hj => ?_
  apply Nat.eq_of_testBit_eq
  intro t
  by_cases hk : j = 31 - i / 8
  · rw [if_pos hk, hk]
    rw [Nat.testBit_or, byt_testBit, byt_testBit, Nat.testBit_mod_two_pow, Nat.testBit_mod_two_pow]
    have hp : 8 * (31 - (31 - i / 8)) + t = 8 * (i / 8) + t := by omega
    rw [hp]
    have hb : ((y.testBit i).toNat * 2 ^ (i % 8)).testBit t = (y.testBit i && decide (i % 8 = t)) := by
      cases y.testBit i
      · simp
      · simp [Nat.testBit_two_pow]
    rw [hb]
    by_cases ht : i % 8 = t
    · have e : 8 * (i / 8) + t = i := by omega
      rw [e]
      have : t < 8 := by omega
      simp [ht, this]
    · simp only [ht, decide_false, Bool.and_false, Bool.or_false]
      by_cases h8 : t < 8
      · have e : (8 * (i / 8) + t < i) ↔ (8 * (i / 8) + t < i + 1) := by omega
        simp only [e]
      · simp [h8]
  · rw [if_neg hk, byt_testBit, byt_testBit, Nat.testBit_mod_two_pow, Nat.testBit_mod_two_pow]
    by_cases h8 : t < 8
    · have e : (8 * (31 - j) + t < i) ↔ (8 * (31 - j) + t < i + 1) := by omega
      simp only [e]
    · simp [h8]
theorem bit_high {x i : Nat} (hx : x < M256) (hi : 256 ≤ i) : x.testBit i = false :=
  Nat.testBit_lt_two_pow (Nat.lt_of_lt_of_le hx (by unfold M256; exact Nat.pow_le_pow_right (by decide) hi))
theorem shl_bits {x n : Nat} (i : Nat) (hi : i < 256) : (x * 2 ^ n % M256).testBit i = (if n ≤ i then x.testBit (i - n) else false) := by
  unfold M256
  rw [Nat.testBit_mod_two_pow, Nat.testBit_mul_two_pow]
  by_cases h : n ≤ i <;> simp [h, hi]
theorem shr_bits {x n : Nat} (i : Nat) : (x / 2 ^ n).testBit i = x.testBit (i + n) := by
  rw [Nat.testBit_div_two_pow]
theorem sar_bits {x n : Nat} (hx : x < M256) (i : Nat) (hi : i < 256) : (sarN n x).testBit i = (if i + n < 256 then x.testBit (i + n) else decide (2 ^ 255 ≤ x)) := by
  have hM : M256 = 2 ^ 256 := rfl
  unfold sarN
  by_cases hs : 2 ^ 255 ≤ x
  · rw [if_pos hs]
    have hd : (M256 - (x + 1)) / 2 ^ n < 2 ^ 256 := Nat.lt_of_le_of_lt (Nat.div_le_self _ _) (Nat.sub_lt M256_pos (Nat.succ_pos _))
    rw [show M256 - ((M256 - (x + 1)) / 2 ^ n + 1) = 2 ^ 256 - ((M256 - (x + 1)) / 2 ^ n + 1) from rfl, Nat.testBit_two_pow_sub_succ hd, Nat.testBit_div_two_pow, hM, Nat.testBit_two_pow_sub_succ hx]
    by_cases h : i + n < 256 <;> simp [h, hi, hs]
  · rw [if_neg hs, Nat.testBit_div_two_pow]
    by_cases h : i + n < 256
    · simp [h]
    · rw [if_neg h, bit_high hx (by omega)]; simp [hs]
theorem sign_bit {x : Nat} (hx : x < M256) : x.testBit 255 = decide (2 ^ 255 ≤ x) := by
  rw [Nat.testBit_eq_decide_div_mod_eq]
  have hM := M256_half
  have hp : 0 < 2 ^ 255 := Nat.two_pow_pos _
  generalize 2 ^ 255 = H at *
  by_cases h : H ≤ x
  · have : x / H = 1 := Nat.div_eq_of_lt_le (by omega) (by omega)
    simp [this, h]
  · have : x / H = 0 := Nat.div_eq_of_lt (by omega)
    simp [this, h]
theorem ext_bits {x k : Nat} (hk : k < 31) (i : Nat) (hi : i < 256) : (extN k x).testBit i = (if i < 8 * k + 8 then x.testBit i else x.testBit (8 * k + 7)) := by
  unfold extN
  rw [if_pos hk]
  have hz : x * 2 ^ (8 * (31 - k)) % M256 < M256 := Nat.mod_lt _ M256_pos
  rw [sar_bits hz i hi]
  by_cases h : i < 8 * k + 8
  · rw [if_pos h, if_pos (by omega), shl_bits _ (by omega), if_pos (by omega)]
    congr 1; omega
  · rw [if_neg h, if_neg (by omega), ← sign_bit hz, shl_bits _ (by omega), if_pos (by omega)]
    congr 1; omega
theorem top_of_byte {x k : Nat} (hk : k < 31) : decide (128 ≤ byt x (31 - k)) = x.testBit (8 * k + 7) := by
  have h := byt_testBit x (31 - k) 7
  rw [show 8 * (31 - (31 - k)) + 7 = 8 * k + 7 by omega] at h
  simp only [show decide (7 < 8) = true from rfl, Bool.true_and] at h
  rw [← h, Nat.testBit_eq_decide_div_mod_eq]
  have := byt_lt x (31 - k)
  generalize byt x (31 - k) = v at *
  by_cases hv : 128 ≤ v
  · have : v / 2 ^ 7 % 2 = 1 := by omega
    simp [hv, this]
  · have : v / 2 ^ 7 % 2 = 0 := by omega
    simp [hv, this]
theorem ones_bits (t : Nat) : (255 : Nat).testBit t = decide (t < 8) := by
  rw [show 255 = 2 ^ 8 - 1 by rfl, Nat.testBit_two_pow_sub_one]
theorem ext_bytes {x k v : Nat} (hk : k < 31) (hv : v = if 128 ≤ byt x (31 - k) then 255 else 0) : (wf fun i => if i < 31 - k then v else byt x i) = wcells (extN k x) := by
  refine wf_congr fun j hj => ?_
  apply Nat.eq_of_testBit_eq
  intro t
  rw [byt_testBit]
  by_cases h8 : t < 8
  · rw [ext_bits hk _ (by omega)]
    by_cases h : j < 31 - k
    · rw [if_pos h, if_neg (by omega), ← top_of_byte hk, hv]
      by_cases hb : 128 ≤ byt x (31 - k)
      · simp [hb, h8, ones_bits]
      · simp [hb]
    · rw [if_neg h, if_pos (by omega), byt_testBit]
  · simp only [h8, decide_false, Bool.false_and]
    by_cases h : j < 31 - k
    · rw [if_pos h, hv]
      split
      · rw [ones_bits]; simp [h8]
      · simp
    · rw [if_neg h, byt_testBit]; simp [h8]
end Go.Proofs.Ytcdjinjeogodfaa
