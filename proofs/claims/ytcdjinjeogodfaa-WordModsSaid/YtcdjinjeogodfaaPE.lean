/- The plain mathematics of the document's words: integers bit by bit. -/
import Derived.Test.YtcdjinjeogodfaaV3
import Derived.WalkKit
import Derived.Test.YtcdjinjeogodfaaN
/-! The plain mathematics of the document's words: integers bit by bit. -/
namespace Go.Proofs.Ytcdjinjeogodfaa
open Go.RowKit

theorem int_and255 (n : Int) : bits BinOp.and IntKind.i64 n 255 = n % 256 := by
  have h127 : (BitVec.ofInt 64 255).toNat = 2 ^ 8 - 1 := by decide
  have key : (BitVec.ofInt 64 n &&& BitVec.ofInt 64 255).toNat = (n % ((2 ^ 64 : Nat) : Int)).toNat % 2 ^ 8 := by
    rw [BitVec.toNat_and, BitVec.toNat_ofInt, h127, Nat.and_two_pow_sub_one_eq_mod]
  show IntKind.i64.wrap ((BitVec.ofInt 64 n &&& BitVec.ofInt 64 255).toNat : Nat) = n % 256
  rw [key, IntKind.wrap_i64]
  omega
theorem int_and65535 (n : Int) : bits BinOp.and IntKind.i64 n 65535 = n % 65536 := by
  have h127 : (BitVec.ofInt 64 65535).toNat = 2 ^ 16 - 1 := by decide
  have key : (BitVec.ofInt 64 n &&& BitVec.ofInt 64 65535).toNat = (n % ((2 ^ 64 : Nat) : Int)).toNat % 2 ^ 16 := by
    rw [BitVec.toNat_and, BitVec.toNat_ofInt, h127, Nat.and_two_pow_sub_one_eq_mod]
  show IntKind.i64.wrap ((BitVec.ofInt 64 n &&& BitVec.ofInt 64 65535).toNat : Nat) = n % 65536
  rw [key, IntKind.wrap_i64]
  omega
theorem int_and1 (n : Int) : bits BinOp.and IntKind.i64 n 1 = n % 2 := by
  have h127 : (BitVec.ofInt 64 1).toNat = 2 ^ 1 - 1 := by decide
  have key : (BitVec.ofInt 64 n &&& BitVec.ofInt 64 1).toNat = (n % ((2 ^ 64 : Nat) : Int)).toNat % 2 ^ 1 := by
    rw [BitVec.toNat_and, BitVec.toNat_ofInt, h127, Nat.and_two_pow_sub_one_eq_mod]
  show IntKind.i64.wrap ((BitVec.ofInt 64 n &&& BitVec.ofInt 64 1).toNat : Nat) = n % 2
  rw [key, IntKind.wrap_i64]
  omega
theorem int_or_nat (a b : Nat) (ha : a < 9223372036854775808) (hb : b < 9223372036854775808) : bits BinOp.or IntKind.i64 (a : Int) (b : Int) = ((a ||| b : Nat) : Int) := by
  have hl : a ||| b < 2 ^ 63 := Nat.or_lt_two_pow (n := 63) (by omega) (by omega)
  have key : (BitVec.ofInt 64 (a : Int) ||| BitVec.ofInt 64 (b : Int)).toNat = a ||| b := by
    rw [BitVec.toNat_or, BitVec.toNat_ofInt, BitVec.toNat_ofInt]
    congr 1 <;> omega
  show IntKind.i64.wrap ((BitVec.ofInt 64 (a : Int) ||| BitVec.ofInt 64 (b : Int)).toNat : Nat) = _
  rw [key, IntKind.wrap_i64]
  omega
theorem or_joined {a b k : Nat} (hb : b < 2 ^ k) : a * 2 ^ k ||| b = a * 2 ^ k + b := by
  rw [← Nat.shiftLeft_eq, Nat.shiftLeft_add_eq_or_of_lt hb]
theorem neg1_div {Q : Nat} (hQ : 0 < Q) : (-1 : Int) / (Q : Int) = -1 := by
  have h1 := Int.emod_add_mul_ediv (-1) (Q : Int)
  have h2 := Int.emod_nonneg (-1) (show (Q : Int) ≠ 0 by omega)
  have h3 := Int.emod_lt_of_pos (-1) (show (0 : Int) < Q by omega)
  generalize (-1 : Int) / (Q : Int) = q at *
  rcases Int.lt_trichotomy q (-1) with h | h | h
  · have := Int.mul_le_mul_of_nonneg_left (show q ≤ -2 by omega) (show (0 : Int) ≤ Q by omega)
    omega
  · exact h
  · have := Int.mul_nonneg (show (0 : Int) ≤ Q by omega) (show 0 ≤ q by omega)
    omega
theorem wint_byte (n : Int) (j : Nat) (hj : j ≤ 31) : (n / 2 ^ (8 * j)) % 256 = ((byt (wint n) (31 - j) : Nat) : Int) := by
  have hM : (M256 : Int) = 2 ^ (8 * j) * (256 * 2 ^ (248 - 8 * j)) := by
    have : M256 = 2 ^ (8 * j) * (256 * 2 ^ (248 - 8 * j)) := by
      rw [show (256 : Nat) = 2 ^ 8 by rfl, ← Nat.pow_add, ← Nat.pow_add]; unfold M256; congr 1; omega
    rw [this, Int.natCast_mul, Int.natCast_mul, Int.natCast_pow, Int.natCast_pow]; rfl
  have hp : (2 : Int) ^ (8 * j) ≠ 0 := Int.pow_ne_zero (by decide)
  have hM0 : (M256 : Int) ≠ 0 := by have : 0 < M256 := by unfold M256; decide
                                    omega
  have h0 := Int.emod_nonneg n hM0
  have hX : ((wint n : Nat) : Int) = n % (M256 : Int) := by unfold wint; omega
  have h1 : n = (wint n : Nat) + 2 ^ (8 * j) * ((256 * 2 ^ (248 - 8 * j)) * (n / (M256 : Int))) := by
    rw [hX, ← Int.mul_assoc, ← hM]; exact (Int.emod_add_mul_ediv n _).symm
  have h2 : n / 2 ^ (8 * j) = ((wint n : Nat) : Int) / 2 ^ (8 * j) + 256 * (2 ^ (248 - 8 * j) * (n / (M256 : Int))) := by
    rw [← Int.mul_assoc]
    conv => lhs; rw [h1]
    rw [Int.add_mul_ediv_left _ _ hp]
  rw [h2, Int.add_mul_emod_self_left]
  unfold byt
  rw [show 31 - (31 - j) = j by omega, Int.natCast_emod, Int.natCast_ediv, Int.natCast_pow]; rfl
theorem div_pow_succ (n : Int) (j : Nat) : n / 2 ^ (8 * j) / 256 = n / 2 ^ (8 * (j + 1)) := by
  rw [show (2 : Int) ^ (8 * (j + 1)) = 2 ^ (8 * j) * 256 by rw [show 8 * (j + 1) = 8 * j + 8 by omega, Int.pow_add]; rfl, ← Int.ediv_ediv_of_nonneg (Int.le_of_lt (Int.pow_pos (by decide)))]
theorem high_byte {n : Int} (hn : -9223372036854775808 ≤ n ∧ n ≤ 9223372036854775807) {i : Nat} (hi : i < 24) : (n / 2 ^ (8 * 8)) % 256 = ((byt (wint n) i : Nat) : Int) := by
  have h := wint_byte n (31 - i) (by omega)
  rw [show 31 - (31 - i) = i by omega] at h
  rw [← h]
  have e : (2 : Int) ^ (8 * (31 - i)) = 2 ^ (8 * 8) * ((2 ^ (8 * (23 - i)) : Nat) : Int) := by
    rw [show 8 * (31 - i) = 8 * 8 + 8 * (23 - i) by omega, Int.pow_add]; push_cast; rfl
  have hq : 0 < 2 ^ (8 * (23 - i)) := Nat.two_pow_pos _
  rw [e, ← Int.ediv_ediv_of_nonneg (by decide)]
  generalize 2 ^ (8 * (23 - i)) = Q at *
  have h64 : n / 2 ^ (8 * 8) = 0 ∨ n / 2 ^ (8 * 8) = -1 := by
    rw [show (2 : Int) ^ (8 * 8) = 18446744073709551616 by decide]; omega
  rcases h64 with h | h
  · rw [h, Int.zero_ediv]
  · rw [h, neg1_div hq]
end Go.Proofs.Ytcdjinjeogodfaa

/-! The plain mathematics of the document's shifts: words bit by bit. -/
namespace Go.Proofs.Ytcdjinjeogodfaa
open Go.RowKit

theorem set_bit {y i : Nat} (hi : i < 256) :
    (wcells (y % 2 ^ i)).setIfInBounds (31 - i / 8) (.int .u8 ((byt (y % 2 ^ i) (31 - i / 8) ||| (y.testBit i).toNat * 2 ^ (i % 8) : Nat) : Int)) = wcells (y % 2 ^ (i + 1)) := by
  rw [wf_set (by omega)]
  refine wf_congr fun j hj => ?_
  apply Nat.eq_of_testBit_eq
  intro t
  by_cases hk : j = 31 - i / 8
  · rw [if_pos hk, hk]
    rw [Nat.testBit_or, byt_testBit, byt_testBit, Nat.testBit_mod_two_pow, Nat.testBit_mod_two_pow]
    have hp : 8 * (31 - (31 - i / 8)) + t = 8 * (i / 8) + t := by omega
    rw [hp]
    have hb : ((y.testBit i).toNat * 2 ^ (i % 8)).testBit t = (y.testBit i && decide (i % 8 = t)) := by
      cases y.testBit i
      · simp
      · simp [Nat.testBit_two_pow]
    rw [hb]
    by_cases ht : i % 8 = t
    · have e : 8 * (i / 8) + t = i := by omega
      rw [e]
      have : t < 8 := by omega
      simp [ht, this]
    · simp only [ht, decide_false, Bool.and_false, Bool.or_false]
      by_cases h8 : t < 8
      · have e : (8 * (i / 8) + t < i) ↔ (8 * (i / 8) + t < i + 1) := by omega
        simp only [e]
      · simp [h8]
  · rw [if_neg hk, byt_testBit, byt_testBit, Nat.testBit_mod_two_pow, Nat.testBit_mod_two_pow]
    by_cases h8 : t < 8
    · have e : (8 * (31 - j) + t < i) ↔ (8 * (31 - j) + t < i + 1) := by omega
      simp only [e]
    · simp [h8]
theorem bit_high {x i : Nat} (hx : x < M256) (hi : 256 ≤ i) : x.testBit i = false :=
  Nat.testBit_lt_two_pow (Nat.lt_of_lt_of_le hx (by unfold M256; exact Nat.pow_le_pow_right (by decide) hi))
theorem shl_bits {x n : Nat} (i : Nat) (hi : i < 256) : (x * 2 ^ n % M256).testBit i = (if n ≤ i then x.testBit (i - n) else false) := by
  unfold M256
  rw [Nat.testBit_mod_two_pow, Nat.testBit_mul_two_pow]
  by_cases h : n ≤ i <;> simp [h, hi]
theorem shr_bits {x n : Nat} (i : Nat) : (x / 2 ^ n).testBit i = x.testBit (i + n) := by
  rw [Nat.testBit_div_two_pow]
theorem sar_bits {x n : Nat} (hx : x < M256) (i : Nat) (hi : i < 256) : (sarN n x).testBit i = (if i + n < 256 then x.testBit (i + n) else decide (2 ^ 255 ≤ x)) := by
  have hM : M256 = 2 ^ 256 := rfl
  unfold sarN
  by_cases hs : 2 ^ 255 ≤ x
  · rw [if_pos hs]
    have hd : (M256 - (x + 1)) / 2 ^ n < 2 ^ 256 := Nat.lt_of_le_of_lt (Nat.div_le_self _ _) (Nat.sub_lt M256_pos (Nat.succ_pos _))
    rw [show M256 - ((M256 - (x + 1)) / 2 ^ n + 1) = 2 ^ 256 - ((M256 - (x + 1)) / 2 ^ n + 1) from rfl, Nat.testBit_two_pow_sub_succ hd, Nat.testBit_div_two_pow, hM, Nat.testBit_two_pow_sub_succ hx]
    by_cases h : i + n < 256 <;> simp [h, hi, hs]
  · rw [if_neg hs, Nat.testBit_div_two_pow]
    by_cases h : i + n < 256
    · simp [h]
    · rw [if_neg h, bit_high hx (by omega)]; simp [hs]
theorem sign_bit {x : Nat} (hx : x < M256) : x.testBit 255 = decide (2 ^ 255 ≤ x) := by
  rw [Nat.testBit_eq_decide_div_mod_eq]
  have hM := M256_half
  have hp : 0 < 2 ^ 255 := Nat.two_pow_pos _
  generalize 2 ^ 255 = H at *
  by_cases h : H ≤ x
  · have : x / H = 1 := Nat.div_eq_of_lt_le (by omega) (by omega)
    simp [this, h]
  · have : x / H = 0 := Nat.div_eq_of_lt (by omega)
    simp [this, h]
theorem ext_bits {x k : Nat} (hk : k < 31) (i : Nat) (hi : i < 256) : (extN k x).testBit i = (if i < 8 * k + 8 then x.testBit i else x.testBit (8 * k + 7)) := by
  unfold extN
  rw [if_pos hk]
  have hz : x * 2 ^ (8 * (31 - k)) % M256 < M256 := Nat.mod_lt _ M256_pos
  rw [sar_bits hz i hi]
  by_cases h : i < 8 * k + 8
  · rw [if_pos h, if_pos (by omega), shl_bits _ (by omega), if_pos (by omega)]
    congr 1; omega
  · rw [if_neg h, if_neg (by omega), ← sign_bit hz, shl_bits _ (by omega), if_pos (by omega)]
    congr 1; omega
theorem top_of_byte {x k : Nat} (hk : k < 31) : decide (128 ≤ byt x (31 - k)) = x.testBit (8 * k + 7) := by
  have h := byt_testBit x (31 - k) 7
  rw [show 8 * (31 - (31 - k)) + 7 = 8 * k + 7 by omega] at h
  simp only [show decide (7 < 8) = true from rfl, Bool.true_and] at h
  rw [← h, Nat.testBit_eq_decide_div_mod_eq]
  have := byt_lt x (31 - k)
  generalize byt x (31 - k) = v at *
  by_cases hv : 128 ≤ v
  · have : v / 2 ^ 7 % 2 = 1 := by omega
    simp [hv, this]
  · have : v / 2 ^ 7 % 2 = 0 := by omega
    simp [hv, this]
theorem ones_bits (t : Nat) : (255 : Nat).testBit t = decide (t < 8) := by
  rw [show 255 = 2 ^ 8 - 1 by rfl, Nat.testBit_two_pow_sub_one]
theorem ext_bytes {x k v : Nat} (hk : k < 31) (hv : v = if 128 ≤ byt x (31 - k) then 255 else 0) : (wf fun i => if i < 31 - k then v else byt x i) = wcells (extN k x) := by
  refine wf_congr fun j hj => ?_
  apply Nat.eq_of_testBit_eq
  intro t
  rw [byt_testBit]
  by_cases h8 : t < 8
  · rw [ext_bits hk _ (by omega)]
    by_cases h : j < 31 - k
    · rw [if_pos h, if_neg (by omega), ← top_of_byte hk, hv]
      by_cases hb : 128 ≤ byt x (31 - k)
      · simp [hb, h8, ones_bits]
      · simp [hb]
    · rw [if_neg h, if_pos (by omega), byt_testBit]
  · simp only [h8, decide_false, Bool.false_and]
    by_cases h : j < 31 - k
    · rw [if_pos h, hv]
      split
      · rw [ones_bits]; simp [h8]
      · simp
    · rw [if_neg h, byt_testBit]; simp [h8]
end Go.Proofs.Ytcdjinjeogodfaa
