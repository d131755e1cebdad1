/- The plain mathematics of the document's words: integers bit by bit. -/
import Derived.Test.YtcdjinjeogodfaaV3
import Derived.WalkKit
namespace Go.Proofs.Ytcdjinjeogodfaa
open Go.RowKit

theorem int_and255 (n : Int) : bits BinOp.and IntKind.i64 n 255 = n % 256 := by
  have h127 : (BitVec.ofInt 64 255).toNat = 2 ^ 8 - 1 := by decide
  have key : (BitVec.ofInt 64 n &&& BitVec.ofInt 64 255).toNat = (n % ((2 ^ 64 : Nat) : Int)).toNat % 2 ^ 8 := by
    rw [BitVec.toNat_and, BitVec.toNat_ofInt, h127, Nat.and_two_pow_sub_one_eq_mod]
  show IntKind.i64.wrap ((BitVec.ofInt 64 n &&& BitVec.ofInt 64 255).toNat : Nat) = n % 256
  rw [key, IntKind.wrap_i64]
  omega
theorem int_and65535 (n : Int) : bits BinOp.and IntKind.i64 n 65535 = n % 65536 := by
  have h127 : (BitVec.ofInt 64 65535).toNat = 2 ^ 16 - 1 := by decide
  have key : (BitVec.ofInt 64 n &&& BitVec.ofInt 64 65535).toNat = (n % ((2 ^ 64 : Nat) : Int)).toNat % 2 ^ 16 := by
    rw [BitVec.toNat_and, BitVec.toNat_ofInt, h127, Nat.and_two_pow_sub_one_eq_mod]
  show IntKind.i64.wrap ((BitVec.ofInt 64 n &&& BitVec.ofInt 64 65535).toNat : Nat) = n % 65536
  rw [key, IntKind.wrap_i64]
  omega
theorem int_and1 (n : Int) : bits BinOp.and IntKind.i64 n 1 = n % 2 := by
  have h127 : (BitVec.ofInt 64 1).toNat = 2 ^ 1 - 1 := by decide
  have key : (BitVec.ofInt 64 n &&& BitVec.ofInt 64 1).toNat = (n % ((2 ^ 64 : Nat) : Int)).toNat % 2 ^ 1 := by
    rw [BitVec.toNat_and, BitVec.toNat_ofInt, h127, Nat.and_two_pow_sub_one_eq_mod]
  show IntKind.i64.wrap ((BitVec.ofInt 64 n &&& BitVec.ofInt 64 1).toNat : Nat) = n % 2
  rw [key, IntKind.wrap_i64]
  omega
theorem int_or_nat (a b : Nat) (ha : a < 9223372036854775808) (hb : b < 9223372036854775808) : bits BinOp.or IntKind.i64 (a : Int) (b : Int) = ((a ||| b : Nat) : Int) := by
  have hl : a ||| b < 2 ^ 63 := Nat.or_lt_two_pow (n := 63) (by omega) (by omega)
  have key : (BitVec.ofInt 64 (a : Int) ||| BitVec.ofInt 64 (b : Int)).toNat = a ||| b := by
    rw [BitVec.toNat_or, BitVec.toNat_ofInt, BitVec.toNat_ofInt]
    congr 1 <;> omega
  show IntKind.i64.wrap ((BitVec.ofInt 64 (a : Int) ||| BitVec.ofInt 64 (b : Int)).toNat : Nat) = _
  rw [key, IntKind.wrap_i64]
  omega
theorem or_joined {a b k : Nat} (hb : b < 2 ^ k) : a * 2 ^ k ||| b = a * 2 ^ k + b := by
  rw [← Nat.shiftLeft_eq, Nat.shiftLeft_add_eq_or_of_lt hb]
theorem neg1_div {Q : Nat} (hQ : 0 < Q) : (-1 : Int) / (Q : Int) = -1 := by
  have h1 := Int.emod_add_mul_ediv (-1) (Q : Int)
  have h2 := Int.emod_nonneg (-1) (show (Q : Int) ≠ 0 by omega)
  have h3 := Int.emod_lt_of_pos (-1) (show (0 : Int) < Q by omega)
  generalize (-1 : Int) / (Q : Int) = q at *
  rcases Int.lt_trichotomy q (-1) with h | h | h
  · have := Int.mul_le_mul_of_nonneg_left (show q ≤ -2 by omega) (show (0 : Int) ≤ Q by omega)
    omega
  · exact h
  · have := Int.mul_nonneg (show (0 : Int) ≤ Q by omega) (show 0 ≤ q by omega)
    omega
theorem wint_byte (n : Int) (j : Nat) (hj : j ≤ 31) : (n / 2 ^ (8 * j)) % 256 = ((byt (wint n) (31 - j) : Nat) : Int) := by
  have hM : (M256 : Int) = 2 ^ (8 * j) * (256 * 2 ^ (248 - 8 * j)) := by
    have : M256 = 2 ^ (8 * j) * (256 * 2 ^ (248 - 8 * j)) := by
      rw [show (256 : Nat) = 2 ^ 8 by rfl, ← Nat.pow_add, ← Nat.pow_add]; unfold M256; congr 1; omega
    rw [this, Int.natCast_mul, Int.natCast_mul, Int.natCast_pow, Int.natCast_pow]; rfl
  have hp : (2 : Int) ^ (8 * j) ≠ 0 := Int.pow_ne_zero (by decide)
  have hM0 : (M256 : Int) ≠ 0 := by have : 0 < M256 := by unfold M256; decide
                                    omega
  have h0 := Int.emod_nonneg n hM0
  have hX : ((wint n : Nat) : Int) = n % (M256 : Int) := by unfold wint; omega
  have h1 : n = (wint n : Nat) + 2 ^ (8 * j) * ((256 * 2 ^ (248 - 8 * j)) * (n / (M256 : Int))) := by
    rw [hX, ← Int.mul_assoc, ← hM]; exact (Int.emod_add_mul_ediv n _).symm
  have h2 : n / 2 ^ (8 * j) = ((wint n : Nat) : Int) / 2 ^ (8 * j) + 256 * (2 ^ (248 - 8 * j) * (n / (M256 : Int))) := by
    rw [← Int.mul_assoc]
    conv => lhs; rw [h1]
    rw [Int.add_mul_ediv_left _ _ hp]
  rw [h2, Int.add_mul_emod_self_left]
  unfold byt
  rw [show 31 - (31 - j) = j by omega, Int.natCast_emod, Int.natCast_ediv, Int.natCast_pow]; rfl
theorem div_pow_succ (n : Int) (j : Nat) : n / 2 ^ (8 * j) / 256 = n / 2 ^ (8 * (j + 1)) := by
  rw [show (2 : Int) ^ (8 * (j + 1)) = 2 ^ (8 * j) * 256 by rw [show 8 * (j + 1) = 8 * j + 8 by omega, Int.pow_add]; rfl, ← Int.ediv_ediv_of_nonneg (Int.le_of_lt (Int.pow_pos (by decide)))]
theorem high_byte {n : Int} (hn : -9223372036854775808 ≤ n ∧ n ≤ 9223372036854775807) {i : Nat} (hi : i < 24) : (n / 2 ^ (8 * 8)) % 256 = ((byt (wint n) i : Nat) : Int) := by
  have h := wint_byte n (31 - i) (by omega)
  rw [show 31 - (31 - i) = i by omega] at h
  rw [← h]
  have e : (2 : Int) ^ (8 * (31 - i)) = 2 ^ (8 * 8) * ((2 ^ (8 * (23 - i)) : Nat) : Int) := by
    rw [show 8 * (31 - i) = 8 * 8 + 8 * (23 - i) by omega, Int.pow_add]; push_cast; rfl
  have hq : 0 < 2 ^ (8 * (23 - i)) := Nat.two_pow_pos _
  rw [e, ← Int.ediv_ediv_of_nonneg (by decide)]
  generalize 2 ^ (8 * (23 - i)) = Q at *
  have h64 : n / 2 ^ (8 * 8) = 0 ∨ n / 2 ^ (8 * 8) = -1 := by
    rw [show (2 : Int) ^ (8 * 8) = 18446744073709551616 by decide]; omega
  rcases h64 with h | h
  · rw [h, Int.zero_ediv]
  · rw [h, neg1_div hq]
end Go.Proofs.Ytcdjinjeogodfaa
