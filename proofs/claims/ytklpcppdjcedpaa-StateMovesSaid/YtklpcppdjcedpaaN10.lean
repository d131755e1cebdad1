/- The document's Of. -/
import Derived.Test.YtklpcppdjcedpaaN9
set_option linter.unusedVariables false
set_option linter.unusedSimpArgs false
namespace Go.Proofs.Ytklpcppdjcedpaa
open Go.RowKit

/-- How many words there are. -/
def M256 : Nat := 2 ^ 256
/-- A word's 32 bytes, the highest first. -/
abbrev wcells (x : Nat) : Array Value := bc 32 (byt x)
theorem byt_testBit (x i j : Nat) : (byt x i).testBit j = (decide (j < 8) && x.testBit (8 * (31 - i) + j)) := by
  unfold byt
  rw [show 256 = 2 ^ 8 by rfl, Nat.testBit_mod_two_pow, Nat.testBit_div_two_pow]
  congr 2; omega
/-- Two words of the same bytes are one. -/
theorem eq_of_byt {x y : Nat} (hx : x < M256) (hy : y < M256) (h : ∀ i, i < 32 → byt x i = byt y i) : x = y := by
  apply Nat.eq_of_testBit_eq
  intro j
  by_cases hj : j < 256
  · have e := congrArg (·.testBit (j % 8)) (h (31 - j / 8) (by omega))
    simp only [byt_testBit] at e
    have hj8 : j % 8 < 8 := Nat.mod_lt _ (by omega)
    have hq : 8 * (31 - (31 - j / 8)) + j % 8 = j := by omega
    simpa [hj8, hq] using e
  · have h1 : x < 2 ^ j := Nat.lt_of_lt_of_le hx (Nat.pow_le_pow_right (by omega) (by omega))
    have h2 : y < 2 ^ j := Nat.lt_of_lt_of_le hy (Nat.pow_le_pow_right (by omega) (by omega))
    rw [Nat.testBit_lt_two_pow h1, Nat.testBit_lt_two_pow h2]
theorem wcells_inj {x y : Nat} (hx : x < M256) (hy : y < M256) (h : wcells x = wcells y) : x = y := by
  refine eq_of_byt hx hy fun i hi => ?_
  have e := congrArg (·[i]?) h
  simp only [bc_get (n := 32) hi, Option.some.injEq, Value.int.injEq, true_and] at e
  exact_mod_cast e
/-- The word of an integer. -/
def wint (n : Int) : Nat := (n % (M256 : Int)).toNat
theorem wint_nat {n : Nat} (h : n < M256) : wint n = n := by
  unfold wint; rw [Int.emod_eq_of_lt (by omega) (by omega)]; rfl
theorem wint_lt (n : Int) : wint n < M256 := by
  unfold wint
  have h : (0 : Int) < (M256 : Int) := by unfold M256; decide
  have h1 := Int.emod_nonneg n (show (M256 : Int) ≠ 0 by omega)
  have h2 := Int.emod_lt_of_pos n h
  omega
theorem int_and255 (n : Int) : bits BinOp.and IntKind.i64 n 255 = n % 256 := by
  have h127 : (BitVec.ofInt 64 255).toNat = 2 ^ 8 - 1 := by decide
  have key : (BitVec.ofInt 64 n &&& BitVec.ofInt 64 255).toNat = (n % ((2 ^ 64 : Nat) : Int)).toNat % 2 ^ 8 := by
    rw [BitVec.toNat_and, BitVec.toNat_ofInt, h127, Nat.and_two_pow_sub_one_eq_mod]
  show IntKind.i64.wrap ((BitVec.ofInt 64 n &&& BitVec.ofInt 64 255).toNat : Nat) = n % 256
  rw [key, IntKind.wrap_i64]
  omega
theorem neg1_div {Q : Nat} (hQ : 0 < Q) : (-1 : Int) / (Q : Int) = -1 := by
  have h1 := Int.emod_add_mul_ediv (-1) (Q : Int)
  have h2 := Int.emod_nonneg (-1) (show (Q : Int) ≠ 0 by omega)
  have h3 := Int.emod_lt_of_pos (-1) (show (0 : Int) < Q by omega)
  generalize (-1 : Int) / (Q : Int) = q at *
  rcases Int.lt_trichotomy q (-1) with h | h | h
  · have := Int.mul_le_mul_of_nonneg_left (show q ≤ -2 by omega) (show (0 : Int) ≤ Q by omega)
    omega
  · exact h
  · have := Int.mul_nonneg (show (0 : Int) ≤ Q by omega) (show 0 ≤ q by omega)
    omega
theorem wint_byte (n : Int) (j : Nat) (hj : j ≤ 31) : (n / 2 ^ (8 * j)) % 256 = ((byt (wint n) (31 - j) : Nat) : Int) := by
  have hM : (M256 : Int) = 2 ^ (8 * j) * (256 * 2 ^ (248 - 8 * j)) := by
    have : M256 = 2 ^ (8 * j) * (256 * 2 ^ (248 - 8 * j)) := by
      rw [show (256 : Nat) = 2 ^ 8 by rfl, ← Nat.pow_add, ← Nat.pow_add]; unfold M256; congr 1; omega
    rw [this, Int.natCast_mul, Int.natCast_mul, Int.natCast_pow, Int.natCast_pow]; rfl
  have hp : (2 : Int) ^ (8 * j) ≠ 0 := Int.pow_ne_zero (by decide)
  have hM0 : (M256 : Int) ≠ 0 := by have : 0 < M256 := by unfold M256; decide
                                    omega
  have h0 := Int.emod_nonneg n hM0
  have hX : ((wint n : Nat) : Int) = n % (M256 : Int) := by unfold wint; omega
  have h1 : n = (wint n : Nat) + 2 ^ (8 * j) * ((256 * 2 ^ (248 - 8 * j)) * (n / (M256 : Int))) := by
    rw [hX, ← Int.mul_assoc, ← hM]; exact (Int.emod_add_mul_ediv n _).symm
  have h2 : n / 2 ^ (8 * j) = ((wint n : Nat) : Int) / 2 ^ (8 * j) + 256 * (2 ^ (248 - 8 * j) * (n / (M256 : Int))) := by
    rw [← Int.mul_assoc]
    conv => lhs; rw [h1]
    rw [Int.add_mul_ediv_left _ _ hp]
  rw [h2, Int.add_mul_emod_self_left]
  unfold byt
  rw [show 31 - (31 - j) = j by omega, Int.natCast_emod, Int.natCast_ediv, Int.natCast_pow]; rfl
theorem div_pow_succ (n : Int) (j : Nat) : n / 2 ^ (8 * j) / 256 = n / 2 ^ (8 * (j + 1)) := by
  rw [show (2 : Int) ^ (8 * (j + 1)) = 2 ^ (8 * j) * 256 by rw [show 8 * (j + 1) = 8 * j + 8 by omega, Int.pow_add]; rfl, ← Int.ediv_ediv_of_nonneg (Int.le_of_lt (Int.pow_pos (by decide)))]
theorem high_byte {n : Int} (hn : -9223372036854775808 ≤ n ∧ n ≤ 9223372036854775807) {i : Nat} (hi : i < 24) : (n / 2 ^ (8 * 8)) % 256 = ((byt (wint n) i : Nat) : Int) := by
  have h := wint_byte n (31 - i) (by omega)
  rw [show 31 - (31 - i) = i by omega] at h
  rw [← h]
  have e : (2 : Int) ^ (8 * (31 - i)) = 2 ^ (8 * 8) * ((2 ^ (8 * (23 - i)) : Nat) : Int) := by
    rw [show 8 * (31 - i) = 8 * 8 + 8 * (23 - i) by omega, Int.pow_add]; push_cast; rfl
  have hq : 0 < 2 ^ (8 * (23 - i)) := Nat.two_pow_pos _
  rw [e, ← Int.ediv_ediv_of_nonneg (by decide)]
  generalize 2 ^ (8 * (23 - i)) = Q at *
  have h64 : n / 2 ^ (8 * 8) = 0 ∨ n / 2 ^ (8 * 8) = -1 := by
    rw [show (2 : Int) ^ (8 * 8) = 18446744073709551616 by decide]; omega
  rcases h64 with h | h
  · rw [h, Int.zero_ediv]
  · rw [h, neg1_div hq]
theorem wcells_zero_lit : (wcells 0) = bc 32 fun _ => 0 := bc_congr fun i _ => by unfold byt; simp
theorem of_step {n : Int} {j : Nat} (hj : j < 8) {v : Int} (hv : v = ((byt (wint n) (31 - j) : Nat) : Int)) :
    (bc 32 fun i => if 31 < i + j then byt (wint n) i else byt 0 i).setIfInBounds (31 - j) (.int .u8 v) = bc 32 fun i => if 31 < i + (j + 1) then byt (wint n) i else byt 0 i := by
  rw [hv, bc_set (by omega)]
  refine bc_congr fun i hi => ?_
  by_cases h : i = 31 - j
  · rw [if_pos h, if_pos (by omega), h]
  · rw [if_neg h]
    by_cases h1 : 31 < i + j
    · rw [if_pos h1, if_pos (by omega)]
    · rw [if_neg h1, if_neg (by omega)]
theorem of_step2 {n : Int} {k : Nat} (hk : k < 24) {v : Int} (hv : v = ((byt (wint n) k : Nat) : Int)) :
    (bc 32 fun i => if 31 < i + 8 ∨ i < k then byt (wint n) i else byt 0 i).setIfInBounds k (.int .u8 v) = bc 32 fun i => if 31 < i + 8 ∨ i < k + 1 then byt (wint n) i else byt 0 i := by
  rw [hv, bc_set (by omega)]
  refine bc_congr fun i hi => ?_
  by_cases h : i = k
  · rw [if_pos h, if_pos (by omega), h]
  · rw [if_neg h]
    by_cases h1 : 31 < i + 8 ∨ i < k
    · rw [if_pos h1, if_pos (by omega)]
    · rw [if_neg h1, if_neg (by omega)]
theorem word_zero' : (Try.prog.info? 25).bind (·.zero) = some (.agg (wcells 0)) := by rw [wcells_zero_lit]; exact word_zero
end Go.Proofs.Ytklpcppdjcedpaa
