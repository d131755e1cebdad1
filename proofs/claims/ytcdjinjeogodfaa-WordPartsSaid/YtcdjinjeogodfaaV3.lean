/- The plain mathematics of differences and products, limb by limb; integers as words. -/
import Derived.Test.YtcdjinjeogodfaaV2
namespace Go.Proofs.Ytcdjinjeogodfaa

/-- The borrow of x - y behind k limbs. -/
def brw (x y k : Nat) : Nat := if x % 2 ^ (64 * k) < y % 2 ^ (64 * k) then 1 else 0
theorem brw_zero (x y : Nat) : brw x y 0 = 0 := by simp [brw, Nat.mod_one]
theorem brw_le (x y k : Nat) : brw x y k ≤ 1 := by unfold brw; split <;> omega
theorem pow_dvd_M256 {k : Nat} (hk : k ≤ 4) : 2 ^ (64 * k) ∣ M256 := by
  unfold M256
  exact Nat.pow_dvd_pow 2 (by omega)
theorem brw_sum {x y z k : Nat} (hz : (z + y) % M256 = x % M256) (hk : k ≤ 4) : z % 2 ^ (64 * k) + y % 2 ^ (64 * k) = x % 2 ^ (64 * k) + 2 ^ (64 * k) * brw x y k := by
  have hd := pow_dvd_M256 hk
  have h1 : (z + y) % 2 ^ (64 * k) = x % 2 ^ (64 * k) := by
    rw [← Nat.mod_mod_of_dvd (z + y) hd, hz, Nat.mod_mod_of_dvd x hd]
  have hP : 0 < 2 ^ (64 * k) := Nat.two_pow_pos _
  unfold brw
  rw [Nat.add_mod] at h1
  generalize 2 ^ (64 * k) = P at *
  have l1 := Nat.mod_lt x hP
  have l2 := Nat.mod_lt y hP
  have l3 := Nat.mod_lt z hP
  generalize x % P = a at *
  generalize y % P = b at *
  generalize z % P = c at *
  by_cases h : c + b < P
  · rw [Nat.mod_eq_of_lt h] at h1
    rw [if_neg (by omega)]; omega
  · have e : (c + b) % P = c + b - P := by
      rw [Nat.mod_eq_sub_mod (by omega), Nat.mod_eq_of_lt (by omega)]
    rw [e] at h1
    rw [if_pos (by omega)]; omega
theorem sub_step {x y z k : Nat} (hz : (z + y) % M256 = x % M256) (hk : k < 4) :
    z / 2 ^ (64 * k) % 2 ^ 64 = (x / 2 ^ (64 * k) % 2 ^ 64 + 2 ^ 64 - y / 2 ^ (64 * k) % 2 ^ 64 - brw x y k) % 2 ^ 64 ∧
    brw x y (k + 1) = if x / 2 ^ (64 * k) % 2 ^ 64 < y / 2 ^ (64 * k) % 2 ^ 64 + brw x y k then 1 else 0 := by
  have s0 := brw_sum hz (Nat.le_of_lt hk)
  have s1 := brw_sum hz (show k + 1 ≤ 4 by omega)
  have e : 2 ^ (64 * (k + 1)) = 2 ^ (64 * k) * 2 ^ 64 := by rw [← Nat.pow_add]; congr 1
  have b0 := brw_le x y k
  have b1 := brw_le x y (k + 1)
  have hP : 0 < 2 ^ (64 * k) := Nat.two_pow_pos _
  rw [e, mod_step, mod_step, mod_step] at s1
  have l1 := Nat.mod_lt (x / 2 ^ (64 * k)) (show 0 < 2 ^ 64 by decide)
  have l2 := Nat.mod_lt (y / 2 ^ (64 * k)) (show 0 < 2 ^ 64 by decide)
  have l3 := Nat.mod_lt (z / 2 ^ (64 * k)) (show 0 < 2 ^ 64 by decide)
  generalize brw x y k = b at *
  generalize brw x y (k + 1) = b' at *
  generalize x / 2 ^ (64 * k) % 2 ^ 64 = xk at *
  generalize y / 2 ^ (64 * k) % 2 ^ 64 = yk at *
  generalize z / 2 ^ (64 * k) % 2 ^ 64 = zk at *
  have key : 2 ^ (64 * k) * (b + zk + yk) = 2 ^ (64 * k) * (xk + 2 ^ 64 * b') := by
    rw [Nat.mul_add, Nat.mul_add, Nat.mul_add, ← Nat.mul_assoc]
    omega
  have key2 := Nat.eq_of_mul_eq_mul_left hP key
  have hb' : b' = 0 ∨ b' = 1 := by omega
  rcases hb' with rfl | rfl
  · refine ⟨by omega, by rw [if_neg (by omega)]⟩
  · refine ⟨by omega, by rw [if_pos (by omega)]⟩

/-- The word of an integer. -/
def wint (n : Int) : Nat := (n % (M256 : Int)).toNat
theorem wint_nat {n : Nat} (h : n < M256) : wint n = n := by
  unfold wint; rw [Int.emod_eq_of_lt (by omega) (by omega)]; rfl
theorem wint_lt (n : Int) : wint n < M256 := by
  unfold wint
  have h : (0 : Int) < (M256 : Int) := by unfold M256; decide
  have h1 := Int.emod_nonneg n (show (M256 : Int) ≠ 0 by omega)
  have h2 := Int.emod_lt_of_pos n h
  omega
theorem wint_neg_one : wint (-1) = M256 - 1 := by unfold wint M256; decide
theorem dig_of {n : Int} (hn : -9223372036854775808 ≤ n ∧ n ≤ 9223372036854775807) :
    #[Value.int .u64 (n % 18446744073709551616), Value.int .u64 ((n / 9223372036854775808) % 18446744073709551616), Value.int .u64 ((n / 9223372036854775808) % 18446744073709551616), Value.int .u64 ((n / 9223372036854775808) % 18446744073709551616)] = dig 4 (wint n) := by
  have h : dig 4 (wint n) = #[Value.int .u64 ((wint n / 2 ^ (64 * 0) % 2 ^ 64 : Nat) : Int), Value.int .u64 ((wint n / 2 ^ (64 * 1) % 2 ^ 64 : Nat) : Int), Value.int .u64 ((wint n / 2 ^ (64 * 2) % 2 ^ 64 : Nat) : Int), Value.int .u64 ((wint n / 2 ^ (64 * 3) % 2 ^ 64 : Nat) : Int)] := rfl
  rw [h]
  rcases Int.lt_or_le n 0 with hneg | hpos
  · have hw : wint n = 115792089237316195423570985008687907853269984665640564039457584007913129639936 - (-n).toNat := by
      have e : n % (M256 : Int) = n + 115792089237316195423570985008687907853269984665640564039457584007913129639936 := by
        show n % (115792089237316195423570985008687907853269984665640564039457584007913129639936 : Int) = _
        omega
      unfold wint; rw [e]; omega
    rw [hw]
    obtain ⟨m, rfl, hm⟩ : ∃ m : Nat, n = -(m : Int) ∧ 1 ≤ m := ⟨(-n).toNat, by omega, by omega⟩
    have e1 : -(m : Int) / 9223372036854775808 % 18446744073709551616 = 18446744073709551615 := by omega
    rw [e1, show (- -(m : Int)).toNat = m by omega]
    have e0 : ((115792089237316195423570985008687907853269984665640564039457584007913129639936 - m) / 2 ^ (64 * 0) % 2 ^ 64 : Nat) = 18446744073709551616 - m := by omega
    have e2 : ((115792089237316195423570985008687907853269984665640564039457584007913129639936 - m) / 2 ^ (64 * 1) % 2 ^ 64 : Nat) = 18446744073709551615 := by omega
    have e3 : ((115792089237316195423570985008687907853269984665640564039457584007913129639936 - m) / 2 ^ (64 * 2) % 2 ^ 64 : Nat) = 18446744073709551615 := by omega
    have e4 : ((115792089237316195423570985008687907853269984665640564039457584007913129639936 - m) / 2 ^ (64 * 3) % 2 ^ 64 : Nat) = 18446744073709551615 := by omega
    rw [e0, e2, e3, e4]
    have e5 : -(m : Int) % 18446744073709551616 = ((18446744073709551616 - m : Nat) : Int) := by omega
    rw [e5]; rfl
  · obtain ⟨m, rfl⟩ := Int.eq_ofNat_of_zero_le hpos
    have hm : m < M256 := by unfold M256; omega
    rw [wint_nat hm]
    have e1 : (m : Int) / 9223372036854775808 % 18446744073709551616 = 0 := by omega
    rw [e1]
    have e0 : (m / 2 ^ (64 * 0) % 2 ^ 64 : Nat) = m := by omega
    have e2 : (m / 2 ^ (64 * 1) % 2 ^ 64 : Nat) = 0 := by omega
    have e3 : (m / 2 ^ (64 * 2) % 2 ^ 64 : Nat) = 0 := by omega
    have e4 : (m / 2 ^ (64 * 3) % 2 ^ 64 : Nat) = 0 := by omega
    rw [e0, e2, e3, e4]
    have e5 : (m : Int) % 18446744073709551616 = (m : Int) := by omega
    rw [e5]; rfl
end Go.Proofs.Ytcdjinjeogodfaa
