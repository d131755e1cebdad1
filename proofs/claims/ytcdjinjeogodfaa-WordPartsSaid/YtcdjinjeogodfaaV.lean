/- The plain mathematics of digits: numbers as rows of limbs and of bytes, no Go in sight. -/
import Derived.Test.YtcdjinjeogodfaaRows
namespace Go.Proofs.Ytcdjinjeogodfaa

/-- A row of n limbs of 64 bits, the lowest first. -/
def dig (n x : Nat) : Array Value := ((List.range n).map fun i => Value.int .u64 ((x / 2 ^ (64 * i) % 2 ^ 64 : Nat) : Int)).toArray

theorem dig_size (n x : Nat) : (dig n x).size = n := by simp [dig]
theorem dig_get {n x i : Nat} (h : i < n) : (dig n x)[i]? = some (Value.int .u64 ((x / 2 ^ (64 * i) % 2 ^ 64 : Nat) : Int)) := by
  simp [dig, h]
theorem dig_set {n x k : Nat} {s : Nat} (h : k < n) (hx : x < 2 ^ (64 * k)) (hs : s < 2 ^ 64) :
    (dig n x).setIfInBounds k (.int .u64 (s : Int)) = dig n (x + s * 2 ^ (64 * k)) := by
  apply Array.ext_getElem?
  intro i
  rw [Array.getElem?_setIfInBounds]
  by_cases hi : i < n
  · rw [dig_get hi, dig_get hi]
    by_cases hk : k = i
    · subst hk
      simp only [if_true, dig_size, h]
      congr 3
      rw [Nat.add_mul_div_right _ _ (Nat.two_pow_pos _), Nat.div_eq_of_lt hx, Nat.zero_add, Nat.mod_eq_of_lt hs]
    · rw [if_neg hk]
      congr 3
      rcases Nat.lt_or_ge i k with hlt | hge
      · have e : 2 ^ (64 * k) = 2 ^ (64 * i) * (2 ^ 64 * 2 ^ (64 * (k - i - 1))) := by
          rw [← Nat.pow_add, ← Nat.pow_add]; congr 1; omega
        rw [e, show x + s * (2 ^ (64 * i) * (2 ^ 64 * 2 ^ (64 * (k - i - 1)))) = x + 2 ^ (64 * i) * (2 ^ 64 * (s * 2 ^ (64 * (k - i - 1)))) from by
          simp only [Nat.mul_left_comm, Nat.mul_comm], Nat.add_mul_div_left _ _ (Nat.two_pow_pos _), Nat.add_mul_mod_self_left]
      · have h1 : x + s * 2 ^ (64 * k) < 2 ^ (64 * i) := by
          have : 2 ^ (64 * k) * 2 ^ 64 ≤ 2 ^ (64 * i) := by rw [← Nat.pow_add]; exact Nat.pow_le_pow_right (by omega) (by omega)
          have h2 : s * 2 ^ (64 * k) ≤ (2 ^ 64 - 1) * 2 ^ (64 * k) := Nat.mul_le_mul_right _ (by omega)
          have h3 : (2 ^ 64 - 1) * 2 ^ (64 * k) = 2 ^ (64 * k) * 2 ^ 64 - 2 ^ (64 * k) := by
            rw [Nat.sub_mul, Nat.one_mul, Nat.mul_comm]
          omega
        have h4 : x < 2 ^ (64 * i) := by omega
        rw [Nat.div_eq_of_lt h1, Nat.div_eq_of_lt h4]
  · have e1 : (dig n x)[i]? = none := by rw [Array.getElem?_eq_none]; rw [dig_size]; omega
    have e2 : (dig n (x + s * 2 ^ (64 * k)))[i]? = none := by rw [Array.getElem?_eq_none]; rw [dig_size]; omega
    rw [e1, e2]
    have : k ≠ i := by omega
    rw [if_neg this]

theorem dig_mod (n x : Nat) : dig n (x % 2 ^ (64 * n)) = dig n x := by
  apply Array.ext_getElem?
  intro i
  by_cases hi : i < n
  · rw [dig_get hi, dig_get hi]
    congr 3
    apply Nat.eq_of_testBit_eq
    intro j
    rw [Nat.testBit_mod_two_pow, Nat.testBit_mod_two_pow, Nat.testBit_div_two_pow, Nat.testBit_div_two_pow, Nat.testBit_mod_two_pow]
    by_cases hj : j < 64
    · have : j + 64 * i < 64 * n := by omega
      simp [hj, this]
    · simp [hj]
  · rw [Array.getElem?_eq_none (by rw [dig_size]; omega), Array.getElem?_eq_none (by rw [dig_size]; omega)]
theorem dig_zero4 : dig 4 0 = #[.int .u64 0, .int .u64 0, .int .u64 0, .int .u64 0] := by simp [dig, List.range_succ]
theorem dig_zero8 : dig 8 0 = #[.int .u64 0, .int .u64 0, .int .u64 0, .int .u64 0, .int .u64 0, .int .u64 0, .int .u64 0, .int .u64 0] := by simp [dig, List.range_succ]

/-- The carry of x + y behind k limbs. -/
def cry (x y k : Nat) : Nat := (x % 2 ^ (64 * k) + y % 2 ^ (64 * k)) / 2 ^ (64 * k)
theorem cry_zero (x y : Nat) : cry x y 0 = 0 := by simp [cry, Nat.mod_one]
theorem mod_step (x P B : Nat) : x % (P * B) = x % P + P * (x / P % B) := Nat.mod_mul
theorem cry_le (x y k : Nat) : cry x y k ≤ 1 := by
  unfold cry
  have h : 0 < 2 ^ (64 * k) := Nat.two_pow_pos _
  have h1 := Nat.mod_lt x h
  have h2 := Nat.mod_lt y h
  apply Nat.le_of_lt_succ
  rw [Nat.div_lt_iff_lt_mul h]
  omega
theorem mod3 (a b c B : Nat) : (a + b + c) % B = (a % B + b % B + c) % B := by
  rw [Nat.add_mod (a + b), Nat.add_mod a b, Nat.add_mod (a % B + b % B) c]
theorem add_step (x y k : Nat) :
    ((x + y) / 2 ^ (64 * k)) % 2 ^ 64 = (x / 2 ^ (64 * k) % 2 ^ 64 + y / 2 ^ (64 * k) % 2 ^ 64 + cry x y k) % 2 ^ 64 ∧
    cry x y (k + 1) = (x / 2 ^ (64 * k) % 2 ^ 64 + y / 2 ^ (64 * k) % 2 ^ 64 + cry x y k) / 2 ^ 64 := by
  have hP : 0 < 2 ^ (64 * k) := Nat.two_pow_pos _
  have e : 2 ^ (64 * (k + 1)) = 2 ^ (64 * k) * 2 ^ 64 := by rw [← Nat.pow_add]; congr 1
  constructor
  · rw [Nat.add_div hP]
    unfold cry
    have h1 := Nat.mod_lt x hP
    have h2 := Nat.mod_lt y hP
    have h3 : (if 2 ^ (64 * k) ≤ x % 2 ^ (64 * k) + y % 2 ^ (64 * k) then 1 else 0) = (x % 2 ^ (64 * k) + y % 2 ^ (64 * k)) / 2 ^ (64 * k) := by
      split
      · rename_i h
        symm
        rw [Nat.div_eq_iff hP]
        omega
      · symm
        apply Nat.div_eq_of_lt
        omega
    rw [h3]
    exact mod3 _ _ _ _
  · unfold cry
    rw [e, mod_step, mod_step]
    have e2 : x % 2 ^ (64 * k) + 2 ^ (64 * k) * (x / 2 ^ (64 * k) % 2 ^ 64) + (y % 2 ^ (64 * k) + 2 ^ (64 * k) * (y / 2 ^ (64 * k) % 2 ^ 64)) =
        (x % 2 ^ (64 * k) + y % 2 ^ (64 * k)) + 2 ^ (64 * k) * (x / 2 ^ (64 * k) % 2 ^ 64 + y / 2 ^ (64 * k) % 2 ^ 64) := by
      rw [Nat.mul_add]; omega
    rw [e2, ← Nat.div_div_eq_div_mul, Nat.add_mul_div_left _ _ hP, Nat.add_comm]
theorem mod_pow_step (x k : Nat) : x % 2 ^ (64 * (k + 1)) = x % 2 ^ (64 * k) + (x / 2 ^ (64 * k) % 2 ^ 64) * 2 ^ (64 * k) := by
  have e : 2 ^ (64 * (k + 1)) = 2 ^ (64 * k) * 2 ^ 64 := by rw [← Nat.pow_add]; congr 1
  rw [e, mod_step, Nat.mul_comm (2 ^ (64 * k))]
theorem dig_step {n z k : Nat} {s : Nat} (h : k < n) (hs : s = z / 2 ^ (64 * k) % 2 ^ 64) :
    (dig n (z % 2 ^ (64 * k))).setIfInBounds k (.int .u64 (s : Int)) = dig n (z % 2 ^ (64 * (k + 1))) := by
  rw [dig_set h (Nat.mod_lt _ (Nat.two_pow_pos _)) (by rw [hs]; exact Nat.mod_lt _ (by decide)), mod_pow_step, hs]
end Go.Proofs.Ytcdjinjeogodfaa
