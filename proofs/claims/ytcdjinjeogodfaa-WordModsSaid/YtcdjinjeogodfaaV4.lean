/- The plain mathematics of long multiplication. -/
import Derived.Test.YtcdjinjeogodfaaV3
namespace Go.Proofs.Ytcdjinjeogodfaa

/-- v with the limb number k put to s. -/
def dput (v k s : Nat) : Nat := v % 2 ^ (64 * k) + s * 2 ^ (64 * k) + v / (2 ^ (64 * k) * 2 ^ 64) * (2 ^ (64 * k) * 2 ^ 64)
theorem split3 (v Q B : Nat) : v = v % Q + v / Q % B * Q + v / (Q * B) * (Q * B) := by
  have h1 := Nat.div_add_mod v Q
  have h2 := Nat.div_add_mod (v / Q) B
  rw [Nat.div_div_eq_div_mul] at h2
  have h3 : v / Q * Q = (B * (v / (Q * B)) + v / Q % B) * Q := by rw [h2]
  have h4 : (B * (v / (Q * B)) + v / Q % B) * Q = v / (Q * B) * (Q * B) + v / Q % B * Q := by
    rw [Nat.add_mul, Nat.mul_comm B, Nat.mul_assoc, Nat.mul_comm B Q]
  rw [Nat.mul_comm] at h1
  omega
theorem aux1 (r s Q B h : Nat) : r + s * Q + h * (Q * B) = r + Q * (s + B * h) := by grind
theorem dput_spec (v k s : Nat) : dput v k s + v / 2 ^ (64 * k) % 2 ^ 64 * 2 ^ (64 * k) = v + s * 2 ^ (64 * k) := by
  have h := split3 v (2 ^ (64 * k)) (2 ^ 64)
  unfold dput
  omega
theorem dput_lt {v k s m : Nat} (hv : v < 2 ^ (64 * m)) (hk : k < m) (hs : s < 2 ^ 64) : dput v k s < 2 ^ (64 * m) := by
  unfold dput
  have hQ : 0 < 2 ^ (64 * k) := Nat.two_pow_pos _
  have e : 2 ^ (64 * m) = 2 ^ (64 * k) * 2 ^ 64 * 2 ^ (64 * (m - k - 1)) := by rw [← Nat.pow_add, ← Nat.pow_add]; congr 1; omega
  have h1 := Nat.mod_lt v hQ
  have h2 : v / (2 ^ (64 * k) * 2 ^ 64) < 2 ^ (64 * (m - k - 1)) := by
    rw [Nat.div_lt_iff_lt_mul (Nat.mul_pos hQ (by decide)), Nat.mul_comm, ← e]; exact hv
  have h3 : (v / (2 ^ (64 * k) * 2 ^ 64) + 1) * (2 ^ (64 * k) * 2 ^ 64) ≤ 2 ^ (64 * (m - k - 1)) * (2 ^ (64 * k) * 2 ^ 64) := Nat.mul_le_mul_right _ h2
  rw [Nat.mul_comm (2 ^ (64 * (m - k - 1))), ← e, Nat.add_mul, Nat.one_mul] at h3
  have h4 : (s + 1) * 2 ^ (64 * k) ≤ 2 ^ 64 * 2 ^ (64 * k) := Nat.mul_le_mul_right _ hs
  rw [Nat.add_mul, Nat.one_mul, Nat.mul_comm (2 ^ 64)] at h4
  omega
theorem limb_of_mod {x y i : Nat} (h : x % 2 ^ (64 * (i + 1)) = y % 2 ^ (64 * (i + 1))) : x / 2 ^ (64 * i) % 2 ^ 64 = y / 2 ^ (64 * i) % 2 ^ 64 := by
  have hd : ∀ z, z / 2 ^ (64 * i) % 2 ^ 64 = z % 2 ^ (64 * (i + 1)) / 2 ^ (64 * i) := fun z => by
    rw [show 64 * (i + 1) = 64 * i + 64 by omega, Nat.pow_add, Nat.mod_mul_right_div_self]
  rw [hd, hd, h]
theorem dig_put {n v k s : Nat} (h : k < n) (hs : s < 2 ^ 64) : (dig n v).setIfInBounds k (.int .u64 (s : Int)) = dig n (dput v k s) := by
  have hQ : 0 < 2 ^ (64 * k) := Nat.two_pow_pos _
  apply Array.ext_getElem?
  intro i
  rw [Array.getElem?_setIfInBounds]
  by_cases hi : i < n
  · rw [dig_get hi, dig_get hi]
    by_cases hk : k = i
    · subst hk
      simp only [if_true, dig_size, h]
      congr 3
      unfold dput
      rw [aux1,
        Nat.add_mul_div_left _ _ hQ, Nat.div_eq_of_lt (Nat.mod_lt _ hQ), Nat.zero_add, Nat.add_mul_mod_self_left, Nat.mod_eq_of_lt hs]
    · rw [if_neg hk]
      congr 3
      have sp := dput_spec v k s
      rcases Nat.lt_or_ge i k with hlt | hge
      · apply limb_of_mod
        have e : 2 ^ (64 * k) = 2 ^ (64 * (i + 1)) * 2 ^ (64 * (k - i - 1)) := by rw [← Nat.pow_add]; congr 1; omega
        have h1 := congrArg (· % 2 ^ (64 * (i + 1))) sp
        simp only [e, Nat.mul_left_comm _ (2 ^ (64 * (i + 1))), Nat.add_mul_mod_self_left] at h1
        exact h1.symm
      · have e : 2 ^ (64 * i) = 2 ^ (64 * k) * 2 ^ 64 * 2 ^ (64 * (i - k - 1)) := by rw [← Nat.pow_add, ← Nat.pow_add]; congr 1; omega
        rw [e, ← Nat.div_div_eq_div_mul, ← Nat.div_div_eq_div_mul (dput v k s)]
        have h4 : (s + 1) * 2 ^ (64 * k) ≤ 2 ^ 64 * 2 ^ (64 * k) := Nat.mul_le_mul_right _ hs
        rw [Nat.add_mul, Nat.one_mul, Nat.mul_comm (2 ^ 64)] at h4
        have h1 := Nat.mod_lt v hQ
        have : dput v k s / (2 ^ (64 * k) * 2 ^ 64) = v / (2 ^ (64 * k) * 2 ^ 64) := by
          unfold dput
          rw [Nat.add_mul_div_right _ _ (Nat.mul_pos hQ (by decide)), Nat.div_eq_of_lt (by omega), Nat.zero_add]
        rw [this]
  · rw [Array.getElem?_eq_none (by rw [dig_size]; omega), Array.getElem?_eq_none (by rw [dig_size]; omega), if_neg (by omega)]

/-- One limb of x times one limb of y. -/
theorem mul_step {x y i j v c lo hi : Nat} (hT : lo + hi * 2 ^ 64 = x / 2 ^ (64 * i) % 2 ^ 64 * (y / 2 ^ (64 * j) % 2 ^ 64) + v / 2 ^ (64 * (i + j)) % 2 ^ 64 + c)
    (h : v + c * 2 ^ (64 * (i + j)) = x % 2 ^ (64 * i) * y + x / 2 ^ (64 * i) % 2 ^ 64 * (y % 2 ^ (64 * j)) * 2 ^ (64 * i)) :
    dput v (i + j) lo + hi * 2 ^ (64 * (i + (j + 1))) = x % 2 ^ (64 * i) * y + x / 2 ^ (64 * i) % 2 ^ 64 * (y % 2 ^ (64 * (j + 1))) * 2 ^ (64 * i) := by
  have sp := dput_spec v (i + j) lo
  have e1 : 2 ^ (64 * (i + (j + 1))) = 2 ^ 64 * 2 ^ (64 * (i + j)) := by rw [show 64 * (i + (j + 1)) = 64 + 64 * (i + j) by omega, Nat.pow_add]
  have e2 : 2 ^ (64 * (i + j)) = 2 ^ (64 * j) * 2 ^ (64 * i) := by rw [show 64 * (i + j) = 64 * j + 64 * i by omega, Nat.pow_add]
  rw [mod_pow_step, e1]
  generalize x % 2 ^ (64 * i) * y = S at *
  generalize x / 2 ^ (64 * i) % 2 ^ 64 = xi at *
  generalize y / 2 ^ (64 * j) % 2 ^ 64 = yj at *
  generalize v / 2 ^ (64 * (i + j)) % 2 ^ 64 = pk at *
  generalize y % 2 ^ (64 * j) = yl at *
  rw [e2] at *
  generalize 2 ^ (64 * j) = J at *
  generalize 2 ^ (64 * i) = I at *
  generalize 2 ^ 64 = B at *
  clear e1 e2
  grind
theorem M256_pow : M256 = 2 ^ (64 * 4) := rfl
theorem mul_row {x y i v c : Nat} (hy : y < M256) (hv : v < 2 ^ (64 * (i + 4)))
    (h : v + c * 2 ^ (64 * (i + 4)) = x % 2 ^ (64 * i) * y + x / 2 ^ (64 * i) % 2 ^ 64 * (y % 2 ^ (64 * 4)) * 2 ^ (64 * i)) :
    dput v (i + 4) c = x % 2 ^ (64 * (i + 1)) * y := by
  have sp := dput_spec v (i + 4) c
  rw [← M256_pow, Nat.mod_eq_of_lt hy] at h
  rw [Nat.div_eq_of_lt hv, Nat.zero_mod, Nat.zero_mul, Nat.add_zero, h] at sp
  rw [sp, mod_pow_step]
  generalize x % 2 ^ (64 * i) = A
  generalize x / 2 ^ (64 * i) % 2 ^ 64 = xi
  generalize 2 ^ (64 * i) = I
  grind
theorem mul_lt {x y i : Nat} (hy : y < M256) : x % 2 ^ (64 * i) * y < 2 ^ (64 * (i + 4)) := by
  have h1 := Nat.mod_lt x (Nat.two_pow_pos (64 * i))
  rw [show 64 * (i + 4) = 64 * i + 64 * 4 by omega, Nat.pow_add, ← M256_pow]
  generalize M256 = M at *
  exact Nat.mul_lt_mul'' h1 hy
end Go.Proofs.Ytcdjinjeogodfaa
