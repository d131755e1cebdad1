/- The plain mathematics of signed words. -/
import Derived.Test.YtcdjinjeogodfaaJ6
namespace Go.Proofs.Ytcdjinjeogodfaa
theorem M256_half : M256 = 2 ^ 255 + 2 ^ 255 := by unfold M256; decide
theorem cmpN_neg (x y : Nat) : cmpN x y = -cmpN y x := by
  unfold cmpN
  by_cases h1 : x < y <;> by_cases h2 : y < x <;> simp [h1, h2] <;> omega
theorem cmpN_zero (x y : Nat) : (cmpN x y = 0) ↔ x = y := by
  unfold cmpN
  by_cases h1 : x < y <;> by_cases h2 : y < x <;> simp [h1, h2] <;> omega
theorem flip_lo {x : Nat} (h : x < 2 ^ 255) : flipN x = x + 2 ^ 255 := by
  have e := M256_half
  unfold flipN
  generalize 2 ^ 255 = H at *
  rw [Nat.mod_eq_of_lt (by omega)]
theorem flip_hi {x : Nat} (h : 2 ^ 255 ≤ x) (hx : x < M256) : flipN x = x - 2 ^ 255 := by
  have e := M256_half
  unfold flipN
  generalize 2 ^ 255 = H at *
  rw [Nat.mod_eq_sub_mod (by omega), Nat.mod_eq_of_lt (by omega)]
  omega
theorem wsub_neg {a : Nat} (h : 0 < a) : wsub 0 a = M256 - a := by
  have := M256_pos
  unfold wsub; rw [Nat.zero_add, Nat.mod_eq_of_lt (by omega)]
theorem wsub_nought : wsub 0 0 = 0 := by unfold wsub; simp
theorem flip_neg {a : Nat} (ha : a < M256) (h : a ≠ 2 ^ 255) : flipN (wsub 0 a) + flipN a = M256 := by
  have e := M256_half
  have hH : 0 < 2 ^ 255 := Nat.two_pow_pos 255
  rcases Nat.eq_zero_or_pos a with h0 | h0
  · subst h0; rw [wsub_nought, flip_lo hH]; omega
  · rw [wsub_neg h0]
    rcases Nat.lt_or_ge a (2 ^ 255) with h1 | h1
    · rw [flip_lo h1, flip_hi (by omega) (by omega)]; omega
    · rw [flip_hi h1 ha, flip_lo (by omega)]; omega
theorem turned {a b : Nat} (ha : a < M256) (hb : b < M256) (h1 : a ≠ 2 ^ 255) (h2 : b ≠ 2 ^ 255) :
    cmpN (flipN a) (flipN b) = cmpN (flipN (wsub 0 b)) (flipN (wsub 0 a)) := by
  have e1 := flip_neg ha h1
  have e2 := flip_neg hb h2
  unfold cmpN
  generalize flipN a = p at *
  generalize flipN b = q at *
  generalize flipN (wsub 0 a) = r at *
  generalize flipN (wsub 0 b) = s at *
  by_cases h : p < q
  · rw [if_pos h, if_pos (show s < r by omega)]
  · rw [if_neg h, if_neg (show ¬ s < r by omega)]
    by_cases h' : q < p
    · rw [if_pos h', if_pos (show r < s by omega)]
    · rw [if_neg h', if_neg (show ¬ r < s by omega)]
theorem add_neg_ {a : Nat} (ha : a < M256) : wadd a (wsub 0 a) = 0 := by
  rcases Nat.eq_zero_or_pos a with h0 | h0
  · subst h0; rw [wsub_nought]; unfold wadd; simp
  · rw [wsub_neg h0]; unfold wadd
    rw [show a + (M256 - a) = M256 by omega, Nat.mod_self]
theorem mul_neg_one {a : Nat} (ha : a < M256) : wmul a (wint (-1)) = wsub 0 a := by
  rw [wint_neg_one]
  have hp := M256_pos
  rcases Nat.eq_zero_or_pos a with h0 | h0
  · subst h0; rw [wsub_nought]; unfold wmul; simp
  · rw [wsub_neg h0]; unfold wmul
    have : a * (M256 - 1) = (M256 - a) + M256 * (a - 1) := by
      obtain ⟨k, rfl⟩ : ∃ k, a = k + 1 := ⟨a - 1, by omega⟩
      obtain ⟨m, hm⟩ : ∃ m, M256 = m + k + 1 := ⟨M256 - k - 1, by omega⟩
      rw [hm]
      simp only [Nat.add_sub_cancel]
      rw [show m + k + 1 - (k + 1) = m by omega, Nat.add_mul, Nat.add_mul, Nat.add_mul, Nat.mul_add, Nat.mul_comm k m]
      omega
    rw [this, Nat.add_mul_mod_self_left, Nat.mod_eq_of_lt (by omega)]
theorem sar_shl {n y : Nat} (hn : n < 256) : sarN n (y * 2 ^ n % M256) * 2 ^ n % M256 = y * 2 ^ n % M256 := by
  obtain ⟨m, hm⟩ : ∃ m, 256 = n + (m + 1) := ⟨256 - n - 1, by omega⟩
  have hM : M256 = 2 ^ n * 2 ^ (m + 1) := by unfold M256; rw [hm, Nat.pow_add]
  obtain ⟨z, hz⟩ : ∃ z, y * 2 ^ n % M256 = 2 ^ n * z := ⟨y % 2 ^ (m + 1), by rw [hM, Nat.mul_comm, Nat.mul_mod_mul_left]⟩
  have hlt : y * 2 ^ n % M256 < M256 := Nat.mod_lt _ M256_pos
  rw [hz] at hlt ⊢
  have hp := Nat.two_pow_pos n
  unfold sarN
  by_cases h : 2 ^ 255 ≤ 2 ^ n * z
  · rw [if_pos h]
    have hzlt : z < 2 ^ (m + 1) := by rw [hM] at hlt; exact Nat.lt_of_mul_lt_mul_left hlt
    have e1 : (M256 - (2 ^ n * z + 1)) / 2 ^ n = 2 ^ (m + 1) - (z + 1) := by
      have : M256 - (2 ^ n * z + 1) = 2 ^ n * (2 ^ (m + 1) - (z + 1)) + (2 ^ n - 1) := by
        rw [hM, Nat.mul_sub, Nat.mul_add]
        have := Nat.mul_le_mul_left (2 ^ n) (show z + 1 ≤ 2 ^ (m + 1) from hzlt)
        rw [Nat.mul_add] at this
        omega
      rw [this, Nat.mul_add_div hp, Nat.div_eq_of_lt (by omega), Nat.add_zero]
    rw [e1, show 2 ^ (m + 1) - (z + 1) + 1 = 2 ^ (m + 1) - z by omega]
    have e2 : (M256 - (2 ^ (m + 1) - z)) * 2 ^ n = 2 ^ n * z + M256 * (2 ^ n - 1) := by
      have hle : 2 ^ (m + 1) ≤ M256 := by rw [hM]; exact Nat.le_mul_of_pos_left _ hp
      have : M256 - (2 ^ (m + 1) - z) = z + (M256 - 2 ^ (m + 1)) := by omega
      rw [this, Nat.add_mul, Nat.sub_mul, Nat.mul_sub, Nat.mul_one, Nat.mul_comm z]
      congr 2
      rw [hM, Nat.mul_comm]
    rw [e2, Nat.add_mul_mod_self_left, Nat.mod_eq_of_lt hlt]
  · rw [if_neg h, Nat.mul_div_cancel_left _ hp, Nat.mul_comm, Nat.mod_eq_of_lt hlt]
theorem sar_lt {n x : Nat} (hx : x < M256) : sarN n x < M256 := by
  have := M256_pos
  unfold sarN
  split
  · generalize (M256 - (x + 1)) / 2 ^ n = c
    omega
  · exact Nat.lt_of_le_of_lt (Nat.div_le_self _ _) hx
theorem ext_lt {k x : Nat} (hx : x < M256) : extN k x < M256 := by
  unfold extN
  split
  · exact sar_lt (Nat.mod_lt _ M256_pos)
  · exact hx
theorem ext_twice {k x : Nat} : extN k (extN k x) = extN k x := by
  unfold extN
  by_cases h : k < 31
  · simp only [if_pos h]
    rw [sar_shl (by omega)]
  · simp only [if_neg h]
theorem ext_shifts {k x : Nat} (h : k < 31) : extN k x = sraN (8 * (31 - k)) (shlN (8 * (31 - k)) x) := by
  unfold extN sraN shlN
  rw [if_pos h, if_pos (by omega), if_pos (by omega)]
end Go.Proofs.Ytcdjinjeogodfaa
