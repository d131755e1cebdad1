/- The plain mathematics of a digit taken off and given back. -/
import Derived.Test.YtcdjinjeogodfaaC2
import Derived.Test.YtcdjinjeogodfaaC4
import Derived.StillTailTactics
namespace Go.Proofs.Ytcdjinjeogodfaa
open Go.RowKit

/-- The limb of x with the number i. -/
abbrev lm (x i : Nat) : Nat := x / 2 ^ (64 * i) % 2 ^ 64
theorem lm_lt (x i : Nat) : lm x i < 18446744073709551616 := Nat.mod_lt _ (by decide)
theorem off_step {U V d j k c b Uk lo hi s b' : Nat} (hT : lo + hi * 2 ^ 64 = lm V k * d + c) (hs : s + lo + b = lm Uk (j + k) + 2 ^ 64 * b')
    (h : Uk + d * (V % 2 ^ (64 * k)) * 2 ^ (64 * j) = U + (b + c) * 2 ^ (64 * (j + k))) :
    dput Uk (j + k) s + d * (V % 2 ^ (64 * (k + 1))) * 2 ^ (64 * j) = U + (b' + hi) * 2 ^ (64 * (j + (k + 1))) := by
  have sp := dput_spec Uk (j + k) s
  have e1 : 2 ^ (64 * (j + (k + 1))) = 2 ^ 64 * 2 ^ (64 * (j + k)) := by rw [show 64 * (j + (k + 1)) = 64 + 64 * (j + k) by omega, Nat.pow_add]
  have e2 : 2 ^ (64 * (j + k)) = 2 ^ (64 * k) * 2 ^ (64 * j) := by rw [show 64 * (j + k) = 64 * k + 64 * j by omega, Nat.pow_add]
  rw [mod_pow_step, e1]
  simp only [lm] at *
  generalize dput Uk (j + k) s = Un at *
  generalize V / 2 ^ (64 * k) % 2 ^ 64 = vk at *
  generalize Uk / 2 ^ (64 * (j + k)) % 2 ^ 64 = r at *
  generalize V % 2 ^ (64 * k) = vl at *
  rw [e2] at *
  generalize 2 ^ (64 * k) = K at *
  generalize 2 ^ (64 * j) = J at *
  generalize 2 ^ 64 = B at *
  clear e1 e2
  grind
theorem off_end {U V d j n c b Uk s b' : Nat} (hV : V < 2 ^ (64 * n)) (hs : s + c + b = lm Uk (j + n) + 2 ^ 64 * b')
    (h : Uk + d * (V % 2 ^ (64 * n)) * 2 ^ (64 * j) = U + (b + c) * 2 ^ (64 * (j + n))) :
    dput Uk (j + n) s + d * V * 2 ^ (64 * j) = U + b' * 2 ^ (64 * (j + n + 1)) := by
  have sp := dput_spec Uk (j + n) s
  rw [Nat.mod_eq_of_lt hV] at h
  rw [show 2 ^ (64 * (j + n + 1)) = 2 ^ 64 * 2 ^ (64 * (j + n)) by rw [show 64 * (j + n + 1) = 64 + 64 * (j + n) by omega, Nat.pow_add]]
  simp only [lm] at *
  generalize dput Uk (j + n) s = Un at *
  generalize Uk / 2 ^ (64 * (j + n)) % 2 ^ 64 = r at *
  generalize d * V * 2 ^ (64 * j) = D at *
  generalize 2 ^ (64 * (j + n)) = P at *
  generalize 2 ^ 64 = B at *
  grind
theorem back_step {U V j k c Uk s c' : Nat} (hs : s + c' * 2 ^ 64 = lm Uk (j + k) + lm V k + c)
    (h : Uk + c * 2 ^ (64 * (j + k)) = U + (V % 2 ^ (64 * k)) * 2 ^ (64 * j)) :
    dput Uk (j + k) s + c' * 2 ^ (64 * (j + (k + 1))) = U + (V % 2 ^ (64 * (k + 1))) * 2 ^ (64 * j) := by
  have sp := dput_spec Uk (j + k) s
  have e1 : 2 ^ (64 * (j + (k + 1))) = 2 ^ 64 * 2 ^ (64 * (j + k)) := by rw [show 64 * (j + (k + 1)) = 64 + 64 * (j + k) by omega, Nat.pow_add]
  have e2 : 2 ^ (64 * (j + k)) = 2 ^ (64 * k) * 2 ^ (64 * j) := by rw [show 64 * (j + k) = 64 * k + 64 * j by omega, Nat.pow_add]
  rw [mod_pow_step, e1]
  simp only [lm] at *
  generalize dput Uk (j + k) s = Un at *
  generalize V / 2 ^ (64 * k) % 2 ^ 64 = vk at *
  generalize Uk / 2 ^ (64 * (j + k)) % 2 ^ 64 = r at *
  generalize V % 2 ^ (64 * k) = vl at *
  rw [e2] at *
  generalize 2 ^ (64 * k) = K at *
  generalize 2 ^ (64 * j) = J at *
  generalize 2 ^ 64 = B at *
  clear e1 e2
  grind
theorem back_end {U V j n c Uk s c' : Nat} (hV : V < 2 ^ (64 * n)) (hs : s + c' * 2 ^ 64 = lm Uk (j + n) + c)
    (h : Uk + c * 2 ^ (64 * (j + n)) = U + (V % 2 ^ (64 * n)) * 2 ^ (64 * j)) :
    dput Uk (j + n) s + c' * 2 ^ (64 * (j + n + 1)) = U + V * 2 ^ (64 * j) := by
  have sp := dput_spec Uk (j + n) s
  rw [Nat.mod_eq_of_lt hV] at h
  rw [show 2 ^ (64 * (j + n + 1)) = 2 ^ 64 * 2 ^ (64 * (j + n)) by rw [show 64 * (j + n + 1) = 64 + 64 * (j + n) by omega, Nat.pow_add]]
  simp only [lm] at *
  generalize dput Uk (j + n) s = Un at *
  generalize Uk / 2 ^ (64 * (j + n)) % 2 ^ 64 = r at *
  generalize V * 2 ^ (64 * j) = D at *
  generalize 2 ^ (64 * (j + n)) = P at *
  generalize 2 ^ 64 = B at *
  grind
theorem sub_ex (x y b : Nat) (hx : x < 18446744073709551616) (hy : y < 18446744073709551616) (hb : b ≤ 1) : ∃ s k : Nat, s + y + b = x + 2 ^ 64 * k ∧ s < 2 ^ 64 ∧ k ≤ 1 ∧ ∀ w : World,
    (callFunc 100 #[.int .u64 x, .int .u64 y, .int .u64 b]).run Try.prog w = .ok (.value (.tuple #[.int .u64 s, .int .u64 k])) w := by
  obtain ⟨s, k, hs, hk, hr⟩ := sub64' x y b hb
  refine ⟨s, k, ?_, ?_, ?_, hr⟩
  · rw [hs, hk]
    by_cases h : x < y + b
    · rw [if_pos h]; omega
    · rw [if_neg h]; omega
  · rw [hs]; exact Nat.mod_lt _ (by decide)
  · rw [hk]; split <;> omega
theorem add_ex (x y c : Nat) (hx : x < 18446744073709551616) (hy : y < 18446744073709551616) (hc : c ≤ 1) : ∃ s k : Nat, s + k * 2 ^ 64 = x + y + c ∧ s < 2 ^ 64 ∧ k ≤ 1 ∧ ∀ w : World,
    (callFunc 98 #[.int .u64 x, .int .u64 y, .int .u64 c]).run Try.prog w = .ok (.value (.tuple #[.int .u64 s, .int .u64 k])) w :=
  ⟨_, _, by have := Nat.mod_add_div (x + y + c) 18446744073709551616; omega, Nat.mod_lt _ (by decide), by omega, fun w => add64 x y c hc w⟩
theorem mulAdd0 (a b c : Nat) (w : World) (ha : a < 18446744073709551616) (hb : b < 18446744073709551616) (hc : c < 18446744073709551616) :
    Calls Try.prog 101 #[.int .u64 a, .int .u64 b, .int .u64 c, .int .u64 0] w fun e w' => ∃ lo hi : Nat, lo + hi * 2 ^ 64 = a * b + c ∧ lo < 18446744073709551616 ∧ hi < 18446744073709551616 ∧ e = .returned (.tuple #[.int .u64 lo, .int .u64 hi]) ∧ w = w' :=
  (mulAdd_ex a b c 0 w ha hb hc (by decide)).mono fun e w' ⟨lo, hi, h1, h2, h3, h4, h5⟩ => ⟨lo, hi, by omega, h2, h3, h4, h5⟩
end Go.Proofs.Ytcdjinjeogodfaa
