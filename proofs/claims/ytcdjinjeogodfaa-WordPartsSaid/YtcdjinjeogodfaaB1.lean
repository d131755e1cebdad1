/- Products of two limbs, whole, and with two more added: what math/bits.Mul64 and mulAdd hand back. -/
import Derived.Test.YtcdjinjeogodfaaW
namespace Go.Proofs.Ytcdjinjeogodfaa
open Go.RowKit

set_option maxHeartbeats 1000000 in
set_option maxRecDepth 100000 in
theorem mul64_any (x y : Nat) (w : World) (hx : x < 18446744073709551616) (hy : y < 18446744073709551616) :
    Calls Try.prog 109 #[.int .u64 x, .int .u64 y] w fun e w' => ∃ hi lo : Nat, hi = x * y / 18446744073709551616 ∧ lo = x * y % 18446744073709551616 ∧ e = .returned (.tuple #[.int .u64 hi, .int .u64 lo]) ∧ w = w' := by
  refine Calls.mono (R := fun e w' => e = .returned (.tuple #[.int .u64 ((x * y / 18446744073709551616 : Nat) : Int), .int .u64 ((x * y % 18446744073709551616 : Nat) : Int)]) ∧ w = w') ?_ (fun e w' h => ⟨_, _, rfl, rfl, h.1, h.2⟩)
  go_enter Try.func109, Try.ntmps109
  go_wp2
  go_ret2
  refine ⟨ret_two ?_ ?_, rfl⟩
  · have h := mul64_arith x y (by omega) (by omega) (by omega) (by omega)
    show IntKind.u64.wrap _ = _
    rw [and_low32 x (by omega) (by omega), and_low32 y (by omega) (by omega), and_low32 _ (by rw [IntKind.wrap_u64]; omega) (by rw [IntKind.wrap_u64]; omega)]
    simp only [IntKind.wrap_u64]
    rw [h]; simp
  · show IntKind.u64.wrap _ = _
    rw [IntKind.wrap_u64]; simp

theorem add64' (x y : Nat) : ∃ s k : Nat, s = (x + y) % 18446744073709551616 ∧ k = (x + y) / 18446744073709551616 ∧ ∀ w : World,
    (callFunc 98 #[.int .u64 x, .int .u64 y, .int .u64 0]).run Try.prog w = .ok (.value (.tuple #[.int .u64 s, .int .u64 k])) w :=
  ⟨_, _, rfl, rfl, fun w => add64 x y 0 (by omega) w⟩

theorem mulAdd_arith (a b c d M : Nat) (ha : a < M) (hb : b < M) (hc : c < M) (hd : d < M) :
    (a * b % M + c) % M + d < M + M ∧ ((a * b % M + c) % M + d) % M = (a * b + c + d) % M ∧ (a * b / M + (a * b % M + c) / M) + ((a * b % M + c) % M + d) / M = (a * b + c + d) / M ∧ (a * b + c + d) / M < M := by
  have hM : 0 < M := by omega
  have h1 : a * b ≤ (M - 1) * (M - 1) := Nat.mul_le_mul (by omega) (by omega)
  have e1 := Nat.div_add_mod (a * b) M
  have e2 := Nat.div_add_mod (a * b % M + c) M
  have e3 := Nat.div_add_mod ((a * b % M + c) % M + d) M
  have l2 := Nat.mod_lt (a * b % M + c) hM
  have l3 := Nat.mod_lt ((a * b % M + c) % M + d) hM
  have key : a * b + c + d = M * ((a * b / M + (a * b % M + c) / M) + ((a * b % M + c) % M + d) / M) + ((a * b % M + c) % M + d) % M := by
    rw [Nat.mul_add, Nat.mul_add]; omega
  refine ⟨by omega, ?_, ?_, ?_⟩
  · rw [key, Nat.mul_add_mod, Nat.mod_mod]
  · conv => rhs; rw [key]
    rw [Nat.mul_add_div hM, Nat.div_eq_of_lt l3, Nat.add_zero]
  · rw [Nat.div_lt_iff_lt_mul hM]
    have h2 : (M - 1) * (M - 1) + (M - 1) + (M - 1) < M * M := by
      obtain ⟨m, rfl⟩ : ∃ m, M = m + 1 := ⟨M - 1, by omega⟩
      simp only [Nat.add_sub_cancel]
      rw [Nat.mul_add, Nat.add_mul]
      omega
    omega

set_option maxHeartbeats 1000000 in
set_option maxRecDepth 100000 in
theorem mulAdd_any (a b c d : Nat) (w : World) (ha : a < 18446744073709551616) (hb : b < 18446744073709551616) (hc : c < 18446744073709551616) (hd : d < 18446744073709551616) :
    Calls Try.prog 101 #[.int .u64 a, .int .u64 b, .int .u64 c, .int .u64 d] w fun e w' =>
      e = .returned (.tuple #[.int .u64 (((a * b + c + d) % 18446744073709551616 : Nat) : Int), .int .u64 (((a * b + c + d) / 18446744073709551616 : Nat) : Int)]) ∧ w = w' := by
  have H := Lib.hid (mulAdd_arith a b c d _ ha hb hc hd)
  go_enter Try.func101, Try.ntmps101
  go_wp2_with (go_at_call 109; refine (mul64_any _ _ _ ha hb).mono ?_; rintro e w' ⟨hi, lo, hhi, hlo, rfl, rfl⟩; obtain ⟨s, k, hs, hk, hr⟩ := add64' lo c; obtain ⟨s', k', hs', hk', hr'⟩ := add64' s d; have F := Lib.hid (And.intro hhi (And.intro hlo (And.intro hs (And.intro hk (And.intro hs' hk'))))); clear hhi hlo hs hk hs' hk')
  go_ret2
  obtain ⟨h1, h2, h3, h4⟩ := H.out
  obtain ⟨f1, f2, f3, f4, f5, f6⟩ := F.out
  subst f1 f2 f3 f4 f5 f6
  refine ⟨ret_two ?_ ?_, rfl⟩
  · rw [h2]
  · show IntKind.u64.wrap (IntKind.u64.wrap _ + _) = _
    have e1 : a * b / 18446744073709551616 + (a * b % 18446744073709551616 + c) / 18446744073709551616 < 18446744073709551616 := by omega
    rw [← h3] at h4 ⊢
    simp only [IntKind.wrap_u64]
    omega
end Go.Proofs.Ytcdjinjeogodfaa
