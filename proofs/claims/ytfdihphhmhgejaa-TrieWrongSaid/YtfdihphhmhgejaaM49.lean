/- TrieWrong: the walk, of any arguments. -/
import Derived.Test.YtfdihphhmhgejaaM47
import Derived.Test.YtfdihphhmhgejaaM48
set_option linter.unusedVariables false
set_option linter.unusedSimpArgs false
namespace Go.Proofs.Ytfdihphhmhgejaa.TWrong
open Go.RowKit
theorem out_neg (a n : Int) (w : World) (h : n < 0) : Calls Try.prog 4 #[.int .i64 a, .int .i64 n] w fun e w' => e = .returned (.bool true) ∧ Tch [] w w' := by
  go_enter Try.func4, Try.ntmps4
  go_wp2_with (go_at_call 5; refine (alive6_any _).mono ?_; rintro e w1 ⟨rfl, hT⟩)
  go_ret
  exact ⟨rfl, hT⟩
theorem out_big (a n : Int) (w : World) (h0 : ¬ n < 0) (h : 200 < n) : Calls Try.prog 4 #[.int .i64 a, .int .i64 n] w fun e w' => e = .returned (.bool true) ∧ Tch [] w w' := by
  go_enter Try.func4, Try.ntmps4
  go_wp2_with (go_at_call 5; refine (alive6_any _).mono ?_; rintro e w1 ⟨rfl, hT⟩)
  go_ret
  exact ⟨rfl, hT⟩
theorem walk (a0 a1 : Int) (W : World) (l0 : (Lit.int .i64 a0).wf = true) (l1 : (Lit.int .i64 a1).wf = true) :
    Calls Try.prog 4 #[.int .i64 a0, .int .i64 a1] W fun e w' => e = .returned (.bool true) ∧ Tch [] W w' := by
  by_cases h0 : a1 < 0
  · exact out_neg a0 a1 W h0
  by_cases h1 : 200 < a1
  · exact out_big a0 a1 W h0 h1
  obtain ⟨k, rfl⟩ : ∃ k : Nat, a1 = (k : Int) := ⟨a1.toNat, by omega⟩
  have hk : k ≤ 200 := by omega
  by_cases d0 : a0 = 0
  · subst d0; exact tw_twice k W hk
  by_cases d1 : a0 = 1
  · subst d1
    rcases Nat.mod_two_eq_zero_or_one k with hp | hp
    · exact tw_nil0 k W hk hp
    · exact tw_nil1 k W hk hp
  by_cases d2 : a0 = 2
  · subst d2
    by_cases hb : k ≤ 64
    · rcases Nat.mod_two_eq_zero_or_one k with hp | hp
      · exact tw_key00 k W hk hp hb
      · exact tw_key10 k W hk hp hb
    · rcases Nat.mod_two_eq_zero_or_one k with hp | hp
      · exact tw_key01 k W hk hp (by omega)
      · exact tw_key11 k W hk hp (by omega)
  by_cases d3 : a0 = 3
  · subst d3; exact tw_key3 k W hk
  by_cases d4 : a0 = 4
  · subst d4; exact tw_val 1048577 rfl k W hk
  exact tw_other a0 k W hk d0 d1 d2 d3 d4
end Go.Proofs.Ytfdihphhmhgejaa.TWrong
