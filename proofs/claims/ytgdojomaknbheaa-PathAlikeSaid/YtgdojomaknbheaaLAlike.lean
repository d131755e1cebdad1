/- PathAlike: for any three lists of bytes. -/
import Derived.Test.YtgdojomaknbheaaP19
import Derived.Test.YtgdojomaknbheaaP20
import Derived.Test.YtgdojomaknbheaaP21
import Derived.Test.YtgdojomaknbheaaP22
import Derived.Test.YtgdojomaknbheaaB3
namespace Go.Proofs.Ytgdojomaknbheaa.Alike
open Go.RowKit
theorem outcome (l m : List Nat) : allN l = false ∨ (allN l = true ∧ allN m = false) ∨ (allN l = true ∧ allN m = true) := by
  cases allN l <;> cases allN m <;> simp
theorem walk (v0 : Value) (a0 : List Nat) (v1 : Value) (a1 : List Nat) (v2 : Value) (a2 : List Nat) (W : World) (l0 : RdA [] W v0 a0) (_m0 : a0.length ≤ reachBytes) (l1 : RdA [] W v1 a1) (_m1 : a1.length ≤ reachBytes) (l2 : RdA [] W v2 a2) (_m2 : a2.length ≤ reachBytes) :
    Calls Try.prog 5 #[v0, v1, v2] W fun e w' => e = .returned (.bool true) ∧ Tch [] W w' := by
  rcases Nat.lt_or_ge 100 a0.length with h1 | h1
  · exact alike_P v0 v1 v2 a0 a1 a2 W l0 l1 l2 h1
  rcases Nat.lt_or_ge 100 a1.length with h2 | h2
  · exact alike_A v0 v1 v2 a0 a1 a2 W l0 l1 l2 h1 h2
  rcases Nat.lt_or_ge 100 a2.length with h3 | h3
  · exact alike_B v0 v1 v2 a0 a1 a2 W l0 l1 l2 h1 h2 h3
  match a1, l1, h2 with
  | [], l1, h2 =>
    rcases outcome (a0 ++ []) (a0 ++ a2) with h | ⟨h, h'⟩ | ⟨h, h'⟩
    · exact alike_A0_no1 v0 v1 v2 a0 a2 W l0 l1 l2 h1 h2 h3 h
    · exact alike_A0_no2 v0 v1 v2 a0 a2 W l0 l1 l2 h1 h2 h3 h h'
    · exact alike_A0_yes v0 v1 v2 a0 a2 W l0 l1 l2 h1 h2 h3 h h'
  | x :: A, l1, h2 =>
    match a2, l2, h3 with
    | [], l2, h3 =>
      rcases outcome (a0 ++ (x :: A)) (a0 ++ []) with h | ⟨h, h'⟩ | ⟨h, h'⟩
      · exact alike_B0_no1 v0 v1 v2 a0 A x W l0 l1 l2 h1 h2 h3 h
      · exact alike_B0_no2 v0 v1 v2 a0 A x W l0 l1 l2 h1 h2 h3 h h'
      · exact alike_B0_yes v0 v1 v2 a0 A x W l0 l1 l2 h1 h2 h3 h h'
    | y :: B, l2, h3 =>
      by_cases hxy : x = y
      · exact alike_same v0 v1 v2 a0 A B x y W l0 l1 l2 h1 h2 h3 hxy
      · rcases outcome (a0 ++ (x :: A)) (a0 ++ (y :: B)) with h | ⟨h, h'⟩ | ⟨h, h'⟩
        · exact alike_apart_no1 v0 v1 v2 a0 A B x y W l0 l1 l2 h1 h2 h3 hxy h
        · exact alike_apart_no2 v0 v1 v2 a0 A B x y W l0 l1 l2 h1 h2 h3 hxy h h'
        · exact alike_apart_yes v0 v1 v2 a0 A B x y W l0 l1 l2 h1 h2 h3 hxy h h'
end Go.Proofs.Ytgdojomaknbheaa.Alike
