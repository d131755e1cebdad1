/- TrieTwo: the walk, of any arguments. -/
import Derived.Test.YtfdihphhmhgejaaM39
set_option linter.unusedVariables false
set_option linter.unusedSimpArgs false
namespace Go.Proofs.Ytfdihphhmhgejaa.Two
open Go.RowKit
theorem wf_u8T {n : Int} (h : (Lit.int .u8 n).wf = true) : 0 ≤ n ∧ n ≤ 255 := by
  simp [Lit.wf, IntKind.min, IntKind.max, IntKind.bits, IntKind.signed] at h
  omega
theorem walk (a0 a1 : Int) (v2 : Value) (a2 : List Nat) (v3 : Value) (a3 : List Nat) (W : World) (l0 : (Lit.int .u8 a0).wf = true) (l1 : (Lit.int .u8 a1).wf = true) (l2 : RdA [] W v2 a2) (m2 : a2.length ≤ reachBytes) (l3 : RdA [] W v3 a3) (m3 : a3.length ≤ reachBytes) :
    Calls Try.prog 3 #[.int .u8 a0, .int .u8 a1, v2, v3] W fun e w' => e = .returned (.bool true) ∧ Tch [] W w' := by
  obtain ⟨A, rfl⟩ : ∃ A : Nat, a0 = (A : Int) := ⟨a0.toNat, by have := wf_u8T l0; omega⟩
  obtain ⟨B, rfl⟩ : ∃ B : Nat, a1 = (B : Int) := ⟨a1.toNat, by have := wf_u8T l1; omega⟩
  have hA : A < 256 := by have := wf_u8T l0; omega
  have hB : B < 256 := by have := wf_u8T l1; omega
  have hr : reachBytes ≤ 4611686018427387904 := by decide
  by_cases h : A / 16 = B / 16 ∨ a2.length < 1 ∨ a3.length < 1 ∨ 20 < a2.length ∨ 20 < a3.length
  · exact two_out A B a2 a3 v2 v3 W hA hB l2 l3 (by omega) (by omega) h
  · exact two_walk A B a2 a3 v2 v3 W hA hB l2 l3 (fun e => h (.inl e)) (by omega) (by omega) (by omega) (by omega)
end Go.Proofs.Ytfdihphhmhgejaa.Two
