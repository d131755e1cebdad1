/- MemCosts: what words cost. -/
import Derived.Test.YtlliidfkjlmadaaIE
set_option linter.unusedVariables false
set_option linter.unusedSimpArgs false
namespace Go.Proofs.Ytlliidfkjlmadaa.MCosts
open Go.RowKit
theorem walk (a0 : Int) (v1 : Value) (a1 : List Int) (W : World) (_l0 : (Lit.int .i64 a0).wf = true) (l1 : RdZ W v1 a1) (m1 : ∀ z ∈ a1, -9223372036854775808 ≤ z ∧ z ≤ 9223372036854775807) : Calls Try.prog 4 #[.int .i64 a0, v1] W fun e w' => e = .returned (.bool true) ∧ Tch [] W w' := costs_walk a0 v1 a1 W m1 l1
end Go.Proofs.Ytlliidfkjlmadaa.MCosts
