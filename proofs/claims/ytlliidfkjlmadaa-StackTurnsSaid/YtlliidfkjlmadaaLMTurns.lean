/- StackTurns: a stack tells the last first. -/
import Derived.Test.YtlliidfkjlmadaaID
set_option linter.unusedVariables false
set_option linter.unusedSimpArgs false
namespace Go.Proofs.Ytlliidfkjlmadaa.MTurns
open Go.RowKit
theorem walk (a0 a1 a2 : Int) (W : World) (l0 : (Lit.int .i64 a0).wf = true) (l1 : (Lit.int .i64 a1).wf = true) (l2 : (Lit.int .i64 a2).wf = true) : Calls Try.prog 7 #[.int .i64 a0, .int .i64 a1, .int .i64 a2] W fun e w' => e = .returned (.bool true) ∧ Tch [] W w' := turns_walk a0 a1 a2 W (by simp [Lit.wf, IntKind.min, IntKind.max, IntKind.bits, IntKind.signed] at l0; omega) (by simp [Lit.wf, IntKind.min, IntKind.max, IntKind.bits, IntKind.signed] at l1; omega) (by simp [Lit.wf, IntKind.min, IntKind.max, IntKind.bits, IntKind.signed] at l2; omega)
end Go.Proofs.Ytlliidfkjlmadaa.MTurns
