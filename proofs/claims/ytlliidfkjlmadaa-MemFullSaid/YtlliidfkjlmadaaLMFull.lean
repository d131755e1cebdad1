/- MemFull: how many words a stack may have. -/
import Derived.Test.YtlliidfkjlmadaaIC
set_option linter.unusedVariables false
set_option linter.unusedSimpArgs false
namespace Go.Proofs.Ytlliidfkjlmadaa.MFull
open Go.RowKit
theorem walk (a0 : Int) (W : World) (l0 : (Lit.int .i64 a0).wf = true) : Calls Try.prog 5 #[.int .i64 a0] W fun e w' => e = .returned (.bool true) ∧ Tch [] W w' := full_walk a0 W (by simp [Lit.wf, IntKind.min, IntKind.max, IntKind.bits, IntKind.signed] at l0; omega)
end Go.Proofs.Ytlliidfkjlmadaa.MFull
