/- MemKeeps: what is put into memory is there. -/
import Derived.Test.YtlliidfkjlmadaaIF
set_option linter.unusedVariables false
set_option linter.unusedSimpArgs false
namespace Go.Proofs.Ytlliidfkjlmadaa.MKeeps
open Go.RowKit
theorem walk (a0 a1 : Int) (v2 : Value) (a2 : List Nat) (W : World) (_l0 : (Lit.int .i64 a0).wf = true) (l1 : (Lit.int .i64 a1).wf = true) (l2 : RdA [] W v2 a2) (m2 : a2.length ≤ reachBytes) : Calls Try.prog 6 #[.int .i64 a0, .int .i64 a1, v2] W fun e w' => e = .returned (.bool true) ∧ Tch [] W w' := keeps_walk a0 a1 v2 a2 W (by simp [Lit.wf, IntKind.min, IntKind.max, IntKind.bits, IntKind.signed] at l1; omega) l2.rdB (Nat.le_trans m2 (by unfold reachBytes; decide))
end Go.Proofs.Ytlliidfkjlmadaa.MKeeps
