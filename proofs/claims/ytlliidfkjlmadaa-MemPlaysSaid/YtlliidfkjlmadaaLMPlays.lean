/- MemPlays: what every row of calls makes of a memory and of a stack. -/
import Derived.Test.YtlliidfkjlmadaaIPB
set_option linter.unusedVariables false
set_option linter.unusedSimpArgs false
namespace Go.Proofs.Ytlliidfkjlmadaa.MPlays
open Go.RowKit
theorem walk (v0 : Value) (a0 : List ActD) (W : World) (l0 : RdActs W v0 a0) : Calls Try.prog 3 #[v0] W fun e w' => e = .returned (.bool true) ∧ Tch [] W w' := plays_walk v0 a0 W l0
end Go.Proofs.Ytlliidfkjlmadaa.MPlays
