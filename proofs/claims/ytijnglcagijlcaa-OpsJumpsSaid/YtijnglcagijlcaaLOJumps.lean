/- OpsJumps: for any code. -/
import Derived.Test.YtijnglcagijlcaaO3
namespace Go.Proofs.Ytijnglcagijlcaa.OJumps
open Go.RowKit
theorem walk (v0 : Value) (a0 : List Nat) (W : World) (l0 : RdA [] W v0 a0) (_m0 : a0.length ≤ reachBytes) :
    Calls Try.prog 4 #[v0] W fun e w' => e = .returned (.bool true) ∧ Tch [] W w' := opsJumps_walk v0 a0 W l0
end Go.Proofs.Ytijnglcagijlcaa.OJumps
