/- OpsAll: for any number. -/
import Derived.Test.YtijnglcagijlcaaO9
namespace Go.Proofs.Ytijnglcagijlcaa.OAll
open Go.RowKit
theorem walk (a0 : Int) (W : World) (_l0 : (Lit.int .i64 a0).wf = true) :
    Calls Try.prog 5 #[.int .i64 a0] W fun e w' => e = .returned (.bool true) ∧ Tch [] W w' := opsAll_walk a0 W
end Go.Proofs.Ytijnglcagijlcaa.OAll
