/- OpsData: for any number and any bytes. -/
import Derived.Test.YtijnglcagijlcaaO4
namespace Go.Proofs.Ytijnglcagijlcaa.OData
open Go.RowKit
theorem walk (a0 : Int) (v1 : Value) (a1 : List Nat) (W : World) (_l0 : (Lit.int .i64 a0).wf = true) (l1 : RdA [] W v1 a1) (_m1 : a1.length ≤ reachBytes) :
    Calls Try.prog 6 #[.int .i64 a0, v1] W fun e w' => e = .returned (.bool true) ∧ Tch [] W w' := opsData_walk a0 v1 a1 W l1
end Go.Proofs.Ytijnglcagijlcaa.OData
