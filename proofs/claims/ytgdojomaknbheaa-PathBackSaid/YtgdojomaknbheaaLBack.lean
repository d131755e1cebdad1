/- PathBack: for any bytes, any cut, each kind. -/
import Derived.Test.YtgdojomaknbheaaP17
import Derived.Test.YtgdojomaknbheaaB3
namespace Go.Proofs.Ytgdojomaknbheaa.Back
open Go.RowKit
theorem walk (v0 : Value) (a0 : List Nat) (a1 : Int) (a2 : Bool) (W : World) (l0 : RdA [] W v0 a0) (_m0 : a0.length ≤ reachBytes) (_l1 : Lit.wf (.int .i64 a1)) :
    Calls Try.prog 4 #[v0, .int .i64 a1, .bool a2] W fun e w' => e = .returned (.bool true) ∧ Tch [] W w' := back_walk v0 a0 a1 a2 W l0
end Go.Proofs.Ytgdojomaknbheaa.Back
