/- PathTells: for any bytes, any path, each kind. -/
import Derived.Test.YtgdojomaknbheaaP15
import Derived.Test.YtgdojomaknbheaaB3
namespace Go.Proofs.Ytgdojomaknbheaa.Tells
open Go.RowKit
theorem walk (v0 : Value) (a0 : List Nat) (v1 : Value) (a1 : List Nat) (a2 : Bool) (W : World) (l0 : RdA [] W v0 a0) (_m0 : a0.length ≤ reachBytes) (l1 : RdA [] W v1 a1) (_m1 : a1.length ≤ reachBytes) :
    Calls Try.prog 3 #[v0, v1, .bool a2] W fun e w' => e = .returned (.bool true) ∧ Tch [] W w' := tells_walk v0 v1 a0 a1 a2 W l0 l1
end Go.Proofs.Ytgdojomaknbheaa.Tells
