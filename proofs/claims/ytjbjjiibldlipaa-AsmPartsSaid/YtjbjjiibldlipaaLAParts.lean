/- AsmParts: for any two codes. -/
import Derived.Test.YtjbjjiibldlipaaJ13
namespace Go.Proofs.Ytjbjjiibldlipaa.AParts
open Go.RowKit
theorem walk (v0 : Value) (a0 : List Nat) (v1 : Value) (a1 : List Nat) (W : World) (l0 : RdA [] W v0 a0) (_m0 : a0.length ≤ reachBytes) (l1 : RdA [] W v1 a1) (_m1 : a1.length ≤ reachBytes) :
    Calls Try.prog 6 #[v0, v1] W fun e w' => e = .returned (.bool true) ∧ Tch [] W w' := parts_walk v0 v1 a0 a1 W l0.rdB l1.rdB
end Go.Proofs.Ytjbjjiibldlipaa.AParts
