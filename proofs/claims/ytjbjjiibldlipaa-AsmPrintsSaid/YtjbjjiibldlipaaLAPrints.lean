/- AsmPrints: for any code. -/
import Derived.Test.YtjbjjiibldlipaaJ11
namespace Go.Proofs.Ytjbjjiibldlipaa.APrints
open Go.RowKit
theorem walk (v0 : Value) (a0 : List Nat) (W : World) (l0 : RdA [] W v0 a0) (_m0 : a0.length ≤ reachBytes) :
    Calls Try.prog 3 #[v0] W fun e w' => e = .returned (.bool true) ∧ Tch [] W w' := prints_walk v0 a0 W l0.rdB
end Go.Proofs.Ytjbjjiibldlipaa.APrints
