/- RlpInside: for any list of items. -/
import Derived.Test.YtacnechjofnnjaaS4
namespace Go.Proofs.Ytacnechjofnnjaa.Inside
open Go.RowKit
theorem walk (v0 : Value) (k0 : Nat) (a0 : List It) (W : World) (l0 : LsR W k0 v0 a0) :
    Calls Try.prog 4 #[v0] W fun e w' => e = .returned (.bool true) ∧ Tch [] W w' := inside_walk k0 v0 a0 W l0
end Go.Proofs.Ytacnechjofnnjaa.Inside
