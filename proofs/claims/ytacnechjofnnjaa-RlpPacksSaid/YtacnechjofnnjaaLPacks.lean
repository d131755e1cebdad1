/- RlpPacks: for any item. -/
import Derived.Test.YtacnechjofnnjaaS8
namespace Go.Proofs.Ytacnechjofnnjaa.Packs
open Go.RowKit
theorem walk (x0 y0 z0 : Value) (k0 : Nat) (a0 : It) (W : World) (l0 : ItC [] W k0 x0 y0 z0 a0) (m0 : ItR [] W k0 x0 y0 z0) :
    Calls Try.prog 3 #[.agg #[x0, y0, z0]] W fun e w' => e = .returned (.bool true) ∧ Tch [] W w' := packs_walk k0 x0 y0 z0 a0 W l0 m0
end Go.Proofs.Ytacnechjofnnjaa.Packs
