/- AsmReads: for any text. -/
import Derived.Test.YtjbjjiibldlipaaJ11
namespace Go.Proofs.Ytjbjjiibldlipaa.AReads
open Go.RowKit
theorem walk (a0 : ByteArray) (W : World) :
    Calls Try.prog 4 #[.string a0] W fun e w' => e = .returned (.bool true) ∧ Tch [] W w' := reads_walk a0 W
end Go.Proofs.Ytjbjjiibldlipaa.AReads
