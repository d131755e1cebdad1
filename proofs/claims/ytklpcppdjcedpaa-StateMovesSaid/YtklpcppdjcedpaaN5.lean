/- rlp.Int, the document's IntOf, over what word.Int and the document's Int answer. -/
import Derived.Test.YtklpcppdjcedpaaN4
set_option linter.unusedVariables false
set_option linter.unusedSimpArgs false
namespace Go.Proofs.Ytklpcppdjcedpaa
open Go.RowKit

/-- The number of bytes, the greatest first. -/
def bval (W : List Nat) : Nat := W.foldl (fun a x => a * 256 + x) 0
def wInt (W : List Nat) : Option Nat := if bval W < 2 ^ 63 then some (bval W) else none
def IntP (r : Option Nat) (w : World) (e : Ending) (w' : World) : Prop :=
  e = .returned (.tuple #[.int .i64 ((r.getD 0 : Nat) : Int), .bool r.isSome]) ∧ Tch [] w w'
end Go.Proofs.Ytklpcppdjcedpaa
