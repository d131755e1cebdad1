/- Limbs: sums and differences; word.Add, word.Sub. -/
import Derived.Test.YtopfmaoeebgjmaaGreatDoorM01
import Derived.Test.YtopfmaoeebgjmaaGreatDoorM03
import Derived.Test.YtopfmaoeebgjmaaGreatDoorM08
import Derived.Test.YtopfmaoeebgjmaaGreatDoorM12
import Derived.Test.YtopfmaoeebgjmaaGreatDoorM18
import Derived.Test.YtopfmaoeebgjmaaGreatDoorM19
import Derived.Deep.RegionWith
import Derived.Deep.RegionHeld
import Derived.Laws.Externs
import Derived.Lib.BytesEntry
import Derived.Laws.MakeOwn
import Derived.StillTailTactics
import Derived.Deep.AppendLies
import Derived.Laws.OwnMore
set_option linter.unusedVariables false
set_option linter.unusedSimpArgs false
namespace Go.Proofs.YtopfmaoeebgjmaaGreatDoor
section
open Go.RowKit
set_option maxRecDepth 100000
theorem M256_pos : 0 < M256 := by unfold M256; decide
end
section
open Go.RowKit
set_option maxRecDepth 100000
def bytesOf (x : Nat) : List UInt8 := (List.range 32).map fun i => UInt8.ofNat (byt x i)
def val : List UInt8 → Nat
  | [] => 0
  | a :: l => a.toNat * 256 ^ l.length + val l
end
section
open Go.RowKit
set_option maxRecDepth 100000
theorem St.le {w0 w : World} {L : List Ent} {b : Nat} {t : TypeId} {c : Array Value} (h : St [] w0 w L) (m : At L b t c) : w0.heap.size ≤ b := (h.own m).elim id (fun h => by simp at h)
def dg (x i : Nat) : Nat := x / 2 ^ (16 * i) % 65536
def Row (w : World) (b n x : Nat) : Prop := b < w.heap.size ∧ ∀ i, i < n → w.cell? ⟨b, i, none⟩ = some (.int .i64 ((dg x i : Nat) : Int))
section
variable {w w' : World} {b n x : Nat}
theorem Row.at_ (h : Row w b n x) {i : Nat} (hi : i < n) : w.cell? ⟨b, i, none⟩ = some (.int .i64 ((dg x i : Nat) : Int)) := h.2 i hi
theorem Row.below (h : Row w b n x) {B : Nat} (hb : Below B w w') (hB : b < B) : Row w' b n x :=
  ⟨Nat.lt_of_lt_of_le h.1 hb.size, fun i hi => by rw [hb.cell (p := ⟨b, i, none⟩) hB]; exact h.2 i hi⟩
end
section
variable {ops : Array Oper} {rest : List Oper} {o : Oper} {a : Act} {w0 w : World} {Q : Exit → Act → World → Prop} {L : List Ent} {b : Nat} {t : TypeId} {c : Array Value}
end
end
end Go.Proofs.YtopfmaoeebgjmaaGreatDoor
