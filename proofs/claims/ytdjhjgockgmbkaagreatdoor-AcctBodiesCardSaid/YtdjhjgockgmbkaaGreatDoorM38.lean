/- fork; build, whole. -/
import Derived.Test.YtdjhjgockgmbkaaGreatDoorM37
set_option linter.unusedVariables false
set_option linter.unusedSimpArgs false
namespace Go.Proofs.YtdjhjgockgmbkaaGreatDoor
open Go.RowKit Tr

section
variable {a : Act} {w : World} {o : Oper} {Q : Exit → Act → World → Prop}
end
theorem TreeV.one {B : Nat} {w : World} {T : TN} {v : Value} (h : TreeV B w T v) : v.oneCell' = true := by
  rcases h.shape with rfl | ⟨t, a, rfl⟩ <;> rfl
end Go.Proofs.YtdjhjgockgmbkaaGreatDoor
