/-
  DERIVED. GIVEN WITH THE SEED: THE CARDS: each row of YtopfmaoeebgjmaaGreatDoorRows.lean that lists a variable, with what it lists TIED to the program's text (the seventh form; the later family's looks); each row that meets fmt, with fmt's text TOLD by the authors' own Lean function (tested against real Go, not proved from fmt's source: count such statements apart). THE CARD IS WHAT COUNTS. Prove the row's statement (the work); the ties are given (YtopfmaoeebgjmaaGreatDoorTie.lean); close each card by the builder's one call (the guide's Derived/Test/ToyasCard.lean, 'card_holds'). Laid BY PROGRAM, IN A SANDBOX (cutbox-door.mjs). By AI agents, Wed Nov 11 2026. No macro, syntax, notation, axiom, sorry.
-/
import Derived.Test.YtopfmaoeebgjmaaGreatDoorRows
import GoSem.ClaimSeven
namespace Go.Proofs.YtopfmaoeebgjmaaGreatDoor
namespace Rows

/-- THE TIED CARD OF 'munimentslaw10.StateEmpty'. -/
def stateEmptyCard : Claim7 := { stood := { row := stateEmptyRow, standIns := [], harness := (true, "b711b7bd1bd1ee19a2c8d723be53c346c18d827c705a55200b74fa45038d1180"), looks := true }, kinds := [], alts := [], laidByText := true, laidKinds := [.data, .pinned], laidTests := true, laidLooks := .later }
def StateEmptyCardSaid : Prop := Claim7.holds Tryz.pinned (.plain (OpenSpec.ofChange stateEmptySpec)) stateEmptyCard

/-- THE SECOND FORM's CARD OF 'munimentslaw10.StateEmpty'. -/
def stateEmptyUptoCard : Claim7 := { stood := { row := stateEmptyUptoRow, standIns := [], harness := (true, "b711b7bd1bd1ee19a2c8d723be53c346c18d827c705a55200b74fa45038d1180"), looks := true }, kinds := [], alts := [], laidByText := true, laidKinds := [.data, .pinned], laidTests := true, laidLooks := .later }
def StateEmptyUptoCardSaid : Prop := Claim7.holds Tryz.pinned (.plain (OpenSpec.upto stateEmptySpec)) stateEmptyUptoCard
end Rows
end Go.Proofs.YtopfmaoeebgjmaaGreatDoor
