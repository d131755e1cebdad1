/-
  DERIVED. GIVEN WITH THE SEED: THE CARDS: each row of YtdjhjgockgmbkaaGreatDoorRows.lean that lists a variable, with what it lists TIED to the program's text (the seventh form; the later family's looks); each row that meets fmt, with fmt's text TOLD by the authors' own Lean function (tested against real Go, not proved from fmt's source: count such statements apart). THE CARD IS WHAT COUNTS. Prove the row's statement (the work); the ties are given (YtdjhjgockgmbkaaGreatDoorTie.lean); close each card by the builder's one call (the guide's Derived/Test/ToyasCard.lean, 'card_holds'). Laid BY PROGRAM, IN A SANDBOX (cutbox-door.mjs). By AI agents, Wed Nov 11 2026. No macro, syntax, notation, axiom, sorry.
-/
import Derived.Test.YtdjhjgockgmbkaaGreatDoorRows
import GoSem.ClaimSeven
namespace Go.Proofs.YtdjhjgockgmbkaaGreatDoor
namespace Rows

/-- THE TIED CARD OF 'munimentslaw9.AcctBodies'. -/
def acctBodiesCard : Claim7 := { stood := { row := acctBodiesRow, standIns := [], harness := (true, "e5b5f84c614a90d47d3f1d15d8558da9e2dfa740046d54ed115baa87646b1a59"), looks := true }, kinds := [], alts := [], laidByText := true, laidKinds := [.data, .pinned], laidTests := true, laidLooks := .later }
def AcctBodiesCardSaid : Prop := Claim7.holds Tryz.pinned (.plain (OpenSpec.ofChange acctBodiesSpec)) acctBodiesCard

/-- THE TIED CARD OF 'munimentslaw9.AcctRoots'. -/
def acctRootsCard : Claim7 := { stood := { row := acctRootsRow, standIns := [], harness := (true, "e5b5f84c614a90d47d3f1d15d8558da9e2dfa740046d54ed115baa87646b1a59"), looks := true }, kinds := [], alts := [], laidByText := true, laidKinds := [.data, .pinned], laidTests := true, laidLooks := .later }
def AcctRootsCardSaid : Prop := Claim7.holds Tryz.pinned (.plain (OpenSpec.ofChange acctRootsSpec)) acctRootsCard

/-- THE TIED CARD OF 'munimentslaw9.AcctApart'. -/
def acctApartCard : Claim7 := { stood := { row := acctApartRow, standIns := [], harness := (true, "e5b5f84c614a90d47d3f1d15d8558da9e2dfa740046d54ed115baa87646b1a59"), looks := true }, kinds := [], alts := [], laidByText := true, laidKinds := [.data, .pinned], laidTests := true, laidLooks := .later }
def AcctApartCardSaid : Prop := Claim7.holds Tryz.pinned (.plain (OpenSpec.ofChange acctApartSpec)) acctApartCard

/-- THE TIED CARD OF 'munimentslaw9.AcctWrong'. -/
def acctWrongCard : Claim7 := { stood := { row := acctWrongRow, standIns := [], harness := (true, "e5b5f84c614a90d47d3f1d15d8558da9e2dfa740046d54ed115baa87646b1a59"), looks := true }, kinds := [], alts := [], laidByText := true, laidKinds := [.data, .pinned], laidTests := true, laidLooks := .later }
def AcctWrongCardSaid : Prop := Claim7.holds Tryz.pinned (.plain (OpenSpec.ofChange acctWrongSpec)) acctWrongCard

/-- THE SECOND FORM's CARD OF 'munimentslaw9.AcctBodies'. -/
def acctBodiesUptoCard : Claim7 := { stood := { row := acctBodiesUptoRow, standIns := [], harness := (true, "e5b5f84c614a90d47d3f1d15d8558da9e2dfa740046d54ed115baa87646b1a59"), looks := true }, kinds := [], alts := [], laidByText := true, laidKinds := [.data, .pinned], laidTests := true, laidLooks := .later }
def AcctBodiesUptoCardSaid : Prop := Claim7.holds Tryz.pinned (.plain (OpenSpec.upto acctBodiesSpec)) acctBodiesUptoCard

/-- THE SECOND FORM's CARD OF 'munimentslaw9.AcctRoots'. -/
def acctRootsUptoCard : Claim7 := { stood := { row := acctRootsUptoRow, standIns := [], harness := (true, "e5b5f84c614a90d47d3f1d15d8558da9e2dfa740046d54ed115baa87646b1a59"), looks := true }, kinds := [], alts := [], laidByText := true, laidKinds := [.data, .pinned], laidTests := true, laidLooks := .later }
def AcctRootsUptoCardSaid : Prop := Claim7.holds Tryz.pinned (.plain (OpenSpec.upto acctRootsSpec)) acctRootsUptoCard

/-- THE SECOND FORM's CARD OF 'munimentslaw9.AcctApart'. -/
def acctApartUptoCard : Claim7 := { stood := { row := acctApartUptoRow, standIns := [], harness := (true, "e5b5f84c614a90d47d3f1d15d8558da9e2dfa740046d54ed115baa87646b1a59"), looks := true }, kinds := [], alts := [], laidByText := true, laidKinds := [.data, .pinned], laidTests := true, laidLooks := .later }
def AcctApartUptoCardSaid : Prop := Claim7.holds Tryz.pinned (.plain (OpenSpec.upto acctApartSpec)) acctApartUptoCard

/-- THE SECOND FORM's CARD OF 'munimentslaw9.AcctWrong'. -/
def acctWrongUptoCard : Claim7 := { stood := { row := acctWrongUptoRow, standIns := [], harness := (true, "e5b5f84c614a90d47d3f1d15d8558da9e2dfa740046d54ed115baa87646b1a59"), looks := true }, kinds := [], alts := [], laidByText := true, laidKinds := [.data, .pinned], laidTests := true, laidLooks := .later }
def AcctWrongUptoCardSaid : Prop := Claim7.holds Tryz.pinned (.plain (OpenSpec.upto acctWrongSpec)) acctWrongUptoCard
end Rows
end Go.Proofs.YtdjhjgockgmbkaaGreatDoor
