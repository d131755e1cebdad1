/-
  NARROWER THAN 'FOR EVERY INPUT', by the rows' own cells (each row's printed sentence says how): AcctBodies: laid · AcctRoots: laid · AcctApart: laid · AcctWrong: laid.
  DERIVED. THE GIVEN ROWS OF THIS SEAT. 4 by the template 'for every input the law returns true; each argument reads behind the call as it read before'; 0 by the template 'total and deterministic' (their statements: YtdjhjgockgmbkaaGreatDoorTotals.lean).
  GIVEN WITH THE SEED: the statements are not yours to turn. If you find one false, say at which input.
  Laid BY PROGRAM, IN A SANDBOX (cutbox-rows.mjs): the forced cells as the released guide's own fill.sh prints them over the translation 375578b8535e048c… (all of the seat's roots in one cut). By AI agents, Wed Nov 11 2026. No macro, syntax, notation, axiom, sorry.
-/
import Derived.Test.YtdjhjgockgmbkaaGreatDoorChecked
import GoSem.PinnedTables
import GoSem.Claim
import GoSem.ClaimJoined
import GoSem.ClaimMapViews
import Derived.JoinedTies
import Derived.KernelRfl
namespace Go.Proofs.YtdjhjgockgmbkaaGreatDoor
/- THE CELL 'sum', in the pinned program and in every row, IS THE sha256 OF THE DUMP (.gsa) THAT YtdjhjgockgmbkaaGreatDoorProg.lean LOADS. Nothing in Lean hashes anything: it is a label: what it is worth is what the hold of that sum in a sandbox is worth. -/
noncomputable def Tryz.pinned : Pinned := { name := "ytdjhjgockgmbkaagreatdoor", sum := "375578b8535e048c84770ff66fe94f474e15a6855ffd05e024e893cde2520526", checked := Tryz.checked }
namespace Rows
def none {H : Type} : Left H := { results := [], args := [] }

/- WHAT THE LISTED PACKAGE-LEVEL VARIABLES READ AS WHEN THE CALL BEGINS. Each datum BY PROGRAM (the guide's laid-datum.mjs) off the statement by which the dump's own 'gosem.cut.vars' lays the variable. In a bare row this is a premise. The card (YtdjhjgockgmbkaaGreatDoorCards.lean) ties it to the program's text. -/
def laid_unicode_utf8_acceptRanges {H : Type} : DataW H := .agg [.agg [.lit (.int .u8 128), .lit (.int .u8 191)], .agg [.lit (.int .u8 160), .lit (.int .u8 191)], .agg [.lit (.int .u8 128), .lit (.int .u8 159)], .agg [.lit (.int .u8 144), .lit (.int .u8 191)], .agg [.lit (.int .u8 128), .lit (.int .u8 143)], .agg [.lit (.int .u8 0), .lit (.int .u8 0)], .agg [.lit (.int .u8 0), .lit (.int .u8 0)], .agg [.lit (.int .u8 0), .lit (.int .u8 0)], .agg [.lit (.int .u8 0), .lit (.int .u8 0)], .agg [.lit (.int .u8 0), .lit (.int .u8 0)], .agg [.lit (.int .u8 0), .lit (.int .u8 0)], .agg [.lit (.int .u8 0), .lit (.int .u8 0)], .agg [.lit (.int .u8 0), .lit (.int .u8 0)], .agg [.lit (.int .u8 0), .lit (.int .u8 0)], .agg [.lit (.int .u8 0), .lit (.int .u8 0)], .agg [.lit (.int .u8 0), .lit (.int .u8 0)]]
/-- One of Go's own tables, pinned by name: the form's constant. -/
def laid_unicode_utf8_first : DataW Unit := Go.Pinned.utf8First

/-- 'munimentslaw9.AcctBodies': WHATEVER THE INPUT: true; the input reads as it did. -/
def acctBodiesSpec : ChangeSpec := { name := "acctBodies", fn := fun _ => fun
  | [d1, d2] => { results := [.lit (.bool true)], args := [d1, d2] }
  | _ => none }
def acctBodiesRow : OpenClaim := { program := "ytdjhjgockgmbkaagreatdoor", sum := "375578b8535e048c84770ff66fe94f474e15a6855ffd05e024e893cde2520526", func := "muniments/munimentslaw9.AcctBodies", spec := "acctBodies", inPlace := ["internal/bytealg.Compare"], unfollowed := true, recurses := true, named := ["unicode/utf8.first", "unicode/utf8.acceptRanges"], plainKeys := false, apart := false, laid := [("unicode/utf8.acceptRanges", laid_unicode_utf8_acceptRanges), ("unicode/utf8.first", laid_unicode_utf8_first)] }
def AcctBodiesSaid : Prop := acctBodiesRow.holds Tryz.pinned (OpenSpec.ofChange acctBodiesSpec)

/-- ITS FALSE NEIGHBOUR: 'it returns false'. Refute it at one input. -/
def acctBodiesWrong : ChangeSpec := { name := "acctBodies", fn := fun _ => fun
  | [d1, d2] => { results := [.lit (.bool false)], args := [d1, d2] }
  | _ => none }
def AcctBodiesWrongFalsely : Prop := acctBodiesRow.holds Tryz.pinned (OpenSpec.ofChange acctBodiesWrong)

/-- 'munimentslaw9.AcctRoots': WHATEVER THE INPUT: true; the input reads as it did. -/
def acctRootsSpec : ChangeSpec := { name := "acctRoots", fn := fun _ => fun
  | [d1, d2] => { results := [.lit (.bool true)], args := [d1, d2] }
  | _ => none }
def acctRootsRow : OpenClaim := { program := "ytdjhjgockgmbkaagreatdoor", sum := "375578b8535e048c84770ff66fe94f474e15a6855ffd05e024e893cde2520526", func := "muniments/munimentslaw9.AcctRoots", spec := "acctRoots", inPlace := ["internal/bytealg.Compare"], unfollowed := true, recurses := true, named := ["unicode/utf8.first", "unicode/utf8.acceptRanges"], plainKeys := false, apart := false, laid := [("unicode/utf8.acceptRanges", laid_unicode_utf8_acceptRanges), ("unicode/utf8.first", laid_unicode_utf8_first)] }
def AcctRootsSaid : Prop := acctRootsRow.holds Tryz.pinned (OpenSpec.ofChange acctRootsSpec)

/-- ITS FALSE NEIGHBOUR: 'it returns false'. Refute it at one input. -/
def acctRootsWrong : ChangeSpec := { name := "acctRoots", fn := fun _ => fun
  | [d1, d2] => { results := [.lit (.bool false)], args := [d1, d2] }
  | _ => none }
def AcctRootsWrongFalsely : Prop := acctRootsRow.holds Tryz.pinned (OpenSpec.ofChange acctRootsWrong)

/-- 'munimentslaw9.AcctApart': WHATEVER THE INPUT: true; the input reads as it did. -/
def acctApartSpec : ChangeSpec := { name := "acctApart", fn := fun _ => fun
  | [d1, d2, d3] => { results := [.lit (.bool true)], args := [d1, d2, d3] }
  | _ => none }
def acctApartRow : OpenClaim := { program := "ytdjhjgockgmbkaagreatdoor", sum := "375578b8535e048c84770ff66fe94f474e15a6855ffd05e024e893cde2520526", func := "muniments/munimentslaw9.AcctApart", spec := "acctApart", inPlace := ["internal/bytealg.Compare"], unfollowed := true, recurses := true, named := ["unicode/utf8.first", "unicode/utf8.acceptRanges"], plainKeys := false, apart := false, laid := [("unicode/utf8.acceptRanges", laid_unicode_utf8_acceptRanges), ("unicode/utf8.first", laid_unicode_utf8_first)] }
def AcctApartSaid : Prop := acctApartRow.holds Tryz.pinned (OpenSpec.ofChange acctApartSpec)

/-- ITS FALSE NEIGHBOUR: 'it returns false'. Refute it at one input. -/
def acctApartWrong : ChangeSpec := { name := "acctApart", fn := fun _ => fun
  | [d1, d2, d3] => { results := [.lit (.bool false)], args := [d1, d2, d3] }
  | _ => none }
def AcctApartWrongFalsely : Prop := acctApartRow.holds Tryz.pinned (OpenSpec.ofChange acctApartWrong)

/-- 'munimentslaw9.AcctWrong': WHATEVER THE INPUT: true; the input reads as it did. -/
def acctWrongSpec : ChangeSpec := { name := "acctWrong", fn := fun _ => fun
  | [d] => { results := [.lit (.bool true)], args := [d] }
  | _ => none }
def acctWrongRow : OpenClaim := { program := "ytdjhjgockgmbkaagreatdoor", sum := "375578b8535e048c84770ff66fe94f474e15a6855ffd05e024e893cde2520526", func := "muniments/munimentslaw9.AcctWrong", spec := "acctWrong", inPlace := ["internal/bytealg.Compare"], unfollowed := true, recurses := true, named := ["unicode/utf8.first", "unicode/utf8.acceptRanges"], plainKeys := false, apart := false, laid := [("unicode/utf8.acceptRanges", laid_unicode_utf8_acceptRanges), ("unicode/utf8.first", laid_unicode_utf8_first)] }
def AcctWrongSaid : Prop := acctWrongRow.holds Tryz.pinned (OpenSpec.ofChange acctWrongSpec)

/-- ITS FALSE NEIGHBOUR: 'it returns false'. Refute it at one input. -/
def acctWrongWrong : ChangeSpec := { name := "acctWrong", fn := fun _ => fun
  | [d] => { results := [.lit (.bool false)], args := [d] }
  | _ => none }
def AcctWrongWrongFalsely : Prop := acctWrongRow.holds Tryz.pinned (OpenSpec.ofChange acctWrongWrong)

/- THE SECOND FORM. 'bulk': how many values and letters a reading holds, each counted each time it is reached (what is shared counts as often as it is met; a slice's spare places count too). A statement '..UptoSaid' is the law's where the arguments, and the package variables that the reading takes, are together of bulk at most 1048576: NARROWER than '..Said'. Prove '..Said' where nothing that the law and all that it calls make is longer than what came in: it says more and counts as full. Else prove '..UptoSaid'. A law counts once. -/
mutual
def uptoBulk {H : Type} : DataW H → Nat
  | .lit (.string bytes) => bytes.length + 1
  | .lit _ => 1
  | .nil => 1
  | .ptr d => uptoBulk d + 1
  | .slice elems spare => uptoBulkAll elems + uptoBulkAll spare + 1
  | .agg parts => uptoBulkAll parts + 1
  | .iface _ d => uptoBulk d + 1
  | .map entries => uptoBulkEntries entries + 1
  | .held _ => 1
def uptoBulkAll {H : Type} : List (DataW H) → Nat
  | [] => 0
  | d :: r => uptoBulk d + uptoBulkAll r
def uptoBulkEntries {H : Type} : List (Lit × DataW H) → Nat
  | [] => 0
  | x :: r => uptoBulkEntry x + uptoBulkEntries r
def uptoBulkEntry {H : Type} : Lit × DataW H → Nat
  | (.string bytes, d) => bytes.length + uptoBulk d + 1
  | (_, d) => uptoBulk d + 1
 end
def uptoSmall : (H : Type) → List (DataW H) → Bool := fun _ ds => decide (uptoBulkAll ds ≤ 1048576)
def OpenSpec.upto (s : _root_.Go.ChangeSpec) : _root_.Go.OpenSpec := { _root_.Go.OpenSpec.ofChange s with cond := some uptoSmall }

/-- 'munimentslaw9.AcctBodies', WHERE WHAT IT READS IS OF BULK AT MOST 1048576: true; the input reads as it did. -/
def acctBodiesUptoRow : OpenClaim := { program := "ytdjhjgockgmbkaagreatdoor", sum := "375578b8535e048c84770ff66fe94f474e15a6855ffd05e024e893cde2520526", func := "muniments/munimentslaw9.AcctBodies", spec := "acctBodies", inPlace := ["internal/bytealg.Compare"], unfollowed := true, recurses := true, named := ["unicode/utf8.first", "unicode/utf8.acceptRanges"], plainKeys := false, apart := false, laid := [("unicode/utf8.acceptRanges", laid_unicode_utf8_acceptRanges), ("unicode/utf8.first", laid_unicode_utf8_first)], narrowed := true }
def AcctBodiesUptoSaid : Prop := acctBodiesUptoRow.holds Tryz.pinned (OpenSpec.upto acctBodiesSpec)

/-- 'munimentslaw9.AcctRoots', WHERE WHAT IT READS IS OF BULK AT MOST 1048576: true; the input reads as it did. -/
def acctRootsUptoRow : OpenClaim := { program := "ytdjhjgockgmbkaagreatdoor", sum := "375578b8535e048c84770ff66fe94f474e15a6855ffd05e024e893cde2520526", func := "muniments/munimentslaw9.AcctRoots", spec := "acctRoots", inPlace := ["internal/bytealg.Compare"], unfollowed := true, recurses := true, named := ["unicode/utf8.first", "unicode/utf8.acceptRanges"], plainKeys := false, apart := false, laid := [("unicode/utf8.acceptRanges", laid_unicode_utf8_acceptRanges), ("unicode/utf8.first", laid_unicode_utf8_first)], narrowed := true }
def AcctRootsUptoSaid : Prop := acctRootsUptoRow.holds Tryz.pinned (OpenSpec.upto acctRootsSpec)

/-- 'munimentslaw9.AcctApart', WHERE WHAT IT READS IS OF BULK AT MOST 1048576: true; the input reads as it did. -/
def acctApartUptoRow : OpenClaim := { program := "ytdjhjgockgmbkaagreatdoor", sum := "375578b8535e048c84770ff66fe94f474e15a6855ffd05e024e893cde2520526", func := "muniments/munimentslaw9.AcctApart", spec := "acctApart", inPlace := ["internal/bytealg.Compare"], unfollowed := true, recurses := true, named := ["unicode/utf8.first", "unicode/utf8.acceptRanges"], plainKeys := false, apart := false, laid := [("unicode/utf8.acceptRanges", laid_unicode_utf8_acceptRanges), ("unicode/utf8.first", laid_unicode_utf8_first)], narrowed := true }
def AcctApartUptoSaid : Prop := acctApartUptoRow.holds Tryz.pinned (OpenSpec.upto acctApartSpec)

/-- 'munimentslaw9.AcctWrong', WHERE WHAT IT READS IS OF BULK AT MOST 1048576: true; the input reads as it did. -/
def acctWrongUptoRow : OpenClaim := { program := "ytdjhjgockgmbkaagreatdoor", sum := "375578b8535e048c84770ff66fe94f474e15a6855ffd05e024e893cde2520526", func := "muniments/munimentslaw9.AcctWrong", spec := "acctWrong", inPlace := ["internal/bytealg.Compare"], unfollowed := true, recurses := true, named := ["unicode/utf8.first", "unicode/utf8.acceptRanges"], plainKeys := false, apart := false, laid := [("unicode/utf8.acceptRanges", laid_unicode_utf8_acceptRanges), ("unicode/utf8.first", laid_unicode_utf8_first)], narrowed := true }
def AcctWrongUptoSaid : Prop := acctWrongUptoRow.holds Tryz.pinned (OpenSpec.upto acctWrongSpec)

end Rows
end Go.Proofs.YtdjhjgockgmbkaaGreatDoor
