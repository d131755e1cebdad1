/-
  No cell of these rows narrows 'for every input' (looked for: loops, veiled, ifaces, maps, wideKeys, modest, calm, conditions, laid).
  DERIVED. THE GIVEN ROWS OF THIS SEAT. 4 by the template 'for every input the law returns true; each argument reads behind the call as it read before'; 0 by the template 'total and deterministic' (their statements: YtbmlglnfhapceaaTotals.lean).
  GIVEN WITH THE SEED: the statements are not yours to turn. If you find one false, say at which input.
  Laid BY PROGRAM, IN A SANDBOX (cutbox-rows.mjs): the forced cells as the released guide's own fill.sh prints them over the translation 9543238a88941494… (all of the seat's roots in one cut). By AI agents, Wed Nov 11 2026. No macro, syntax, notation, axiom, sorry.
-/
import Derived.Test.YtbmlglnfhapceaaChecked
import GoSem.Claim
import GoSem.ClaimJoined
import GoSem.ClaimMapViews
import Derived.JoinedTies
import Derived.KernelRfl
namespace Go.Proofs.Ytbmlglnfhapceaa
/- THE CELL 'sum', in the pinned program and in every row, IS THE sha256 OF THE DUMP (.gsa) THAT YtbmlglnfhapceaaProg.lean LOADS. Nothing in Lean hashes anything: it is a label: what it is worth is what the hold of that sum in a sandbox is worth. -/
noncomputable def Try.pinned : Pinned := { name := "ytbmlglnfhapceaa", sum := "9543238a8894149401fdb5ce0af19119b9ab093318c8d9f792c371c5717781d4", checked := Try.checked }
namespace Rows
def none {H : Type} : Left H := { results := [], args := [] }

/-- 'munimentslaw3.HexReads': WHATEVER THE INPUT: true; the input reads as it did. -/
def hexReadsSpec : ChangeSpec := { name := "hexReads", fn := fun _ => fun
  | [d] => { results := [.lit (.bool true)], args := [d] }
  | _ => none }
def hexReadsRow : OpenClaim := { program := "ytbmlglnfhapceaa", sum := "9543238a8894149401fdb5ce0af19119b9ab093318c8d9f792c371c5717781d4", func := "muniments/munimentslaw3.HexReads", spec := "hexReads", inPlace := ["internal/abi.NoEscape", "internal/bytealg.MakeNoZero"], apart := false }
def HexReadsSaid : Prop := hexReadsRow.holds Try.pinned (OpenSpec.ofChange hexReadsSpec)

/-- ITS FALSE NEIGHBOUR: 'it returns false'. Refute it at one input. -/
def hexReadsWrong : ChangeSpec := { name := "hexReads", fn := fun _ => fun
  | [d] => { results := [.lit (.bool false)], args := [d] }
  | _ => none }
def HexReadsWrongFalsely : Prop := hexReadsRow.holds Try.pinned (OpenSpec.ofChange hexReadsWrong)

/-- 'munimentslaw3.HexTexts': WHATEVER THE INPUT: true; the input reads as it did. -/
def hexTextsSpec : ChangeSpec := { name := "hexTexts", fn := fun _ => fun
  | [d1, d2, d3] => { results := [.lit (.bool true)], args := [d1, d2, d3] }
  | _ => none }
def hexTextsRow : OpenClaim := { program := "ytbmlglnfhapceaa", sum := "9543238a8894149401fdb5ce0af19119b9ab093318c8d9f792c371c5717781d4", func := "muniments/munimentslaw3.HexTexts", spec := "hexTexts", inPlace := ["internal/abi.NoEscape", "internal/bytealg.MakeNoZero"], apart := false }
def HexTextsSaid : Prop := hexTextsRow.holds Try.pinned (OpenSpec.ofChange hexTextsSpec)

/-- ITS FALSE NEIGHBOUR: 'it returns false'. Refute it at one input. -/
def hexTextsWrong : ChangeSpec := { name := "hexTexts", fn := fun _ => fun
  | [d1, d2, d3] => { results := [.lit (.bool false)], args := [d1, d2, d3] }
  | _ => none }
def HexTextsWrongFalsely : Prop := hexTextsRow.holds Try.pinned (OpenSpec.ofChange hexTextsWrong)

/-- 'munimentslaw3.HexWrong': WHATEVER THE INPUT: true; the input reads as it did. -/
def hexWrongSpec : ChangeSpec := { name := "hexWrong", fn := fun _ => fun
  | [d] => { results := [.lit (.bool true)], args := [d] }
  | _ => none }
def hexWrongRow : OpenClaim := { program := "ytbmlglnfhapceaa", sum := "9543238a8894149401fdb5ce0af19119b9ab093318c8d9f792c371c5717781d4", func := "muniments/munimentslaw3.HexWrong", spec := "hexWrong", inPlace := ["internal/abi.NoEscape", "internal/bytealg.MakeNoZero"], apart := false }
def HexWrongSaid : Prop := hexWrongRow.holds Try.pinned (OpenSpec.ofChange hexWrongSpec)

/-- ITS FALSE NEIGHBOUR: 'it returns false'. Refute it at one input. -/
def hexWrongWrong : ChangeSpec := { name := "hexWrong", fn := fun _ => fun
  | [d] => { results := [.lit (.bool false)], args := [d] }
  | _ => none }
def HexWrongWrongFalsely : Prop := hexWrongRow.holds Try.pinned (OpenSpec.ofChange hexWrongWrong)

/-- 'munimentslaw3.HexNumbers': WHATEVER THE INPUT: true; the input reads as it did. -/
def hexNumbersSpec : ChangeSpec := { name := "hexNumbers", fn := fun _ => fun
  | [d] => { results := [.lit (.bool true)], args := [d] }
  | _ => none }
def hexNumbersRow : OpenClaim := { program := "ytbmlglnfhapceaa", sum := "9543238a8894149401fdb5ce0af19119b9ab093318c8d9f792c371c5717781d4", func := "muniments/munimentslaw3.HexNumbers", spec := "hexNumbers", inPlace := ["internal/abi.NoEscape", "internal/bytealg.MakeNoZero"], apart := false }
def HexNumbersSaid : Prop := hexNumbersRow.holds Try.pinned (OpenSpec.ofChange hexNumbersSpec)

/-- ITS FALSE NEIGHBOUR: 'it returns false'. Refute it at one input. -/
def hexNumbersWrong : ChangeSpec := { name := "hexNumbers", fn := fun _ => fun
  | [d] => { results := [.lit (.bool false)], args := [d] }
  | _ => none }
def HexNumbersWrongFalsely : Prop := hexNumbersRow.holds Try.pinned (OpenSpec.ofChange hexNumbersWrong)

/- THE SECOND FORM. 'bulk': how many values and letters a reading holds, each counted each time it is reached (what is shared counts as often as it is met; a slice's spare places count too). A statement '..UptoSaid' is the law's where the arguments, and the package variables that the reading takes, are together of bulk at most 1048576: NARROWER than '..Said'. Prove '..Said' where nothing that the law and all that it calls make is longer than what came in: it says more and counts as full. Else prove '..UptoSaid'. A law counts once. -/
mutual
def uptoBulk {H : Type} : DataW H → Nat
  | .lit (.string bytes) => bytes.length + 1
  | .lit _ => 1
  | .nil => 1
  | .ptr d => uptoBulk d + 1
  | .slice elems spare => uptoBulkAll elems + uptoBulkAll spare + 1
  | .agg parts => uptoBulkAll parts + 1
  | .iface _ d => uptoBulk d + 1
  | .map entries => uptoBulkEntries entries + 1
  | .held _ => 1
def uptoBulkAll {H : Type} : List (DataW H) → Nat
  | [] => 0
  | d :: r => uptoBulk d + uptoBulkAll r
def uptoBulkEntries {H : Type} : List (Lit × DataW H) → Nat
  | [] => 0
  | x :: r => uptoBulkEntry x + uptoBulkEntries r
def uptoBulkEntry {H : Type} : Lit × DataW H → Nat
  | (.string bytes, d) => bytes.length + uptoBulk d + 1
  | (_, d) => uptoBulk d + 1
 end
def uptoSmall : (H : Type) → List (DataW H) → Bool := fun _ ds => decide (uptoBulkAll ds ≤ 1048576)
def OpenSpec.upto (s : _root_.Go.ChangeSpec) : _root_.Go.OpenSpec := { _root_.Go.OpenSpec.ofChange s with cond := some uptoSmall }

/-- 'munimentslaw3.HexReads', WHERE WHAT IT READS IS OF BULK AT MOST 1048576: true; the input reads as it did. -/
def hexReadsUptoRow : OpenClaim := { program := "ytbmlglnfhapceaa", sum := "9543238a8894149401fdb5ce0af19119b9ab093318c8d9f792c371c5717781d4", func := "muniments/munimentslaw3.HexReads", spec := "hexReads", inPlace := ["internal/abi.NoEscape", "internal/bytealg.MakeNoZero"], apart := false, narrowed := true }
def HexReadsUptoSaid : Prop := hexReadsUptoRow.holds Try.pinned (OpenSpec.upto hexReadsSpec)

/-- 'munimentslaw3.HexTexts', WHERE WHAT IT READS IS OF BULK AT MOST 1048576: true; the input reads as it did. -/
def hexTextsUptoRow : OpenClaim := { program := "ytbmlglnfhapceaa", sum := "9543238a8894149401fdb5ce0af19119b9ab093318c8d9f792c371c5717781d4", func := "muniments/munimentslaw3.HexTexts", spec := "hexTexts", inPlace := ["internal/abi.NoEscape", "internal/bytealg.MakeNoZero"], apart := false, narrowed := true }
def HexTextsUptoSaid : Prop := hexTextsUptoRow.holds Try.pinned (OpenSpec.upto hexTextsSpec)

/-- 'munimentslaw3.HexWrong', WHERE WHAT IT READS IS OF BULK AT MOST 1048576: true; the input reads as it did. -/
def hexWrongUptoRow : OpenClaim := { program := "ytbmlglnfhapceaa", sum := "9543238a8894149401fdb5ce0af19119b9ab093318c8d9f792c371c5717781d4", func := "muniments/munimentslaw3.HexWrong", spec := "hexWrong", inPlace := ["internal/abi.NoEscape", "internal/bytealg.MakeNoZero"], apart := false, narrowed := true }
def HexWrongUptoSaid : Prop := hexWrongUptoRow.holds Try.pinned (OpenSpec.upto hexWrongSpec)

/-- 'munimentslaw3.HexNumbers', WHERE WHAT IT READS IS OF BULK AT MOST 1048576: true; the input reads as it did. -/
def hexNumbersUptoRow : OpenClaim := { program := "ytbmlglnfhapceaa", sum := "9543238a8894149401fdb5ce0af19119b9ab093318c8d9f792c371c5717781d4", func := "muniments/munimentslaw3.HexNumbers", spec := "hexNumbers", inPlace := ["internal/abi.NoEscape", "internal/bytealg.MakeNoZero"], apart := false, narrowed := true }
def HexNumbersUptoSaid : Prop := hexNumbersUptoRow.holds Try.pinned (OpenSpec.upto hexNumbersSpec)

end Rows
end Go.Proofs.Ytbmlglnfhapceaa
