/-
  NARROWER THAN 'FOR EVERY INPUT', by the rows' own cells (each row's printed sentence says how): RlpPacks: loops · RlpInside: loops.
  DERIVED. THE GIVEN ROWS OF THIS SEAT. 7 by the template 'for every input the law returns true; each argument reads behind the call as it read before'; 0 by the template 'total and deterministic' (their statements: YtnkfkahbkjdnpaaTotals.lean).
  GIVEN WITH THE SEED: the statements are not yours to turn. If you find one false, say at which input.
  Laid BY PROGRAM, IN A SANDBOX (cutbox-rows.mjs): the forced cells as the released guide's own fill.sh prints them over the translation 0a0e70249f6b95f5… (all of the seat's roots in one cut). By AI agents, Wed Nov 11 2026. No macro, syntax, notation, axiom, sorry.
-/
import Derived.Test.YtnkfkahbkjdnpaaChecked
import GoSem.Claim
import GoSem.ClaimJoined
import GoSem.ClaimMapViews
import Derived.JoinedTies
import Derived.KernelRfl
namespace Go.Proofs.Ytnkfkahbkjdnpaa
/- THE CELL 'sum', in the pinned program and in every row, IS THE sha256 OF THE DUMP (.gsa) THAT YtnkfkahbkjdnpaaProg.lean LOADS. Nothing in Lean hashes anything: it is a label: what it is worth is what the hold of that sum in a sandbox is worth. -/
noncomputable def Try.pinned : Pinned := { name := "ytnkfkahbkjdnpaa", sum := "0a0e70249f6b95f529423c0882920cf8871313bc4099936ab14c7ef86120aadc", checked := Try.checked }
namespace Rows
def none {H : Type} : Left H := { results := [], args := [] }

/-- 'munimentslaw4.RlpPacks': WHATEVER THE INPUT: true; the input reads as it did. -/
def rlpPacksSpec : ChangeSpec := { name := "rlpPacks", fn := fun _ => fun
  | [d] => { results := [.lit (.bool true)], args := [d] }
  | _ => none }
def rlpPacksRow : OpenClaim := { program := "ytnkfkahbkjdnpaa", sum := "0a0e70249f6b95f529423c0882920cf8871313bc4099936ab14c7ef86120aadc", func := "muniments/munimentslaw4.RlpPacks", spec := "rlpPacks", unfollowed := true, recurses := true, loops := true, apart := false }
def RlpPacksSaid : Prop := rlpPacksRow.holds Try.pinned (OpenSpec.ofChange rlpPacksSpec)

/-- ITS FALSE NEIGHBOUR: 'it returns false'. Refute it at one input. -/
def rlpPacksWrong : ChangeSpec := { name := "rlpPacks", fn := fun _ => fun
  | [d] => { results := [.lit (.bool false)], args := [d] }
  | _ => none }
def RlpPacksWrongFalsely : Prop := rlpPacksRow.holds Try.pinned (OpenSpec.ofChange rlpPacksWrong)

/-- 'munimentslaw4.RlpReads': WHATEVER THE INPUT: true; the input reads as it did. -/
def rlpReadsSpec : ChangeSpec := { name := "rlpReads", fn := fun _ => fun
  | [d] => { results := [.lit (.bool true)], args := [d] }
  | _ => none }
def rlpReadsRow : OpenClaim := { program := "ytnkfkahbkjdnpaa", sum := "0a0e70249f6b95f529423c0882920cf8871313bc4099936ab14c7ef86120aadc", func := "muniments/munimentslaw4.RlpReads", spec := "rlpReads", unfollowed := true, recurses := true, apart := false }
def RlpReadsSaid : Prop := rlpReadsRow.holds Try.pinned (OpenSpec.ofChange rlpReadsSpec)

/-- ITS FALSE NEIGHBOUR: 'it returns false'. Refute it at one input. -/
def rlpReadsWrong : ChangeSpec := { name := "rlpReads", fn := fun _ => fun
  | [d] => { results := [.lit (.bool false)], args := [d] }
  | _ => none }
def RlpReadsWrongFalsely : Prop := rlpReadsRow.holds Try.pinned (OpenSpec.ofChange rlpReadsWrong)

/-- 'munimentslaw4.RlpOne': WHATEVER THE INPUT: true; the input reads as it did. -/
def rlpOneSpec : ChangeSpec := { name := "rlpOne", fn := fun _ => fun
  | [d1, d2, d3] => { results := [.lit (.bool true)], args := [d1, d2, d3] }
  | _ => none }
def rlpOneRow : OpenClaim := { program := "ytnkfkahbkjdnpaa", sum := "0a0e70249f6b95f529423c0882920cf8871313bc4099936ab14c7ef86120aadc", func := "muniments/munimentslaw4.RlpOne", spec := "rlpOne", unfollowed := true, recurses := true, apart := false }
def RlpOneSaid : Prop := rlpOneRow.holds Try.pinned (OpenSpec.ofChange rlpOneSpec)

/-- ITS FALSE NEIGHBOUR: 'it returns false'. Refute it at one input. -/
def rlpOneWrong : ChangeSpec := { name := "rlpOne", fn := fun _ => fun
  | [d1, d2, d3] => { results := [.lit (.bool false)], args := [d1, d2, d3] }
  | _ => none }
def RlpOneWrongFalsely : Prop := rlpOneRow.holds Try.pinned (OpenSpec.ofChange rlpOneWrong)

/-- 'munimentslaw4.RlpDeep': WHATEVER THE INPUT: true; the input reads as it did. -/
def rlpDeepSpec : ChangeSpec := { name := "rlpDeep", fn := fun _ => fun
  | [d] => { results := [.lit (.bool true)], args := [d] }
  | _ => none }
def rlpDeepRow : OpenClaim := { program := "ytnkfkahbkjdnpaa", sum := "0a0e70249f6b95f529423c0882920cf8871313bc4099936ab14c7ef86120aadc", func := "muniments/munimentslaw4.RlpDeep", spec := "rlpDeep", unfollowed := true, recurses := true, apart := false }
def RlpDeepSaid : Prop := rlpDeepRow.holds Try.pinned (OpenSpec.ofChange rlpDeepSpec)

/-- ITS FALSE NEIGHBOUR: 'it returns false'. Refute it at one input. -/
def rlpDeepWrong : ChangeSpec := { name := "rlpDeep", fn := fun _ => fun
  | [d] => { results := [.lit (.bool false)], args := [d] }
  | _ => none }
def RlpDeepWrongFalsely : Prop := rlpDeepRow.holds Try.pinned (OpenSpec.ofChange rlpDeepWrong)

/-- 'munimentslaw4.RlpHeads': WHATEVER THE INPUT: true; the input reads as it did. -/
def rlpHeadsSpec : ChangeSpec := { name := "rlpHeads", fn := fun _ => fun
  | [d1, d2] => { results := [.lit (.bool true)], args := [d1, d2] }
  | _ => none }
def rlpHeadsRow : OpenClaim := { program := "ytnkfkahbkjdnpaa", sum := "0a0e70249f6b95f529423c0882920cf8871313bc4099936ab14c7ef86120aadc", func := "muniments/munimentslaw4.RlpHeads", spec := "rlpHeads", unfollowed := true, recurses := true, apart := false }
def RlpHeadsSaid : Prop := rlpHeadsRow.holds Try.pinned (OpenSpec.ofChange rlpHeadsSpec)

/-- ITS FALSE NEIGHBOUR: 'it returns false'. Refute it at one input. -/
def rlpHeadsWrong : ChangeSpec := { name := "rlpHeads", fn := fun _ => fun
  | [d1, d2] => { results := [.lit (.bool false)], args := [d1, d2] }
  | _ => none }
def RlpHeadsWrongFalsely : Prop := rlpHeadsRow.holds Try.pinned (OpenSpec.ofChange rlpHeadsWrong)

/-- 'munimentslaw4.RlpWrong': WHATEVER THE INPUT: true; the input reads as it did. -/
def rlpWrongSpec : ChangeSpec := { name := "rlpWrong", fn := fun _ => fun
  | [d] => { results := [.lit (.bool true)], args := [d] }
  | _ => none }
def rlpWrongRow : OpenClaim := { program := "ytnkfkahbkjdnpaa", sum := "0a0e70249f6b95f529423c0882920cf8871313bc4099936ab14c7ef86120aadc", func := "muniments/munimentslaw4.RlpWrong", spec := "rlpWrong", unfollowed := true, recurses := true, apart := false }
def RlpWrongSaid : Prop := rlpWrongRow.holds Try.pinned (OpenSpec.ofChange rlpWrongSpec)

/-- ITS FALSE NEIGHBOUR: 'it returns false'. Refute it at one input. -/
def rlpWrongWrong : ChangeSpec := { name := "rlpWrong", fn := fun _ => fun
  | [d] => { results := [.lit (.bool false)], args := [d] }
  | _ => none }
def RlpWrongWrongFalsely : Prop := rlpWrongRow.holds Try.pinned (OpenSpec.ofChange rlpWrongWrong)

/-- 'munimentslaw4.RlpInside': WHATEVER THE INPUT: true; the input reads as it did. -/
def rlpInsideSpec : ChangeSpec := { name := "rlpInside", fn := fun _ => fun
  | [d] => { results := [.lit (.bool true)], args := [d] }
  | _ => none }
def rlpInsideRow : OpenClaim := { program := "ytnkfkahbkjdnpaa", sum := "0a0e70249f6b95f529423c0882920cf8871313bc4099936ab14c7ef86120aadc", func := "muniments/munimentslaw4.RlpInside", spec := "rlpInside", unfollowed := true, recurses := true, loops := true, apart := false }
def RlpInsideSaid : Prop := rlpInsideRow.holds Try.pinned (OpenSpec.ofChange rlpInsideSpec)

/-- ITS FALSE NEIGHBOUR: 'it returns false'. Refute it at one input. -/
def rlpInsideWrong : ChangeSpec := { name := "rlpInside", fn := fun _ => fun
  | [d] => { results := [.lit (.bool false)], args := [d] }
  | _ => none }
def RlpInsideWrongFalsely : Prop := rlpInsideRow.holds Try.pinned (OpenSpec.ofChange rlpInsideWrong)

/- THE SECOND FORM. 'bulk': how many values and letters a reading holds, each counted each time it is reached (what is shared counts as often as it is met; a slice's spare places count too). A statement '..UptoSaid' is the law's where the arguments, and the package variables that the reading takes, are together of bulk at most 1048576: NARROWER than '..Said'. Prove '..Said' where nothing that the law and all that it calls make is longer than what came in: it says more and counts as full. Else prove '..UptoSaid'. A law counts once. -/
mutual
def uptoBulk {H : Type} : DataW H → Nat
  | .lit (.string bytes) => bytes.length + 1
  | .lit _ => 1
  | .nil => 1
  | .ptr d => uptoBulk d + 1
  | .slice elems spare => uptoBulkAll elems + uptoBulkAll spare + 1
  | .agg parts => uptoBulkAll parts + 1
  | .iface _ d => uptoBulk d + 1
  | .map entries => uptoBulkEntries entries + 1
  | .held _ => 1
def uptoBulkAll {H : Type} : List (DataW H) → Nat
  | [] => 0
  | d :: r => uptoBulk d + uptoBulkAll r
def uptoBulkEntries {H : Type} : List (Lit × DataW H) → Nat
  | [] => 0
  | x :: r => uptoBulkEntry x + uptoBulkEntries r
def uptoBulkEntry {H : Type} : Lit × DataW H → Nat
  | (.string bytes, d) => bytes.length + uptoBulk d + 1
  | (_, d) => uptoBulk d + 1
 end
def uptoSmall : (H : Type) → List (DataW H) → Bool := fun _ ds => decide (uptoBulkAll ds ≤ 1048576)
def OpenSpec.upto (s : _root_.Go.ChangeSpec) : _root_.Go.OpenSpec := { _root_.Go.OpenSpec.ofChange s with cond := some uptoSmall }

/-- 'munimentslaw4.RlpPacks', WHERE WHAT IT READS IS OF BULK AT MOST 1048576: true; the input reads as it did. -/
def rlpPacksUptoRow : OpenClaim := { program := "ytnkfkahbkjdnpaa", sum := "0a0e70249f6b95f529423c0882920cf8871313bc4099936ab14c7ef86120aadc", func := "muniments/munimentslaw4.RlpPacks", spec := "rlpPacks", unfollowed := true, recurses := true, loops := true, apart := false, narrowed := true }
def RlpPacksUptoSaid : Prop := rlpPacksUptoRow.holds Try.pinned (OpenSpec.upto rlpPacksSpec)

/-- 'munimentslaw4.RlpReads', WHERE WHAT IT READS IS OF BULK AT MOST 1048576: true; the input reads as it did. -/
def rlpReadsUptoRow : OpenClaim := { program := "ytnkfkahbkjdnpaa", sum := "0a0e70249f6b95f529423c0882920cf8871313bc4099936ab14c7ef86120aadc", func := "muniments/munimentslaw4.RlpReads", spec := "rlpReads", unfollowed := true, recurses := true, apart := false, narrowed := true }
def RlpReadsUptoSaid : Prop := rlpReadsUptoRow.holds Try.pinned (OpenSpec.upto rlpReadsSpec)

/-- 'munimentslaw4.RlpOne', WHERE WHAT IT READS IS OF BULK AT MOST 1048576: true; the input reads as it did. -/
def rlpOneUptoRow : OpenClaim := { program := "ytnkfkahbkjdnpaa", sum := "0a0e70249f6b95f529423c0882920cf8871313bc4099936ab14c7ef86120aadc", func := "muniments/munimentslaw4.RlpOne", spec := "rlpOne", unfollowed := true, recurses := true, apart := false, narrowed := true }
def RlpOneUptoSaid : Prop := rlpOneUptoRow.holds Try.pinned (OpenSpec.upto rlpOneSpec)

/-- 'munimentslaw4.RlpDeep', WHERE WHAT IT READS IS OF BULK AT MOST 1048576: true; the input reads as it did. -/
def rlpDeepUptoRow : OpenClaim := { program := "ytnkfkahbkjdnpaa", sum := "0a0e70249f6b95f529423c0882920cf8871313bc4099936ab14c7ef86120aadc", func := "muniments/munimentslaw4.RlpDeep", spec := "rlpDeep", unfollowed := true, recurses := true, apart := false, narrowed := true }
def RlpDeepUptoSaid : Prop := rlpDeepUptoRow.holds Try.pinned (OpenSpec.upto rlpDeepSpec)

/-- 'munimentslaw4.RlpHeads', WHERE WHAT IT READS IS OF BULK AT MOST 1048576: true; the input reads as it did. -/
def rlpHeadsUptoRow : OpenClaim := { program := "ytnkfkahbkjdnpaa", sum := "0a0e70249f6b95f529423c0882920cf8871313bc4099936ab14c7ef86120aadc", func := "muniments/munimentslaw4.RlpHeads", spec := "rlpHeads", unfollowed := true, recurses := true, apart := false, narrowed := true }
def RlpHeadsUptoSaid : Prop := rlpHeadsUptoRow.holds Try.pinned (OpenSpec.upto rlpHeadsSpec)

/-- 'munimentslaw4.RlpWrong', WHERE WHAT IT READS IS OF BULK AT MOST 1048576: true; the input reads as it did. -/
def rlpWrongUptoRow : OpenClaim := { program := "ytnkfkahbkjdnpaa", sum := "0a0e70249f6b95f529423c0882920cf8871313bc4099936ab14c7ef86120aadc", func := "muniments/munimentslaw4.RlpWrong", spec := "rlpWrong", unfollowed := true, recurses := true, apart := false, narrowed := true }
def RlpWrongUptoSaid : Prop := rlpWrongUptoRow.holds Try.pinned (OpenSpec.upto rlpWrongSpec)

/-- 'munimentslaw4.RlpInside', WHERE WHAT IT READS IS OF BULK AT MOST 1048576: true; the input reads as it did. -/
def rlpInsideUptoRow : OpenClaim := { program := "ytnkfkahbkjdnpaa", sum := "0a0e70249f6b95f529423c0882920cf8871313bc4099936ab14c7ef86120aadc", func := "muniments/munimentslaw4.RlpInside", spec := "rlpInside", unfollowed := true, recurses := true, loops := true, apart := false, narrowed := true }
def RlpInsideUptoSaid : Prop := rlpInsideUptoRow.holds Try.pinned (OpenSpec.upto rlpInsideSpec)

end Rows
end Go.Proofs.Ytnkfkahbkjdnpaa
