/-
  NARROWER THAN 'FOR EVERY INPUT', by the rows' own cells (each row's printed sentence says how): RlpPacks: loops · RlpInside: loops.
  DERIVED. THE GIVEN ROWS OF THIS SEAT. 2 by the template 'for every input the law returns true; each argument reads behind the call as it read before'; 0 by the template 'total and deterministic' (their statements: YtacnechjofnnjaaTotals.lean).
  GIVEN WITH THE SEED: the statements are not yours to turn. If you find one false, say at which input.
  Laid BY PROGRAM, IN A SANDBOX (cutbox-rows.mjs): the forced cells as the released guide's own fill.sh prints them over the translation a803657036e85d36… (all of the seat's roots in one cut). By AI agents, Wed Nov 11 2026. No macro, syntax, notation, axiom, sorry.
-/
import Derived.Test.YtacnechjofnnjaaChecked
import GoSem.Claim
import GoSem.ClaimJoined
import GoSem.ClaimMapViews
import Derived.JoinedTies
import Derived.KernelRfl
namespace Go.Proofs.Ytacnechjofnnjaa
/- THE CELL 'sum', in the pinned program and in every row, IS THE sha256 OF THE DUMP (.gsa) THAT YtacnechjofnnjaaProg.lean LOADS. Nothing in Lean hashes anything: it is a label: what it is worth is what the hold of that sum in a sandbox is worth. -/
noncomputable def Try.pinned : Pinned := { name := "ytacnechjofnnjaa", sum := "a803657036e85d36328cdeeea4ae67da6f82e16f0d938cd5b94111d74d1f5822", checked := Try.checked }
namespace Rows
def none {H : Type} : Left H := { results := [], args := [] }

/-- 'munimentslaw4.RlpPacks': WHATEVER THE INPUT: true; the input reads as it did. -/
def rlpPacksSpec : ChangeSpec := { name := "rlpPacks", fn := fun _ => fun
  | [d] => { results := [.lit (.bool true)], args := [d] }
  | _ => none }
def rlpPacksRow : OpenClaim := { program := "ytacnechjofnnjaa", sum := "a803657036e85d36328cdeeea4ae67da6f82e16f0d938cd5b94111d74d1f5822", func := "muniments/munimentslaw4.RlpPacks", spec := "rlpPacks", unfollowed := true, recurses := true, loops := true, apart := false }
def RlpPacksSaid : Prop := rlpPacksRow.holds Try.pinned (OpenSpec.ofChange rlpPacksSpec)

/-- ITS FALSE NEIGHBOUR: 'it returns false'. Refute it at one input. -/
def rlpPacksWrong : ChangeSpec := { name := "rlpPacks", fn := fun _ => fun
  | [d] => { results := [.lit (.bool false)], args := [d] }
  | _ => none }
def RlpPacksWrongFalsely : Prop := rlpPacksRow.holds Try.pinned (OpenSpec.ofChange rlpPacksWrong)

/-- 'munimentslaw4.RlpInside': WHATEVER THE INPUT: true; the input reads as it did. -/
def rlpInsideSpec : ChangeSpec := { name := "rlpInside", fn := fun _ => fun
  | [d] => { results := [.lit (.bool true)], args := [d] }
  | _ => none }
def rlpInsideRow : OpenClaim := { program := "ytacnechjofnnjaa", sum := "a803657036e85d36328cdeeea4ae67da6f82e16f0d938cd5b94111d74d1f5822", func := "muniments/munimentslaw4.RlpInside", spec := "rlpInside", unfollowed := true, recurses := true, loops := true, apart := false }
def RlpInsideSaid : Prop := rlpInsideRow.holds Try.pinned (OpenSpec.ofChange rlpInsideSpec)

/-- ITS FALSE NEIGHBOUR: 'it returns false'. Refute it at one input. -/
def rlpInsideWrong : ChangeSpec := { name := "rlpInside", fn := fun _ => fun
  | [d] => { results := [.lit (.bool false)], args := [d] }
  | _ => none }
def RlpInsideWrongFalsely : Prop := rlpInsideRow.holds Try.pinned (OpenSpec.ofChange rlpInsideWrong)

/- THE SECOND FORM. 'bulk': how many values and letters a reading holds, each counted each time it is reached (what is shared counts as often as it is met; a slice's spare places count too). A statement '..UptoSaid' is the law's where the arguments, and the package variables that the reading takes, are together of bulk at most 1048576: NARROWER than '..Said'. Prove '..Said' where nothing that the law and all that it calls make is longer than what came in: it says more and counts as full. Else prove '..UptoSaid'. A law counts once. -/
mutual
def uptoBulk {H : Type} : DataW H → Nat
  | .lit (.string bytes) => bytes.length + 1
  | .lit _ => 1
  | .nil => 1
  | .ptr d => uptoBulk d + 1
  | .slice elems spare => uptoBulkAll elems + uptoBulkAll spare + 1
  | .agg parts => uptoBulkAll parts + 1
  | .iface _ d => uptoBulk d + 1
  | .map entries => uptoBulkEntries entries + 1
  | .held _ => 1
def uptoBulkAll {H : Type} : List (DataW H) → Nat
  | [] => 0
  | d :: r => uptoBulk d + uptoBulkAll r
def uptoBulkEntries {H : Type} : List (Lit × DataW H) → Nat
  | [] => 0
  | x :: r => uptoBulkEntry x + uptoBulkEntries r
def uptoBulkEntry {H : Type} : Lit × DataW H → Nat
  | (.string bytes, d) => bytes.length + uptoBulk d + 1
  | (_, d) => uptoBulk d + 1
 end
def uptoSmall : (H : Type) → List (DataW H) → Bool := fun _ ds => decide (uptoBulkAll ds ≤ 1048576)
def OpenSpec.upto (s : _root_.Go.ChangeSpec) : _root_.Go.OpenSpec := { _root_.Go.OpenSpec.ofChange s with cond := some uptoSmall }

/-- 'munimentslaw4.RlpPacks', WHERE WHAT IT READS IS OF BULK AT MOST 1048576: true; the input reads as it did. -/
def rlpPacksUptoRow : OpenClaim := { program := "ytacnechjofnnjaa", sum := "a803657036e85d36328cdeeea4ae67da6f82e16f0d938cd5b94111d74d1f5822", func := "muniments/munimentslaw4.RlpPacks", spec := "rlpPacks", unfollowed := true, recurses := true, loops := true, apart := false, narrowed := true }
def RlpPacksUptoSaid : Prop := rlpPacksUptoRow.holds Try.pinned (OpenSpec.upto rlpPacksSpec)

/-- 'munimentslaw4.RlpInside', WHERE WHAT IT READS IS OF BULK AT MOST 1048576: true; the input reads as it did. -/
def rlpInsideUptoRow : OpenClaim := { program := "ytacnechjofnnjaa", sum := "a803657036e85d36328cdeeea4ae67da6f82e16f0d938cd5b94111d74d1f5822", func := "muniments/munimentslaw4.RlpInside", spec := "rlpInside", unfollowed := true, recurses := true, loops := true, apart := false, narrowed := true }
def RlpInsideUptoSaid : Prop := rlpInsideUptoRow.holds Try.pinned (OpenSpec.upto rlpInsideSpec)

end Rows
end Go.Proofs.Ytacnechjofnnjaa
