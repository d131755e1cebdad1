/-
  No cell of these rows narrows 'for every input' (looked for: loops, veiled, ifaces, maps, wideKeys, modest, calm, conditions, laid).
  DERIVED. THE GIVEN ROWS OF THIS SEAT. 4 by the template 'for every input the law returns true; each argument reads behind the call as it read before'; 0 by the template 'total and deterministic' (their statements: YtijnglcagijlcaaTotals.lean).
  GIVEN WITH THE SEED: the statements are not yours to turn. If you find one false, say at which input.
  Laid BY PROGRAM, IN A SANDBOX (cutbox-rows.mjs): the forced cells as the released guide's own fill.sh prints them over the translation e0f1fc17dbb03ae5… (all of the seat's roots in one cut). By AI agents, Wed Nov 11 2026. No macro, syntax, notation, axiom, sorry.
-/
import Derived.Test.YtijnglcagijlcaaChecked
import GoSem.Claim
import GoSem.ClaimJoined
import GoSem.ClaimMapViews
import Derived.JoinedTies
import Derived.KernelRfl
namespace Go.Proofs.Ytijnglcagijlcaa
/- THE CELL 'sum', in the pinned program and in every row, IS THE sha256 OF THE DUMP (.gsa) THAT YtijnglcagijlcaaProg.lean LOADS. Nothing in Lean hashes anything: it is a label: what it is worth is what the hold of that sum in a sandbox is worth. -/
noncomputable def Try.pinned : Pinned := { name := "ytijnglcagijlcaa", sum := "e0f1fc17dbb03ae51ca231d9b5cf490cea8671ed22b191b49d917c9acd7a4c19", checked := Try.checked }
namespace Rows
def none {H : Type} : Left H := { results := [], args := [] }

/-- 'munimentslaw11.OpsTells': WHATEVER THE INPUT: true; the input reads as it did. -/
def opsTellsSpec : ChangeSpec := { name := "opsTells", fn := fun _ => fun
  | [d1, d2] => { results := [.lit (.bool true)], args := [d1, d2] }
  | _ => none }
def opsTellsRow : OpenClaim := { program := "ytijnglcagijlcaa", sum := "e0f1fc17dbb03ae51ca231d9b5cf490cea8671ed22b191b49d917c9acd7a4c19", func := "muniments/munimentslaw11.OpsTells", spec := "opsTells", recurses := true, apart := false }
def OpsTellsSaid : Prop := opsTellsRow.holds Try.pinned (OpenSpec.ofChange opsTellsSpec)

/-- ITS FALSE NEIGHBOUR: 'it returns false'. Refute it at one input. -/
def opsTellsWrong : ChangeSpec := { name := "opsTells", fn := fun _ => fun
  | [d1, d2] => { results := [.lit (.bool false)], args := [d1, d2] }
  | _ => none }
def OpsTellsWrongFalsely : Prop := opsTellsRow.holds Try.pinned (OpenSpec.ofChange opsTellsWrong)

/-- 'munimentslaw11.OpsJumps': WHATEVER THE INPUT: true; the input reads as it did. -/
def opsJumpsSpec : ChangeSpec := { name := "opsJumps", fn := fun _ => fun
  | [d] => { results := [.lit (.bool true)], args := [d] }
  | _ => none }
def opsJumpsRow : OpenClaim := { program := "ytijnglcagijlcaa", sum := "e0f1fc17dbb03ae51ca231d9b5cf490cea8671ed22b191b49d917c9acd7a4c19", func := "muniments/munimentslaw11.OpsJumps", spec := "opsJumps", apart := false }
def OpsJumpsSaid : Prop := opsJumpsRow.holds Try.pinned (OpenSpec.ofChange opsJumpsSpec)

/-- ITS FALSE NEIGHBOUR: 'it returns false'. Refute it at one input. -/
def opsJumpsWrong : ChangeSpec := { name := "opsJumps", fn := fun _ => fun
  | [d] => { results := [.lit (.bool false)], args := [d] }
  | _ => none }
def OpsJumpsWrongFalsely : Prop := opsJumpsRow.holds Try.pinned (OpenSpec.ofChange opsJumpsWrong)

/-- 'munimentslaw11.OpsAll': WHATEVER THE INPUT: true; the input reads as it did. -/
def opsAllSpec : ChangeSpec := { name := "opsAll", fn := fun _ => fun
  | [d] => { results := [.lit (.bool true)], args := [d] }
  | _ => none }
def opsAllRow : OpenClaim := { program := "ytijnglcagijlcaa", sum := "e0f1fc17dbb03ae51ca231d9b5cf490cea8671ed22b191b49d917c9acd7a4c19", func := "muniments/munimentslaw11.OpsAll", spec := "opsAll", apart := false }
def OpsAllSaid : Prop := opsAllRow.holds Try.pinned (OpenSpec.ofChange opsAllSpec)

/-- ITS FALSE NEIGHBOUR: 'it returns false'. Refute it at one input. -/
def opsAllWrong : ChangeSpec := { name := "opsAll", fn := fun _ => fun
  | [d] => { results := [.lit (.bool false)], args := [d] }
  | _ => none }
def OpsAllWrongFalsely : Prop := opsAllRow.holds Try.pinned (OpenSpec.ofChange opsAllWrong)

/-- 'munimentslaw11.OpsData': WHATEVER THE INPUT: true; the input reads as it did. -/
def opsDataSpec : ChangeSpec := { name := "opsData", fn := fun _ => fun
  | [d1, d2] => { results := [.lit (.bool true)], args := [d1, d2] }
  | _ => none }
def opsDataRow : OpenClaim := { program := "ytijnglcagijlcaa", sum := "e0f1fc17dbb03ae51ca231d9b5cf490cea8671ed22b191b49d917c9acd7a4c19", func := "muniments/munimentslaw11.OpsData", spec := "opsData", apart := false }
def OpsDataSaid : Prop := opsDataRow.holds Try.pinned (OpenSpec.ofChange opsDataSpec)

/-- ITS FALSE NEIGHBOUR: 'it returns false'. Refute it at one input. -/
def opsDataWrong : ChangeSpec := { name := "opsData", fn := fun _ => fun
  | [d1, d2] => { results := [.lit (.bool false)], args := [d1, d2] }
  | _ => none }
def OpsDataWrongFalsely : Prop := opsDataRow.holds Try.pinned (OpenSpec.ofChange opsDataWrong)

/- THE SECOND FORM. 'bulk': how many values and letters a reading holds, each counted each time it is reached (what is shared counts as often as it is met; a slice's spare places count too). A statement '..UptoSaid' is the law's where the arguments, and the package variables that the reading takes, are together of bulk at most 1048576: NARROWER than '..Said'. Prove '..Said' where nothing that the law and all that it calls make is longer than what came in: it says more and counts as full. Else prove '..UptoSaid'. A law counts once. -/
mutual
def uptoBulk {H : Type} : DataW H → Nat
  | .lit (.string bytes) => bytes.length + 1
  | .lit _ => 1
  | .nil => 1
  | .ptr d => uptoBulk d + 1
  | .slice elems spare => uptoBulkAll elems + uptoBulkAll spare + 1
  | .agg parts => uptoBulkAll parts + 1
  | .iface _ d => uptoBulk d + 1
  | .map entries => uptoBulkEntries entries + 1
  | .held _ => 1
def uptoBulkAll {H : Type} : List (DataW H) → Nat
  | [] => 0
  | d :: r => uptoBulk d + uptoBulkAll r
def uptoBulkEntries {H : Type} : List (Lit × DataW H) → Nat
  | [] => 0
  | x :: r => uptoBulkEntry x + uptoBulkEntries r
def uptoBulkEntry {H : Type} : Lit × DataW H → Nat
  | (.string bytes, d) => bytes.length + uptoBulk d + 1
  | (_, d) => uptoBulk d + 1
 end
def uptoSmall : (H : Type) → List (DataW H) → Bool := fun _ ds => decide (uptoBulkAll ds ≤ 1048576)
def OpenSpec.upto (s : _root_.Go.ChangeSpec) : _root_.Go.OpenSpec := { _root_.Go.OpenSpec.ofChange s with cond := some uptoSmall }

/-- 'munimentslaw11.OpsTells', WHERE WHAT IT READS IS OF BULK AT MOST 1048576: true; the input reads as it did. -/
def opsTellsUptoRow : OpenClaim := { program := "ytijnglcagijlcaa", sum := "e0f1fc17dbb03ae51ca231d9b5cf490cea8671ed22b191b49d917c9acd7a4c19", func := "muniments/munimentslaw11.OpsTells", spec := "opsTells", recurses := true, apart := false, narrowed := true }
def OpsTellsUptoSaid : Prop := opsTellsUptoRow.holds Try.pinned (OpenSpec.upto opsTellsSpec)

/-- 'munimentslaw11.OpsJumps', WHERE WHAT IT READS IS OF BULK AT MOST 1048576: true; the input reads as it did. -/
def opsJumpsUptoRow : OpenClaim := { program := "ytijnglcagijlcaa", sum := "e0f1fc17dbb03ae51ca231d9b5cf490cea8671ed22b191b49d917c9acd7a4c19", func := "muniments/munimentslaw11.OpsJumps", spec := "opsJumps", apart := false, narrowed := true }
def OpsJumpsUptoSaid : Prop := opsJumpsUptoRow.holds Try.pinned (OpenSpec.upto opsJumpsSpec)

/-- 'munimentslaw11.OpsAll', WHERE WHAT IT READS IS OF BULK AT MOST 1048576: true; the input reads as it did. -/
def opsAllUptoRow : OpenClaim := { program := "ytijnglcagijlcaa", sum := "e0f1fc17dbb03ae51ca231d9b5cf490cea8671ed22b191b49d917c9acd7a4c19", func := "muniments/munimentslaw11.OpsAll", spec := "opsAll", apart := false, narrowed := true }
def OpsAllUptoSaid : Prop := opsAllUptoRow.holds Try.pinned (OpenSpec.upto opsAllSpec)

/-- 'munimentslaw11.OpsData', WHERE WHAT IT READS IS OF BULK AT MOST 1048576: true; the input reads as it did. -/
def opsDataUptoRow : OpenClaim := { program := "ytijnglcagijlcaa", sum := "e0f1fc17dbb03ae51ca231d9b5cf490cea8671ed22b191b49d917c9acd7a4c19", func := "muniments/munimentslaw11.OpsData", spec := "opsData", apart := false, narrowed := true }
def OpsDataUptoSaid : Prop := opsDataUptoRow.holds Try.pinned (OpenSpec.upto opsDataSpec)

end Rows
end Go.Proofs.Ytijnglcagijlcaa
