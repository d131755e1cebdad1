/-
  No cell of these rows narrows 'for every input' (looked for: loops, veiled, ifaces, maps, wideKeys, modest, calm, conditions, laid).
  DERIVED. THE GIVEN ROWS OF THIS SEAT. 2 by the template 'for every input the law returns true; each argument reads behind the call as it read before'; 0 by the template 'total and deterministic' (their statements: YtbbebejdfgakfaaTotals.lean).
  GIVEN WITH THE SEED: the statements are not yours to turn. If you find one false, say at which input.
  Laid BY PROGRAM, IN A SANDBOX (cutbox-rows.mjs): the forced cells as the released guide's own fill.sh prints them over the translation b39d9654b91c97e0… (all of the seat's roots in one cut). By AI agents, Wed Nov 11 2026. No macro, syntax, notation, axiom, sorry.
-/
import Derived.Test.YtbbebejdfgakfaaChecked
import GoSem.Claim
import GoSem.ClaimJoined
import GoSem.ClaimMapViews
import Derived.JoinedTies
import Derived.KernelRfl
namespace Go.Proofs.Ytbbebejdfgakfaa
/- THE CELL 'sum', in the pinned program and in every row, IS THE sha256 OF THE DUMP (.gsa) THAT YtbbebejdfgakfaaProg.lean LOADS. Nothing in Lean hashes anything: it is a label: what it is worth is what the hold of that sum in a sandbox is worth. -/
noncomputable def Try.pinned : Pinned := { name := "ytbbebejdfgakfaa", sum := "b39d9654b91c97e049b8e265346c9ef713c44771e89ef2b5b16c8a2f5e5cbe4e", checked := Try.checked }
namespace Rows
def none {H : Type} : Left H := { results := [], args := [] }

/-- 'munimentslaw14.GasTells': WHATEVER THE INPUT: true; the input reads as it did. -/
def gasTellsSpec : ChangeSpec := { name := "gasTells", fn := fun _ => fun
  | [d1, d2, d3, d4, d5, d6, d7] => { results := [.lit (.bool true)], args := [d1, d2, d3, d4, d5, d6, d7] }
  | _ => none }
def gasTellsRow : OpenClaim := { program := "ytbbebejdfgakfaa", sum := "b39d9654b91c97e049b8e265346c9ef713c44771e89ef2b5b16c8a2f5e5cbe4e", func := "muniments/munimentslaw14.GasTells", spec := "gasTells", inPlace := ["internal/bytealg.Count", "internal/bytealg.IndexByte", "internal/bytealg.Index"], named := ["internal/bytealg.MaxLen"], apart := false }
def GasTellsSaid : Prop := gasTellsRow.holds Try.pinned (OpenSpec.ofChange gasTellsSpec)

/-- ITS FALSE NEIGHBOUR: 'it returns false'. Refute it at one input. -/
def gasTellsWrong : ChangeSpec := { name := "gasTells", fn := fun _ => fun
  | [d1, d2, d3, d4, d5, d6, d7] => { results := [.lit (.bool false)], args := [d1, d2, d3, d4, d5, d6, d7] }
  | _ => none }
def GasTellsWrongFalsely : Prop := gasTellsRow.holds Try.pinned (OpenSpec.ofChange gasTellsWrong)

/-- 'munimentslaw14.GasRises': WHATEVER THE INPUT: true; the input reads as it did. -/
def gasRisesSpec : ChangeSpec := { name := "gasRises", fn := fun _ => fun
  | [d1, d2, d3] => { results := [.lit (.bool true)], args := [d1, d2, d3] }
  | _ => none }
def gasRisesRow : OpenClaim := { program := "ytbbebejdfgakfaa", sum := "b39d9654b91c97e049b8e265346c9ef713c44771e89ef2b5b16c8a2f5e5cbe4e", func := "muniments/munimentslaw14.GasRises", spec := "gasRises", inPlace := ["internal/bytealg.Count", "internal/bytealg.IndexByte", "internal/bytealg.Index"], named := ["internal/bytealg.MaxLen"], apart := false }
def GasRisesSaid : Prop := gasRisesRow.holds Try.pinned (OpenSpec.ofChange gasRisesSpec)

/-- ITS FALSE NEIGHBOUR: 'it returns false'. Refute it at one input. -/
def gasRisesWrong : ChangeSpec := { name := "gasRises", fn := fun _ => fun
  | [d1, d2, d3] => { results := [.lit (.bool false)], args := [d1, d2, d3] }
  | _ => none }
def GasRisesWrongFalsely : Prop := gasRisesRow.holds Try.pinned (OpenSpec.ofChange gasRisesWrong)

/- THE SECOND FORM. 'bulk': how many values and letters a reading holds, each counted each time it is reached (what is shared counts as often as it is met; a slice's spare places count too). A statement '..UptoSaid' is the law's where the arguments, and the package variables that the reading takes, are together of bulk at most 1048576: NARROWER than '..Said'. Prove '..Said' where nothing that the law and all that it calls make is longer than what came in: it says more and counts as full. Else prove '..UptoSaid'. A law counts once. -/
mutual
def uptoBulk {H : Type} : DataW H → Nat
  | .lit (.string bytes) => bytes.length + 1
  | .lit _ => 1
  | .nil => 1
  | .ptr d => uptoBulk d + 1
  | .slice elems spare => uptoBulkAll elems + uptoBulkAll spare + 1
  | .agg parts => uptoBulkAll parts + 1
  | .iface _ d => uptoBulk d + 1
  | .map entries => uptoBulkEntries entries + 1
  | .held _ => 1
def uptoBulkAll {H : Type} : List (DataW H) → Nat
  | [] => 0
  | d :: r => uptoBulk d + uptoBulkAll r
def uptoBulkEntries {H : Type} : List (Lit × DataW H) → Nat
  | [] => 0
  | x :: r => uptoBulkEntry x + uptoBulkEntries r
def uptoBulkEntry {H : Type} : Lit × DataW H → Nat
  | (.string bytes, d) => bytes.length + uptoBulk d + 1
  | (_, d) => uptoBulk d + 1
 end
def uptoSmall : (H : Type) → List (DataW H) → Bool := fun _ ds => decide (uptoBulkAll ds ≤ 1048576)
def OpenSpec.upto (s : _root_.Go.ChangeSpec) : _root_.Go.OpenSpec := { _root_.Go.OpenSpec.ofChange s with cond := some uptoSmall }

/-- 'munimentslaw14.GasTells', WHERE WHAT IT READS IS OF BULK AT MOST 1048576: true; the input reads as it did. -/
def gasTellsUptoRow : OpenClaim := { program := "ytbbebejdfgakfaa", sum := "b39d9654b91c97e049b8e265346c9ef713c44771e89ef2b5b16c8a2f5e5cbe4e", func := "muniments/munimentslaw14.GasTells", spec := "gasTells", inPlace := ["internal/bytealg.Count", "internal/bytealg.IndexByte", "internal/bytealg.Index"], named := ["internal/bytealg.MaxLen"], apart := false, narrowed := true }
def GasTellsUptoSaid : Prop := gasTellsUptoRow.holds Try.pinned (OpenSpec.upto gasTellsSpec)

/-- 'munimentslaw14.GasRises', WHERE WHAT IT READS IS OF BULK AT MOST 1048576: true; the input reads as it did. -/
def gasRisesUptoRow : OpenClaim := { program := "ytbbebejdfgakfaa", sum := "b39d9654b91c97e049b8e265346c9ef713c44771e89ef2b5b16c8a2f5e5cbe4e", func := "muniments/munimentslaw14.GasRises", spec := "gasRises", inPlace := ["internal/bytealg.Count", "internal/bytealg.IndexByte", "internal/bytealg.Index"], named := ["internal/bytealg.MaxLen"], apart := false, narrowed := true }
def GasRisesUptoSaid : Prop := gasRisesUptoRow.holds Try.pinned (OpenSpec.upto gasRisesSpec)

end Rows
end Go.Proofs.Ytbbebejdfgakfaa
