/- What is wrong with pairs, as plain mathematics: keys that occur twice, seen at the sorted paths. No function of the program. -/
import Derived.Test.YtdjhjgockgmbkaaGreatDoorM24
import Derived.Deep.RegionHeld3
set_option linter.unusedVariables false
set_option linter.unusedSimpArgs false
namespace Go.Proofs.YtdjhjgockgmbkaaGreatDoor

namespace Tr
def nibT (l : List Nat) : List Nat := l.flatMap fun x => [x / 16, x % 16]
/-- The entries of pairs. -/
def entries (l : List En) : List En := l.map fun p => (nibT p.1, p.2)
end Tr
end Go.Proofs.YtdjhjgockgmbkaaGreatDoor

/- Pairs and entries in memory: which are too long, which have no value. -/
namespace Go.Proofs.YtdjhjgockgmbkaaGreatDoor
open Go.RowKit Tr

/-- Pairs of bytes, one behind the other. -/
def PairsAt (w : World) (v : Value) (ps : List En) : Prop := ∃ p c, v = .slice p ps.length c ∧ ps.length ≤ c ∧ (ps ≠ [] → ∃ b o, p = some ⟨b, o, none⟩ ∧ b < w.heap.size ∧
  ∀ i (h : i < ps.length), ∃ kv vv, w.cell? ⟨b, o + i * 2, none⟩ = some kv ∧ w.cell? ⟨b, o + i * 2 + 1, none⟩ = some vv ∧ RdB w kv ps[i].1 ∧ RdB w vv ps[i].2)
theorem PairsAt.tch {w w' : World} {v : Value} {ps : List En} (h : PairsAt w v ps) (hT : Tch [] w w') : PairsAt w' v ps := by
  obtain ⟨p, c, h1, h2, h3⟩ := h
  refine ⟨p, c, h1, h2, fun hn => ?_⟩
  obtain ⟨b, o, h4, h5, h6⟩ := h3 hn
  refine ⟨b, o, h4, Nat.lt_of_lt_of_le h5 hT.size, fun i hi => ?_⟩
  obtain ⟨kv, vv, g0, g1, g2, g3⟩ := h6 i hi
  exact ⟨kv, vv, by rw [hT.cell (p := ⟨b, o + i * 2, none⟩) h5 (by simp)]; exact g0, by rw [hT.cell (p := ⟨b, o + i * 2 + 1, none⟩) h5 (by simp)]; exact g1, g2.tch hT (by simp), g3.tch hT (by simp)⟩
end Go.Proofs.YtdjhjgockgmbkaaGreatDoor

/- A tree of no pair or of one: Put, Get, Commit. -/
namespace Go.Proofs.YtdjhjgockgmbkaaGreatDoor
open Go.RowKit

section
variable {a : Act} {w : World} {o : Oper}
theorem x_fa {v u : Value} (ty : TypeId) (x : Operand) (i : Nat) (ho : o.op = .fieldAddr ty x i) (hx : a.eval x = v) (hr : (Instr.fieldAt ty v i).run Tryz.prog w = .ok u w) : (execOp a.eval o).run Tryz.prog w = .ok (.value u) w := by
  unfold execOp; simp only [ho, hx, Sem.run_bind, hr, Result.andThen_ok, Sem.run_pure]
end
theorem RdB.shape {w : World} {v : Value} {l : List Nat} (h : RdB w v l) : ∃ p c, v = .slice p l.length c := ⟨_, _, h.choose_spec.choose_spec.1⟩
/-- Bytes don't lie in a block that holds no byte. -/
theorem RdB.off {w : World} {v : Value} {l : List Nat} {b : Nat} {t : TypeId} {c : Array Value} (h : RdB w v l) (hB : Blk w b t c) (hc : ∀ (j : Nat) (x : Int), c[j]? ≠ some (.int .u8 x)) : RdA [b] w v l := by
  obtain ⟨p, cc, h1, h2, h3, h4⟩ := h
  refine ⟨p, cc, h1, h2, h3, fun hl => ?_⟩
  obtain ⟨b', o, h5, h6, h7⟩ := h4 hl
  refine ⟨b', o, h5, h6, fun hm => ?_, h7⟩
  obtain rfl : b' = b := by simpa using hm
  have hx := h7 0 (List.length_pos_iff.2 hl)
  unfold Blk at hB
  rw [Lib.cell_of_heap hB] at hx
  exact hc _ _ hx
theorem Only.tch {b : Nat} {w w' : World} (h : Only b w w') : Tch [b] w w' := (Tch.refl _ _).only h (.inr (by simp))
end Go.Proofs.YtdjhjgockgmbkaaGreatDoor

/- trie.sorted: the entries of pairs, by rising path. -/
namespace Go.Proofs.YtdjhjgockgmbkaaGreatDoor
open Go.RowKit Tr

abbrev Cl2 := (Value × Value) × En
def two (x : Cl2) : List Value := [x.1.1, x.1.2]
theorem flat_get : ∀ (xs : List Cl2) (i : Nat) (h : i < xs.length), (xs.flatMap two)[i * 2]? = some xs[i].1.1 ∧ (xs.flatMap two)[i * 2 + 1]? = some xs[i].1.2
  | [], i, h => by simp at h
  | x :: xs, 0, _ => by simp [two]
  | x :: xs, i + 1, h => by
    have ih := flat_get xs i (by simpa using h)
    rw [List.flatMap_cons, show (i + 1) * 2 = i * 2 + 2 by omega]
    have e : two x = [x.1.1, x.1.2] := rfl
    rw [e]
    simpa using ih
section
variable {a : Act} {w : World} {o : Oper} {Q : Exit → Act → World → Prop}
end
/-- The entries that a row of cells reads as. -/
def RowOK (w : World) (b : Nat) (xs : List Cl2) : Prop := ∀ x ∈ xs, RdA [b] w x.1.1 x.2.1 ∧ RdA [b] w x.1.2 x.2.2
theorem RowOK.tch {w w' : World} {b : Nat} {xs : List Cl2} (h : RowOK w b xs) (hT : Tch [b] w w') : RowOK w' b xs := fun x hx => ⟨(h x hx).1.tch hT, (h x hx).2.tch hT⟩
/-- What trie.sorted answers. -/
def SortPost (ps : List En) (w : World) (e : Ending) (w' : World) : Prop :=
  Tch [] w w' ∧ ∃ (m : List En) (b : Nat), (entries ps).Perm m ∧ m.Pairwise (fun x y => ¬ lt y.1 x.1) ∧ w.heap.size ≤ b ∧ e = .returned (.slice (some ⟨b, 0, none⟩) m.length m.length) ∧
    ∃ xs : List Cl2, xs.map (·.2) = m ∧ Blk w' b 217 (xs.flatMap two).toArray ∧ RowOK w' b xs
end Go.Proofs.YtdjhjgockgmbkaaGreatDoor
