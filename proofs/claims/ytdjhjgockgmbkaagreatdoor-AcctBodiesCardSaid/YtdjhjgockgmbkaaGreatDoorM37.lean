/- The document's PackPath. -/
import Derived.Test.YtdjhjgockgmbkaaGreatDoorM36
set_option linter.unusedVariables false
set_option linter.unusedSimpArgs false
namespace Go.Proofs.YtdjhjgockgmbkaaGreatDoor
open Go.RowKit

/-- What stands in front of a packed path. -/
def fr (l : List Nat) (leaf : Bool) : List Nat := if l.length % 2 = 1 then [bif leaf then 3 else 1] else [bif leaf then 2 else 0, 0]
end Go.Proofs.YtdjhjgockgmbkaaGreatDoor

/- path.Pack. -/
namespace Go.Proofs.YtdjhjgockgmbkaaGreatDoor
open Go.RowKit

theorem RdA.at_ {X : List Nat} {w : World} {p : Option Addr} {n c : Nat} {l : List Nat} (h : RdA X w (.slice p n c) l) (hl : l ≠ []) : ∃ b o, p = some ⟨b, o, none⟩ ∧ b < w.heap.size ∧ b ∉ X ∧ ∀ i, i < l.length → w.cell? ⟨b, o + i, none⟩ = some (.int .u8 ((l.getD i 0 : Nat) : Int)) := by
  obtain ⟨_, _, h1, _, _, h4⟩ := h
  cases h1
  exact h4 hl
section
variable {o : Oper} {a : Act} {ops : Array Oper} {rest : List Oper} {C : World → Prop} {Q : Act → Prop}
end
end Go.Proofs.YtdjhjgockgmbkaaGreatDoor

/- build: an extension. -/
namespace Go.Proofs.YtdjhjgockgmbkaaGreatDoor
open Go.RowKit Tr

theorem PairsAt.take {w : World} {p : Option Addr} {n c : Nat} {es : List En} (h : PairsAt w (.slice p n c) es) (k : Nat) (hk : k ≤ n) : PairsAt w (.slice p k c) (es.take k) := by
  obtain ⟨p', c', h1, h2, h3⟩ := h
  cases h1
  refine ⟨p, c, by rw [List.length_take, Nat.min_eq_left hk], by rw [List.length_take]; omega, fun hn => ?_⟩
  have hne : es ≠ [] := by intro e; subst e; simp at hn
  obtain ⟨b, o, h4, h5, h6⟩ := h3 hne
  refine ⟨b, o, h4, h5, fun i hi => ?_⟩
  obtain ⟨kv, vv, g0, g1, g2, g3⟩ := h6 i (by rw [List.length_take] at hi; omega)
  exact ⟨kv, vv, g0, g1, by simpa using g2, by simpa using g3⟩
theorem TreeV.shape {B : Nat} {w : World} {T : TN} {v : Value} (h : TreeV B w T v) : v = .nilIface ∨ ∃ t a, v = .iface t (.pointer (some a)) := by
  cases T with
  | nil => exact .inl h
  | leaf p u => obtain ⟨b, _, _, h, _⟩ := h; exact .inr ⟨_, _, h⟩
  | ext p s => obtain ⟨b, _, _, h, _⟩ := h; exact .inr ⟨_, _, h⟩
  | branch s u => obtain ⟨b, _, _, h, _⟩ := h; exact .inr ⟨_, _, h⟩
section
variable {o : Oper} {a : Act} {ops : Array Oper} {rest : List Oper} {C : World → Prop} {Q : Act → Prop}
end
section
variable {a : Act} {w : World} {o : Oper}
end
end Go.Proofs.YtdjhjgockgmbkaaGreatDoor
