/- Items as they lie in memory, both slices of each known, whatever kind it is. -/
import Derived.Test.YtopfmaoeebgjmaaGreatDoorM01
import Derived.Test.YtopfmaoeebgjmaaGreatDoorM02
import Derived.Test.YtopfmaoeebgjmaaGreatDoorM09
import Derived.Test.YtopfmaoeebgjmaaGreatDoorM13
import Derived.Test.YtopfmaoeebgjmaaGreatDoorM15
import Derived.Test.YtopfmaoeebgjmaaGreatDoorM17
set_option linter.unusedVariables false
set_option linter.unusedSimpArgs false
namespace Go.Proofs.YtopfmaoeebgjmaaGreatDoor
section
open Go.ChangeShapes Go.WideShapes Go.ChangeAt Go.RowKit
set_option maxRecDepth 100000
def ItR (X : List Nat) (w : World) : Nat → Value → Value → Value → Prop
  | 0, _, _, _ => False
  | k + 1, y0, yb, yl => (∃ d, y0 = .bool d) ∧ (∃ p n c, yb = .slice p n c ∧ n < 4611686018427387904) ∧ ∃ p n c, yl = .slice p n c ∧ n ≤ c ∧ n < 4611686018427387904 ∧ (0 < n → ∃ b o, p = some ⟨b, o, none⟩ ∧ b < w.heap.size ∧ b ∉ X ∧ ∀ i, i < n → ∃ z0 zb zl, w.cell? ⟨b, o + i * 3, none⟩ = some z0 ∧ w.cell? ⟨b, o + i * 3 + 1, none⟩ = some zb ∧ w.cell? ⟨b, o + i * 3 + 2, none⟩ = some zl ∧ ItR X w k z0 zb zl)
theorem ItR.tch {X : List Nat} {w w' : World} (hT : Tch X w w') : ∀ {k : Nat} {x y z : Value}, ItR X w k x y z → ItR X w' k x y z
  | 0, _, _, _, h => h.elim
  | k + 1, _, _, _, h => by
    unfold ItR at h ⊢
    obtain ⟨h0, h1, p, n, c, h2, h3, h4, h5⟩ := h
    refine ⟨h0, h1, p, n, c, h2, h3, h4, fun hn => ?_⟩
    obtain ⟨b, o, h6, h7, h8, h9⟩ := h5 hn
    refine ⟨b, o, h6, Nat.lt_of_lt_of_le h7 hT.size, h8, fun i hi => ?_⟩
    obtain ⟨z0, zb, zl, g0, g1, g2, g3⟩ := h9 i hi
    exact ⟨z0, zb, zl, by rw [hT.cell (p := ⟨b, o + i * 3, none⟩) h7 h8]; exact g0, by rw [hT.cell (p := ⟨b, o + i * 3 + 1, none⟩) h7 h8]; exact g1, by rw [hT.cell (p := ⟨b, o + i * 3 + 2, none⟩) h7 h8]; exact g2, ItR.tch hT g3⟩
theorem ItR.up {X : List Nat} {w : World} : ∀ {k j : Nat} {x y z : Value}, k ≤ j → ItR X w k x y z → ItR X w j x y z
  | 0, _, _, _, _, _, h => h.elim
  | _ + 1, 0, _, _, _, hj, _ => by omega
  | k + 1, j + 1, _, _, _, hj, h => by
    unfold ItR at h ⊢
    obtain ⟨h0, h1, p, n, c, h2, h3, h4, h5⟩ := h
    refine ⟨h0, h1, p, n, c, h2, h3, h4, fun hn => ?_⟩
    obtain ⟨b, o, h6, h7, h8, h9⟩ := h5 hn
    refine ⟨b, o, h6, h7, h8, fun i hi => ?_⟩
    obtain ⟨z0, zb, zl, g0, g1, g2, g3⟩ := h9 i hi
    exact ⟨z0, zb, zl, g0, g1, g2, ItR.up (by omega) g3⟩
section
variable {H : Type} {enc' : TypeId × Value → H} {w : World}
end
end
section
open Go.RowKit
theorem wordN_type : Tryz.prog.underlying 25 = some (.array 32 5) := by kernel_rfl
theorem wordN_size : (Tryz.prog.info? 25).map (·.size) = some 32 := by kernel_rfl
end
section
open Go.RowKit
def byt (x i : Nat) : Nat := x / 2 ^ (8 * (31 - i)) % 256
theorem byt_lt (x i : Nat) : byt x i < 256 := Nat.mod_lt _ (by omega)
end
end Go.Proofs.YtopfmaoeebgjmaaGreatDoor
