/- Bytes and bools among a law's arguments: which there are. -/
import Derived.Test.YtanmpcgackfpaaaGreatM01
import Derived.Test.YtanmpcgackfpaaaGreatM11
import Derived.ProofKit
import Derived.OpenShut
import Derived.SizedLaws
set_option linter.unusedVariables false
set_option linter.unusedSimpArgs false
namespace Go.Proofs.YtanmpcgackfpaaaGreat
section
open Go.ChangeShapes Go.WideShapes Go.ChangeAt Go.RowKit
theorem byte_cells : Tryz.prog.cellsOf 5 = 1 := by kernel_rfl
theorem byte_bytes : Tryz.prog.bytesOf 5 = 1 := by kernel_rfl
section
variable {H : Type} {enc' : TypeId × Value → H} {w : World}
theorem bytes_trod {fuel : Nat} {cs : List Value} {x : DataW H × List MemPlace} (hf : DataW.trod enc' Tryz.prog w 0 (fun _ => true) true fuel 23 cs = some x) (hw : ∀ n ∈ x.1.weights Tryz.prog 23, n ≤ reachBytes) : ∃ v L, cs = [v] ∧ RdA [] w v L ∧ L.length ≤ reachBytes := by
  rcases open_ints qb5 qk9 byte_cells hf with ⟨hcs, hx⟩ | ⟨a, len, cap, zs, hcs, _, hl, hm, hz, hx, hcell, hwz⟩
  · exact ⟨_, [], hcs, (RdB.nil w).rdA (by simp), by simp⟩
  · simp only [if_true] at hz
    have hrange : ∀ z ∈ zs, 0 ≤ z ∧ z ≤ 255 := fun z hzm => by
      have := hwz z hzm
      simp [Lit.wf, IntKind.min, IntKind.max, IntKind.bits, IntKind.signed] at this
      omega
    have hreach : len ≤ reachBytes := by
      subst hx
      have := hw ((zs.take len).length * 1 + (zs.drop len).length * 1) (by simp [DataW.weights, qb5, lits, byte_bytes])
      simp at this; omega
    refine ⟨_, (zs.take len).map Int.toNat, hcs, ⟨some a, cap, by rw [List.length_map, List.length_take, hz, Nat.min_eq_left hl], by rw [List.length_map, List.length_take]; omega, fun x hx => ?_, fun hne => ?_⟩, by rw [List.length_map, List.length_take]; omega⟩
    · obtain ⟨z, hzm, rfl⟩ := List.mem_map.1 hx
      have := hrange z (List.mem_of_mem_take hzm)
      omega
    · have hlen : 0 < len := by
        rcases Nat.eq_zero_or_pos len with h0 | h0
        · subst h0; simp at hne
        · exact h0
      obtain ⟨b, off, spot⟩ := a
      have hspot : spot = none := by simpa [Addr.add] using World.cell?_spot (hcell 0 (by omega))
      subst hspot
      refine ⟨b, off, rfl, ?_, by simp, fun i hi => ?_⟩
      · have := hcell 0 (by omega)
        exact World.block_lt_of_cell? w _ this
      · rw [List.length_map, List.length_take] at hi
        have hi' : i < zs.length := by omega
        have hc := hcell i hi'
        have hadd : (⟨b, off, none⟩ : Addr).add i = ⟨b, off + i, none⟩ := by unfold Addr.add; split <;> simp_all
        rw [hadd] at hc
        rw [hc]
        have e1 : zs.getD i 0 = zs[i] := by simp [hi']
        have e2 : ((zs.take len).map Int.toNat).getD i 0 = zs[i].toNat := by
          have : i < len := by omega
          simp [this, hi']
        rw [e1, e2, Int.toNat_of_nonneg (hrange _ (List.getElem_mem hi')).1]
set_option maxRecDepth 100000 in
theorem open_bytesA {r : Reach} {b0 : Nat} {v : Value} {d : DataW H} {p : List MemPlace} (hv : Value.okWide Tryz.prog w r b0 23 v) (h : DataW.Trod enc' Tryz.prog w 0 (fun _ => true) true 23 v d p) :
    (∀ n ∈ d.weights Tryz.prog 23, n ≤ reachBytes) → ∃ L, RdA [] w v L ∧ L.length ≤ reachBytes := by
  intro hwt
  obtain ⟨a0, len, cap, rfl⟩ := okWide_slice qb5 hv
  obtain ⟨fuel, hf⟩ := h
  obtain ⟨v, L, hcs, hL, hm⟩ := bytes_trod (x := (d, p)) hf hwt
  have : Value.slice a0 len cap = v := by simpa [Value.cells] using hcs
  rw [this]
  exact ⟨L, hL, hm⟩
end
end
section
open Go.ChangeShapes Go.WideShapes Go.ChangeAt Go.RowKit
set_option maxRecDepth 100000
theorem items_ty : Tryz.prog.underlying 99 = some (.slice 101) := by kernel_rfl
section
variable {H : Type} {enc' : TypeId × Value → H} {w : World}
end
end
section
open Go.ChangeShapes Go.WideShapes Go.ChangeAt Go.RowKit
set_option maxRecDepth 100000
def ItR (X : List Nat) (w : World) : Nat → Value → Value → Value → Prop
  | 0, _, _, _ => False
  | k + 1, y0, yb, yl => (∃ d, y0 = .bool d) ∧ (∃ p n c, yb = .slice p n c ∧ n < 4611686018427387904) ∧ ∃ p n c, yl = .slice p n c ∧ n ≤ c ∧ n < 4611686018427387904 ∧ (0 < n → ∃ b o, p = some ⟨b, o, none⟩ ∧ b < w.heap.size ∧ b ∉ X ∧ ∀ i, i < n → ∃ z0 zb zl, w.cell? ⟨b, o + i * 3, none⟩ = some z0 ∧ w.cell? ⟨b, o + i * 3 + 1, none⟩ = some zb ∧ w.cell? ⟨b, o + i * 3 + 2, none⟩ = some zl ∧ ItR X w k z0 zb zl)
theorem ItR.tch {X : List Nat} {w w' : World} (hT : Tch X w w') : ∀ {k : Nat} {x y z : Value}, ItR X w k x y z → ItR X w' k x y z
  | 0, _, _, _, h => h.elim
  | k + 1, _, _, _, h => by
    unfold ItR at h ⊢
    obtain ⟨h0, h1, p, n, c, h2, h3, h4, h5⟩ := h
    refine ⟨h0, h1, p, n, c, h2, h3, h4, fun hn => ?_⟩
    obtain ⟨b, o, h6, h7, h8, h9⟩ := h5 hn
    refine ⟨b, o, h6, Nat.lt_of_lt_of_le h7 hT.size, h8, fun i hi => ?_⟩
    obtain ⟨z0, zb, zl, g0, g1, g2, g3⟩ := h9 i hi
    exact ⟨z0, zb, zl, by rw [hT.cell (p := ⟨b, o + i * 3, none⟩) h7 h8]; exact g0, by rw [hT.cell (p := ⟨b, o + i * 3 + 1, none⟩) h7 h8]; exact g1, by rw [hT.cell (p := ⟨b, o + i * 3 + 2, none⟩) h7 h8]; exact g2, ItR.tch hT g3⟩
theorem ItR.up {X : List Nat} {w : World} : ∀ {k j : Nat} {x y z : Value}, k ≤ j → ItR X w k x y z → ItR X w j x y z
  | 0, _, _, _, _, _, h => h.elim
  | _ + 1, 0, _, _, _, hj, _ => by omega
  | k + 1, j + 1, _, _, _, hj, h => by
    unfold ItR at h ⊢
    obtain ⟨h0, h1, p, n, c, h2, h3, h4, h5⟩ := h
    refine ⟨h0, h1, p, n, c, h2, h3, h4, fun hn => ?_⟩
    obtain ⟨b, o, h6, h7, h8, h9⟩ := h5 hn
    refine ⟨b, o, h6, h7, h8, fun i hi => ?_⟩
    obtain ⟨z0, zb, zl, g0, g1, g2, g3⟩ := h9 i hi
    exact ⟨z0, zb, zl, g0, g1, g2, ItR.up (by omega) g3⟩
section
variable {H : Type} {enc' : TypeId × Value → H} {w : World}
end
end
section
open Go.RowKit
set_option maxRecDepth 100000
theorem encs_succ {l : List It} {k : Nat} (h : k < l.length) : encs (l.take (k + 1)) = encs (l.take k) ++ enc l[k] := by
  rw [List.take_succ_eq_append_getElem h, qj6, encs_one]
end
end Go.Proofs.YtanmpcgackfpaaaGreat
