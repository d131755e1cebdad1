/- Bytes and bools among a law's arguments: which there are. -/
import Derived.Test.YtklpcppdjcedpaaB0
import Derived.ProofKit
import Derived.OpenShut
import Derived.SizedLaws
set_option linter.unusedSimpArgs false
namespace Go.Proofs.Ytklpcppdjcedpaa
open Go.ChangeShapes Go.WideShapes Go.ChangeAt Go.RowKit

theorem byte_cells : Try.prog.cellsOf 5 = 1 := by kernel_rfl
theorem byte_bytes : Try.prog.bytesOf 5 = 1 := by kernel_rfl
theorem weights_mem_all {H : Type} {P : Program} {t : TypeId} {ds : List (DataW H)} {d : DataW H} (hd : d ∈ ds) : ∀ n ∈ d.weights P t, n ∈ DataW.weightsAll P t ds := by
  induction ds with
  | nil => simp at hd
  | cons a r ih =>
    intro n hn
    rw [DataW.weightsAll, List.mem_append]
    rcases List.mem_cons.1 hd with rfl | hd
    · exact .inl hn
    · exact .inr (ih hd n hn)
set_option linter.unusedVariables false
theorem open_bool' {H : Type} {enc : TypeId × Value → H} {P : Program} {w : World} {base b0 : Nat} {spare : Nat → Bool} {held : Bool} {r : Reach} {t : TypeId} {v : Value} {d : DataW H} {ps : List MemPlace} (ht : P.underlying t = some .bool) (hval : Value.okWide P w r b0 t v) (hd : DataW.Trod enc P w base spare held t v d ps) : ∃ b, v = .bool b ∧ d = .lit (.bool b) ∧ ps = [] := by
  obtain ⟨n, rfl⟩ := okWide_bool ht hval
  obtain ⟨fuel, hf⟩ := hd
  obtain ⟨n', h, hx⟩ := DataW.trod_bool ht hf
  simp [Value.cells] at h
  subst h
  simp only [Prod.mk.injEq] at hx
  exact ⟨n, rfl, hx.1, hx.2⟩
section
variable {H : Type} {enc' : TypeId × Value → H} {w : World}
theorem bytes_trod {fuel : Nat} {cs : List Value} {x : DataW H × List MemPlace} (hf : DataW.trod enc' Try.prog w 0 (fun _ => true) true fuel 34 cs = some x) (hw : ∀ n ∈ x.1.weights Try.prog 34, n ≤ reachBytes) : ∃ v L, cs = [v] ∧ RdA [] w v L ∧ L.length ≤ reachBytes := by
  rcases open_ints bytes_ty byte_ty byte_cells hf with ⟨hcs, hx⟩ | ⟨a, len, cap, zs, hcs, _, hl, hm, hz, hx, hcell, hwz⟩
  · exact ⟨_, [], hcs, (RdB.nil w).rdA (by simp), by simp⟩
  · simp only [if_true] at hz
    have hrange : ∀ z ∈ zs, 0 ≤ z ∧ z ≤ 255 := fun z hzm => by
      have := hwz z hzm
      simp [Lit.wf, IntKind.min, IntKind.max, IntKind.bits, IntKind.signed] at this
      omega
    have hreach : len ≤ reachBytes := by
      subst hx
      have := hw ((zs.take len).length * 1 + (zs.drop len).length * 1) (by simp [DataW.weights, bytes_ty, lits, byte_bytes])
      simp at this; omega
    refine ⟨_, (zs.take len).map Int.toNat, hcs, ⟨some a, cap, by rw [List.length_map, List.length_take, hz, Nat.min_eq_left hl], by rw [List.length_map, List.length_take]; omega, fun x hx => ?_, fun hne => ?_⟩, by rw [List.length_map, List.length_take]; omega⟩
    · obtain ⟨z, hzm, rfl⟩ := List.mem_map.1 hx
      have := hrange z (List.mem_of_mem_take hzm)
      omega
    · have hlen : 0 < len := by
        rcases Nat.eq_zero_or_pos len with h0 | h0
        · subst h0; simp at hne
        · exact h0
      obtain ⟨b, off, spot⟩ := a
      have hspot : spot = none := by simpa [Addr.add] using World.cell?_spot (hcell 0 (by omega))
      subst hspot
      refine ⟨b, off, rfl, ?_, by simp, fun i hi => ?_⟩
      · have := hcell 0 (by omega)
        exact World.block_lt_of_cell? w _ this
      · rw [List.length_map, List.length_take] at hi
        have hi' : i < zs.length := by omega
        have hc := hcell i hi'
        have hadd : (⟨b, off, none⟩ : Addr).add i = ⟨b, off + i, none⟩ := by unfold Addr.add; split <;> simp_all
        rw [hadd] at hc
        rw [hc]
        have e1 : zs.getD i 0 = zs[i] := by simp [hi']
        have e2 : ((zs.take len).map Int.toNat).getD i 0 = zs[i].toNat := by
          have : i < len := by omega
          simp [this, hi']
        rw [e1, e2, Int.toNat_of_nonneg (hrange _ (List.getElem_mem hi')).1]
set_option maxRecDepth 100000 in
/-- Bytes among the arguments. -/
theorem open_bytesA {r : Reach} {b0 : Nat} {v : Value} {d : DataW H} {p : List MemPlace} (hv : Value.okWide Try.prog w r b0 34 v) (h : DataW.Trod enc' Try.prog w 0 (fun _ => true) true 34 v d p) :
    (∀ n ∈ d.weights Try.prog 34, n ≤ reachBytes) → ∃ L, RdA [] w v L ∧ L.length ≤ reachBytes := by
  intro hwt
  obtain ⟨a0, len, cap, rfl⟩ := okWide_slice bytes_ty hv
  obtain ⟨fuel, hf⟩ := h
  obtain ⟨v, L, hcs, hL, hm⟩ := bytes_trod (x := (d, p)) hf hwt
  have : Value.slice a0 len cap = v := by simpa [Value.cells] using hcs
  rw [this]
  exact ⟨L, hL, hm⟩
end
end Go.Proofs.Ytklpcppdjcedpaa
