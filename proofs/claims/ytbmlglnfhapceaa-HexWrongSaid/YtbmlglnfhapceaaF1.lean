/- Arrays of bytes among a law's arguments: which there are, and that one reads behind the call as it read before. -/
import Derived.Test.YtbmlglnfhapceaaM1
import Derived.ProofKit
import Derived.OpenShut
namespace Go.Proofs.Ytbmlglnfhapceaa
open Go.ChangeShapes Go.WideShapes Go.ChangeAt Go.RowKit

theorem byte_cells : Try.prog.cellsOf 5 = 1 := by kernel_rfl
section
variable {H : Type} {enc : TypeId × Value → H} {w w' : World} {base base' : Nat} {spare spare' : Nat → Bool} {held held' : Bool}
theorem byte_any (fuel : Nat) (cs : List Value) : DataW.trod enc Try.prog w base spare held fuel 5 cs = DataW.trod enc Try.prog w' base' spare' held' fuel 5 cs := by
  cases fuel with
  | zero => rfl
  | succ n =>
    unfold DataW.trod
    rw [byte_ty]
    split <;> simp_all
theorem arr_any_world {ty k : Nat} (hty : Try.prog.underlying ty = some (.array k 5)) (fuel : Nat) (cs : List Value) : DataW.trod enc Try.prog w base spare held fuel ty cs = DataW.trod enc Try.prog w' base' spare' held' fuel ty cs := by
  cases fuel with
  | zero => rfl
  | succ n =>
    unfold DataW.trod
    simp only [hty]
    rw [show (fun i => DataW.trod enc Try.prog w base spare held n 5 ((cs.drop (i * Try.prog.cellsOf 5)).take (Try.prog.cellsOf 5))) = (fun i => DataW.trod enc Try.prog w' base' spare' held' n 5 ((cs.drop (i * Try.prog.cellsOf 5)).take (Try.prog.cellsOf 5))) from funext fun i => byte_any n _]
/-- An array of bytes that comes in. -/
theorem open_arr {ty k : Nat} (hty : Try.prog.underlying ty = some (.array k 5)) (hcells : Try.prog.cellsOf ty = k) {r : Reach} {b0 : Nat} {v : Value} {d : DataW H} {p : List MemPlace} (hv : Value.okWide Try.prog w r b0 ty v) (h : DataW.Trod enc Try.prog w base spare held ty v d p) :
    ∃ g : Nat → Nat, (∀ i, g i < 256) ∧ v = .agg (bc k g) ∧ p = [] ∧ ∀ (w' : World) (base' : Nat) (spare' : Nat → Bool) (held' : Bool), DataW.Trod enc Try.prog w' base' spare' held' ty (.agg (bc k g)) d [] := by
  obtain ⟨cs, rfl, hsz⟩ : ∃ cs, v = .agg cs ∧ cs.size = k := by
    unfold Value.okWide at hv
    rw [hty] at hv
    obtain ⟨cs, h1, h2, _⟩ := hv
    exact ⟨cs, h1, by rw [h2, hcells]⟩
  obtain ⟨fuel, hf⟩ := h
  have hf0 := hf
  obtain ⟨xs, m, rfl, hx, _, hlen, hel⟩ := DataW.trod_array hty hf
  have key : ∀ i, i < k → ∃ n : Nat, n < 256 ∧ cs[i]? = some (.int .u8 (n : Int)) ∧ (xs[i]?).map (·.2) = some [] := by
    intro i hi
    have hi' : i < cs.size := by omega
    have e := hel i hi
    rw [byte_cells, Nat.mul_one] at e
    have e2 : ((Value.agg cs).cells.toList.drop i).take 1 = [cs[i]] := by
      show (cs.toList.drop i).take 1 = _
      rw [List.drop_eq_getElem_cons (by simpa using hi')]
      simp
    rw [e2, List.getElem?_eq_getElem (by omega)] at e
    obtain ⟨n, hc, hxn, hw⟩ := DataW.trod_int byte_ty e
    have hn : 0 ≤ n ∧ n ≤ 255 := by
      simp [Lit.wf, IntKind.min, IntKind.max, IntKind.bits, IntKind.signed] at hw
      omega
    refine ⟨n.toNat, by omega, ?_, ?_⟩
    · rw [Array.getElem?_eq_getElem hi', List.cons.inj hc |>.1]
      congr 2; omega
    · rw [List.getElem?_eq_getElem (by omega), hxn]; rfl
  have hex : ∃ g : Nat → Nat, ∀ i, g i < 256 ∧ (i < k → cs[i]? = some (.int .u8 ((g i : Nat) : Int))) := by
    refine ⟨fun i => if h : i < k then (key i h).choose else 0, fun i => ?_⟩
    by_cases hi : i < k
    · simp only [hi, dif_pos]
      exact ⟨(key i hi).choose_spec.1, fun _ => (key i hi).choose_spec.2.1⟩
    · simp only [hi, dif_neg, not_false_eq_true]
      exact ⟨by omega, fun h => h.elim⟩
  obtain ⟨g, hg⟩ := hex
  have hcs : cs = bc k g := by
    apply Array.ext_getElem?
    intro i
    by_cases hi : i < k
    · rw [bc_get hi]; exact (hg i).2 hi
    · rw [bc_none (by omega), Array.getElem?_eq_none (by omega)]
  subst hcs
  have hp : xs.flatMap (·.2) = [] := by
    rw [List.flatMap_eq_nil_iff]
    intro y hy
    obtain ⟨i, hi, rfl⟩ := List.getElem_of_mem hy
    obtain ⟨_, _, _, h3⟩ := key i (by omega)
    rw [List.getElem?_eq_getElem hi] at h3
    simpa using h3
  have hp2 : p = [] := by rw [← hp]; exact (Prod.mk.inj hx).2
  subst hp2
  exact ⟨g, fun i => (hg i).1, rfl, rfl, fun w' base' spare' held' => ⟨_, by rw [← arr_any_world hty (w := w) (base := base) (spare := spare) (held := held)]; exact hf0⟩⟩
theorem word_cells : Try.prog.cellsOf 30 = 32 := by kernel_rfl
/-- A word that comes in. -/
theorem open_word {r : Reach} {b0 : Nat} {v : Value} {d : DataW H} {p : List MemPlace} (hv : Value.okWide Try.prog w r b0 30 v) (h : DataW.Trod enc Try.prog w base spare held 30 v d p) :
    ∃ x, x < M256 ∧ v = .agg (wcells x) ∧ p = [] ∧ ∀ (w' : World) (base' : Nat) (spare' : Nat → Bool) (held' : Bool), DataW.Trod enc Try.prog w' base' spare' held' 30 (.agg (wcells x)) d [] := by
  obtain ⟨g, hg, rfl, hp, hr⟩ := open_arr word_type word_cells hv h
  obtain ⟨x, hx, hb⟩ := word_of_bytes g hg
  have e : bc 32 g = wcells x := wf_congr fun i hi => (hb i hi).symm
  rw [e] at hr ⊢
  exact ⟨x, hx, rfl, hp, hr⟩
/-- Bytes that come in. -/
theorem open_bytesl {r : Reach} {b0 : Nat} {v : Value} {d : DataW H} {p : List MemPlace} (hv : Value.okWide Try.prog w r b0 23 v) (h : DataW.Trod enc Try.prog w 0 (fun _ => true) true 23 v d p) :
    ∃ L, RdB w v L := by
  obtain ⟨a0, len, cap, rfl⟩ := okWide_slice bytes_ty hv
  obtain ⟨fuel, hf⟩ := h
  rcases open_ints bytes_ty byte_ty byte_cells hf with ⟨hcs, hx⟩ | ⟨a, len', cap', zs, hcs, _, hl, hm, hz, hx, hcell, hwz⟩
  · simp [Value.cells] at hcs
    obtain ⟨rfl, rfl, rfl⟩ := hcs
    exact ⟨[], RdB.nil w⟩
  · simp [Value.cells] at hcs
    obtain ⟨rfl, rfl, rfl⟩ := hcs
    simp only [if_true] at hz
    have hrange : ∀ z ∈ zs, 0 ≤ z ∧ z ≤ 255 := fun z hzm => by
      have := hwz z hzm
      simp [Lit.wf, IntKind.min, IntKind.max, IntKind.bits, IntKind.signed] at this
      omega
    refine ⟨(zs.take len).map Int.toNat, some a, cap, by rw [List.length_map, List.length_take, hz, Nat.min_eq_left hl], by rw [List.length_map, List.length_take]; omega, fun x hx => ?_, fun hne => ?_⟩
    · obtain ⟨z, hzm, rfl⟩ := List.mem_map.1 hx
      have := hrange z (List.mem_of_mem_take hzm)
      omega
    · have hlen : 0 < len := by
        rcases Nat.eq_zero_or_pos len with h0 | h0
        · subst h0; simp at hne
        · exact h0
      obtain ⟨b, off, spot⟩ := a
      have hspot : spot = none := by simpa [Addr.add] using World.cell?_spot (hcell 0 (by omega))
      subst hspot
      refine ⟨b, off, rfl, ?_, fun i hi => ?_⟩
      · have := hcell 0 (by omega)
        exact World.block_lt_of_cell? w _ this
      · rw [List.length_map, List.length_take] at hi
        have hi' : i < zs.length := by omega
        have hc := hcell i hi'
        have hadd : (⟨b, off, none⟩ : Addr).add i = ⟨b, off + i, none⟩ := by unfold Addr.add; split <;> simp_all
        rw [hadd] at hc
        rw [hc]
        have e1 : zs.getD i 0 = zs[i] := by simp [hi']
        have e2 : ((zs.take len).map Int.toNat).getD i 0 = zs[i].toNat := by
          have : i < len := by omega
          simp [this, hi']
        rw [e1, e2, Int.toNat_of_nonneg (hrange _ (List.getElem_mem hi')).1]
end
end Go.Proofs.Ytbmlglnfhapceaa
