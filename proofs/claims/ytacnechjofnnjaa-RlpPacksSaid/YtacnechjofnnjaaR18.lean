/- bytes.Clone; stores of any one value, and of a whole item among items. -/
import Derived.Test.YtacnechjofnnjaaR17
namespace Go.Proofs.Ytacnechjofnnjaa
open Go.RowKit

/-- A slice of these bytes in memory that the call made. -/
def RdF (w w' : World) (u : Value) (l : List Nat) : Prop := ∀ X, (∀ x ∈ X, x < w.heap.size) → RdA X w' u l
theorem RdB.rdA' {w : World} (h : RdB w (.slice none 0 0) []) (X : List Nat) : RdA X w (.slice none 0 0) [] := ⟨none, 0, rfl, Nat.le_refl _, by simp, fun h => absurd rfl h⟩
theorem nb_ne {l : List Nat} {i : Nat} {u : Value} (h : (nb l)[i]? = some u) : i < l.length ∧ u = .int .u8 ((l.getD i 0 : Nat) : Int) := by
  have hi : i < l.length := by
    have := (List.getElem?_eq_some_iff.1 h).1
    rwa [nb_length] at this
  rw [nb_get hi] at h
  exact ⟨hi, (Option.some.inj h).symm⟩
theorem RdF.own {w w' : World} {v : Value} {l : List Nat} (h : w'.ownsRow w.heap.size 5 1 v l.length (nb l)) (hl : ∀ x ∈ l, x < 256) : RdF w w' v l := by
  intro X hX
  obtain ⟨h1, h2⟩ := h
  rcases h2 with ⟨rfl, h0⟩ | ⟨g, cap, cur, rfl, hg, hb, hn, _, hcs, htk⟩
  · have : l = [] := List.length_eq_zero_iff.1 h0
    subst this
    exact (RdB.nil w').rdA' X
  · refine ⟨some ⟨g, 0, none⟩, cap, rfl, hn, hl, fun _ => ⟨g, 0, rfl, (Array.getElem?_eq_some_iff.1 hb).1, fun hm => by have := hX _ hm; omega, fun i hi => ?_⟩⟩
    have hB : Blk w' g 5 cur := hb
    rw [Nat.zero_add, hB.cell (v := .int .u8 ((l.getD i 0 : Nat) : Int))]
    have e := congrArg (fun x => x[i]?) htk
    simp only [Nat.mul_one, List.getElem?_take, hi, if_true, nb_get hi] at e
    simpa using e
set_option maxHeartbeats 600000 in
set_option maxRecDepth 100000 in
theorem clone_any (v : Value) (l : List Nat) (w : World) (hn : l.length ≤ 100000000) (hv : RdA [] w v l) : Calls Try.prog 28 #[v] w fun e w' => Tch [] w w' ∧ ∃ p n c, e = .returned (.slice p n c) ∧ RdF w w' (.slice p n c) l := by
  obtain ⟨p, c, rfl, hlc, hb, h4⟩ := hv
  have qe := fun (w : World) (a : Option Addr) (n c n' c' : Nat) => Lib.run_eql_slice_nil (P := Try.prog) w 22 5 a n c n' c' bytes_ty
  cases p with
  | none =>
    have hl : l = [] := by
      cases l with
      | nil => rfl
      | cons x r => obtain ⟨_, _, h, _⟩ := h4 (by simp); cases h
    subst hl
    clear h4 hb
    simp only [List.length_nil]
    go_enter Try.func28, Try.ntmps28
    go_wp2
    go_ret
    exact ⟨Tch.refl _ _, _, _, _, rfl, fun X _ => (RdB.nil w).rdA' X⟩
  | some a =>
    obtain ⟨i0, hi, hz0, hz1, hz2⟩ := info_parts A_info
    have hcell : ∀ j u, (nb l)[j]? = some u → w.cell? (a.add j) = some u := fun j u hu => by
      obtain ⟨hj, rfl⟩ := nb_ne hu
      obtain ⟨b, o, h5, h6, _, h7⟩ := h4 (by intro e; subst e; simp at hj)
      cases h5
      have hadd : (⟨b, o, none⟩ : Addr).add j = ⟨b, o + j, none⟩ := by unfold Addr.add; split <;> simp_all
      rw [hadd]; exact h7 j hj
    have HC := Lib.hid hcell
    have HB := Lib.hid hb
    clear hcell h4 hb
    go_enter Try.func28, Try.ntmps28
    go_wp2_with (at_builtin; refine wpList_append_own _ rfl _ _ 22 rfl w.heap.size 5 i0 (.int .u8 0) 1 1 bytes_ty hi hz0 hz1 hz2 rfl (by decide) _ _ _ rfl (World.ownsRow_made w #[] 0 (Nat.le_refl _) (Nat.zero_le _) rfl) a l.length c (nb l) rfl ?qc1 ?qc2 ?qc3 ?qc4 ?qc5 ?qc6 ?_)
    case qc1 => rw [nb_length, Nat.mul_one]
    case qc2 => exact fun j u hu => Lib.cell?_alloc_some _ (HC.out j u hu)
    case qc3 => intro u hu; obtain ⟨x, _, rfl⟩ := List.mem_map.1 hu; rfl
    case qc4 => unfold maxLen; omega
    case qc5 => omega
    case qc6 => simp
    intro v' w1 hown hgrow hnil
    have hT : Tch [] w w1 := ⟨hgrow.os, hgrow.tape, hgrow.output, by have := hgrow.size; simp at this; omega, fun k hk _ => (hgrow.block k (by simp; omega) (by simp [Value.ownBlock]; omega)).trans (Below.heap_alloc _ _ _ hk)⟩
    have hrd := RdF.own hown HB.out
    obtain ⟨p1, n1, c1, rfl⟩ := slice_keep (hrd [] (by simp))
    have HR := Lib.hid hrd
    clear hown hgrow hnil hrd
    go_wp2
    go_ret
    exact ⟨hT, _, _, _, rfl, HR.out⟩
end Go.Proofs.Ytacnechjofnnjaa
