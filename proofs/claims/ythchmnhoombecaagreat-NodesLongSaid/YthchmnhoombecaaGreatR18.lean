/- bytes.Clone; stores of any one value, and of a whole item among items. -/
import Derived.Test.YthchmnhoombecaaGreatR8
import Derived.Test.YthchmnhoombecaaGreatB0
namespace Go.Proofs.YthchmnhoombecaaGreat
open Go.RowKit

set_option maxHeartbeats 600000 in
set_option maxRecDepth 100000 in
theorem clone_any (v : Value) (l : List Nat) (w : World) (hn : l.length ≤ 100000000) (hv : RdA [] w v l) : Calls Tryz.prog 22 #[v] w fun e w' => Tch [] w w' ∧ ∃ p n c, e = .returned (.slice p n c) ∧ RdF w w' (.slice p n c) l := by
  obtain ⟨p, c, rfl, hlc, hb, h4⟩ := hv
  have qe := fun (w : World) (a : Option Addr) (n c n' c' : Nat) => Lib.run_eql_slice_nil (P := Tryz.prog) w 31 5 a n c n' c' bytes_ty
  cases p with
  | none =>
    have hl : l = [] := by
      cases l with
      | nil => rfl
      | cons x r => obtain ⟨_, _, h, _⟩ := h4 (by simp); cases h
    subst hl
    clear h4 hb
    simp only [List.length_nil]
    go_enter Tryz.func22, Tryz.ntmps22
    go_wp2
    go_ret
    exact ⟨Tch.refl _ _, _, _, _, rfl, fun X _ => (RdB.nil w).rdA' X⟩
  | some a =>
    obtain ⟨i0, hi, hz0, hz1, hz2⟩ := info_parts A_info
    have hcell : ∀ j u, (nb l)[j]? = some u → w.cell? (a.add j) = some u := fun j u hu => by
      obtain ⟨hj, rfl⟩ := nb_ne hu
      obtain ⟨b, o, h5, h6, _, h7⟩ := h4 (by intro e; subst e; simp at hj)
      cases h5
      have hadd : (⟨b, o, none⟩ : Addr).add j = ⟨b, o + j, none⟩ := by unfold Addr.add; split <;> simp_all
      rw [hadd]; exact h7 j hj
    have HC := Lib.hid hcell
    have HB := Lib.hid hb
    clear hcell h4 hb
    go_enter Tryz.func22, Tryz.ntmps22
    go_wp2_with (at_builtin; refine wpList_append_own _ rfl _ _ 31 rfl w.heap.size 5 i0 (.int .u8 0) 1 1 bytes_ty hi hz0 hz1 hz2 rfl (by decide) _ _ _ rfl (World.ownsRow_made w #[] 0 (Nat.le_refl _) (Nat.zero_le _) rfl) a l.length c (nb l) rfl ?qc1 ?qc2 ?qc3 ?qc4 ?qc5 ?qc6 ?_)
    case qc1 => rw [nb_length, Nat.mul_one]
    case qc2 => exact fun j u hu => Lib.cell?_alloc_some _ (HC.out j u hu)
    case qc3 => intro u hu; obtain ⟨x, _, rfl⟩ := List.mem_map.1 hu; rfl
    case qc4 => unfold maxLen; omega
    case qc5 => omega
    case qc6 => simp
    intro v' w1 hown hgrow hnil
    have hT : Tch [] w w1 := ⟨hgrow.os, hgrow.tape, hgrow.output, by have := hgrow.size; simp at this; omega, fun k hk _ => (hgrow.block k (by simp; omega) (by simp [Value.ownBlock]; omega)).trans (Below.heap_alloc _ _ _ hk)⟩
    have hrd := RdF.own hown HB.out
    obtain ⟨p1, n1, c1, rfl⟩ := slice_keep (hrd [] (by simp))
    have HR := Lib.hid hrd
    clear hown hgrow hnil hrd
    go_wp2
    go_ret
    exact ⟨hT, _, _, _, rfl, HR.out⟩
end Go.Proofs.YthchmnhoombecaaGreat
