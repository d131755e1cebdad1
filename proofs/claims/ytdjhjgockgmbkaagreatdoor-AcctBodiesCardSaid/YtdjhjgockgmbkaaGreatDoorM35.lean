/- The document's ReadBody: the way through. -/
import Derived.Test.YtdjhjgockgmbkaaGreatDoorM34
set_option linter.unusedVariables false
set_option linter.unusedSimpArgs false
namespace Go.Proofs.YtdjhjgockgmbkaaGreatDoor
open Go.RowKit
set_option linter.unusedVariables false
set_option linter.unusedSimpArgs false
set_option maxRecDepth 100000

set_option maxHeartbeats 40000000 in
theorem rr_ok (v : Value) (L : List Nat) (w : World) (hm : L.length < 4611686018427387904) (hv : RdA [] w v L) (he : rdErr L = 0) (t0 t1 : It) (r h : List Nat) (ht : rdItem L = .lst [t0, t1, .str r, .str h]) (hr : r.length = 32) (hl : h.length = 32) (m : Nat) (W : List Nat) (hri : intOfN t0 = some m) (hrw : wordOf t1 = some W) : Calls Tryz.prog 11 #[v] w (RRPost L w) := by
  obtain ⟨f0, f1, f2, f3, hty, -⟩ := body_ty
  obtain ⟨g0, g1, g2, hti, -⟩ := item_ty
  have hS := St.start w
  have kb := build_body0
  obtain ⟨p, n, c, rfl⟩ := slice_keep hv
  have HV := Lib.hid (fun (w' : World) (h : Tch [] w w') => refread_any _ L w' hm (hv.tch h))
  have HE := Lib.hid (And.intro he ht)
  have HL := Lib.hid (And.intro hr hl)
  have HR := Lib.hid (show bdRead L = some ⟨m, W, r, h⟩ from by
    unfold bdRead; rw [if_pos he, ht]
    unfold bdOf
    simp only [hri, hrw, hr, hl, and_self, if_true])
  have HRI := Lib.hid hri
  have HRW := Lib.hid hrw
  clear he ht hri hrw
  clear hv hm
  go_enter Tryz.func11, Tryz.ntmps11
  go_upto_region 2 with (first
    | (refine st_new (L := []) hS rfl 25 rfl body_zero ?_; clear hS; intro w2 b2 hS)
    | (go_at_call 34; refine (HV.out _ hS.frame).mono ?_; rintro e w3 ⟨hT3, d, p1, n1, c1, p2, n2, c2, rfl, hI3⟩; rw [HE.out.1]; (obtain ⟨rfl, rfl, bb, oo, rfl, a0, a1, a2, e0, e1, e2, y0, y1, y2, z0, z1, z2, h4⟩ := four_of (hI3 [b2] (fun x hx => by rw [List.mem_singleton.1 hx]; exact (hS.get .head).lt)) HE.out.2); have H4 := Lib.hid h4; clear h4 hI3; replace hS := hS.call hT3; clear hT3)
    | (refine st_newT (L := [(b2, 25, bodyC 0 zeros32 zeros32 zeros32)]) hS rfl 68 rfl itemN_zero ?_; clear hS; intro w4 b4 hS hT4 hb4)
    | (refine st_storeO (b := b4) (c' := #[.bool true, .slice p1 n1 c1, .slice (some ⟨bb, oo, none⟩) 4 c2]) hS rfl 68 _ _ rfl rfl rfl .head itemN_size (by rfl) (by rfl) (oneN3 rfl rfl rfl) ?_; clear hS; intro w5 hS hO5))
  have H5 := Lib.hid ((H4.out.wide (two_mem hb4)).tch ((hT4.mono (by simp)).only hO5 (.inr (by simp))))
  clear hT4 hb4 hO5 H4
  obtain ⟨rfl, pr, cr, rfl, -⟩ := itc_str H5.out.i2.it
  obtain ⟨rfl, ph, ch, rfl, -⟩ := itc_str H5.out.i3.it
  have hnr : ((r.length : Int) != 32) = false := by rw [hr]; rfl
  have hne : ((h.length : Int) != 32) = false := by rw [hl]; rfl
  clear hr hl
  refine k_seq (C := fun w' => w' = w5) rfl ?_
  refine k_intm rfl _ rfl rfl ?_; try simp only [Act.put, List.setIfInBounds_toArray, List.set_cons_zero, List.set_cons_succ, Bool.not_false, Bool.not_true]
  refine k_neqs (t := false) rfl _ _ _ rfl rfl rfl (by decide) ?_; try simp only [Act.put, List.setIfInBounds_toArray, List.set_cons_zero, List.set_cons_succ, Bool.not_false, Bool.not_true]
  refine k_boolm rfl _ rfl rfl ?_; try simp only [Act.put, List.setIfInBounds_toArray, List.set_cons_zero, List.set_cons_succ, Bool.not_false, Bool.not_true]
  refine k_fld rfl _ _ _ rfl rfl (item_f0 _) ?_; try simp only [Act.put, List.setIfInBounds_toArray, List.set_cons_zero, List.set_cons_succ, Bool.not_false, Bool.not_true]
  refine k_cellC rfl _ _ rfl rfl (by rintro w' rfl; exact (hS.get .head).cell (j := 0) rfl) bool_aggN ?_; try simp only [Act.put, List.setIfInBounds_toArray, List.set_cons_zero, List.set_cons_succ, Bool.not_false, Bool.not_true]
  refine k_not rfl _ _ rfl rfl ?_; try simp only [Act.put, List.setIfInBounds_toArray, List.set_cons_zero, List.set_cons_succ, Bool.not_false, Bool.not_true]
  refine k_pickF rfl _ _ _ rfl rfl rfl ?_; try simp only [Act.put, List.setIfInBounds_toArray, List.set_cons_zero, List.set_cons_succ, Bool.not_false, Bool.not_true]
  refine k_boolm rfl _ rfl rfl ?_; try simp only [Act.put, List.setIfInBounds_toArray, List.set_cons_zero, List.set_cons_succ, Bool.not_false, Bool.not_true]
  refine k_fld rfl _ _ _ rfl rfl (item_f2 _) ?_; try simp only [Act.put, List.setIfInBounds_toArray, List.set_cons_zero, List.set_cons_succ, Bool.not_false, Bool.not_true]
  refine k_cellC rfl _ _ rfl rfl (by rintro w' rfl; exact (hS.get .head).cell (j := 2) rfl) itemsl_aggQ ?_; try simp only [Act.put, List.setIfInBounds_toArray, List.set_cons_zero, List.set_cons_succ, Bool.not_false, Bool.not_true]
  refine k_lenQ rfl _ rfl rfl ?_; try simp only [Act.put, List.setIfInBounds_toArray, List.set_cons_zero, List.set_cons_succ, Bool.not_false, Bool.not_true]
  refine k_neqs (t := false) rfl _ _ _ rfl rfl rfl (by decide) ?_; try simp only [Act.put, List.setIfInBounds_toArray, List.set_cons_zero, List.set_cons_succ, Bool.not_false, Bool.not_true]
  refine k_pickF rfl _ _ _ rfl rfl rfl ?_; try simp only [Act.put, List.setIfInBounds_toArray, List.set_cons_zero, List.set_cons_succ, Bool.not_false, Bool.not_true]
  refine k_boolm rfl _ rfl rfl ?_; try simp only [Act.put, List.setIfInBounds_toArray, List.set_cons_zero, List.set_cons_succ, Bool.not_false, Bool.not_true]
  refine k_fld rfl _ _ _ rfl rfl (item_f2 _) ?_; try simp only [Act.put, List.setIfInBounds_toArray, List.set_cons_zero, List.set_cons_succ, Bool.not_false, Bool.not_true]
  refine k_cellC rfl _ _ rfl rfl (by rintro w' rfl; exact (hS.get .head).cell (j := 2) rfl) itemsl_aggQ ?_; try simp only [Act.put, List.setIfInBounds_toArray, List.set_cons_zero, List.set_cons_succ, Bool.not_false, Bool.not_true]
  refine k_idxQ (j := 2) (q := oo + 6) rfl _ _ rfl rfl rfl (by decide) (by omega) ?_; try simp only [Act.put, List.setIfInBounds_toArray, List.set_cons_zero, List.set_cons_succ, Bool.not_false, Bool.not_true]
  refine k_fld rfl _ _ _ rfl rfl (fa_it0 _ _) ?_; try simp only [Act.put, List.setIfInBounds_toArray, List.set_cons_zero, List.set_cons_succ, Bool.not_false, Bool.not_true]
  refine k_cellC rfl _ _ rfl rfl (by rintro w' rfl; exact H5.out.i2.c0) bool_aggN ?_; try simp only [Act.put, List.setIfInBounds_toArray, List.set_cons_zero, List.set_cons_succ, Bool.not_false, Bool.not_true]
  refine k_pickF rfl _ _ _ rfl rfl rfl ?_; try simp only [Act.put, List.setIfInBounds_toArray, List.set_cons_zero, List.set_cons_succ, Bool.not_false, Bool.not_true]
  refine k_boolm rfl _ rfl rfl ?_; try simp only [Act.put, List.setIfInBounds_toArray, List.set_cons_zero, List.set_cons_succ, Bool.not_false, Bool.not_true]
  refine k_fld rfl _ _ _ rfl rfl (item_f2 _) ?_; try simp only [Act.put, List.setIfInBounds_toArray, List.set_cons_zero, List.set_cons_succ, Bool.not_false, Bool.not_true]
  refine k_cellC rfl _ _ rfl rfl (by rintro w' rfl; exact (hS.get .head).cell (j := 2) rfl) itemsl_aggQ ?_; try simp only [Act.put, List.setIfInBounds_toArray, List.set_cons_zero, List.set_cons_succ, Bool.not_false, Bool.not_true]
  refine k_idxQ (j := 3) (q := oo + 9) rfl _ _ rfl rfl rfl (by decide) (by omega) ?_; try simp only [Act.put, List.setIfInBounds_toArray, List.set_cons_zero, List.set_cons_succ, Bool.not_false, Bool.not_true]
  refine k_fld rfl _ _ _ rfl rfl (fa_it0 _ _) ?_; try simp only [Act.put, List.setIfInBounds_toArray, List.set_cons_zero, List.set_cons_succ, Bool.not_false, Bool.not_true]
  refine k_cellC rfl _ _ rfl rfl (by rintro w' rfl; exact H5.out.i3.c0) bool_aggN ?_; try simp only [Act.put, List.setIfInBounds_toArray, List.set_cons_zero, List.set_cons_succ, Bool.not_false, Bool.not_true]
  refine k_pickF rfl _ _ _ rfl rfl rfl ?_; try simp only [Act.put, List.setIfInBounds_toArray, List.set_cons_zero, List.set_cons_succ, Bool.not_false, Bool.not_true]
  refine k_boolm rfl _ rfl rfl ?_; try simp only [Act.put, List.setIfInBounds_toArray, List.set_cons_zero, List.set_cons_succ, Bool.not_false, Bool.not_true]
  refine k_fld rfl _ _ _ rfl rfl (item_f2 _) ?_; try simp only [Act.put, List.setIfInBounds_toArray, List.set_cons_zero, List.set_cons_succ, Bool.not_false, Bool.not_true]
  refine k_cellC rfl _ _ rfl rfl (by rintro w' rfl; exact (hS.get .head).cell (j := 2) rfl) itemsl_aggQ ?_; try simp only [Act.put, List.setIfInBounds_toArray, List.set_cons_zero, List.set_cons_succ, Bool.not_false, Bool.not_true]
  refine k_idxQ (j := 2) (q := oo + 6) rfl _ _ rfl rfl rfl (by decide) (by omega) ?_; try simp only [Act.put, List.setIfInBounds_toArray, List.set_cons_zero, List.set_cons_succ, Bool.not_false, Bool.not_true]
  refine k_fld rfl _ _ _ rfl rfl (fa_it1 _ _) ?_; try simp only [Act.put, List.setIfInBounds_toArray, List.set_cons_zero, List.set_cons_succ, Bool.not_false, Bool.not_true]
  refine k_cellC rfl _ _ rfl rfl (by rintro w' rfl; exact H5.out.i2.c1) bytes_aggN ?_; try simp only [Act.put, List.setIfInBounds_toArray, List.set_cons_zero, List.set_cons_succ, Bool.not_false, Bool.not_true]
  refine k_lenSl rfl _ rfl rfl ?_; try simp only [Act.put, List.setIfInBounds_toArray, List.set_cons_zero, List.set_cons_succ, Bool.not_false, Bool.not_true]
  refine k_neqs (t := false) rfl _ _ _ rfl rfl rfl (hnr) ?_; try simp only [Act.put, List.setIfInBounds_toArray, List.set_cons_zero, List.set_cons_succ, Bool.not_false, Bool.not_true]
  refine k_pickF rfl _ _ _ rfl rfl rfl ?_; try simp only [Act.put, List.setIfInBounds_toArray, List.set_cons_zero, List.set_cons_succ, Bool.not_false, Bool.not_true]
  refine k_boolm rfl _ rfl rfl ?_; try simp only [Act.put, List.setIfInBounds_toArray, List.set_cons_zero, List.set_cons_succ, Bool.not_false, Bool.not_true]
  refine k_fld rfl _ _ _ rfl rfl (item_f2 _) ?_; try simp only [Act.put, List.setIfInBounds_toArray, List.set_cons_zero, List.set_cons_succ, Bool.not_false, Bool.not_true]
  refine k_cellC rfl _ _ rfl rfl (by rintro w' rfl; exact (hS.get .head).cell (j := 2) rfl) itemsl_aggQ ?_; try simp only [Act.put, List.setIfInBounds_toArray, List.set_cons_zero, List.set_cons_succ, Bool.not_false, Bool.not_true]
  refine k_idxQ (j := 3) (q := oo + 9) rfl _ _ rfl rfl rfl (by decide) (by omega) ?_; try simp only [Act.put, List.setIfInBounds_toArray, List.set_cons_zero, List.set_cons_succ, Bool.not_false, Bool.not_true]
  refine k_fld rfl _ _ _ rfl rfl (fa_it1 _ _) ?_; try simp only [Act.put, List.setIfInBounds_toArray, List.set_cons_zero, List.set_cons_succ, Bool.not_false, Bool.not_true]
  refine k_cellC rfl _ _ rfl rfl (by rintro w' rfl; exact H5.out.i3.c1) bytes_aggN ?_; try simp only [Act.put, List.setIfInBounds_toArray, List.set_cons_zero, List.set_cons_succ, Bool.not_false, Bool.not_true]
  refine k_lenSl rfl _ rfl rfl ?_; try simp only [Act.put, List.setIfInBounds_toArray, List.set_cons_zero, List.set_cons_succ, Bool.not_false, Bool.not_true]
  refine k_neqs (t := false) rfl _ _ _ rfl rfl rfl (hne) ?_; try simp only [Act.put, List.setIfInBounds_toArray, List.set_cons_zero, List.set_cons_succ, Bool.not_false, Bool.not_true]
  refine k_pickF rfl _ _ _ rfl rfl rfl ?_; try simp only [Act.put, List.setIfInBounds_toArray, List.set_cons_zero, List.set_cons_succ, Bool.not_false, Bool.not_true]
  refine k_end ?_
  rintro w8 rfl
  have HF := Lib.hid (And.intro hS.frame (And.intro ((hS.own (b := b4) .head).resolve_right (by simp)) ((hS.own (b := b2) (.tail .head)).resolve_right (by simp))))
  have hS0 : St [b4, b2] w8 w8 [(b4, 68, #[.bool true, .slice p1 n1 c1, .slice (some ⟨bb, oo, none⟩) 4 c2]), (b2, 25, bodyC 0 zeros32 zeros32 zeros32)] := hS.rebase
  clear hS hnr hne
  have hS := hS0
  clear hS0
  have HT := Lib.hid (fun (w' : World) (q : Tch [b4, b2] w8 w') => H5.out.tch q)
  clear H5
  go_upto_region 7 with (first
    | (refine st_new (L := [(b4, 68, #[.bool true, .slice p1 n1 c1, .slice (some ⟨bb, oo, none⟩) 4 c2]), (b2, 25, bodyC 0 zeros32 zeros32 zeros32)]) hS rfl 25 rfl body_zero ?_; clear hS; intro w9 b6 hS)
    | (refine st_x (v := .pointer (some ⟨b4, 2, none⟩)) rfl (x_fa _ _ _ rfl rfl (item_f2 b4 _)) ?_)
    | (refine st_x (v := .slice (some ⟨bb, oo, none⟩) 4 c2) rfl (x_cell _ _ rfl rfl ((hS.get (b := b4) (by repeat (first | exact At.head | apply At.tail))).cell (j := 2) rfl) itemsl_aggQ) ?_)
    | (refine st_x (v := .pointer (some ⟨bb, oo, none⟩)) rfl (x_idxQ (j := 0) (q := oo) _ _ rfl rfl rfl (by decide) (by omega)) ?_)
    | (refine st_x (v := .pointer (some ⟨bb, oo + 3, none⟩)) rfl (x_idxQ (j := 1) (q := oo + 3) _ _ rfl rfl rfl (by decide) (by omega)) ?_)
    | (refine st_x (v := .agg #[a0, a1, a2]) rfl (x_item (b := bb) (o' := oo) _ rfl rfl (HT.out _ hS.frame).i0.c0 (HT.out _ hS.frame).i0.c1 (HT.out _ hS.frame).i0.c2) ?_)
    | (refine st_x (v := .agg #[e0, e1, e2]) rfl (x_item (b := bb) (o' := oo + 3) _ rfl rfl (HT.out _ hS.frame).i1.c0 (HT.out _ hS.frame).i1.c1 (HT.out _ hS.frame).i1.c2) ?_)
    | (go_at_call 35; refine (rintC (HT.out _ hS.frame).i0.it).mono ?_; rintro e wa ⟨rfl, hTa⟩; rw [HRI.out]; replace hS := hS.call hTa; clear hTa)
    | (refine st_new (L := [(b6, 25, bodyC 0 zeros32 zeros32 zeros32), (b4, 68, #[.bool true, .slice p1 n1 c1, .slice (some ⟨bb, oo, none⟩) 4 c2]), (b2, 25, bodyC 0 zeros32 zeros32 zeros32)]) hS rfl 23 rfl word_zero ?_; clear hS; intro wb b9 hS)
    | (go_at_call 36; refine (rwordC (HT.out _ hS.frame).i1.it).mono ?_; rintro e wc ⟨rfl, hTc⟩; rw [HRW.out]; replace hS := hS.call hTc; clear hTc)
    | (refine st_store (b := b9) (c' := wv (W)) hS rfl 23 _ _ rfl rfl rfl .head wordN_size (wf_size _) (bc_size _ _) (bc_one _ _) ?_; clear hS; intro wd hS))
  refine k_seq (C := fun w' => w' = wd) rfl ?_
  refine k_boolm rfl _ rfl rfl ?_; try simp only [Act.put, List.setIfInBounds_toArray, List.set_cons_zero, List.set_cons_succ, Bool.not_false, Bool.not_true]
  refine k_not rfl _ _ rfl rfl ?_; try simp only [Act.put, List.setIfInBounds_toArray, List.set_cons_zero, List.set_cons_succ, Bool.not_false, Bool.not_true]
  refine k_boolm rfl _ rfl rfl ?_; try simp only [Act.put, List.setIfInBounds_toArray, List.set_cons_zero, List.set_cons_succ, Bool.not_false, Bool.not_true]
  refine k_boolm rfl _ rfl rfl ?_; try simp only [Act.put, List.setIfInBounds_toArray, List.set_cons_zero, List.set_cons_succ, Bool.not_false, Bool.not_true]
  refine k_not rfl _ _ rfl rfl ?_; try simp only [Act.put, List.setIfInBounds_toArray, List.set_cons_zero, List.set_cons_succ, Bool.not_false, Bool.not_true]
  refine k_pickF rfl _ _ _ rfl rfl rfl ?_; try simp only [Act.put, List.setIfInBounds_toArray, List.set_cons_zero, List.set_cons_succ, Bool.not_false, Bool.not_true]
  refine k_end ?_
  rintro we rfl
  go_upto_region 11 with (first
    | (refine st_x (v := .pointer (some ⟨b6, 0, none⟩)) rfl (x_fa _ _ _ rfl rfl (fa_bd0 b6 _)) ?_)
    | (refine st_store1 (b := b6) (j := 0) (n := ((m : Nat) : Int)) hS rfl 3 _ _ rfl rfl rfl int_sizeQ (.tail .head) (by rw [bodyC_size]; decide) ?_; clear hS; intro wf hS; rw [bodyC_set0] at hS)
    | (refine st_load (b := b9) hS rfl 23 _ rfl rfl .head wordN_type rfl wordN_size (bc_size _ _) ?_)
    | (refine st_x (v := .pointer (some ⟨b6, 1, none⟩)) rfl (x_fa _ _ _ rfl rfl (fa_bd1 b6 _)) ?_)
    | (refine st_storeM (b := b6) (j := 1) (c' := wv W) hS rfl 23 _ _ rfl rfl rfl wordN_size (bc_size _ _) (splice_b _ _ _ _ _) (.tail .head) (by rw [bodyC_size, show (wv W).size = 32 from bc_size _ _]; decide) (bc_one _ _) ?_; clear hS; intro wf2 hS hOf))
  have HC11 := Lib.hid (show splice (bodyC (m : Int) W zeros32 zeros32) 33 (nb (r.take 32)).toArray = bodyC (m : Int) W r zeros32 from by
    rw [List.take_of_length_le (by rw [HL.out.1]; exact Nat.le_refl _), wv_nb HL.out.1]
    exact splice_r _ _ _ _ _)
  go_upto_region 11 with (fail)
  refine k_region_head (C := fun w' => St [b4, b2] w8 w' [(b9, 23, wv W), (b6, 25, bodyC (m : Int) W zeros32 zeros32), (b4, 68, #[.bool true, .slice p1 n1 c1, .slice (some ⟨bb, oo, none⟩) 4 c2]), (b2, 25, bodyC 0 zeros32 zeros32 zeros32)]) 7 (by kernel_rfl) (by kernel_rfl) hS.drew ?_
  simp only [List.take_succ_cons, List.take_zero, List.drop_succ_cons, List.drop_zero]
  refine k_in (v := .pointer (some ⟨b6, 33, none⟩)) rfl (fun w' _ => x_fa _ _ _ rfl rfl (fa_bd2 b6 w')) ?_; try simp only [Act.put, List.setIfInBounds_toArray, List.set_cons_zero, List.set_cons_succ, Bool.not_false, Bool.not_true]
  refine k_in (v := .slice (some ⟨b6, 33, none⟩) 32 32) rfl (fun w' _ => x_sl _ _ rfl rfl (sl_word b6 33 w')) ?_; try simp only [Act.put, List.setIfInBounds_toArray, List.set_cons_zero, List.set_cons_succ, Bool.not_false, Bool.not_true]
  refine k_fld rfl _ _ _ rfl rfl (item_f2 _) ?_; try simp only [Act.put, List.setIfInBounds_toArray, List.set_cons_zero, List.set_cons_succ, Bool.not_false, Bool.not_true]
  refine k_cellC rfl _ _ rfl rfl (fun w' q => (q.get (b := b4) (by repeat (first | exact At.head | apply At.tail))).cell (j := 2) rfl) itemsl_aggQ ?_; try simp only [Act.put, List.setIfInBounds_toArray, List.set_cons_zero, List.set_cons_succ, Bool.not_false, Bool.not_true]
  refine k_idxQ (j := 2) (q := oo + 6) rfl _ _ rfl rfl rfl (by decide) (by omega) ?_; try simp only [Act.put, List.setIfInBounds_toArray, List.set_cons_zero, List.set_cons_succ, Bool.not_false, Bool.not_true]
  refine k_fld rfl _ _ _ rfl rfl (fa_it1 _ _) ?_; try simp only [Act.put, List.setIfInBounds_toArray, List.set_cons_zero, List.set_cons_succ, Bool.not_false, Bool.not_true]
  refine k_cellC rfl _ _ rfl rfl (fun w' q => (HT.out _ q.frame).i2.c1) bytes_aggN ?_; try simp only [Act.put, List.setIfInBounds_toArray, List.set_cons_zero, List.set_cons_succ, Bool.not_false, Bool.not_true]
  refine k_end ?_
  clear hS
  intro wg11 hS
  go_upto_region 12 with (first
    | (refine st_copyM (b := b6) (j := 33) (n := 32) (l := r) (cn := bodyC (m : Int) W r zeros32) hS rfl _ _ rfl rfl rfl (itc_rd (HT.out _ hS.frame).i2.it) HC11.out (.tail .head) (by rw [bodyC_size]; decide) ?_; clear hS; intro wh11 hS hOh11))
  have HC12 := Lib.hid (show splice (bodyC (m : Int) W r zeros32) 65 (nb (h.take 32)).toArray = bodyC (m : Int) W r h from by
    rw [List.take_of_length_le (by rw [HL.out.2]; exact Nat.le_refl _), wv_nb HL.out.2]
    exact splice_h _ _ _ _ _)
  go_upto_region 12 with (fail)
  refine k_region_head (C := fun w' => St [b4, b2] w8 w' [(b9, 23, wv W), (b6, 25, bodyC (m : Int) W r zeros32), (b4, 68, #[.bool true, .slice p1 n1 c1, .slice (some ⟨bb, oo, none⟩) 4 c2]), (b2, 25, bodyC 0 zeros32 zeros32 zeros32)]) 7 (by kernel_rfl) (by kernel_rfl) hS.drew ?_
  simp only [List.take_succ_cons, List.take_zero, List.drop_succ_cons, List.drop_zero]
  refine k_in (v := .pointer (some ⟨b6, 65, none⟩)) rfl (fun w' _ => x_fa _ _ _ rfl rfl (fa_bd3 b6 w')) ?_; try simp only [Act.put, List.setIfInBounds_toArray, List.set_cons_zero, List.set_cons_succ, Bool.not_false, Bool.not_true]
  refine k_in (v := .slice (some ⟨b6, 65, none⟩) 32 32) rfl (fun w' _ => x_sl _ _ rfl rfl (sl_word b6 65 w')) ?_; try simp only [Act.put, List.setIfInBounds_toArray, List.set_cons_zero, List.set_cons_succ, Bool.not_false, Bool.not_true]
  refine k_fld rfl _ _ _ rfl rfl (item_f2 _) ?_; try simp only [Act.put, List.setIfInBounds_toArray, List.set_cons_zero, List.set_cons_succ, Bool.not_false, Bool.not_true]
  refine k_cellC rfl _ _ rfl rfl (fun w' q => (q.get (b := b4) (by repeat (first | exact At.head | apply At.tail))).cell (j := 2) rfl) itemsl_aggQ ?_; try simp only [Act.put, List.setIfInBounds_toArray, List.set_cons_zero, List.set_cons_succ, Bool.not_false, Bool.not_true]
  refine k_idxQ (j := 3) (q := oo + 9) rfl _ _ rfl rfl rfl (by decide) (by omega) ?_; try simp only [Act.put, List.setIfInBounds_toArray, List.set_cons_zero, List.set_cons_succ, Bool.not_false, Bool.not_true]
  refine k_fld rfl _ _ _ rfl rfl (fa_it1 _ _) ?_; try simp only [Act.put, List.setIfInBounds_toArray, List.set_cons_zero, List.set_cons_succ, Bool.not_false, Bool.not_true]
  refine k_cellC rfl _ _ rfl rfl (fun w' q => (HT.out _ q.frame).i3.c1) bytes_aggN ?_; try simp only [Act.put, List.setIfInBounds_toArray, List.set_cons_zero, List.set_cons_succ, Bool.not_false, Bool.not_true]
  refine k_end ?_
  clear hS
  intro wg12 hS
  go_upto_region 13 with (first
    | (refine st_copyM (b := b6) (j := 65) (n := 32) (l := h) (cn := bodyC (m : Int) W r h) hS rfl _ _ rfl rfl rfl (itc_rd (HT.out _ hS.frame).i3.it) HC12.out (.tail .head) (by rw [bodyC_size]; decide) ?_; clear hS; intro wh12 hS hOh12))
  go_wp2_with (first
    | (refine st_load (b := b6) hS rfl 25 _ rfl rfl (.tail .head) hty rfl body_size (bodyC_size _ _ _ _) ?_)
    | (refine st_store (b := b2) (c' := bodyC (m : Int) W r h) hS rfl 25 _ _ rfl rfl rfl (.tail (.tail (.tail .head))) body_size (bodyC_size _ _ _ _) (bodyC_size _ _ _ _) (bodyC_one _ _ _ _) ?_; clear hS; intro wz hS))
  exact post_cell_one 2 3 25 rfl rfl rfl rfl (hS.get (.tail (.tail (.tail .head)))) hty rfl body_size (bodyC_size _ _ _ _) ⟨HF.out.1.fresh hS.frame (fun x hx => by
    rcases List.mem_cons.1 hx with q | q
    · rw [q]; exact HF.out.2.1
    · rw [List.mem_singleton.1 q]; exact HF.out.2.2), by rw [HR.out]; rfl⟩
end Go.Proofs.YtdjhjgockgmbkaaGreatDoor
