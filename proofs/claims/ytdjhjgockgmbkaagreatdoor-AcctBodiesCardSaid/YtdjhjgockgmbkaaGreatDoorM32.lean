/- The document's ReadBody: the ways out. -/
import Derived.Test.YtdjhjgockgmbkaaGreatDoorM31
set_option linter.unusedVariables false
set_option linter.unusedSimpArgs false
namespace Go.Proofs.YtdjhjgockgmbkaaGreatDoor
open Go.RowKit
set_option linter.unusedVariables false
set_option maxRecDepth 100000

set_option maxHeartbeats 4000000 in
theorem rr_err (v : Value) (L : List Nat) (w : World) (hm : L.length < 4611686018427387904) (hv : RdA [] w v L) (he : rdErr L ≠ 0) : Calls Tryz.prog 11 #[v] w (RRPost L w) := by
  obtain ⟨f0, f1, f2, f3, hty, -⟩ := body_ty
  obtain ⟨g0, g1, g2, hti, -⟩ := item_ty
  have hS := St.start w
  have kb := build_body0
  obtain ⟨p, n, c, rfl⟩ := slice_keep hv
  have HV := Lib.hid (fun (w' : World) (h : Tch [] w w') => refread_any _ L w' hm (hv.tch h))
  have HR := Lib.hid (show bdRead L = none by unfold bdRead; rw [if_neg he])
  obtain ⟨ec, hec⟩ : ∃ ec, ec = rdErr L := ⟨_, rfl⟩
  have HE := Lib.hid hec
  have hne : ((ec : Int) != 0) = true := by rw [hec]; simp; omega
  clear he hec
  clear hv hm
  go_enter Tryz.func11, Tryz.ntmps11
  go_upto_region 2 with (first
    | (refine st_new (L := []) hS rfl 25 rfl body_zero ?_; clear hS; intro w2 b2 hS)
    | (go_at_call 34; refine (HV.out _ hS.frame).mono ?_; rintro e w3 ⟨hT3, d, p1, n1, c1, p2, n2, c2, rfl, hI3⟩; rw [← HE.out]; clear hI3; replace hS := hS.call hT3; clear hT3)
    | (refine st_newT (L := [(b2, 25, bodyC 0 zeros32 zeros32 zeros32)]) hS rfl 68 rfl itemN_zero ?_; clear hS; intro w4 b4 hS hT4 hb4)
    | (refine st_storeO (b := b4) (c' := #[.bool d, .slice p1 n1 c1, .slice p2 n2 c2]) hS rfl 68 _ _ rfl rfl rfl .head itemN_size (by rfl) (by rfl) (oneN3 rfl rfl rfl) ?_; clear hS; intro w5 hS hO5))
  refine k_seq (C := fun w' => w' = w5) rfl ?_
  refine k_intm rfl _ rfl rfl ?_; try simp only [Act.put, List.setIfInBounds_toArray, List.set_cons_zero, List.set_cons_succ, Bool.not_false, Bool.not_true]
  refine k_neqs (t := true) rfl _ _ _ rfl rfl rfl (hne) ?_; try simp only [Act.put, List.setIfInBounds_toArray, List.set_cons_zero, List.set_cons_succ, Bool.not_false, Bool.not_true]
  refine k_boolm rfl _ rfl rfl ?_; try simp only [Act.put, List.setIfInBounds_toArray, List.set_cons_zero, List.set_cons_succ, Bool.not_false, Bool.not_true]
  refine k_skip rfl rfl rfl rfl rfl ?_; try simp only [Act.put, List.setIfInBounds_toArray, List.set_cons_zero, List.set_cons_succ, Bool.not_false, Bool.not_true]
  refine k_skip rfl rfl rfl rfl rfl ?_; try simp only [Act.put, List.setIfInBounds_toArray, List.set_cons_zero, List.set_cons_succ, Bool.not_false, Bool.not_true]
  refine k_skip rfl rfl rfl rfl rfl ?_; try simp only [Act.put, List.setIfInBounds_toArray, List.set_cons_zero, List.set_cons_succ, Bool.not_false, Bool.not_true]
  refine k_pickT rfl _ _ _ rfl rfl rfl ?_; try simp only [Act.put, List.setIfInBounds_toArray, List.set_cons_zero, List.set_cons_succ, Bool.not_false, Bool.not_true]
  refine k_boolm rfl _ rfl rfl ?_; try simp only [Act.put, List.setIfInBounds_toArray, List.set_cons_zero, List.set_cons_succ, Bool.not_false, Bool.not_true]
  refine k_skip rfl rfl rfl rfl rfl ?_; try simp only [Act.put, List.setIfInBounds_toArray, List.set_cons_zero, List.set_cons_succ, Bool.not_false, Bool.not_true]
  refine k_skip rfl rfl rfl rfl rfl ?_; try simp only [Act.put, List.setIfInBounds_toArray, List.set_cons_zero, List.set_cons_succ, Bool.not_false, Bool.not_true]
  refine k_skip rfl rfl rfl rfl rfl ?_; try simp only [Act.put, List.setIfInBounds_toArray, List.set_cons_zero, List.set_cons_succ, Bool.not_false, Bool.not_true]
  refine k_skip rfl rfl rfl rfl rfl ?_; try simp only [Act.put, List.setIfInBounds_toArray, List.set_cons_zero, List.set_cons_succ, Bool.not_false, Bool.not_true]
  refine k_pickT rfl _ _ _ rfl rfl rfl ?_; try simp only [Act.put, List.setIfInBounds_toArray, List.set_cons_zero, List.set_cons_succ, Bool.not_false, Bool.not_true]
  refine k_boolm rfl _ rfl rfl ?_; try simp only [Act.put, List.setIfInBounds_toArray, List.set_cons_zero, List.set_cons_succ, Bool.not_false, Bool.not_true]
  refine k_skip rfl rfl rfl rfl rfl ?_; try simp only [Act.put, List.setIfInBounds_toArray, List.set_cons_zero, List.set_cons_succ, Bool.not_false, Bool.not_true]
  refine k_skip rfl rfl rfl rfl rfl ?_; try simp only [Act.put, List.setIfInBounds_toArray, List.set_cons_zero, List.set_cons_succ, Bool.not_false, Bool.not_true]
  refine k_skip rfl rfl rfl rfl rfl ?_; try simp only [Act.put, List.setIfInBounds_toArray, List.set_cons_zero, List.set_cons_succ, Bool.not_false, Bool.not_true]
  refine k_skip rfl rfl rfl rfl rfl ?_; try simp only [Act.put, List.setIfInBounds_toArray, List.set_cons_zero, List.set_cons_succ, Bool.not_false, Bool.not_true]
  refine k_skip rfl rfl rfl rfl rfl ?_; try simp only [Act.put, List.setIfInBounds_toArray, List.set_cons_zero, List.set_cons_succ, Bool.not_false, Bool.not_true]
  refine k_pickT rfl _ _ _ rfl rfl rfl ?_; try simp only [Act.put, List.setIfInBounds_toArray, List.set_cons_zero, List.set_cons_succ, Bool.not_false, Bool.not_true]
  refine k_boolm rfl _ rfl rfl ?_; try simp only [Act.put, List.setIfInBounds_toArray, List.set_cons_zero, List.set_cons_succ, Bool.not_false, Bool.not_true]
  refine k_skip rfl rfl rfl rfl rfl ?_; try simp only [Act.put, List.setIfInBounds_toArray, List.set_cons_zero, List.set_cons_succ, Bool.not_false, Bool.not_true]
  refine k_skip rfl rfl rfl rfl rfl ?_; try simp only [Act.put, List.setIfInBounds_toArray, List.set_cons_zero, List.set_cons_succ, Bool.not_false, Bool.not_true]
  refine k_skip rfl rfl rfl rfl rfl ?_; try simp only [Act.put, List.setIfInBounds_toArray, List.set_cons_zero, List.set_cons_succ, Bool.not_false, Bool.not_true]
  refine k_skip rfl rfl rfl rfl rfl ?_; try simp only [Act.put, List.setIfInBounds_toArray, List.set_cons_zero, List.set_cons_succ, Bool.not_false, Bool.not_true]
  refine k_skip rfl rfl rfl rfl rfl ?_; try simp only [Act.put, List.setIfInBounds_toArray, List.set_cons_zero, List.set_cons_succ, Bool.not_false, Bool.not_true]
  refine k_pickT rfl _ _ _ rfl rfl rfl ?_; try simp only [Act.put, List.setIfInBounds_toArray, List.set_cons_zero, List.set_cons_succ, Bool.not_false, Bool.not_true]
  refine k_boolm rfl _ rfl rfl ?_; try simp only [Act.put, List.setIfInBounds_toArray, List.set_cons_zero, List.set_cons_succ, Bool.not_false, Bool.not_true]
  refine k_skip rfl rfl rfl rfl rfl ?_; try simp only [Act.put, List.setIfInBounds_toArray, List.set_cons_zero, List.set_cons_succ, Bool.not_false, Bool.not_true]
  refine k_skip rfl rfl rfl rfl rfl ?_; try simp only [Act.put, List.setIfInBounds_toArray, List.set_cons_zero, List.set_cons_succ, Bool.not_false, Bool.not_true]
  refine k_skip rfl rfl rfl rfl rfl ?_; try simp only [Act.put, List.setIfInBounds_toArray, List.set_cons_zero, List.set_cons_succ, Bool.not_false, Bool.not_true]
  refine k_skip rfl rfl rfl rfl rfl ?_; try simp only [Act.put, List.setIfInBounds_toArray, List.set_cons_zero, List.set_cons_succ, Bool.not_false, Bool.not_true]
  refine k_skip rfl rfl rfl rfl rfl ?_; try simp only [Act.put, List.setIfInBounds_toArray, List.set_cons_zero, List.set_cons_succ, Bool.not_false, Bool.not_true]
  refine k_skip rfl rfl rfl rfl rfl ?_; try simp only [Act.put, List.setIfInBounds_toArray, List.set_cons_zero, List.set_cons_succ, Bool.not_false, Bool.not_true]
  refine k_skip rfl rfl rfl rfl rfl ?_; try simp only [Act.put, List.setIfInBounds_toArray, List.set_cons_zero, List.set_cons_succ, Bool.not_false, Bool.not_true]
  refine k_pickT rfl _ _ _ rfl rfl rfl ?_; try simp only [Act.put, List.setIfInBounds_toArray, List.set_cons_zero, List.set_cons_succ, Bool.not_false, Bool.not_true]
  refine k_boolm rfl _ rfl rfl ?_; try simp only [Act.put, List.setIfInBounds_toArray, List.set_cons_zero, List.set_cons_succ, Bool.not_false, Bool.not_true]
  refine k_skip rfl rfl rfl rfl rfl ?_; try simp only [Act.put, List.setIfInBounds_toArray, List.set_cons_zero, List.set_cons_succ, Bool.not_false, Bool.not_true]
  refine k_skip rfl rfl rfl rfl rfl ?_; try simp only [Act.put, List.setIfInBounds_toArray, List.set_cons_zero, List.set_cons_succ, Bool.not_false, Bool.not_true]
  refine k_skip rfl rfl rfl rfl rfl ?_; try simp only [Act.put, List.setIfInBounds_toArray, List.set_cons_zero, List.set_cons_succ, Bool.not_false, Bool.not_true]
  refine k_skip rfl rfl rfl rfl rfl ?_; try simp only [Act.put, List.setIfInBounds_toArray, List.set_cons_zero, List.set_cons_succ, Bool.not_false, Bool.not_true]
  refine k_skip rfl rfl rfl rfl rfl ?_; try simp only [Act.put, List.setIfInBounds_toArray, List.set_cons_zero, List.set_cons_succ, Bool.not_false, Bool.not_true]
  refine k_skip rfl rfl rfl rfl rfl ?_; try simp only [Act.put, List.setIfInBounds_toArray, List.set_cons_zero, List.set_cons_succ, Bool.not_false, Bool.not_true]
  refine k_skip rfl rfl rfl rfl rfl ?_; try simp only [Act.put, List.setIfInBounds_toArray, List.set_cons_zero, List.set_cons_succ, Bool.not_false, Bool.not_true]
  refine k_pickT rfl _ _ _ rfl rfl rfl ?_; try simp only [Act.put, List.setIfInBounds_toArray, List.set_cons_zero, List.set_cons_succ, Bool.not_false, Bool.not_true]
  refine k_end ?_
  rintro w8 rfl
  go_wp2_with (first
    | (refine st_store (b := b2) (c' := bodyC 0 zeros32 zeros32 zeros32) hS rfl 25 _ _ rfl rfl rfl (.tail .head) body_size (bodyC_size _ _ _ _) (bodyC_size _ _ _ _) (bodyC_one _ _ _ _) ?_; clear hS; intro w6 hS))
  exact post_cell_one 2 3 25 rfl rfl rfl rfl (hS.get (.tail .head)) hty rfl body_size (bodyC_size _ _ _ _) ⟨hS.frame, by rw [HR.out]; rfl⟩
set_option maxHeartbeats 4000000 in
theorem rr_str (v : Value) (L : List Nat) (w : World) (hm : L.length < 4611686018427387904) (hv : RdA [] w v L) (he : rdErr L = 0) (M : List Nat) (ht : rdItem L = .str M) : Calls Tryz.prog 11 #[v] w (RRPost L w) := by
  obtain ⟨f0, f1, f2, f3, hty, -⟩ := body_ty
  obtain ⟨g0, g1, g2, hti, -⟩ := item_ty
  have hS := St.start w
  have kb := build_body0
  obtain ⟨p, n, c, rfl⟩ := slice_keep hv
  have HV := Lib.hid (fun (w' : World) (h : Tch [] w w') => refread_any _ L w' hm (hv.tch h))
  have HR := Lib.hid (show bdRead L = none by unfold bdRead; rw [if_pos he, ht]; rfl)
  have HE := Lib.hid (And.intro he ht)
  clear he ht
  clear hv hm
  go_enter Tryz.func11, Tryz.ntmps11
  go_upto_region 2 with (first
    | (refine st_new (L := []) hS rfl 25 rfl body_zero ?_; clear hS; intro w2 b2 hS)
    | (go_at_call 34; refine (HV.out _ hS.frame).mono ?_; rintro e w3 ⟨hT3, d, p1, n1, c1, p2, n2, c2, rfl, hI3⟩; rw [HE.out.1]; (have hq := hI3 [] (by simp)); rw [HE.out.2] at hq; obtain rfl := itc_d hq; clear hq hI3; replace hS := hS.call hT3; clear hT3)
    | (refine st_newT (L := [(b2, 25, bodyC 0 zeros32 zeros32 zeros32)]) hS rfl 68 rfl itemN_zero ?_; clear hS; intro w4 b4 hS hT4 hb4)
    | (refine st_storeO (b := b4) (c' := #[.bool false, .slice p1 n1 c1, .slice p2 n2 c2]) hS rfl 68 _ _ rfl rfl rfl .head itemN_size (by rfl) (by rfl) (oneN3 rfl rfl rfl) ?_; clear hS; intro w5 hS hO5))
  refine k_seq (C := fun w' => w' = w5) rfl ?_
  refine k_intm rfl _ rfl rfl ?_; try simp only [Act.put, List.setIfInBounds_toArray, List.set_cons_zero, List.set_cons_succ, Bool.not_false, Bool.not_true]
  refine k_neqs (t := false) rfl _ _ _ rfl rfl rfl (by decide) ?_; try simp only [Act.put, List.setIfInBounds_toArray, List.set_cons_zero, List.set_cons_succ, Bool.not_false, Bool.not_true]
  refine k_boolm rfl _ rfl rfl ?_; try simp only [Act.put, List.setIfInBounds_toArray, List.set_cons_zero, List.set_cons_succ, Bool.not_false, Bool.not_true]
  refine k_fld rfl _ _ _ rfl rfl (item_f0 _) ?_; try simp only [Act.put, List.setIfInBounds_toArray, List.set_cons_zero, List.set_cons_succ, Bool.not_false, Bool.not_true]
  refine k_cellC rfl _ _ rfl rfl (by rintro w' rfl; exact (hS.get .head).cell (j := 0) rfl) bool_aggN ?_; try simp only [Act.put, List.setIfInBounds_toArray, List.set_cons_zero, List.set_cons_succ, Bool.not_false, Bool.not_true]
  refine k_not rfl _ _ rfl rfl ?_; try simp only [Act.put, List.setIfInBounds_toArray, List.set_cons_zero, List.set_cons_succ, Bool.not_false, Bool.not_true]
  refine k_pickF rfl _ _ _ rfl rfl rfl ?_; try simp only [Act.put, List.setIfInBounds_toArray, List.set_cons_zero, List.set_cons_succ, Bool.not_false, Bool.not_true]
  refine k_boolm rfl _ rfl rfl ?_; try simp only [Act.put, List.setIfInBounds_toArray, List.set_cons_zero, List.set_cons_succ, Bool.not_false, Bool.not_true]
  refine k_skip rfl rfl rfl rfl rfl ?_; try simp only [Act.put, List.setIfInBounds_toArray, List.set_cons_zero, List.set_cons_succ, Bool.not_false, Bool.not_true]
  refine k_skip rfl rfl rfl rfl rfl ?_; try simp only [Act.put, List.setIfInBounds_toArray, List.set_cons_zero, List.set_cons_succ, Bool.not_false, Bool.not_true]
  refine k_skip rfl rfl rfl rfl rfl ?_; try simp only [Act.put, List.setIfInBounds_toArray, List.set_cons_zero, List.set_cons_succ, Bool.not_false, Bool.not_true]
  refine k_skip rfl rfl rfl rfl rfl ?_; try simp only [Act.put, List.setIfInBounds_toArray, List.set_cons_zero, List.set_cons_succ, Bool.not_false, Bool.not_true]
  refine k_pickT rfl _ _ _ rfl rfl rfl ?_; try simp only [Act.put, List.setIfInBounds_toArray, List.set_cons_zero, List.set_cons_succ, Bool.not_false, Bool.not_true]
  refine k_boolm rfl _ rfl rfl ?_; try simp only [Act.put, List.setIfInBounds_toArray, List.set_cons_zero, List.set_cons_succ, Bool.not_false, Bool.not_true]
  refine k_skip rfl rfl rfl rfl rfl ?_; try simp only [Act.put, List.setIfInBounds_toArray, List.set_cons_zero, List.set_cons_succ, Bool.not_false, Bool.not_true]
  refine k_skip rfl rfl rfl rfl rfl ?_; try simp only [Act.put, List.setIfInBounds_toArray, List.set_cons_zero, List.set_cons_succ, Bool.not_false, Bool.not_true]
  refine k_skip rfl rfl rfl rfl rfl ?_; try simp only [Act.put, List.setIfInBounds_toArray, List.set_cons_zero, List.set_cons_succ, Bool.not_false, Bool.not_true]
  refine k_skip rfl rfl rfl rfl rfl ?_; try simp only [Act.put, List.setIfInBounds_toArray, List.set_cons_zero, List.set_cons_succ, Bool.not_false, Bool.not_true]
  refine k_skip rfl rfl rfl rfl rfl ?_; try simp only [Act.put, List.setIfInBounds_toArray, List.set_cons_zero, List.set_cons_succ, Bool.not_false, Bool.not_true]
  refine k_pickT rfl _ _ _ rfl rfl rfl ?_; try simp only [Act.put, List.setIfInBounds_toArray, List.set_cons_zero, List.set_cons_succ, Bool.not_false, Bool.not_true]
  refine k_boolm rfl _ rfl rfl ?_; try simp only [Act.put, List.setIfInBounds_toArray, List.set_cons_zero, List.set_cons_succ, Bool.not_false, Bool.not_true]
  refine k_skip rfl rfl rfl rfl rfl ?_; try simp only [Act.put, List.setIfInBounds_toArray, List.set_cons_zero, List.set_cons_succ, Bool.not_false, Bool.not_true]
  refine k_skip rfl rfl rfl rfl rfl ?_; try simp only [Act.put, List.setIfInBounds_toArray, List.set_cons_zero, List.set_cons_succ, Bool.not_false, Bool.not_true]
  refine k_skip rfl rfl rfl rfl rfl ?_; try simp only [Act.put, List.setIfInBounds_toArray, List.set_cons_zero, List.set_cons_succ, Bool.not_false, Bool.not_true]
  refine k_skip rfl rfl rfl rfl rfl ?_; try simp only [Act.put, List.setIfInBounds_toArray, List.set_cons_zero, List.set_cons_succ, Bool.not_false, Bool.not_true]
  refine k_skip rfl rfl rfl rfl rfl ?_; try simp only [Act.put, List.setIfInBounds_toArray, List.set_cons_zero, List.set_cons_succ, Bool.not_false, Bool.not_true]
  refine k_pickT rfl _ _ _ rfl rfl rfl ?_; try simp only [Act.put, List.setIfInBounds_toArray, List.set_cons_zero, List.set_cons_succ, Bool.not_false, Bool.not_true]
  refine k_boolm rfl _ rfl rfl ?_; try simp only [Act.put, List.setIfInBounds_toArray, List.set_cons_zero, List.set_cons_succ, Bool.not_false, Bool.not_true]
  refine k_skip rfl rfl rfl rfl rfl ?_; try simp only [Act.put, List.setIfInBounds_toArray, List.set_cons_zero, List.set_cons_succ, Bool.not_false, Bool.not_true]
  refine k_skip rfl rfl rfl rfl rfl ?_; try simp only [Act.put, List.setIfInBounds_toArray, List.set_cons_zero, List.set_cons_succ, Bool.not_false, Bool.not_true]
  refine k_skip rfl rfl rfl rfl rfl ?_; try simp only [Act.put, List.setIfInBounds_toArray, List.set_cons_zero, List.set_cons_succ, Bool.not_false, Bool.not_true]
  refine k_skip rfl rfl rfl rfl rfl ?_; try simp only [Act.put, List.setIfInBounds_toArray, List.set_cons_zero, List.set_cons_succ, Bool.not_false, Bool.not_true]
  refine k_skip rfl rfl rfl rfl rfl ?_; try simp only [Act.put, List.setIfInBounds_toArray, List.set_cons_zero, List.set_cons_succ, Bool.not_false, Bool.not_true]
  refine k_skip rfl rfl rfl rfl rfl ?_; try simp only [Act.put, List.setIfInBounds_toArray, List.set_cons_zero, List.set_cons_succ, Bool.not_false, Bool.not_true]
  refine k_skip rfl rfl rfl rfl rfl ?_; try simp only [Act.put, List.setIfInBounds_toArray, List.set_cons_zero, List.set_cons_succ, Bool.not_false, Bool.not_true]
  refine k_pickT rfl _ _ _ rfl rfl rfl ?_; try simp only [Act.put, List.setIfInBounds_toArray, List.set_cons_zero, List.set_cons_succ, Bool.not_false, Bool.not_true]
  refine k_boolm rfl _ rfl rfl ?_; try simp only [Act.put, List.setIfInBounds_toArray, List.set_cons_zero, List.set_cons_succ, Bool.not_false, Bool.not_true]
  refine k_skip rfl rfl rfl rfl rfl ?_; try simp only [Act.put, List.setIfInBounds_toArray, List.set_cons_zero, List.set_cons_succ, Bool.not_false, Bool.not_true]
  refine k_skip rfl rfl rfl rfl rfl ?_; try simp only [Act.put, List.setIfInBounds_toArray, List.set_cons_zero, List.set_cons_succ, Bool.not_false, Bool.not_true]
  refine k_skip rfl rfl rfl rfl rfl ?_; try simp only [Act.put, List.setIfInBounds_toArray, List.set_cons_zero, List.set_cons_succ, Bool.not_false, Bool.not_true]
  refine k_skip rfl rfl rfl rfl rfl ?_; try simp only [Act.put, List.setIfInBounds_toArray, List.set_cons_zero, List.set_cons_succ, Bool.not_false, Bool.not_true]
  refine k_skip rfl rfl rfl rfl rfl ?_; try simp only [Act.put, List.setIfInBounds_toArray, List.set_cons_zero, List.set_cons_succ, Bool.not_false, Bool.not_true]
  refine k_skip rfl rfl rfl rfl rfl ?_; try simp only [Act.put, List.setIfInBounds_toArray, List.set_cons_zero, List.set_cons_succ, Bool.not_false, Bool.not_true]
  refine k_skip rfl rfl rfl rfl rfl ?_; try simp only [Act.put, List.setIfInBounds_toArray, List.set_cons_zero, List.set_cons_succ, Bool.not_false, Bool.not_true]
  refine k_pickT rfl _ _ _ rfl rfl rfl ?_; try simp only [Act.put, List.setIfInBounds_toArray, List.set_cons_zero, List.set_cons_succ, Bool.not_false, Bool.not_true]
  refine k_end ?_
  rintro w8 rfl
  go_wp2_with (first
    | (refine st_store (b := b2) (c' := bodyC 0 zeros32 zeros32 zeros32) hS rfl 25 _ _ rfl rfl rfl (.tail .head) body_size (bodyC_size _ _ _ _) (bodyC_size _ _ _ _) (bodyC_one _ _ _ _) ?_; clear hS; intro w6 hS))
  exact post_cell_one 2 3 25 rfl rfl rfl rfl (hS.get (.tail .head)) hty rfl body_size (bodyC_size _ _ _ _) ⟨hS.frame, by rw [HR.out]; rfl⟩
set_option maxHeartbeats 4000000 in
theorem rr_len (v : Value) (L : List Nat) (w : World) (hm : L.length < 4611686018427387904) (hv : RdA [] w v L) (he : rdErr L = 0) (l : List It) (ht : rdItem L = .lst l) (hl : l.length ≠ 4) : Calls Tryz.prog 11 #[v] w (RRPost L w) := by
  obtain ⟨f0, f1, f2, f3, hty, -⟩ := body_ty
  obtain ⟨g0, g1, g2, hti, -⟩ := item_ty
  have hS := St.start w
  have kb := build_body0
  obtain ⟨p, n, c, rfl⟩ := slice_keep hv
  have HV := Lib.hid (fun (w' : World) (h : Tch [] w w') => refread_any _ L w' hm (hv.tch h))
  have HR := Lib.hid (show bdRead L = none by
    unfold bdRead; rw [if_pos he, ht]
    cases hb : bdOf (.lst l) with
    | none => rfl
    | some x =>
      exfalso
      unfold bdOf at hb
      split at hb
      · rename_i heq; cases heq; exact hl rfl
      · cases hb)
  have HE := Lib.hid (And.intro he (And.intro ht hl))
  clear he ht hl
  clear hv hm
  go_enter Tryz.func11, Tryz.ntmps11
  go_upto_region 2 with (first
    | (refine st_new (L := []) hS rfl 25 rfl body_zero ?_; clear hS; intro w2 b2 hS)
    | (go_at_call 34; refine (HV.out _ hS.frame).mono ?_; rintro e w3 ⟨hT3, d, p1, n1, c1, p2, n2, c2, rfl, hI3⟩; rw [HE.out.1]; (have hq := hI3 [] (by simp)); rw [HE.out.2.1] at hq; obtain ⟨rfl, hn2⟩ := itc_len hq; have HN2 := Lib.hid hn2; clear hq hI3 hn2; replace hS := hS.call hT3; clear hT3)
    | (refine st_newT (L := [(b2, 25, bodyC 0 zeros32 zeros32 zeros32)]) hS rfl 68 rfl itemN_zero ?_; clear hS; intro w4 b4 hS hT4 hb4)
    | (refine st_storeO (b := b4) (c' := #[.bool true, .slice p1 n1 c1, .slice p2 n2 c2]) hS rfl 68 _ _ rfl rfl rfl .head itemN_size (by rfl) (by rfl) (oneN3 rfl rfl rfl) ?_; clear hS; intro w5 hS hO5))
  have hne : ((n2 : Int) != 4) = true := by have h1 := HN2.out; have h2 := HE.out.2.2; simp; omega
  refine k_seq (C := fun w' => w' = w5) rfl ?_
  refine k_intm rfl _ rfl rfl ?_; try simp only [Act.put, List.setIfInBounds_toArray, List.set_cons_zero, List.set_cons_succ, Bool.not_false, Bool.not_true]
  refine k_neqs (t := false) rfl _ _ _ rfl rfl rfl (by decide) ?_; try simp only [Act.put, List.setIfInBounds_toArray, List.set_cons_zero, List.set_cons_succ, Bool.not_false, Bool.not_true]
  refine k_boolm rfl _ rfl rfl ?_; try simp only [Act.put, List.setIfInBounds_toArray, List.set_cons_zero, List.set_cons_succ, Bool.not_false, Bool.not_true]
  refine k_fld rfl _ _ _ rfl rfl (item_f0 _) ?_; try simp only [Act.put, List.setIfInBounds_toArray, List.set_cons_zero, List.set_cons_succ, Bool.not_false, Bool.not_true]
  refine k_cellC rfl _ _ rfl rfl (by rintro w' rfl; exact (hS.get .head).cell (j := 0) rfl) bool_aggN ?_; try simp only [Act.put, List.setIfInBounds_toArray, List.set_cons_zero, List.set_cons_succ, Bool.not_false, Bool.not_true]
  refine k_not rfl _ _ rfl rfl ?_; try simp only [Act.put, List.setIfInBounds_toArray, List.set_cons_zero, List.set_cons_succ, Bool.not_false, Bool.not_true]
  refine k_pickF rfl _ _ _ rfl rfl rfl ?_; try simp only [Act.put, List.setIfInBounds_toArray, List.set_cons_zero, List.set_cons_succ, Bool.not_false, Bool.not_true]
  refine k_boolm rfl _ rfl rfl ?_; try simp only [Act.put, List.setIfInBounds_toArray, List.set_cons_zero, List.set_cons_succ, Bool.not_false, Bool.not_true]
  refine k_fld rfl _ _ _ rfl rfl (item_f2 _) ?_; try simp only [Act.put, List.setIfInBounds_toArray, List.set_cons_zero, List.set_cons_succ, Bool.not_false, Bool.not_true]
  refine k_cellC rfl _ _ rfl rfl (by rintro w' rfl; exact (hS.get .head).cell (j := 2) rfl) itemsl_aggQ ?_; try simp only [Act.put, List.setIfInBounds_toArray, List.set_cons_zero, List.set_cons_succ, Bool.not_false, Bool.not_true]
  refine k_lenQ rfl _ rfl rfl ?_; try simp only [Act.put, List.setIfInBounds_toArray, List.set_cons_zero, List.set_cons_succ, Bool.not_false, Bool.not_true]
  refine k_neqs (t := true) rfl _ _ _ rfl rfl rfl (hne) ?_; try simp only [Act.put, List.setIfInBounds_toArray, List.set_cons_zero, List.set_cons_succ, Bool.not_false, Bool.not_true]
  refine k_pickF rfl _ _ _ rfl rfl rfl ?_; try simp only [Act.put, List.setIfInBounds_toArray, List.set_cons_zero, List.set_cons_succ, Bool.not_false, Bool.not_true]
  refine k_boolm rfl _ rfl rfl ?_; try simp only [Act.put, List.setIfInBounds_toArray, List.set_cons_zero, List.set_cons_succ, Bool.not_false, Bool.not_true]
  refine k_skip rfl rfl rfl rfl rfl ?_; try simp only [Act.put, List.setIfInBounds_toArray, List.set_cons_zero, List.set_cons_succ, Bool.not_false, Bool.not_true]
  refine k_skip rfl rfl rfl rfl rfl ?_; try simp only [Act.put, List.setIfInBounds_toArray, List.set_cons_zero, List.set_cons_succ, Bool.not_false, Bool.not_true]
  refine k_skip rfl rfl rfl rfl rfl ?_; try simp only [Act.put, List.setIfInBounds_toArray, List.set_cons_zero, List.set_cons_succ, Bool.not_false, Bool.not_true]
  refine k_skip rfl rfl rfl rfl rfl ?_; try simp only [Act.put, List.setIfInBounds_toArray, List.set_cons_zero, List.set_cons_succ, Bool.not_false, Bool.not_true]
  refine k_skip rfl rfl rfl rfl rfl ?_; try simp only [Act.put, List.setIfInBounds_toArray, List.set_cons_zero, List.set_cons_succ, Bool.not_false, Bool.not_true]
  refine k_pickT rfl _ _ _ rfl rfl rfl ?_; try simp only [Act.put, List.setIfInBounds_toArray, List.set_cons_zero, List.set_cons_succ, Bool.not_false, Bool.not_true]
  refine k_boolm rfl _ rfl rfl ?_; try simp only [Act.put, List.setIfInBounds_toArray, List.set_cons_zero, List.set_cons_succ, Bool.not_false, Bool.not_true]
  refine k_skip rfl rfl rfl rfl rfl ?_; try simp only [Act.put, List.setIfInBounds_toArray, List.set_cons_zero, List.set_cons_succ, Bool.not_false, Bool.not_true]
  refine k_skip rfl rfl rfl rfl rfl ?_; try simp only [Act.put, List.setIfInBounds_toArray, List.set_cons_zero, List.set_cons_succ, Bool.not_false, Bool.not_true]
  refine k_skip rfl rfl rfl rfl rfl ?_; try simp only [Act.put, List.setIfInBounds_toArray, List.set_cons_zero, List.set_cons_succ, Bool.not_false, Bool.not_true]
  refine k_skip rfl rfl rfl rfl rfl ?_; try simp only [Act.put, List.setIfInBounds_toArray, List.set_cons_zero, List.set_cons_succ, Bool.not_false, Bool.not_true]
  refine k_skip rfl rfl rfl rfl rfl ?_; try simp only [Act.put, List.setIfInBounds_toArray, List.set_cons_zero, List.set_cons_succ, Bool.not_false, Bool.not_true]
  refine k_pickT rfl _ _ _ rfl rfl rfl ?_; try simp only [Act.put, List.setIfInBounds_toArray, List.set_cons_zero, List.set_cons_succ, Bool.not_false, Bool.not_true]
  refine k_boolm rfl _ rfl rfl ?_; try simp only [Act.put, List.setIfInBounds_toArray, List.set_cons_zero, List.set_cons_succ, Bool.not_false, Bool.not_true]
  refine k_skip rfl rfl rfl rfl rfl ?_; try simp only [Act.put, List.setIfInBounds_toArray, List.set_cons_zero, List.set_cons_succ, Bool.not_false, Bool.not_true]
  refine k_skip rfl rfl rfl rfl rfl ?_; try simp only [Act.put, List.setIfInBounds_toArray, List.set_cons_zero, List.set_cons_succ, Bool.not_false, Bool.not_true]
  refine k_skip rfl rfl rfl rfl rfl ?_; try simp only [Act.put, List.setIfInBounds_toArray, List.set_cons_zero, List.set_cons_succ, Bool.not_false, Bool.not_true]
  refine k_skip rfl rfl rfl rfl rfl ?_; try simp only [Act.put, List.setIfInBounds_toArray, List.set_cons_zero, List.set_cons_succ, Bool.not_false, Bool.not_true]
  refine k_skip rfl rfl rfl rfl rfl ?_; try simp only [Act.put, List.setIfInBounds_toArray, List.set_cons_zero, List.set_cons_succ, Bool.not_false, Bool.not_true]
  refine k_skip rfl rfl rfl rfl rfl ?_; try simp only [Act.put, List.setIfInBounds_toArray, List.set_cons_zero, List.set_cons_succ, Bool.not_false, Bool.not_true]
  refine k_skip rfl rfl rfl rfl rfl ?_; try simp only [Act.put, List.setIfInBounds_toArray, List.set_cons_zero, List.set_cons_succ, Bool.not_false, Bool.not_true]
  refine k_pickT rfl _ _ _ rfl rfl rfl ?_; try simp only [Act.put, List.setIfInBounds_toArray, List.set_cons_zero, List.set_cons_succ, Bool.not_false, Bool.not_true]
  refine k_boolm rfl _ rfl rfl ?_; try simp only [Act.put, List.setIfInBounds_toArray, List.set_cons_zero, List.set_cons_succ, Bool.not_false, Bool.not_true]
  refine k_skip rfl rfl rfl rfl rfl ?_; try simp only [Act.put, List.setIfInBounds_toArray, List.set_cons_zero, List.set_cons_succ, Bool.not_false, Bool.not_true]
  refine k_skip rfl rfl rfl rfl rfl ?_; try simp only [Act.put, List.setIfInBounds_toArray, List.set_cons_zero, List.set_cons_succ, Bool.not_false, Bool.not_true]
  refine k_skip rfl rfl rfl rfl rfl ?_; try simp only [Act.put, List.setIfInBounds_toArray, List.set_cons_zero, List.set_cons_succ, Bool.not_false, Bool.not_true]
  refine k_skip rfl rfl rfl rfl rfl ?_; try simp only [Act.put, List.setIfInBounds_toArray, List.set_cons_zero, List.set_cons_succ, Bool.not_false, Bool.not_true]
  refine k_skip rfl rfl rfl rfl rfl ?_; try simp only [Act.put, List.setIfInBounds_toArray, List.set_cons_zero, List.set_cons_succ, Bool.not_false, Bool.not_true]
  refine k_skip rfl rfl rfl rfl rfl ?_; try simp only [Act.put, List.setIfInBounds_toArray, List.set_cons_zero, List.set_cons_succ, Bool.not_false, Bool.not_true]
  refine k_skip rfl rfl rfl rfl rfl ?_; try simp only [Act.put, List.setIfInBounds_toArray, List.set_cons_zero, List.set_cons_succ, Bool.not_false, Bool.not_true]
  refine k_pickT rfl _ _ _ rfl rfl rfl ?_; try simp only [Act.put, List.setIfInBounds_toArray, List.set_cons_zero, List.set_cons_succ, Bool.not_false, Bool.not_true]
  refine k_end ?_
  rintro w8 rfl
  go_wp2_with (first
    | (refine st_store (b := b2) (c' := bodyC 0 zeros32 zeros32 zeros32) hS rfl 25 _ _ rfl rfl rfl (.tail .head) body_size (bodyC_size _ _ _ _) (bodyC_size _ _ _ _) (bodyC_one _ _ _ _) ?_; clear hS; intro w6 hS))
  exact post_cell_one 2 3 25 rfl rfl rfl rfl (hS.get (.tail .head)) hty rfl body_size (bodyC_size _ _ _ _) ⟨hS.frame, by rw [HR.out]; rfl⟩
set_option maxHeartbeats 4000000 in
theorem rr_l2 (v : Value) (L : List Nat) (w : World) (hm : L.length < 4611686018427387904) (hv : RdA [] w v L) (he : rdErr L = 0) (t0 t1 t3 : It) (ts : List It) (ht : rdItem L = .lst [t0, t1, .lst ts, t3]) : Calls Tryz.prog 11 #[v] w (RRPost L w) := by
  obtain ⟨f0, f1, f2, f3, hty, -⟩ := body_ty
  obtain ⟨g0, g1, g2, hti, -⟩ := item_ty
  have hS := St.start w
  have kb := build_body0
  obtain ⟨p, n, c, rfl⟩ := slice_keep hv
  have HV := Lib.hid (fun (w' : World) (h : Tch [] w w') => refread_any _ L w' hm (hv.tch h))
  have HR := Lib.hid (show bdRead L = none by
    unfold bdRead; rw [if_pos he, ht]
    rfl)
  have HE := Lib.hid (And.intro he ht)
  clear he ht
  clear hv hm
  go_enter Tryz.func11, Tryz.ntmps11
  go_upto_region 2 with (first
    | (refine st_new (L := []) hS rfl 25 rfl body_zero ?_; clear hS; intro w2 b2 hS)
    | (go_at_call 34; refine (HV.out _ hS.frame).mono ?_; rintro e w3 ⟨hT3, d, p1, n1, c1, p2, n2, c2, rfl, hI3⟩; rw [HE.out.1]; (obtain ⟨rfl, rfl, bb, oo, rfl, a0, a1, a2, e0, e1, e2, y0, y1, y2, z0, z1, z2, h4⟩ := four_of (hI3 [b2] (fun x hx => by rw [List.mem_singleton.1 hx]; exact (hS.get .head).lt)) HE.out.2); have H4 := Lib.hid h4; clear h4 hI3; replace hS := hS.call hT3; clear hT3)
    | (refine st_newT (L := [(b2, 25, bodyC 0 zeros32 zeros32 zeros32)]) hS rfl 68 rfl itemN_zero ?_; clear hS; intro w4 b4 hS hT4 hb4)
    | (refine st_storeO (b := b4) (c' := #[.bool true, .slice p1 n1 c1, .slice (some ⟨bb, oo, none⟩) 4 c2]) hS rfl 68 _ _ rfl rfl rfl .head itemN_size (by rfl) (by rfl) (oneN3 rfl rfl rfl) ?_; clear hS; intro w5 hS hO5))
  have H5 := Lib.hid ((H4.out.wide (two_mem hb4)).tch ((hT4.mono (by simp)).only hO5 (.inr (by simp))))
  clear hT4 hb4 hO5 H4
  obtain rfl := itc_lst H5.out.i2.it
  refine k_seq (C := fun w' => w' = w5) rfl ?_
  refine k_intm rfl _ rfl rfl ?_; try simp only [Act.put, List.setIfInBounds_toArray, List.set_cons_zero, List.set_cons_succ, Bool.not_false, Bool.not_true]
  refine k_neqs (t := false) rfl _ _ _ rfl rfl rfl (by decide) ?_; try simp only [Act.put, List.setIfInBounds_toArray, List.set_cons_zero, List.set_cons_succ, Bool.not_false, Bool.not_true]
  refine k_boolm rfl _ rfl rfl ?_; try simp only [Act.put, List.setIfInBounds_toArray, List.set_cons_zero, List.set_cons_succ, Bool.not_false, Bool.not_true]
  refine k_fld rfl _ _ _ rfl rfl (item_f0 _) ?_; try simp only [Act.put, List.setIfInBounds_toArray, List.set_cons_zero, List.set_cons_succ, Bool.not_false, Bool.not_true]
  refine k_cellC rfl _ _ rfl rfl (by rintro w' rfl; exact (hS.get .head).cell (j := 0) rfl) bool_aggN ?_; try simp only [Act.put, List.setIfInBounds_toArray, List.set_cons_zero, List.set_cons_succ, Bool.not_false, Bool.not_true]
  refine k_not rfl _ _ rfl rfl ?_; try simp only [Act.put, List.setIfInBounds_toArray, List.set_cons_zero, List.set_cons_succ, Bool.not_false, Bool.not_true]
  refine k_pickF rfl _ _ _ rfl rfl rfl ?_; try simp only [Act.put, List.setIfInBounds_toArray, List.set_cons_zero, List.set_cons_succ, Bool.not_false, Bool.not_true]
  refine k_boolm rfl _ rfl rfl ?_; try simp only [Act.put, List.setIfInBounds_toArray, List.set_cons_zero, List.set_cons_succ, Bool.not_false, Bool.not_true]
  refine k_fld rfl _ _ _ rfl rfl (item_f2 _) ?_; try simp only [Act.put, List.setIfInBounds_toArray, List.set_cons_zero, List.set_cons_succ, Bool.not_false, Bool.not_true]
  refine k_cellC rfl _ _ rfl rfl (by rintro w' rfl; exact (hS.get .head).cell (j := 2) rfl) itemsl_aggQ ?_; try simp only [Act.put, List.setIfInBounds_toArray, List.set_cons_zero, List.set_cons_succ, Bool.not_false, Bool.not_true]
  refine k_lenQ rfl _ rfl rfl ?_; try simp only [Act.put, List.setIfInBounds_toArray, List.set_cons_zero, List.set_cons_succ, Bool.not_false, Bool.not_true]
  refine k_neqs (t := false) rfl _ _ _ rfl rfl rfl (by decide) ?_; try simp only [Act.put, List.setIfInBounds_toArray, List.set_cons_zero, List.set_cons_succ, Bool.not_false, Bool.not_true]
  refine k_pickF rfl _ _ _ rfl rfl rfl ?_; try simp only [Act.put, List.setIfInBounds_toArray, List.set_cons_zero, List.set_cons_succ, Bool.not_false, Bool.not_true]
  refine k_boolm rfl _ rfl rfl ?_; try simp only [Act.put, List.setIfInBounds_toArray, List.set_cons_zero, List.set_cons_succ, Bool.not_false, Bool.not_true]
  refine k_fld rfl _ _ _ rfl rfl (item_f2 _) ?_; try simp only [Act.put, List.setIfInBounds_toArray, List.set_cons_zero, List.set_cons_succ, Bool.not_false, Bool.not_true]
  refine k_cellC rfl _ _ rfl rfl (by rintro w' rfl; exact (hS.get .head).cell (j := 2) rfl) itemsl_aggQ ?_; try simp only [Act.put, List.setIfInBounds_toArray, List.set_cons_zero, List.set_cons_succ, Bool.not_false, Bool.not_true]
  refine k_idxQ (j := 2) (q := oo + 6) rfl _ _ rfl rfl rfl (by decide) (by omega) ?_; try simp only [Act.put, List.setIfInBounds_toArray, List.set_cons_zero, List.set_cons_succ, Bool.not_false, Bool.not_true]
  refine k_fld rfl _ _ _ rfl rfl (fa_it0 _ _) ?_; try simp only [Act.put, List.setIfInBounds_toArray, List.set_cons_zero, List.set_cons_succ, Bool.not_false, Bool.not_true]
  refine k_cellC rfl _ _ rfl rfl (by rintro w' rfl; exact H5.out.i2.c0) bool_aggN ?_; try simp only [Act.put, List.setIfInBounds_toArray, List.set_cons_zero, List.set_cons_succ, Bool.not_false, Bool.not_true]
  refine k_pickF rfl _ _ _ rfl rfl rfl ?_; try simp only [Act.put, List.setIfInBounds_toArray, List.set_cons_zero, List.set_cons_succ, Bool.not_false, Bool.not_true]
  refine k_boolm rfl _ rfl rfl ?_; try simp only [Act.put, List.setIfInBounds_toArray, List.set_cons_zero, List.set_cons_succ, Bool.not_false, Bool.not_true]
  refine k_skip rfl rfl rfl rfl rfl ?_; try simp only [Act.put, List.setIfInBounds_toArray, List.set_cons_zero, List.set_cons_succ, Bool.not_false, Bool.not_true]
  refine k_skip rfl rfl rfl rfl rfl ?_; try simp only [Act.put, List.setIfInBounds_toArray, List.set_cons_zero, List.set_cons_succ, Bool.not_false, Bool.not_true]
  refine k_skip rfl rfl rfl rfl rfl ?_; try simp only [Act.put, List.setIfInBounds_toArray, List.set_cons_zero, List.set_cons_succ, Bool.not_false, Bool.not_true]
  refine k_skip rfl rfl rfl rfl rfl ?_; try simp only [Act.put, List.setIfInBounds_toArray, List.set_cons_zero, List.set_cons_succ, Bool.not_false, Bool.not_true]
  refine k_skip rfl rfl rfl rfl rfl ?_; try simp only [Act.put, List.setIfInBounds_toArray, List.set_cons_zero, List.set_cons_succ, Bool.not_false, Bool.not_true]
  refine k_pickT rfl _ _ _ rfl rfl rfl ?_; try simp only [Act.put, List.setIfInBounds_toArray, List.set_cons_zero, List.set_cons_succ, Bool.not_false, Bool.not_true]
  refine k_boolm rfl _ rfl rfl ?_; try simp only [Act.put, List.setIfInBounds_toArray, List.set_cons_zero, List.set_cons_succ, Bool.not_false, Bool.not_true]
  refine k_skip rfl rfl rfl rfl rfl ?_; try simp only [Act.put, List.setIfInBounds_toArray, List.set_cons_zero, List.set_cons_succ, Bool.not_false, Bool.not_true]
  refine k_skip rfl rfl rfl rfl rfl ?_; try simp only [Act.put, List.setIfInBounds_toArray, List.set_cons_zero, List.set_cons_succ, Bool.not_false, Bool.not_true]
  refine k_skip rfl rfl rfl rfl rfl ?_; try simp only [Act.put, List.setIfInBounds_toArray, List.set_cons_zero, List.set_cons_succ, Bool.not_false, Bool.not_true]
  refine k_skip rfl rfl rfl rfl rfl ?_; try simp only [Act.put, List.setIfInBounds_toArray, List.set_cons_zero, List.set_cons_succ, Bool.not_false, Bool.not_true]
  refine k_skip rfl rfl rfl rfl rfl ?_; try simp only [Act.put, List.setIfInBounds_toArray, List.set_cons_zero, List.set_cons_succ, Bool.not_false, Bool.not_true]
  refine k_skip rfl rfl rfl rfl rfl ?_; try simp only [Act.put, List.setIfInBounds_toArray, List.set_cons_zero, List.set_cons_succ, Bool.not_false, Bool.not_true]
  refine k_skip rfl rfl rfl rfl rfl ?_; try simp only [Act.put, List.setIfInBounds_toArray, List.set_cons_zero, List.set_cons_succ, Bool.not_false, Bool.not_true]
  refine k_pickT rfl _ _ _ rfl rfl rfl ?_; try simp only [Act.put, List.setIfInBounds_toArray, List.set_cons_zero, List.set_cons_succ, Bool.not_false, Bool.not_true]
  refine k_boolm rfl _ rfl rfl ?_; try simp only [Act.put, List.setIfInBounds_toArray, List.set_cons_zero, List.set_cons_succ, Bool.not_false, Bool.not_true]
  refine k_skip rfl rfl rfl rfl rfl ?_; try simp only [Act.put, List.setIfInBounds_toArray, List.set_cons_zero, List.set_cons_succ, Bool.not_false, Bool.not_true]
  refine k_skip rfl rfl rfl rfl rfl ?_; try simp only [Act.put, List.setIfInBounds_toArray, List.set_cons_zero, List.set_cons_succ, Bool.not_false, Bool.not_true]
  refine k_skip rfl rfl rfl rfl rfl ?_; try simp only [Act.put, List.setIfInBounds_toArray, List.set_cons_zero, List.set_cons_succ, Bool.not_false, Bool.not_true]
  refine k_skip rfl rfl rfl rfl rfl ?_; try simp only [Act.put, List.setIfInBounds_toArray, List.set_cons_zero, List.set_cons_succ, Bool.not_false, Bool.not_true]
  refine k_skip rfl rfl rfl rfl rfl ?_; try simp only [Act.put, List.setIfInBounds_toArray, List.set_cons_zero, List.set_cons_succ, Bool.not_false, Bool.not_true]
  refine k_skip rfl rfl rfl rfl rfl ?_; try simp only [Act.put, List.setIfInBounds_toArray, List.set_cons_zero, List.set_cons_succ, Bool.not_false, Bool.not_true]
  refine k_skip rfl rfl rfl rfl rfl ?_; try simp only [Act.put, List.setIfInBounds_toArray, List.set_cons_zero, List.set_cons_succ, Bool.not_false, Bool.not_true]
  refine k_pickT rfl _ _ _ rfl rfl rfl ?_; try simp only [Act.put, List.setIfInBounds_toArray, List.set_cons_zero, List.set_cons_succ, Bool.not_false, Bool.not_true]
  refine k_end ?_
  rintro w8 rfl
  go_wp2_with (first
    | (refine st_store (b := b2) (c' := bodyC 0 zeros32 zeros32 zeros32) hS rfl 25 _ _ rfl rfl rfl (.tail .head) body_size (bodyC_size _ _ _ _) (bodyC_size _ _ _ _) (bodyC_one _ _ _ _) ?_; clear hS; intro w6 hS))
  exact post_cell_one 2 3 25 rfl rfl rfl rfl (hS.get (.tail .head)) hty rfl body_size (bodyC_size _ _ _ _) ⟨hS.frame, by rw [HR.out]; rfl⟩
set_option maxHeartbeats 4000000 in
theorem rr_l3 (v : Value) (L : List Nat) (w : World) (hm : L.length < 4611686018427387904) (hv : RdA [] w v L) (he : rdErr L = 0) (t0 t1 : It) (r : List Nat) (ts : List It) (ht : rdItem L = .lst [t0, t1, .str r, .lst ts]) : Calls Tryz.prog 11 #[v] w (RRPost L w) := by
  obtain ⟨f0, f1, f2, f3, hty, -⟩ := body_ty
  obtain ⟨g0, g1, g2, hti, -⟩ := item_ty
  have hS := St.start w
  have kb := build_body0
  obtain ⟨p, n, c, rfl⟩ := slice_keep hv
  have HV := Lib.hid (fun (w' : World) (h : Tch [] w w') => refread_any _ L w' hm (hv.tch h))
  have HR := Lib.hid (show bdRead L = none by
    unfold bdRead; rw [if_pos he, ht]
    rfl)
  have HE := Lib.hid (And.intro he ht)
  clear he ht
  clear hv hm
  go_enter Tryz.func11, Tryz.ntmps11
  go_upto_region 2 with (first
    | (refine st_new (L := []) hS rfl 25 rfl body_zero ?_; clear hS; intro w2 b2 hS)
    | (go_at_call 34; refine (HV.out _ hS.frame).mono ?_; rintro e w3 ⟨hT3, d, p1, n1, c1, p2, n2, c2, rfl, hI3⟩; rw [HE.out.1]; (obtain ⟨rfl, rfl, bb, oo, rfl, a0, a1, a2, e0, e1, e2, y0, y1, y2, z0, z1, z2, h4⟩ := four_of (hI3 [b2] (fun x hx => by rw [List.mem_singleton.1 hx]; exact (hS.get .head).lt)) HE.out.2); have H4 := Lib.hid h4; clear h4 hI3; replace hS := hS.call hT3; clear hT3)
    | (refine st_newT (L := [(b2, 25, bodyC 0 zeros32 zeros32 zeros32)]) hS rfl 68 rfl itemN_zero ?_; clear hS; intro w4 b4 hS hT4 hb4)
    | (refine st_storeO (b := b4) (c' := #[.bool true, .slice p1 n1 c1, .slice (some ⟨bb, oo, none⟩) 4 c2]) hS rfl 68 _ _ rfl rfl rfl .head itemN_size (by rfl) (by rfl) (oneN3 rfl rfl rfl) ?_; clear hS; intro w5 hS hO5))
  have H5 := Lib.hid ((H4.out.wide (two_mem hb4)).tch ((hT4.mono (by simp)).only hO5 (.inr (by simp))))
  clear hT4 hb4 hO5 H4
  obtain ⟨rfl, pr, cr, rfl, -⟩ := itc_str H5.out.i2.it
  obtain rfl := itc_lst H5.out.i3.it
  refine k_seq (C := fun w' => w' = w5) rfl ?_
  refine k_intm rfl _ rfl rfl ?_; try simp only [Act.put, List.setIfInBounds_toArray, List.set_cons_zero, List.set_cons_succ, Bool.not_false, Bool.not_true]
  refine k_neqs (t := false) rfl _ _ _ rfl rfl rfl (by decide) ?_; try simp only [Act.put, List.setIfInBounds_toArray, List.set_cons_zero, List.set_cons_succ, Bool.not_false, Bool.not_true]
  refine k_boolm rfl _ rfl rfl ?_; try simp only [Act.put, List.setIfInBounds_toArray, List.set_cons_zero, List.set_cons_succ, Bool.not_false, Bool.not_true]
  refine k_fld rfl _ _ _ rfl rfl (item_f0 _) ?_; try simp only [Act.put, List.setIfInBounds_toArray, List.set_cons_zero, List.set_cons_succ, Bool.not_false, Bool.not_true]
  refine k_cellC rfl _ _ rfl rfl (by rintro w' rfl; exact (hS.get .head).cell (j := 0) rfl) bool_aggN ?_; try simp only [Act.put, List.setIfInBounds_toArray, List.set_cons_zero, List.set_cons_succ, Bool.not_false, Bool.not_true]
  refine k_not rfl _ _ rfl rfl ?_; try simp only [Act.put, List.setIfInBounds_toArray, List.set_cons_zero, List.set_cons_succ, Bool.not_false, Bool.not_true]
  refine k_pickF rfl _ _ _ rfl rfl rfl ?_; try simp only [Act.put, List.setIfInBounds_toArray, List.set_cons_zero, List.set_cons_succ, Bool.not_false, Bool.not_true]
  refine k_boolm rfl _ rfl rfl ?_; try simp only [Act.put, List.setIfInBounds_toArray, List.set_cons_zero, List.set_cons_succ, Bool.not_false, Bool.not_true]
  refine k_fld rfl _ _ _ rfl rfl (item_f2 _) ?_; try simp only [Act.put, List.setIfInBounds_toArray, List.set_cons_zero, List.set_cons_succ, Bool.not_false, Bool.not_true]
  refine k_cellC rfl _ _ rfl rfl (by rintro w' rfl; exact (hS.get .head).cell (j := 2) rfl) itemsl_aggQ ?_; try simp only [Act.put, List.setIfInBounds_toArray, List.set_cons_zero, List.set_cons_succ, Bool.not_false, Bool.not_true]
  refine k_lenQ rfl _ rfl rfl ?_; try simp only [Act.put, List.setIfInBounds_toArray, List.set_cons_zero, List.set_cons_succ, Bool.not_false, Bool.not_true]
  refine k_neqs (t := false) rfl _ _ _ rfl rfl rfl (by decide) ?_; try simp only [Act.put, List.setIfInBounds_toArray, List.set_cons_zero, List.set_cons_succ, Bool.not_false, Bool.not_true]
  refine k_pickF rfl _ _ _ rfl rfl rfl ?_; try simp only [Act.put, List.setIfInBounds_toArray, List.set_cons_zero, List.set_cons_succ, Bool.not_false, Bool.not_true]
  refine k_boolm rfl _ rfl rfl ?_; try simp only [Act.put, List.setIfInBounds_toArray, List.set_cons_zero, List.set_cons_succ, Bool.not_false, Bool.not_true]
  refine k_fld rfl _ _ _ rfl rfl (item_f2 _) ?_; try simp only [Act.put, List.setIfInBounds_toArray, List.set_cons_zero, List.set_cons_succ, Bool.not_false, Bool.not_true]
  refine k_cellC rfl _ _ rfl rfl (by rintro w' rfl; exact (hS.get .head).cell (j := 2) rfl) itemsl_aggQ ?_; try simp only [Act.put, List.setIfInBounds_toArray, List.set_cons_zero, List.set_cons_succ, Bool.not_false, Bool.not_true]
  refine k_idxQ (j := 2) (q := oo + 6) rfl _ _ rfl rfl rfl (by decide) (by omega) ?_; try simp only [Act.put, List.setIfInBounds_toArray, List.set_cons_zero, List.set_cons_succ, Bool.not_false, Bool.not_true]
  refine k_fld rfl _ _ _ rfl rfl (fa_it0 _ _) ?_; try simp only [Act.put, List.setIfInBounds_toArray, List.set_cons_zero, List.set_cons_succ, Bool.not_false, Bool.not_true]
  refine k_cellC rfl _ _ rfl rfl (by rintro w' rfl; exact H5.out.i2.c0) bool_aggN ?_; try simp only [Act.put, List.setIfInBounds_toArray, List.set_cons_zero, List.set_cons_succ, Bool.not_false, Bool.not_true]
  refine k_pickF rfl _ _ _ rfl rfl rfl ?_; try simp only [Act.put, List.setIfInBounds_toArray, List.set_cons_zero, List.set_cons_succ, Bool.not_false, Bool.not_true]
  refine k_boolm rfl _ rfl rfl ?_; try simp only [Act.put, List.setIfInBounds_toArray, List.set_cons_zero, List.set_cons_succ, Bool.not_false, Bool.not_true]
  refine k_fld rfl _ _ _ rfl rfl (item_f2 _) ?_; try simp only [Act.put, List.setIfInBounds_toArray, List.set_cons_zero, List.set_cons_succ, Bool.not_false, Bool.not_true]
  refine k_cellC rfl _ _ rfl rfl (by rintro w' rfl; exact (hS.get .head).cell (j := 2) rfl) itemsl_aggQ ?_; try simp only [Act.put, List.setIfInBounds_toArray, List.set_cons_zero, List.set_cons_succ, Bool.not_false, Bool.not_true]
  refine k_idxQ (j := 3) (q := oo + 9) rfl _ _ rfl rfl rfl (by decide) (by omega) ?_; try simp only [Act.put, List.setIfInBounds_toArray, List.set_cons_zero, List.set_cons_succ, Bool.not_false, Bool.not_true]
  refine k_fld rfl _ _ _ rfl rfl (fa_it0 _ _) ?_; try simp only [Act.put, List.setIfInBounds_toArray, List.set_cons_zero, List.set_cons_succ, Bool.not_false, Bool.not_true]
  refine k_cellC rfl _ _ rfl rfl (by rintro w' rfl; exact H5.out.i3.c0) bool_aggN ?_; try simp only [Act.put, List.setIfInBounds_toArray, List.set_cons_zero, List.set_cons_succ, Bool.not_false, Bool.not_true]
  refine k_pickF rfl _ _ _ rfl rfl rfl ?_; try simp only [Act.put, List.setIfInBounds_toArray, List.set_cons_zero, List.set_cons_succ, Bool.not_false, Bool.not_true]
  refine k_boolm rfl _ rfl rfl ?_; try simp only [Act.put, List.setIfInBounds_toArray, List.set_cons_zero, List.set_cons_succ, Bool.not_false, Bool.not_true]
  refine k_skip rfl rfl rfl rfl rfl ?_; try simp only [Act.put, List.setIfInBounds_toArray, List.set_cons_zero, List.set_cons_succ, Bool.not_false, Bool.not_true]
  refine k_skip rfl rfl rfl rfl rfl ?_; try simp only [Act.put, List.setIfInBounds_toArray, List.set_cons_zero, List.set_cons_succ, Bool.not_false, Bool.not_true]
  refine k_skip rfl rfl rfl rfl rfl ?_; try simp only [Act.put, List.setIfInBounds_toArray, List.set_cons_zero, List.set_cons_succ, Bool.not_false, Bool.not_true]
  refine k_skip rfl rfl rfl rfl rfl ?_; try simp only [Act.put, List.setIfInBounds_toArray, List.set_cons_zero, List.set_cons_succ, Bool.not_false, Bool.not_true]
  refine k_skip rfl rfl rfl rfl rfl ?_; try simp only [Act.put, List.setIfInBounds_toArray, List.set_cons_zero, List.set_cons_succ, Bool.not_false, Bool.not_true]
  refine k_skip rfl rfl rfl rfl rfl ?_; try simp only [Act.put, List.setIfInBounds_toArray, List.set_cons_zero, List.set_cons_succ, Bool.not_false, Bool.not_true]
  refine k_skip rfl rfl rfl rfl rfl ?_; try simp only [Act.put, List.setIfInBounds_toArray, List.set_cons_zero, List.set_cons_succ, Bool.not_false, Bool.not_true]
  refine k_pickT rfl _ _ _ rfl rfl rfl ?_; try simp only [Act.put, List.setIfInBounds_toArray, List.set_cons_zero, List.set_cons_succ, Bool.not_false, Bool.not_true]
  refine k_boolm rfl _ rfl rfl ?_; try simp only [Act.put, List.setIfInBounds_toArray, List.set_cons_zero, List.set_cons_succ, Bool.not_false, Bool.not_true]
  refine k_skip rfl rfl rfl rfl rfl ?_; try simp only [Act.put, List.setIfInBounds_toArray, List.set_cons_zero, List.set_cons_succ, Bool.not_false, Bool.not_true]
  refine k_skip rfl rfl rfl rfl rfl ?_; try simp only [Act.put, List.setIfInBounds_toArray, List.set_cons_zero, List.set_cons_succ, Bool.not_false, Bool.not_true]
  refine k_skip rfl rfl rfl rfl rfl ?_; try simp only [Act.put, List.setIfInBounds_toArray, List.set_cons_zero, List.set_cons_succ, Bool.not_false, Bool.not_true]
  refine k_skip rfl rfl rfl rfl rfl ?_; try simp only [Act.put, List.setIfInBounds_toArray, List.set_cons_zero, List.set_cons_succ, Bool.not_false, Bool.not_true]
  refine k_skip rfl rfl rfl rfl rfl ?_; try simp only [Act.put, List.setIfInBounds_toArray, List.set_cons_zero, List.set_cons_succ, Bool.not_false, Bool.not_true]
  refine k_skip rfl rfl rfl rfl rfl ?_; try simp only [Act.put, List.setIfInBounds_toArray, List.set_cons_zero, List.set_cons_succ, Bool.not_false, Bool.not_true]
  refine k_skip rfl rfl rfl rfl rfl ?_; try simp only [Act.put, List.setIfInBounds_toArray, List.set_cons_zero, List.set_cons_succ, Bool.not_false, Bool.not_true]
  refine k_pickT rfl _ _ _ rfl rfl rfl ?_; try simp only [Act.put, List.setIfInBounds_toArray, List.set_cons_zero, List.set_cons_succ, Bool.not_false, Bool.not_true]
  refine k_end ?_
  rintro w8 rfl
  go_wp2_with (first
    | (refine st_store (b := b2) (c' := bodyC 0 zeros32 zeros32 zeros32) hS rfl 25 _ _ rfl rfl rfl (.tail .head) body_size (bodyC_size _ _ _ _) (bodyC_size _ _ _ _) (bodyC_one _ _ _ _) ?_; clear hS; intro w6 hS))
  exact post_cell_one 2 3 25 rfl rfl rfl rfl (hS.get (.tail .head)) hty rfl body_size (bodyC_size _ _ _ _) ⟨hS.frame, by rw [HR.out]; rfl⟩
set_option maxHeartbeats 4000000 in
theorem rr_n2 (v : Value) (L : List Nat) (w : World) (hm : L.length < 4611686018427387904) (hv : RdA [] w v L) (he : rdErr L = 0) (t0 t1 : It) (r h : List Nat) (ht : rdItem L = .lst [t0, t1, .str r, .str h]) (hl : r.length ≠ 32) : Calls Tryz.prog 11 #[v] w (RRPost L w) := by
  obtain ⟨f0, f1, f2, f3, hty, -⟩ := body_ty
  obtain ⟨g0, g1, g2, hti, -⟩ := item_ty
  have hS := St.start w
  have kb := build_body0
  obtain ⟨p, n, c, rfl⟩ := slice_keep hv
  have HV := Lib.hid (fun (w' : World) (h : Tch [] w w') => refread_any _ L w' hm (hv.tch h))
  have HR := Lib.hid (show bdRead L = none by
    unfold bdRead; rw [if_pos he, ht]
    cases hb : bdOf (.lst [t0, t1, .str r, .str h]) with
    | none => rfl
    | some x =>
      exfalso
      unfold bdOf at hb
      simp only at hb
      split at hb
      · split at hb
        · rename_i hh; exact hl (hh.1)
        · cases hb
      · cases hb)
  have HE := Lib.hid (And.intro he ht)
  clear he ht
  clear hv hm
  go_enter Tryz.func11, Tryz.ntmps11
  go_upto_region 2 with (first
    | (refine st_new (L := []) hS rfl 25 rfl body_zero ?_; clear hS; intro w2 b2 hS)
    | (go_at_call 34; refine (HV.out _ hS.frame).mono ?_; rintro e w3 ⟨hT3, d, p1, n1, c1, p2, n2, c2, rfl, hI3⟩; rw [HE.out.1]; (obtain ⟨rfl, rfl, bb, oo, rfl, a0, a1, a2, e0, e1, e2, y0, y1, y2, z0, z1, z2, h4⟩ := four_of (hI3 [b2] (fun x hx => by rw [List.mem_singleton.1 hx]; exact (hS.get .head).lt)) HE.out.2); have H4 := Lib.hid h4; clear h4 hI3; replace hS := hS.call hT3; clear hT3)
    | (refine st_newT (L := [(b2, 25, bodyC 0 zeros32 zeros32 zeros32)]) hS rfl 68 rfl itemN_zero ?_; clear hS; intro w4 b4 hS hT4 hb4)
    | (refine st_storeO (b := b4) (c' := #[.bool true, .slice p1 n1 c1, .slice (some ⟨bb, oo, none⟩) 4 c2]) hS rfl 68 _ _ rfl rfl rfl .head itemN_size (by rfl) (by rfl) (oneN3 rfl rfl rfl) ?_; clear hS; intro w5 hS hO5))
  have H5 := Lib.hid ((H4.out.wide (two_mem hb4)).tch ((hT4.mono (by simp)).only hO5 (.inr (by simp))))
  clear hT4 hb4 hO5 H4
  obtain ⟨rfl, pr, cr, rfl, -⟩ := itc_str H5.out.i2.it
  obtain ⟨rfl, ph, ch, rfl, -⟩ := itc_str H5.out.i3.it
  have hne : ((r.length : Int) != 32) = true := by simp; omega
  refine k_seq (C := fun w' => w' = w5) rfl ?_
  refine k_intm rfl _ rfl rfl ?_; try simp only [Act.put, List.setIfInBounds_toArray, List.set_cons_zero, List.set_cons_succ, Bool.not_false, Bool.not_true]
  refine k_neqs (t := false) rfl _ _ _ rfl rfl rfl (by decide) ?_; try simp only [Act.put, List.setIfInBounds_toArray, List.set_cons_zero, List.set_cons_succ, Bool.not_false, Bool.not_true]
  refine k_boolm rfl _ rfl rfl ?_; try simp only [Act.put, List.setIfInBounds_toArray, List.set_cons_zero, List.set_cons_succ, Bool.not_false, Bool.not_true]
  refine k_fld rfl _ _ _ rfl rfl (item_f0 _) ?_; try simp only [Act.put, List.setIfInBounds_toArray, List.set_cons_zero, List.set_cons_succ, Bool.not_false, Bool.not_true]
  refine k_cellC rfl _ _ rfl rfl (by rintro w' rfl; exact (hS.get .head).cell (j := 0) rfl) bool_aggN ?_; try simp only [Act.put, List.setIfInBounds_toArray, List.set_cons_zero, List.set_cons_succ, Bool.not_false, Bool.not_true]
  refine k_not rfl _ _ rfl rfl ?_; try simp only [Act.put, List.setIfInBounds_toArray, List.set_cons_zero, List.set_cons_succ, Bool.not_false, Bool.not_true]
  refine k_pickF rfl _ _ _ rfl rfl rfl ?_; try simp only [Act.put, List.setIfInBounds_toArray, List.set_cons_zero, List.set_cons_succ, Bool.not_false, Bool.not_true]
  refine k_boolm rfl _ rfl rfl ?_; try simp only [Act.put, List.setIfInBounds_toArray, List.set_cons_zero, List.set_cons_succ, Bool.not_false, Bool.not_true]
  refine k_fld rfl _ _ _ rfl rfl (item_f2 _) ?_; try simp only [Act.put, List.setIfInBounds_toArray, List.set_cons_zero, List.set_cons_succ, Bool.not_false, Bool.not_true]
  refine k_cellC rfl _ _ rfl rfl (by rintro w' rfl; exact (hS.get .head).cell (j := 2) rfl) itemsl_aggQ ?_; try simp only [Act.put, List.setIfInBounds_toArray, List.set_cons_zero, List.set_cons_succ, Bool.not_false, Bool.not_true]
  refine k_lenQ rfl _ rfl rfl ?_; try simp only [Act.put, List.setIfInBounds_toArray, List.set_cons_zero, List.set_cons_succ, Bool.not_false, Bool.not_true]
  refine k_neqs (t := false) rfl _ _ _ rfl rfl rfl (by decide) ?_; try simp only [Act.put, List.setIfInBounds_toArray, List.set_cons_zero, List.set_cons_succ, Bool.not_false, Bool.not_true]
  refine k_pickF rfl _ _ _ rfl rfl rfl ?_; try simp only [Act.put, List.setIfInBounds_toArray, List.set_cons_zero, List.set_cons_succ, Bool.not_false, Bool.not_true]
  refine k_boolm rfl _ rfl rfl ?_; try simp only [Act.put, List.setIfInBounds_toArray, List.set_cons_zero, List.set_cons_succ, Bool.not_false, Bool.not_true]
  refine k_fld rfl _ _ _ rfl rfl (item_f2 _) ?_; try simp only [Act.put, List.setIfInBounds_toArray, List.set_cons_zero, List.set_cons_succ, Bool.not_false, Bool.not_true]
  refine k_cellC rfl _ _ rfl rfl (by rintro w' rfl; exact (hS.get .head).cell (j := 2) rfl) itemsl_aggQ ?_; try simp only [Act.put, List.setIfInBounds_toArray, List.set_cons_zero, List.set_cons_succ, Bool.not_false, Bool.not_true]
  refine k_idxQ (j := 2) (q := oo + 6) rfl _ _ rfl rfl rfl (by decide) (by omega) ?_; try simp only [Act.put, List.setIfInBounds_toArray, List.set_cons_zero, List.set_cons_succ, Bool.not_false, Bool.not_true]
  refine k_fld rfl _ _ _ rfl rfl (fa_it0 _ _) ?_; try simp only [Act.put, List.setIfInBounds_toArray, List.set_cons_zero, List.set_cons_succ, Bool.not_false, Bool.not_true]
  refine k_cellC rfl _ _ rfl rfl (by rintro w' rfl; exact H5.out.i2.c0) bool_aggN ?_; try simp only [Act.put, List.setIfInBounds_toArray, List.set_cons_zero, List.set_cons_succ, Bool.not_false, Bool.not_true]
  refine k_pickF rfl _ _ _ rfl rfl rfl ?_; try simp only [Act.put, List.setIfInBounds_toArray, List.set_cons_zero, List.set_cons_succ, Bool.not_false, Bool.not_true]
  refine k_boolm rfl _ rfl rfl ?_; try simp only [Act.put, List.setIfInBounds_toArray, List.set_cons_zero, List.set_cons_succ, Bool.not_false, Bool.not_true]
  refine k_fld rfl _ _ _ rfl rfl (item_f2 _) ?_; try simp only [Act.put, List.setIfInBounds_toArray, List.set_cons_zero, List.set_cons_succ, Bool.not_false, Bool.not_true]
  refine k_cellC rfl _ _ rfl rfl (by rintro w' rfl; exact (hS.get .head).cell (j := 2) rfl) itemsl_aggQ ?_; try simp only [Act.put, List.setIfInBounds_toArray, List.set_cons_zero, List.set_cons_succ, Bool.not_false, Bool.not_true]
  refine k_idxQ (j := 3) (q := oo + 9) rfl _ _ rfl rfl rfl (by decide) (by omega) ?_; try simp only [Act.put, List.setIfInBounds_toArray, List.set_cons_zero, List.set_cons_succ, Bool.not_false, Bool.not_true]
  refine k_fld rfl _ _ _ rfl rfl (fa_it0 _ _) ?_; try simp only [Act.put, List.setIfInBounds_toArray, List.set_cons_zero, List.set_cons_succ, Bool.not_false, Bool.not_true]
  refine k_cellC rfl _ _ rfl rfl (by rintro w' rfl; exact H5.out.i3.c0) bool_aggN ?_; try simp only [Act.put, List.setIfInBounds_toArray, List.set_cons_zero, List.set_cons_succ, Bool.not_false, Bool.not_true]
  refine k_pickF rfl _ _ _ rfl rfl rfl ?_; try simp only [Act.put, List.setIfInBounds_toArray, List.set_cons_zero, List.set_cons_succ, Bool.not_false, Bool.not_true]
  refine k_boolm rfl _ rfl rfl ?_; try simp only [Act.put, List.setIfInBounds_toArray, List.set_cons_zero, List.set_cons_succ, Bool.not_false, Bool.not_true]
  refine k_fld rfl _ _ _ rfl rfl (item_f2 _) ?_; try simp only [Act.put, List.setIfInBounds_toArray, List.set_cons_zero, List.set_cons_succ, Bool.not_false, Bool.not_true]
  refine k_cellC rfl _ _ rfl rfl (by rintro w' rfl; exact (hS.get .head).cell (j := 2) rfl) itemsl_aggQ ?_; try simp only [Act.put, List.setIfInBounds_toArray, List.set_cons_zero, List.set_cons_succ, Bool.not_false, Bool.not_true]
  refine k_idxQ (j := 2) (q := oo + 6) rfl _ _ rfl rfl rfl (by decide) (by omega) ?_; try simp only [Act.put, List.setIfInBounds_toArray, List.set_cons_zero, List.set_cons_succ, Bool.not_false, Bool.not_true]
  refine k_fld rfl _ _ _ rfl rfl (fa_it1 _ _) ?_; try simp only [Act.put, List.setIfInBounds_toArray, List.set_cons_zero, List.set_cons_succ, Bool.not_false, Bool.not_true]
  refine k_cellC rfl _ _ rfl rfl (by rintro w' rfl; exact H5.out.i2.c1) bytes_aggN ?_; try simp only [Act.put, List.setIfInBounds_toArray, List.set_cons_zero, List.set_cons_succ, Bool.not_false, Bool.not_true]
  refine k_lenSl rfl _ rfl rfl ?_; try simp only [Act.put, List.setIfInBounds_toArray, List.set_cons_zero, List.set_cons_succ, Bool.not_false, Bool.not_true]
  refine k_neqs (t := true) rfl _ _ _ rfl rfl rfl (hne) ?_; try simp only [Act.put, List.setIfInBounds_toArray, List.set_cons_zero, List.set_cons_succ, Bool.not_false, Bool.not_true]
  refine k_pickF rfl _ _ _ rfl rfl rfl ?_; try simp only [Act.put, List.setIfInBounds_toArray, List.set_cons_zero, List.set_cons_succ, Bool.not_false, Bool.not_true]
  refine k_boolm rfl _ rfl rfl ?_; try simp only [Act.put, List.setIfInBounds_toArray, List.set_cons_zero, List.set_cons_succ, Bool.not_false, Bool.not_true]
  refine k_skip rfl rfl rfl rfl rfl ?_; try simp only [Act.put, List.setIfInBounds_toArray, List.set_cons_zero, List.set_cons_succ, Bool.not_false, Bool.not_true]
  refine k_skip rfl rfl rfl rfl rfl ?_; try simp only [Act.put, List.setIfInBounds_toArray, List.set_cons_zero, List.set_cons_succ, Bool.not_false, Bool.not_true]
  refine k_skip rfl rfl rfl rfl rfl ?_; try simp only [Act.put, List.setIfInBounds_toArray, List.set_cons_zero, List.set_cons_succ, Bool.not_false, Bool.not_true]
  refine k_skip rfl rfl rfl rfl rfl ?_; try simp only [Act.put, List.setIfInBounds_toArray, List.set_cons_zero, List.set_cons_succ, Bool.not_false, Bool.not_true]
  refine k_skip rfl rfl rfl rfl rfl ?_; try simp only [Act.put, List.setIfInBounds_toArray, List.set_cons_zero, List.set_cons_succ, Bool.not_false, Bool.not_true]
  refine k_skip rfl rfl rfl rfl rfl ?_; try simp only [Act.put, List.setIfInBounds_toArray, List.set_cons_zero, List.set_cons_succ, Bool.not_false, Bool.not_true]
  refine k_skip rfl rfl rfl rfl rfl ?_; try simp only [Act.put, List.setIfInBounds_toArray, List.set_cons_zero, List.set_cons_succ, Bool.not_false, Bool.not_true]
  refine k_pickT rfl _ _ _ rfl rfl rfl ?_; try simp only [Act.put, List.setIfInBounds_toArray, List.set_cons_zero, List.set_cons_succ, Bool.not_false, Bool.not_true]
  refine k_end ?_
  rintro w8 rfl
  go_wp2_with (first
    | (refine st_store (b := b2) (c' := bodyC 0 zeros32 zeros32 zeros32) hS rfl 25 _ _ rfl rfl rfl (.tail .head) body_size (bodyC_size _ _ _ _) (bodyC_size _ _ _ _) (bodyC_one _ _ _ _) ?_; clear hS; intro w6 hS))
  exact post_cell_one 2 3 25 rfl rfl rfl rfl (hS.get (.tail .head)) hty rfl body_size (bodyC_size _ _ _ _) ⟨hS.frame, by rw [HR.out]; rfl⟩
set_option maxHeartbeats 4000000 in
theorem rr_n3 (v : Value) (L : List Nat) (w : World) (hm : L.length < 4611686018427387904) (hv : RdA [] w v L) (he : rdErr L = 0) (t0 t1 : It) (r h : List Nat) (ht : rdItem L = .lst [t0, t1, .str r, .str h]) (hr : r.length = 32) (hl : h.length ≠ 32) : Calls Tryz.prog 11 #[v] w (RRPost L w) := by
  obtain ⟨f0, f1, f2, f3, hty, -⟩ := body_ty
  obtain ⟨g0, g1, g2, hti, -⟩ := item_ty
  have hS := St.start w
  have kb := build_body0
  obtain ⟨p, n, c, rfl⟩ := slice_keep hv
  have HV := Lib.hid (fun (w' : World) (h : Tch [] w w') => refread_any _ L w' hm (hv.tch h))
  have HR := Lib.hid (show bdRead L = none by
    unfold bdRead; rw [if_pos he, ht]
    cases hb : bdOf (.lst [t0, t1, .str r, .str h]) with
    | none => rfl
    | some x =>
      exfalso
      unfold bdOf at hb
      simp only at hb
      split at hb
      · split at hb
        · rename_i hh; exact hl (hh.2)
        · cases hb
      · cases hb)
  have HE := Lib.hid (And.intro he ht)
  clear he ht
  clear hv hm
  go_enter Tryz.func11, Tryz.ntmps11
  go_upto_region 2 with (first
    | (refine st_new (L := []) hS rfl 25 rfl body_zero ?_; clear hS; intro w2 b2 hS)
    | (go_at_call 34; refine (HV.out _ hS.frame).mono ?_; rintro e w3 ⟨hT3, d, p1, n1, c1, p2, n2, c2, rfl, hI3⟩; rw [HE.out.1]; (obtain ⟨rfl, rfl, bb, oo, rfl, a0, a1, a2, e0, e1, e2, y0, y1, y2, z0, z1, z2, h4⟩ := four_of (hI3 [b2] (fun x hx => by rw [List.mem_singleton.1 hx]; exact (hS.get .head).lt)) HE.out.2); have H4 := Lib.hid h4; clear h4 hI3; replace hS := hS.call hT3; clear hT3)
    | (refine st_newT (L := [(b2, 25, bodyC 0 zeros32 zeros32 zeros32)]) hS rfl 68 rfl itemN_zero ?_; clear hS; intro w4 b4 hS hT4 hb4)
    | (refine st_storeO (b := b4) (c' := #[.bool true, .slice p1 n1 c1, .slice (some ⟨bb, oo, none⟩) 4 c2]) hS rfl 68 _ _ rfl rfl rfl .head itemN_size (by rfl) (by rfl) (oneN3 rfl rfl rfl) ?_; clear hS; intro w5 hS hO5))
  have H5 := Lib.hid ((H4.out.wide (two_mem hb4)).tch ((hT4.mono (by simp)).only hO5 (.inr (by simp))))
  clear hT4 hb4 hO5 H4
  obtain ⟨rfl, pr, cr, rfl, -⟩ := itc_str H5.out.i2.it
  obtain ⟨rfl, ph, ch, rfl, -⟩ := itc_str H5.out.i3.it
  have hnr : ((r.length : Int) != 32) = false := by rw [hr]; rfl
  have hne : ((h.length : Int) != 32) = true := by simp; omega
  have HRR := Lib.hid (And.intro hr hl)
  clear hr hl
  refine k_seq (C := fun w' => w' = w5) rfl ?_
  refine k_intm rfl _ rfl rfl ?_; try simp only [Act.put, List.setIfInBounds_toArray, List.set_cons_zero, List.set_cons_succ, Bool.not_false, Bool.not_true]
  refine k_neqs (t := false) rfl _ _ _ rfl rfl rfl (by decide) ?_; try simp only [Act.put, List.setIfInBounds_toArray, List.set_cons_zero, List.set_cons_succ, Bool.not_false, Bool.not_true]
  refine k_boolm rfl _ rfl rfl ?_; try simp only [Act.put, List.setIfInBounds_toArray, List.set_cons_zero, List.set_cons_succ, Bool.not_false, Bool.not_true]
  refine k_fld rfl _ _ _ rfl rfl (item_f0 _) ?_; try simp only [Act.put, List.setIfInBounds_toArray, List.set_cons_zero, List.set_cons_succ, Bool.not_false, Bool.not_true]
  refine k_cellC rfl _ _ rfl rfl (by rintro w' rfl; exact (hS.get .head).cell (j := 0) rfl) bool_aggN ?_; try simp only [Act.put, List.setIfInBounds_toArray, List.set_cons_zero, List.set_cons_succ, Bool.not_false, Bool.not_true]
  refine k_not rfl _ _ rfl rfl ?_; try simp only [Act.put, List.setIfInBounds_toArray, List.set_cons_zero, List.set_cons_succ, Bool.not_false, Bool.not_true]
  refine k_pickF rfl _ _ _ rfl rfl rfl ?_; try simp only [Act.put, List.setIfInBounds_toArray, List.set_cons_zero, List.set_cons_succ, Bool.not_false, Bool.not_true]
  refine k_boolm rfl _ rfl rfl ?_; try simp only [Act.put, List.setIfInBounds_toArray, List.set_cons_zero, List.set_cons_succ, Bool.not_false, Bool.not_true]
  refine k_fld rfl _ _ _ rfl rfl (item_f2 _) ?_; try simp only [Act.put, List.setIfInBounds_toArray, List.set_cons_zero, List.set_cons_succ, Bool.not_false, Bool.not_true]
  refine k_cellC rfl _ _ rfl rfl (by rintro w' rfl; exact (hS.get .head).cell (j := 2) rfl) itemsl_aggQ ?_; try simp only [Act.put, List.setIfInBounds_toArray, List.set_cons_zero, List.set_cons_succ, Bool.not_false, Bool.not_true]
  refine k_lenQ rfl _ rfl rfl ?_; try simp only [Act.put, List.setIfInBounds_toArray, List.set_cons_zero, List.set_cons_succ, Bool.not_false, Bool.not_true]
  refine k_neqs (t := false) rfl _ _ _ rfl rfl rfl (by decide) ?_; try simp only [Act.put, List.setIfInBounds_toArray, List.set_cons_zero, List.set_cons_succ, Bool.not_false, Bool.not_true]
  refine k_pickF rfl _ _ _ rfl rfl rfl ?_; try simp only [Act.put, List.setIfInBounds_toArray, List.set_cons_zero, List.set_cons_succ, Bool.not_false, Bool.not_true]
  refine k_boolm rfl _ rfl rfl ?_; try simp only [Act.put, List.setIfInBounds_toArray, List.set_cons_zero, List.set_cons_succ, Bool.not_false, Bool.not_true]
  refine k_fld rfl _ _ _ rfl rfl (item_f2 _) ?_; try simp only [Act.put, List.setIfInBounds_toArray, List.set_cons_zero, List.set_cons_succ, Bool.not_false, Bool.not_true]
  refine k_cellC rfl _ _ rfl rfl (by rintro w' rfl; exact (hS.get .head).cell (j := 2) rfl) itemsl_aggQ ?_; try simp only [Act.put, List.setIfInBounds_toArray, List.set_cons_zero, List.set_cons_succ, Bool.not_false, Bool.not_true]
  refine k_idxQ (j := 2) (q := oo + 6) rfl _ _ rfl rfl rfl (by decide) (by omega) ?_; try simp only [Act.put, List.setIfInBounds_toArray, List.set_cons_zero, List.set_cons_succ, Bool.not_false, Bool.not_true]
  refine k_fld rfl _ _ _ rfl rfl (fa_it0 _ _) ?_; try simp only [Act.put, List.setIfInBounds_toArray, List.set_cons_zero, List.set_cons_succ, Bool.not_false, Bool.not_true]
  refine k_cellC rfl _ _ rfl rfl (by rintro w' rfl; exact H5.out.i2.c0) bool_aggN ?_; try simp only [Act.put, List.setIfInBounds_toArray, List.set_cons_zero, List.set_cons_succ, Bool.not_false, Bool.not_true]
  refine k_pickF rfl _ _ _ rfl rfl rfl ?_; try simp only [Act.put, List.setIfInBounds_toArray, List.set_cons_zero, List.set_cons_succ, Bool.not_false, Bool.not_true]
  refine k_boolm rfl _ rfl rfl ?_; try simp only [Act.put, List.setIfInBounds_toArray, List.set_cons_zero, List.set_cons_succ, Bool.not_false, Bool.not_true]
  refine k_fld rfl _ _ _ rfl rfl (item_f2 _) ?_; try simp only [Act.put, List.setIfInBounds_toArray, List.set_cons_zero, List.set_cons_succ, Bool.not_false, Bool.not_true]
  refine k_cellC rfl _ _ rfl rfl (by rintro w' rfl; exact (hS.get .head).cell (j := 2) rfl) itemsl_aggQ ?_; try simp only [Act.put, List.setIfInBounds_toArray, List.set_cons_zero, List.set_cons_succ, Bool.not_false, Bool.not_true]
  refine k_idxQ (j := 3) (q := oo + 9) rfl _ _ rfl rfl rfl (by decide) (by omega) ?_; try simp only [Act.put, List.setIfInBounds_toArray, List.set_cons_zero, List.set_cons_succ, Bool.not_false, Bool.not_true]
  refine k_fld rfl _ _ _ rfl rfl (fa_it0 _ _) ?_; try simp only [Act.put, List.setIfInBounds_toArray, List.set_cons_zero, List.set_cons_succ, Bool.not_false, Bool.not_true]
  refine k_cellC rfl _ _ rfl rfl (by rintro w' rfl; exact H5.out.i3.c0) bool_aggN ?_; try simp only [Act.put, List.setIfInBounds_toArray, List.set_cons_zero, List.set_cons_succ, Bool.not_false, Bool.not_true]
  refine k_pickF rfl _ _ _ rfl rfl rfl ?_; try simp only [Act.put, List.setIfInBounds_toArray, List.set_cons_zero, List.set_cons_succ, Bool.not_false, Bool.not_true]
  refine k_boolm rfl _ rfl rfl ?_; try simp only [Act.put, List.setIfInBounds_toArray, List.set_cons_zero, List.set_cons_succ, Bool.not_false, Bool.not_true]
  refine k_fld rfl _ _ _ rfl rfl (item_f2 _) ?_; try simp only [Act.put, List.setIfInBounds_toArray, List.set_cons_zero, List.set_cons_succ, Bool.not_false, Bool.not_true]
  refine k_cellC rfl _ _ rfl rfl (by rintro w' rfl; exact (hS.get .head).cell (j := 2) rfl) itemsl_aggQ ?_; try simp only [Act.put, List.setIfInBounds_toArray, List.set_cons_zero, List.set_cons_succ, Bool.not_false, Bool.not_true]
  refine k_idxQ (j := 2) (q := oo + 6) rfl _ _ rfl rfl rfl (by decide) (by omega) ?_; try simp only [Act.put, List.setIfInBounds_toArray, List.set_cons_zero, List.set_cons_succ, Bool.not_false, Bool.not_true]
  refine k_fld rfl _ _ _ rfl rfl (fa_it1 _ _) ?_; try simp only [Act.put, List.setIfInBounds_toArray, List.set_cons_zero, List.set_cons_succ, Bool.not_false, Bool.not_true]
  refine k_cellC rfl _ _ rfl rfl (by rintro w' rfl; exact H5.out.i2.c1) bytes_aggN ?_; try simp only [Act.put, List.setIfInBounds_toArray, List.set_cons_zero, List.set_cons_succ, Bool.not_false, Bool.not_true]
  refine k_lenSl rfl _ rfl rfl ?_; try simp only [Act.put, List.setIfInBounds_toArray, List.set_cons_zero, List.set_cons_succ, Bool.not_false, Bool.not_true]
  refine k_neqs (t := false) rfl _ _ _ rfl rfl rfl (hnr) ?_; try simp only [Act.put, List.setIfInBounds_toArray, List.set_cons_zero, List.set_cons_succ, Bool.not_false, Bool.not_true]
  refine k_pickF rfl _ _ _ rfl rfl rfl ?_; try simp only [Act.put, List.setIfInBounds_toArray, List.set_cons_zero, List.set_cons_succ, Bool.not_false, Bool.not_true]
  refine k_boolm rfl _ rfl rfl ?_; try simp only [Act.put, List.setIfInBounds_toArray, List.set_cons_zero, List.set_cons_succ, Bool.not_false, Bool.not_true]
  refine k_fld rfl _ _ _ rfl rfl (item_f2 _) ?_; try simp only [Act.put, List.setIfInBounds_toArray, List.set_cons_zero, List.set_cons_succ, Bool.not_false, Bool.not_true]
  refine k_cellC rfl _ _ rfl rfl (by rintro w' rfl; exact (hS.get .head).cell (j := 2) rfl) itemsl_aggQ ?_; try simp only [Act.put, List.setIfInBounds_toArray, List.set_cons_zero, List.set_cons_succ, Bool.not_false, Bool.not_true]
  refine k_idxQ (j := 3) (q := oo + 9) rfl _ _ rfl rfl rfl (by decide) (by omega) ?_; try simp only [Act.put, List.setIfInBounds_toArray, List.set_cons_zero, List.set_cons_succ, Bool.not_false, Bool.not_true]
  refine k_fld rfl _ _ _ rfl rfl (fa_it1 _ _) ?_; try simp only [Act.put, List.setIfInBounds_toArray, List.set_cons_zero, List.set_cons_succ, Bool.not_false, Bool.not_true]
  refine k_cellC rfl _ _ rfl rfl (by rintro w' rfl; exact H5.out.i3.c1) bytes_aggN ?_; try simp only [Act.put, List.setIfInBounds_toArray, List.set_cons_zero, List.set_cons_succ, Bool.not_false, Bool.not_true]
  refine k_lenSl rfl _ rfl rfl ?_; try simp only [Act.put, List.setIfInBounds_toArray, List.set_cons_zero, List.set_cons_succ, Bool.not_false, Bool.not_true]
  refine k_neqs (t := true) rfl _ _ _ rfl rfl rfl (hne) ?_; try simp only [Act.put, List.setIfInBounds_toArray, List.set_cons_zero, List.set_cons_succ, Bool.not_false, Bool.not_true]
  refine k_pickF rfl _ _ _ rfl rfl rfl ?_; try simp only [Act.put, List.setIfInBounds_toArray, List.set_cons_zero, List.set_cons_succ, Bool.not_false, Bool.not_true]
  refine k_end ?_
  rintro w8 rfl
  go_wp2_with (first
    | (refine st_store (b := b2) (c' := bodyC 0 zeros32 zeros32 zeros32) hS rfl 25 _ _ rfl rfl rfl (.tail .head) body_size (bodyC_size _ _ _ _) (bodyC_size _ _ _ _) (bodyC_one _ _ _ _) ?_; clear hS; intro w6 hS))
  exact post_cell_one 2 3 25 rfl rfl rfl rfl (hS.get (.tail .head)) hty rfl body_size (bodyC_size _ _ _ _) ⟨hS.frame, by rw [HR.out]; rfl⟩
end Go.Proofs.YtdjhjgockgmbkaaGreatDoor

/- The document's ReadBody: the way through. -/
namespace Go.Proofs.YtdjhjgockgmbkaaGreatDoor
open Go.RowKit
set_option linter.unusedVariables false
set_option linter.unusedSimpArgs false
set_option maxRecDepth 100000

theorem int_sizeQ : (Tryz.prog.info? 3).map (·.size) = some 1 := by kernel_rfl
theorem itc_rd {X : List Nat} {w : World} {k : Nat} {x0 xb xl : Value} {l : List Nat} (h : ItC X w k x0 xb xl (.str l)) : RdB w xb l := by
  obtain ⟨_, p, c, rfl, hr⟩ := itc_str h
  exact hr.rdB
end Go.Proofs.YtdjhjgockgmbkaaGreatDoor
