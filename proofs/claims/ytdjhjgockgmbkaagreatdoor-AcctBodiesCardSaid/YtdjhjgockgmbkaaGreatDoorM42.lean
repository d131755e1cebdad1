/- AcctBodies: one of the ways. -/
import Derived.Test.YtdjhjgockgmbkaaGreatDoorM41
set_option linter.unusedVariables false
set_option linter.unusedSimpArgs false
namespace Go.Proofs.YtdjhjgockgmbkaaGreatDoor
open Go.RowKit
set_option linter.unusedVariables false
set_option linter.unusedSimpArgs false
set_option maxRecDepth 100000

set_option maxHeartbeats 40000000 in
theorem bodies_ps (n : Int) (B R H : List Nat) (v : Value) (L : List Nat) (w : World) (hlen : L.length ≤ 1000) (hv : RdA [] w v L) (x : Bd) (hr : bdRead L = some x) (hneg : ¬ n < 0) (hmx : n ≤ 9223372036854775807) (hx : Bd.Ok ⟨n.toNat, B, R, H⟩) :
    Calls Tryz.prog 3 #[.agg (bodyC n B R H), v] w fun e w' => e = .returned (.bool true) ∧ Tch [] w w' := by
  obtain ⟨f0, f1, f2, f3, hty, -⟩ := body_ty
  have hS := St.start w
  have kb := build_body0
  obtain ⟨p, m, c, rfl⟩ := slice_keep hv
  have hm := hv.len
  have hng : ¬ (1000 : Int) < (m : Int) := by omega
  have hok : ∀ y, bdRead L = some y → y.Ok := fun y hy => bdRead_ok hv.lt hy
  have HV := Lib.hid (fun (w' : World) (h : Tch [] w w') => hv.tch h)
  have HLEN := Lib.hid (show L.length < 4611686018427387904 by omega)
  have HR := Lib.hid hr
  have HOK := Lib.hid hok
  obtain ⟨E, hE⟩ : ∃ E, E = enc (Bd.it ⟨n.toNat, B, R, H⟩) := ⟨_, rfl⟩
  have HP := Lib.hid (fun (w' : World) => show Calls Tryz.prog 8 #[.agg (bodyC n B R H)] w' fun e w'' => ∃ pv nv cv, e = .returned (.tuple #[.slice pv nv cv, .int .i64 0]) ∧ Tch [] w' w'' ∧ RdA [] w'' (.slice pv nv cv) E from (apack_yes n B R H w' hneg hx).mono fun e w'' h => by obtain ⟨h1, h2⟩ := h; rw [if_neg hneg] at h2; obtain ⟨v, h3, h4⟩ := h2; obtain ⟨pv, nv, cv, rfl⟩ := slice_keep h4; exact ⟨pv, nv, cv, h3, h1, by rw [hE]; exact h4⟩)
  have HQ := Lib.hid (fun (w' : World) => show Calls Tryz.prog 9 #[.agg (bodyC n B R H)] w' fun e w'' => ∃ pv nv cv, e = .returned (.tuple #[.slice pv nv cv, .int .i64 0]) ∧ Tch [] w' w'' ∧ RdA [] w'' (.slice pv nv cv) E from (rpack_yes n B R H w' hneg hmx hx).mono fun e w'' h => by obtain ⟨h1, h2⟩ := h; rw [if_neg hneg] at h2; obtain ⟨v, h3, h4⟩ := h2; obtain ⟨pv, nv, cv, rfl⟩ := slice_keep h4; exact ⟨pv, nv, cv, h3, h1, by rw [hE]; exact h4⟩)
  have hEb : bdRead E = some ⟨n.toNat, B, R, H⟩ := by rw [hE]; exact hx.back
  have hEl : E.length < 4611686018427387904 := by have := hx.len; rw [hE]; omega
  have HE := Lib.hid (And.intro hEb hEl)
  have HX := Lib.hid (And.intro hx hneg)
  clear hE hEb hEl
  clear hv hm hr hok hneg hlen hx hmx
  go_enter Tryz.func3, Tryz.ntmps3
  go_upto_region 6 with (first
    | (refine st_box (L := []) hS rfl 25 _ rfl rfl ?_; clear hS; intro w2 b2 hS)
    | (go_at_call 7; refine (alive9_any _).mono ?_; rintro e w3 ⟨rfl, hT⟩; replace hS := hS.call hT; clear hT)
    | (refine st_load (b := b2) hS rfl 25 _ rfl rfl (by repeat (first | exact At.head | apply At.tail)) hty rfl body_size (bodyC_size _ _ _ _) ?_)
    | (go_at_call 8; refine (HP.out _).mono ?_; rintro e w4 ⟨p4, n4, c4, rfl, hT, hr4⟩; replace hS := hS.call hT; clear hT; have hA := Tch.refl [] w4)
    | (go_at_call 9; refine (HQ.out _).mono ?_; rintro e w5 ⟨p5, n5, c5, rfl, hT, hr5⟩; replace hS := hS.call hT; replace hA := hA.trans hT; clear hT; have hA5 := Tch.refl [] w5))
  have HF5 := Lib.hid hS.frame
  have HB2 := Lib.hid (hS.get (b := b2) .head)
  have HLT2 := Lib.hid ((hS.own (b := b2) .head).resolve_right (by simp))
  have hS0 : St [b2] w5 w5 [(b2, 25, bodyC n B R H)] := hS.rebase
  clear hS
  have hS := hS0
  clear hS0
  replace hr4 := hr4.tch hA
  have HR45 := Lib.hid (And.intro hr4 hr5)
  clear hr4 hr5 hA hA5
  have HV5 := Lib.hid (fun (w' : World) (h : Tch [] w5 w') => HV.out w' (HF5.out.trans h))
  go_upto_region 7 with (first
    | (go_at_call 10; refine (aRead_any _ L _ HLEN.out (HV5.out _ (Tch.refl _ _))).mono ?_; rintro e w6 ⟨hT6, rfl⟩; rw [HR.out]; replace hS := hS.call hT6)
    | (refine st_newT (L := [(b2, 25, bodyC n B R H)]) hS rfl 25 rfl body_zero ?_; clear hS; intro w7 b10 hS hT7 hb10)
    | (refine st_storeO (b := b10) (c' := bdCells (some x)) hS rfl 25 _ _ rfl rfl rfl .head body_size (bodyC_size _ _ _ _) (bdCells_size _) (bdCells_one _) ?_; clear hS; intro w8 hS hO8; have hA8 := ((hT6.trans hT7).only hO8 (.inl (Nat.le_trans hT6.size hb10))); clear hT6 hT7 hb10 hO8))
  go_upto_region 8 with (first
    | (go_at_call 11; refine (rread_any _ L _ HLEN.out (HV5.out _ hA8)).mono ?_; rintro e w9 ⟨hT9, rfl⟩; rw [HR.out]; replace hS := hS.call hT9)
    | (refine st_newT (L := [(b10, 25, bdCells (some x)), (b2, 25, bodyC n B R H)]) hS rfl 25 rfl body_zero ?_; clear hS; intro wa b12 hS hTa hb12)
    | (refine st_storeO (b := b12) (c' := bdCells (some x)) hS rfl 25 _ _ rfl rfl rfl .head body_size (bodyC_size _ _ _ _) (bdCells_size _) (bdCells_one _) ?_; clear hS; intro wb hS hOb; have hAb := hA8.trans ((hT9.trans hTa).only hOb (.inl (Nat.le_trans hT9.size hb12))); have HL12 := Lib.hid (Nat.le_trans hA8.size (Nat.le_trans hT9.size hb12)); clear hT9 hTa hb12 hOb hA8))
  go_upto_region 10 with (first
    | fail)
  obtain ⟨wc, hwc⟩ : ∃ wc, wc = wb := ⟨_, rfl⟩
  rw [← hwc] at hS hAb ⊢
  clear hwc
  have HB10 := Lib.hid (fun (w' : World) (h : Tch [] wc w') => h.blk (hS.get (b := b10) (.tail .head)) (by simp))
  have HB12 := Lib.hid (fun (w' : World) (h : Tch [] wc w') => show Blk w' b12 25 (bdCells (some x)) from h.blk (hS.get (b := b12) .head) (by simp))
  have HEQ := Lib.hid (show ∀ y, (some x : Option Bd) = some y → y.Ok from fun y hy => HOK.out y (by rw [HR.out]; exact hy))
  have HA := Lib.hid hAb
  clear hAb
  refine k_seq (C := fun w' => Tch [] wc w') (Tch.refl _ _) ?_
  refine k_intm rfl _ rfl rfl ?_; try simp only [Act.put, List.setIfInBounds_toArray, List.set_cons_zero, List.set_cons_succ, Bool.not_false, Bool.not_true]
  refine k_callC1 rfl rfl rfl Tryz.call12 (fun w' h => (num9_any _ w').mono fun e w'' h2 => ⟨h2.1, h.trans h2.2⟩) ?_; try simp only [Act.put, List.setIfInBounds_toArray, List.set_cons_zero, List.set_cons_succ, Bool.not_false, Bool.not_true]
  refine k_intm rfl _ rfl rfl ?_; try simp only [Act.put, List.setIfInBounds_toArray, List.set_cons_zero, List.set_cons_succ, Bool.not_false, Bool.not_true]
  refine k_neqs (t := false) rfl _ _ _ rfl rfl rfl rfl ?_; try simp only [Act.put, List.setIfInBounds_toArray, List.set_cons_zero, List.set_cons_succ, Bool.not_false, Bool.not_true]
  refine k_boolm rfl _ rfl rfl ?_; try simp only [Act.put, List.setIfInBounds_toArray, List.set_cons_zero, List.set_cons_succ, Bool.not_false, Bool.not_true]
  refine k_slice rfl _ rfl rfl ?_; try simp only [Act.put, List.setIfInBounds_toArray, List.set_cons_zero, List.set_cons_succ, Bool.not_false, Bool.not_true]
  refine k_conv (l := E) rfl _ rfl rfl (fun w' h => (HR45.out.1.tch (HA.out.trans h)).rdB) ?_; try simp only [Act.put, List.setIfInBounds_toArray, List.set_cons_zero, List.set_cons_succ, Bool.not_false, Bool.not_true]
  refine k_slice rfl _ rfl rfl ?_; try simp only [Act.put, List.setIfInBounds_toArray, List.set_cons_zero, List.set_cons_succ, Bool.not_false, Bool.not_true]
  refine k_conv (l := E) rfl _ rfl rfl (fun w' h => (HR45.out.2.tch (HA.out.trans h)).rdB) ?_; try simp only [Act.put, List.setIfInBounds_toArray, List.set_cons_zero, List.set_cons_succ, Bool.not_false, Bool.not_true]
  refine k_strN (l := E) (m := E) (t := false) rfl _ _ _ rfl rfl rfl HR45.out.1.lt HR45.out.1.lt (by simp) ?_; try simp only [Act.put, List.setIfInBounds_toArray, List.set_cons_zero, List.set_cons_succ, Bool.not_false, Bool.not_true]
  refine k_pickF rfl _ _ _ rfl rfl rfl ?_; try simp only [Act.put, List.setIfInBounds_toArray, List.set_cons_zero, List.set_cons_succ, Bool.not_false, Bool.not_true]
  refine k_boolm rfl _ rfl rfl ?_; try simp only [Act.put, List.setIfInBounds_toArray, List.set_cons_zero, List.set_cons_succ, Bool.not_false, Bool.not_true]
  refine k_intm rfl _ rfl rfl ?_; try simp only [Act.put, List.setIfInBounds_toArray, List.set_cons_zero, List.set_cons_succ, Bool.not_false, Bool.not_true]
  refine k_callC1 rfl rfl rfl Tryz.call12 (fun w' h => (num9_any _ w').mono fun e w'' h2 => ⟨h2.1, h.trans h2.2⟩) ?_; try simp only [Act.put, List.setIfInBounds_toArray, List.set_cons_zero, List.set_cons_succ, Bool.not_false, Bool.not_true]
  refine k_ints (t := true) rfl _ _ _ rfl rfl rfl rfl ?_; try simp only [Act.put, List.setIfInBounds_toArray, List.set_cons_zero, List.set_cons_succ, Bool.not_false, Bool.not_true]
  refine k_boolm rfl _ rfl rfl ?_; try simp only [Act.put, List.setIfInBounds_toArray, List.set_cons_zero, List.set_cons_succ, Bool.not_false, Bool.not_true]
  refine k_in (v := .bool false) rfl (fun w' _ => x_boolN _ _ _ rfl rfl rfl) ?_; try simp only [Act.put, List.setIfInBounds_toArray, List.set_cons_zero, List.set_cons_succ, Bool.not_false, Bool.not_true]
  refine k_pickF rfl _ _ _ rfl rfl rfl ?_; try simp only [Act.put, List.setIfInBounds_toArray, List.set_cons_zero, List.set_cons_succ, Bool.not_false, Bool.not_true]
  refine k_boolm rfl _ rfl rfl ?_; try simp only [Act.put, List.setIfInBounds_toArray, List.set_cons_zero, List.set_cons_succ, Bool.not_false, Bool.not_true]
  refine k_boolm rfl _ rfl rfl ?_; try simp only [Act.put, List.setIfInBounds_toArray, List.set_cons_zero, List.set_cons_succ, Bool.not_false, Bool.not_true]
  refine k_not rfl _ _ rfl rfl ?_; try simp only [Act.put, List.setIfInBounds_toArray, List.set_cons_zero, List.set_cons_succ, Bool.not_false, Bool.not_true]
  refine k_boolm rfl _ rfl rfl ?_; try simp only [Act.put, List.setIfInBounds_toArray, List.set_cons_zero, List.set_cons_succ, Bool.not_false, Bool.not_true]
  refine k_skip rfl rfl rfl rfl rfl ?_; try simp only [Act.put, List.setIfInBounds_toArray, List.set_cons_zero, List.set_cons_succ, Bool.not_false, Bool.not_true]
  refine k_skip rfl rfl rfl rfl rfl ?_; try simp only [Act.put, List.setIfInBounds_toArray, List.set_cons_zero, List.set_cons_succ, Bool.not_false, Bool.not_true]
  refine k_skip rfl rfl rfl rfl rfl ?_; try simp only [Act.put, List.setIfInBounds_toArray, List.set_cons_zero, List.set_cons_succ, Bool.not_false, Bool.not_true]
  refine k_pickF rfl _ _ _ rfl rfl rfl ?_; try simp only [Act.put, List.setIfInBounds_toArray, List.set_cons_zero, List.set_cons_succ, Bool.not_false, Bool.not_true]
  refine k_pickF rfl _ _ _ rfl rfl rfl ?_; try simp only [Act.put, List.setIfInBounds_toArray, List.set_cons_zero, List.set_cons_succ, Bool.not_false, Bool.not_true]
  refine k_boolm rfl _ rfl rfl ?_; try simp only [Act.put, List.setIfInBounds_toArray, List.set_cons_zero, List.set_cons_succ, Bool.not_false, Bool.not_true]
  refine k_in (v := .agg (bdCells (some x))) rfl (fun w' h => x_bodyL _ rfl rfl (HB10.out w' h) (bdCells_size _)) ?_; try simp only [Act.put, List.setIfInBounds_toArray, List.set_cons_zero, List.set_cons_succ, Bool.not_false, Bool.not_true]
  refine k_in (v := .agg (bdCells (some x))) rfl (fun w' h => x_bodyL _ rfl rfl (HB12.out w' h) (bdCells_size _)) ?_; try simp only [Act.put, List.setIfInBounds_toArray, List.set_cons_zero, List.set_cons_succ, Bool.not_false, Bool.not_true]
  refine k_in (v := .bool false) rfl (fun w' _ => eq_cells HEQ.out _ _ _ rfl rfl rfl) ?_; try simp only [Act.put, List.setIfInBounds_toArray, List.set_cons_zero, List.set_cons_succ, Bool.not_false, Bool.not_true]
  refine k_pickF rfl _ _ _ rfl rfl rfl ?_; try simp only [Act.put, List.setIfInBounds_toArray, List.set_cons_zero, List.set_cons_succ, Bool.not_false, Bool.not_true]
  refine k_end ?_
  intro wd hTd
  have hSd := hS.call hTd
  clear hS
  have HAd := Lib.hid (HA.out.trans hTd)
  have HRE := Lib.hid (fun (w' : World) (h : Tch [] wd w') => HR45.out.1.tch (HAd.out.trans h))
  clear hTd
  go_upto_region 15 with (first
    | (go_at_call 10; refine (aRead_any _ E _ HE.out.2 (HRE.out _ (Tch.refl _ _))).mono ?_; rintro e we ⟨hTe, rfl⟩; rw [HE.out.1]; replace hSd := hSd.call hTe)
    | (refine st_newT (L := [(b12, 25, bdCells (some x)), (b10, 25, bdCells (some x)), (b2, 25, bodyC n B R H)]) hSd rfl 25 rfl body_zero ?_; clear hSd; intro wf b14 hSd hTf hb14)
    | (refine st_storeO (b := b14) (c' := bdCells (some ⟨n.toNat, B, R, H⟩)) hSd rfl 25 _ _ rfl rfl rfl .head body_size (bodyC_size _ _ _ _) (bdCells_size _) (bdCells_one _) ?_; clear hSd; intro wg hSd hOg; have hAg := (hTe.trans hTf).only hOg (.inl (Nat.le_trans hTe.size hb14)); clear hTe hTf hb14 hOg))
  have HB14 := Lib.hid (fun (w' : World) (h : Tch [] wg w') => show Blk w' b14 25 (bodyC n B R H) from by
    have q := h.blk (hSd.get (b := b14) .head) (by simp)
    have e : bdCells (some ⟨n.toNat, B, R, H⟩) = bodyC n B R H := by
      show bodyC ((n.toNat : Nat) : Int) B R H = _
      rw [show ((n.toNat : Nat) : Int) = n by have := HX.out.2; omega]
    rw [e] at q
    exact q)
  have HB2 := Lib.hid (fun (w' : World) (h : Tch [] wg w') => h.blk (hSd.get (b := b2) (by repeat (first | exact At.head | apply At.tail))) (by simp))
  have HAg := Lib.hid (HAd.out.trans hAg)
  clear hSd hAg
  refine k_seq (C := fun w' => Tch [] wg w') (Tch.refl _ _) ?_
  refine k_intm rfl _ rfl rfl ?_; try simp only [Act.put, List.setIfInBounds_toArray, List.set_cons_zero, List.set_cons_succ, Bool.not_false, Bool.not_true]
  refine k_callC1 rfl rfl rfl Tryz.call12 (fun w' h => (num9_any _ w').mono fun e w'' h2 => ⟨h2.1, h.trans h2.2⟩) ?_; try simp only [Act.put, List.setIfInBounds_toArray, List.set_cons_zero, List.set_cons_succ, Bool.not_false, Bool.not_true]
  refine k_ints (t := true) rfl _ _ _ rfl rfl rfl rfl ?_; try simp only [Act.put, List.setIfInBounds_toArray, List.set_cons_zero, List.set_cons_succ, Bool.not_false, Bool.not_true]
  refine k_boolm rfl _ rfl rfl ?_; try simp only [Act.put, List.setIfInBounds_toArray, List.set_cons_zero, List.set_cons_succ, Bool.not_false, Bool.not_true]
  refine k_in (v := .agg (bodyC n B R H)) rfl (fun w' h => x_bodyL _ rfl rfl (HB14.out w' h) (bodyC_size _ _ _ _)) ?_; try simp only [Act.put, List.setIfInBounds_toArray, List.set_cons_zero, List.set_cons_succ, Bool.not_false, Bool.not_true]
  refine k_in (v := .agg (bodyC n B R H)) rfl (fun w' h => x_bodyL _ rfl rfl (HB2.out w' h) (bodyC_size _ _ _ _)) ?_; try simp only [Act.put, List.setIfInBounds_toArray, List.set_cons_zero, List.set_cons_succ, Bool.not_false, Bool.not_true]
  refine k_in (v := .bool true) rfl (fun w' _ => x_bodyE HX.out.1.b.2 HX.out.1.r.2 HX.out.1.h.2 _ _ _ rfl rfl rfl) ?_; try simp only [Act.put, List.setIfInBounds_toArray, List.set_cons_zero, List.set_cons_succ, Bool.not_false, Bool.not_true]
  refine k_pickT rfl _ _ _ rfl rfl rfl ?_; try simp only [Act.put, List.setIfInBounds_toArray, List.set_cons_zero, List.set_cons_succ, Bool.not_false, Bool.not_true]
  refine k_boola rfl _ rfl rfl ?_; try simp only [Act.put, List.setIfInBounds_toArray, List.set_cons_zero, List.set_cons_succ, Bool.not_false, Bool.not_true]
  refine k_end ?_
  intro wh hTh
  go_wp2
  go_ret
  exact ⟨rfl, HF5.out.trans (HAg.out.trans hTh)⟩
end Go.Proofs.YtdjhjgockgmbkaaGreatDoor

/- AcctBodies: for any body and any bytes. -/
namespace Go.Proofs.YtdjhjgockgmbkaaGreatDoor.Bodies
open Go.RowKit
set_option linter.unusedVariables false
set_option maxRecDepth 100000

set_option maxHeartbeats 4000000 in
theorem long (n : Int) (B R H : List Nat) (v : Value) (L : List Nat) (w : World) (hlen : 1000 < L.length) (hv : RdA [] w v L) :
    Calls Tryz.prog 3 #[.agg (bodyC n B R H), v] w fun e w' => e = .returned (.bool true) ∧ Tch [] w w' := by
  have hS := St.start w
  obtain ⟨p, m, c, rfl⟩ := slice_keep hv
  have hm := hv.len
  have hng : (1000 : Int) < (m : Int) := by omega
  clear hv hm hlen
  go_enter Tryz.func3, Tryz.ntmps3
  go_wp2_with (first
    | (refine st_box (L := []) hS rfl 25 _ rfl rfl ?_; clear hS; intro w2 b2 hS)
    | (go_at_call 7; refine (alive9_any _).mono ?_; rintro e w3 ⟨rfl, hT⟩; replace hS := hS.call hT; clear hT))
  go_ret
  exact ⟨rfl, hS.frame⟩
theorem walk (n : Int) (B R H : List Nat) (v : Value) (L : List Nat) (w : World) (hn : -9223372036854775808 ≤ n ∧ n ≤ 9223372036854775807) (hB : B.length = 32 ∧ ∀ y ∈ B, y < 256) (hR : R.length = 32 ∧ ∀ y ∈ R, y < 256) (hH : H.length = 32 ∧ ∀ y ∈ H, y < 256) (hv : RdA [] w v L) :
    Calls Tryz.prog 3 #[.agg (bodyC n B R H), v] w fun e w' => e = .returned (.bool true) ∧ Tch [] w w' := by
  by_cases hl : 1000 < L.length
  · exact long n B R H v L w hl hv
  · by_cases hneg : n < 0
    · cases hr : bdRead L with
      | none => exact bodies_nn n B R H v L w (by omega) hv hr hneg
      | some x => exact bodies_ns n B R H v L w (by omega) hv x hr hneg
    · have hx : Bd.Ok ⟨n.toNat, B, R, H⟩ := ⟨by show n.toNat < _; omega, hB, hR, hH⟩
      cases hr : bdRead L with
      | none => exact bodies_pn n B R H v L w (by omega) hv hr hneg hn.2 hx
      | some x => exact bodies_ps n B R H v L w (by omega) hv x hr hneg hn.2 hx
end Go.Proofs.YtdjhjgockgmbkaaGreatDoor.Bodies
