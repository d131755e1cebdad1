/- TrieWrong, case by case (key10, key11, val, twice, key3). -/
import Derived.Test.YtfdihphhmhgejaaM46
set_option linter.unusedVariables false
set_option linter.unusedSimpArgs false
namespace Go.Proofs.Ytfdihphhmhgejaa
open Go.RowKit Tr
set_option linter.unusedVariables false
set_option linter.unusedSimpArgs false
set_option maxRecDepth 100000

set_option maxHeartbeats 8000000 in
theorem tw_key10 (k : Nat) (w : World) (hk : k ≤ 200) (hp : k % 2 = 1) (hb : k ≤ 64) :
    Calls Try.prog 4 #[.int .i64 2, .int .i64 (k : Int)] w fun e w' => e = .returned (.bool true) ∧ Tch [] w w' := by
  obtain ⟨PS, hPS⟩ : ∃ PS : List En, PS = [([97], [49]), (zb k, [50])] := ⟨_, rfl⟩
  have hmay : mayE PS = 0 := by rw [hPS]; exact tw_may1 hb
  have HRT := Lib.hid (fun (W : World) (v : Value) (hv : PairsAt W v PS) => show Calls Try.prog 9 #[v] W fun e w' => e = .returned (.tuple #[.agg (wf (rootW PS)), .int .i64 0]) ∧ Tch [] W w' from by
    have h := Root_any v PS W hv (by rw [hPS]; simp) (fun hm p hp => by rw [hPS] at hp; simp only [List.mem_cons, List.mem_nil_iff, or_false] at hp; rcases hp with rfl | rfl <;> simp)
    rw [hmay] at h
    exact h)
  have HND := Lib.hid (fun (W : World) (v : Value) (hv : PairsAt W v PS) => show Calls Try.prog 13 #[v] W fun e w' => Tch [] W w' ∧ ∃ p c n, e = .returned (.tuple #[.slice p n c, .int .i64 0]) from (Nodes_weak v PS W hv (by rw [hPS]; simp) (fun hm p hp => by rw [hPS] at hp; simp only [List.mem_cons, List.mem_nil_iff, or_false] at hp; rcases hp with rfl | rfl <;> simp)).mono fun e w' h => by
    obtain ⟨h1, p, n, c, he, hz⟩ := h
    rw [hmay] at he
    exact ⟨h1, p, c, n, he⟩)
  have e1 : ¬ (k : Int) < 0 := by omega
  have e2 : ¬ (200 : Int) < (k : Int) := by omega
  have r1 : (k : Int).tmod 2 = 1 := by rw [Int.tmod_eq_emod_of_nonneg (by omega)]; omega
  have r2 : (k : Int) % 2 = 1 := by omega
  have b1 : ¬ (64 : Int) < (k : Int) := by omega
  have kb := build_pair
  have hS := St.start w
  clear hmay
  have HPS := Lib.hid hPS
  clear hPS
  obtain ⟨F, hF⟩ : ∃ F, F = rootW PS := ⟨_, rfl⟩
  rw [← hF] at HRT
  clear hF
  go_enter Try.func4, Try.ntmps4
  go_upto_region 4 with (go_at_call 5; refine (alive6_any _).mono ?_; rintro e w1 ⟨rfl, hT⟩; replace hS := hS.call hT; clear hT)
  go_upto_region 5 with (first
    | (go_at_call 12; (refine (lpair_any ⟨#[97]⟩ ⟨#[49]⟩ [97] [49] _ rfl rfl).mono ?_; rintro e x1 ⟨hT, p1, m1, q1, n1, rfl, hk1, hv1⟩; replace hS := hS.call hT; clear hT))
    | (go_at_call 12; (refine (lpair_any ⟨#[98]⟩ ⟨#[50]⟩ [98] [50] _ rfl rfl).mono ?_; rintro e x2 ⟨hT, p2, m2, q2, n2, rfl, hk2, hv2⟩; replace hk1 := hk1.tch hT (by simp); replace hv1 := hv1.tch hT (by simp); replace hS := hS.call hT; clear hT))
    | (refine st_buildVT #[(0, .agg #[.slice p1 1 m1, .slice q1 1 n1]), (1, .agg #[.slice p2 1 m2, .slice q2 1 n2])] hS rfl rfl (by simp only [List.map_toArray, List.map_cons, List.map_nil]; rfl) (build2P _ _ _ _ _ _ _ _ _ _ _ _) ?_; clear hS; intro y bp hS hTn; have HR := Lib.hid (And.intro (hk1.tch hTn (by simp)) (And.intro (hv1.tch hTn (by simp)) (And.intro (hk2.tch hTn (by simp)) (hv2.tch hTn (by simp))))); clear hTn hk1 hv1 hk2 hv2))
  have hY : Tch [] y y := Tch.refl _ _
  have ki := fun w => idxP bp 2 2 (j := 1) (by decide) w
  have kf := fa_p20
  go_upto_region 15 with (first
    | (refine st_makeB0 k hS rfl _ _ rfl rfl rfl (by omega) ?_; clear hS; intro y1 bz hS hz hTz; have HZ := Lib.hid hz; replace hY := hY.trans hTz; have HY := Lib.hid hY; clear hz hTz)
    | (refine st_storeV (v := .slice (some ⟨bz, 0, none⟩) k k) (j := 2) hS rfl 22 _ _ rfl rfl rfl rfl bytes_size1 .head (show 2 < 4 by decide) ?_; have hB0 := hS.get .head; clear hS; intro y2 hS hO; have HO := Lib.hid (And.intro hB0 hO); clear hB0 hO))
  have hA : Tch [] y2 y2 := Tch.refl _ _
  have HPA := Lib.hid (fun (W : World) (h : Tch [] y2 W) => show PairsAt W (.slice (some ⟨bp, 0, none⟩) 2 2) PS from by
    rw [HPS.out]
    exact pairs2 (h.blk (hS.get .head) (by simp)) (((HR.out.1.tch (bs := []) HY.out (by simp)).rdB_off HO.out.1 (nob4 _ _ _ _ _ _ _ _ _ _ _ _) HO.out.2).tch h (by simp)) (((HR.out.2.1.tch (bs := []) HY.out (by simp)).rdB_off HO.out.1 (nob4 _ _ _ _ _ _ _ _ _ _ _ _) HO.out.2).tch h (by simp)) ((HZ.out.rdB_off HO.out.1 (nob4 _ _ _ _ _ _ _ _ _ _ _ _) HO.out.2).tch h (by simp)) (((HR.out.2.2.2.tch (bs := []) HY.out (by simp)).rdB_off HO.out.1 (nob4 _ _ _ _ _ _ _ _ _ _ _ _) HO.out.2).tch h (by simp)))
  go_upto_region 26 with (first
    | (go_at_call 9; refine (HRT.out _ _ (HPA.out _ hA)).mono ?_; rintro e z1 ⟨rfl, hT⟩; replace hS := hS.call hT; replace hA := hA.trans hT; clear hT)
    | (refine st_newT hS rfl 33 rfl word_zero ?_; clear hS; intro z2 b8 hS hTa hba; have HTA := Lib.hid (And.intro hTa hba); clear hTa hba)
    | (refine st_storeO (b := b8) (c' := wf (F)) hS rfl 33 _ _ rfl rfl rfl .head word_size (wf_size _) (wf_size _) (wf_one _) ?_; clear hS; intro z3 hS hO; replace hA := hA.trans (HTA.out.1.only hO (.inl HTA.out.2)); clear hO)
    | (go_at_call 13; refine (HND.out _ _ (HPA.out _ hA)).mono ?_; rintro e z4 ⟨hT, pn, cn, nn, rfl⟩; replace hS := hS.call hT; clear hT))
  have HWB := Lib.hid (fun (w' : World) (h : Tch [] z4 w') => h.blk (hS.get .head) (by simp))
  have HFR := Lib.hid hS.frame
  clear hS kb HRT HND HPA hA HTA HR HPS e1 e2
  try simp only [Act.put, List.setIfInBounds_toArray, List.set_cons_zero, List.set_cons_succ]
  refine k_seq (C := fun w' => Tch [] z4 w') (Tch.refl _ _) ?_
  refine k_intm rfl _ rfl rfl ?_; try simp only [Act.put, List.setIfInBounds_toArray, List.set_cons_zero, List.set_cons_succ]
  refine k_callC1 rfl rfl rfl Try.call10 (fun w' h => (num6_any _ w').mono fun e w'' h2 => ⟨h2.1, h.trans h2.2⟩) ?_; try simp only [Act.put, List.setIfInBounds_toArray, List.set_cons_zero, List.set_cons_succ]
  refine k_intm rfl _ rfl rfl ?_; try simp only [Act.put, List.setIfInBounds_toArray, List.set_cons_zero, List.set_cons_succ]
  refine k_ints (t := true) rfl _ _ _ rfl rfl rfl rfl ?_; try simp only [Act.put, List.setIfInBounds_toArray, List.set_cons_zero, List.set_cons_succ]
  refine k_boolm rfl _ rfl rfl ?_; try simp only [Act.put, List.setIfInBounds_toArray, List.set_cons_zero, List.set_cons_succ]
  refine k_intm rfl _ rfl rfl ?_; try simp only [Act.put, List.setIfInBounds_toArray, List.set_cons_zero, List.set_cons_succ]
  refine k_callC1 rfl rfl rfl Try.call10 (fun w' h => (num6_any _ w').mono fun e w'' h2 => ⟨h2.1, h.trans h2.2⟩) ?_; try simp only [Act.put, List.setIfInBounds_toArray, List.set_cons_zero, List.set_cons_succ]
  refine k_intm rfl _ rfl rfl ?_; try simp only [Act.put, List.setIfInBounds_toArray, List.set_cons_zero, List.set_cons_succ]
  refine k_ints (t := true) rfl _ _ _ rfl rfl rfl rfl ?_; try simp only [Act.put, List.setIfInBounds_toArray, List.set_cons_zero, List.set_cons_succ]
  refine k_pickT rfl _ _ _ rfl rfl rfl ?_; try simp only [Act.put, List.setIfInBounds_toArray, List.set_cons_zero, List.set_cons_succ]
  refine k_boolm rfl _ rfl rfl ?_; try simp only [Act.put, List.setIfInBounds_toArray, List.set_cons_zero, List.set_cons_succ]
  refine k_intm rfl _ rfl rfl ?_; try simp only [Act.put, List.setIfInBounds_toArray, List.set_cons_zero, List.set_cons_succ]
  refine k_ints (t := true) rfl _ _ _ rfl rfl rfl rfl ?_; try simp only [Act.put, List.setIfInBounds_toArray, List.set_cons_zero, List.set_cons_succ]
  refine k_boolm rfl _ rfl rfl ?_; try simp only [Act.put, List.setIfInBounds_toArray, List.set_cons_zero, List.set_cons_succ]
  refine k_skip rfl rfl rfl rfl rfl ?_; try simp only [Act.put, List.setIfInBounds_toArray, List.set_cons_zero, List.set_cons_succ]
  refine k_skip rfl rfl rfl rfl rfl ?_; try simp only [Act.put, List.setIfInBounds_toArray, List.set_cons_zero, List.set_cons_succ]
  refine k_skip rfl rfl rfl rfl rfl ?_; try simp only [Act.put, List.setIfInBounds_toArray, List.set_cons_zero, List.set_cons_succ]
  refine k_skip rfl rfl rfl rfl rfl ?_; try simp only [Act.put, List.setIfInBounds_toArray, List.set_cons_zero, List.set_cons_succ]
  refine k_skipU rfl rfl rfl rfl ?_; try simp only [Act.put, List.setIfInBounds_toArray, List.set_cons_zero, List.set_cons_succ]
  refine k_skipU rfl rfl rfl rfl ?_; try simp only [Act.put, List.setIfInBounds_toArray, List.set_cons_zero, List.set_cons_succ]
  refine k_skipU rfl rfl rfl rfl ?_; try simp only [Act.put, List.setIfInBounds_toArray, List.set_cons_zero, List.set_cons_succ]
  refine k_skip rfl rfl rfl rfl rfl ?_; try simp only [Act.put, List.setIfInBounds_toArray, List.set_cons_zero, List.set_cons_succ]
  refine k_pickT rfl _ _ _ rfl rfl rfl ?_; try simp only [Act.put, List.setIfInBounds_toArray, List.set_cons_zero, List.set_cons_succ]
  refine k_pickT rfl _ _ _ rfl rfl rfl ?_; try simp only [Act.put, List.setIfInBounds_toArray, List.set_cons_zero, List.set_cons_succ]
  refine k_boola rfl _ rfl rfl ?_; try simp only [Act.put, List.setIfInBounds_toArray, List.set_cons_zero, List.set_cons_succ]
  refine k_end ?_; try simp only [Act.put, List.setIfInBounds_toArray, List.set_cons_zero, List.set_cons_succ]
  intro zz hTz
  go_wp2
  go_ret
  exact ⟨rfl, HFR.out.trans hTz⟩
set_option maxHeartbeats 8000000 in
theorem tw_key11 (k : Nat) (w : World) (hk : k ≤ 200) (hp : k % 2 = 1) (hb : 64 < k) :
    Calls Try.prog 4 #[.int .i64 2, .int .i64 (k : Int)] w fun e w' => e = .returned (.bool true) ∧ Tch [] w w' := by
  obtain ⟨PS, hPS⟩ : ∃ PS : List En, PS = [([97], [49]), (zb k, [50])] := ⟨_, rfl⟩
  have hmay : mayE PS = 3 := by rw [hPS]; exact may_long (p := (zb k, [50])) (by simp) (.inl (by show 64 < (zb k).length; rw [zb_len]; exact hb))
  have HRT := Lib.hid (fun (W : World) (v : Value) (hv : PairsAt W v PS) => show Calls Try.prog 9 #[v] W fun e w' => e = .returned (.tuple #[.agg (wf (fun _ => 0)), .int .i64 3]) ∧ Tch [] W w' from by
    have h := Root_any v PS W hv (by rw [hPS]; simp) (fun hm p hp => by exact absurd (hmay.symm.trans hm) (by decide))
    rw [hmay] at h
    rw [show rootW PS = fun _ => 0 from by unfold rootW; rw [if_neg (by rw [hmay]; decide)]] at h; exact h)
  have HND := Lib.hid (fun (W : World) (v : Value) (hv : PairsAt W v PS) => show Calls Try.prog 13 #[v] W fun e w' => Tch [] W w' ∧ ∃ p c, e = .returned (.tuple #[.slice p 0 c, .int .i64 3]) from (Nodes_weak v PS W hv (by rw [hPS]; simp) (fun hm p hp => by exact absurd (hmay.symm.trans hm) (by decide))).mono fun e w' h => by
    obtain ⟨h1, p, n, c, he, hz⟩ := h
    rw [hmay] at he hz
    rw [hz (by decide)] at he; exact ⟨h1, p, c, he⟩)
  have e1 : ¬ (k : Int) < 0 := by omega
  have e2 : ¬ (200 : Int) < (k : Int) := by omega
  have r1 : (k : Int).tmod 2 = 1 := by rw [Int.tmod_eq_emod_of_nonneg (by omega)]; omega
  have r2 : (k : Int) % 2 = 1 := by omega
  have b1 : (64 : Int) < (k : Int) := by omega
  have kb := build_pair
  have hS := St.start w
  clear hmay
  have HPS := Lib.hid hPS
  clear hPS
  skip
  skip
  skip
  go_enter Try.func4, Try.ntmps4
  go_upto_region 4 with (go_at_call 5; refine (alive6_any _).mono ?_; rintro e w1 ⟨rfl, hT⟩; replace hS := hS.call hT; clear hT)
  go_upto_region 5 with (first
    | (go_at_call 12; (refine (lpair_any ⟨#[97]⟩ ⟨#[49]⟩ [97] [49] _ rfl rfl).mono ?_; rintro e x1 ⟨hT, p1, m1, q1, n1, rfl, hk1, hv1⟩; replace hS := hS.call hT; clear hT))
    | (go_at_call 12; (refine (lpair_any ⟨#[98]⟩ ⟨#[50]⟩ [98] [50] _ rfl rfl).mono ?_; rintro e x2 ⟨hT, p2, m2, q2, n2, rfl, hk2, hv2⟩; replace hk1 := hk1.tch hT (by simp); replace hv1 := hv1.tch hT (by simp); replace hS := hS.call hT; clear hT))
    | (refine st_buildVT #[(0, .agg #[.slice p1 1 m1, .slice q1 1 n1]), (1, .agg #[.slice p2 1 m2, .slice q2 1 n2])] hS rfl rfl (by simp only [List.map_toArray, List.map_cons, List.map_nil]; rfl) (build2P _ _ _ _ _ _ _ _ _ _ _ _) ?_; clear hS; intro y bp hS hTn; have HR := Lib.hid (And.intro (hk1.tch hTn (by simp)) (And.intro (hv1.tch hTn (by simp)) (And.intro (hk2.tch hTn (by simp)) (hv2.tch hTn (by simp))))); clear hTn hk1 hv1 hk2 hv2))
  have hY : Tch [] y y := Tch.refl _ _
  have ki := fun w => idxP bp 2 2 (j := 1) (by decide) w
  have kf := fa_p20
  go_upto_region 15 with (first
    | (refine st_makeB0 k hS rfl _ _ rfl rfl rfl (by omega) ?_; clear hS; intro y1 bz hS hz hTz; have HZ := Lib.hid hz; replace hY := hY.trans hTz; have HY := Lib.hid hY; clear hz hTz)
    | (refine st_storeV (v := .slice (some ⟨bz, 0, none⟩) k k) (j := 2) hS rfl 22 _ _ rfl rfl rfl rfl bytes_size1 .head (show 2 < 4 by decide) ?_; have hB0 := hS.get .head; clear hS; intro y2 hS hO; have HO := Lib.hid (And.intro hB0 hO); clear hB0 hO))
  have hA : Tch [] y2 y2 := Tch.refl _ _
  have HPA := Lib.hid (fun (W : World) (h : Tch [] y2 W) => show PairsAt W (.slice (some ⟨bp, 0, none⟩) 2 2) PS from by
    rw [HPS.out]
    exact pairs2 (h.blk (hS.get .head) (by simp)) (((HR.out.1.tch (bs := []) HY.out (by simp)).rdB_off HO.out.1 (nob4 _ _ _ _ _ _ _ _ _ _ _ _) HO.out.2).tch h (by simp)) (((HR.out.2.1.tch (bs := []) HY.out (by simp)).rdB_off HO.out.1 (nob4 _ _ _ _ _ _ _ _ _ _ _ _) HO.out.2).tch h (by simp)) ((HZ.out.rdB_off HO.out.1 (nob4 _ _ _ _ _ _ _ _ _ _ _ _) HO.out.2).tch h (by simp)) (((HR.out.2.2.2.tch (bs := []) HY.out (by simp)).rdB_off HO.out.1 (nob4 _ _ _ _ _ _ _ _ _ _ _ _) HO.out.2).tch h (by simp)))
  go_upto_region 26 with (first
    | (go_at_call 9; refine (HRT.out _ _ (HPA.out _ hA)).mono ?_; rintro e z1 ⟨rfl, hT⟩; replace hS := hS.call hT; replace hA := hA.trans hT; clear hT)
    | (refine st_newT hS rfl 33 rfl word_zero ?_; clear hS; intro z2 b8 hS hTa hba; have HTA := Lib.hid (And.intro hTa hba); clear hTa hba)
    | (refine st_storeO (b := b8) (c' := wf (fun _ => 0)) hS rfl 33 _ _ rfl rfl rfl .head word_size (wf_size _) (wf_size _) (wf_one _) ?_; clear hS; intro z3 hS hO; replace hA := hA.trans (HTA.out.1.only hO (.inl HTA.out.2)); clear hO)
    | (go_at_call 13; refine (HND.out _ _ (HPA.out _ hA)).mono ?_; rintro e z4 ⟨hT, pn, cn, rfl⟩; replace hS := hS.call hT; clear hT))
  have HWB := Lib.hid (fun (w' : World) (h : Tch [] z4 w') => h.blk (hS.get .head) (by simp))
  have HFR := Lib.hid hS.frame
  clear hS kb HRT HND HPA hA HTA HR HPS e1 e2
  try simp only [Act.put, List.setIfInBounds_toArray, List.set_cons_zero, List.set_cons_succ]
  refine k_seq (C := fun w' => Tch [] z4 w') (Tch.refl _ _) ?_
  refine k_intm rfl _ rfl rfl ?_; try simp only [Act.put, List.setIfInBounds_toArray, List.set_cons_zero, List.set_cons_succ]
  refine k_callC1 rfl rfl rfl Try.call10 (fun w' h => (num6_any _ w').mono fun e w'' h2 => ⟨h2.1, h.trans h2.2⟩) ?_; try simp only [Act.put, List.setIfInBounds_toArray, List.set_cons_zero, List.set_cons_succ]
  refine k_intm rfl _ rfl rfl ?_; try simp only [Act.put, List.setIfInBounds_toArray, List.set_cons_zero, List.set_cons_succ]
  refine k_ints (t := true) rfl _ _ _ rfl rfl rfl rfl ?_; try simp only [Act.put, List.setIfInBounds_toArray, List.set_cons_zero, List.set_cons_succ]
  refine k_boolm rfl _ rfl rfl ?_; try simp only [Act.put, List.setIfInBounds_toArray, List.set_cons_zero, List.set_cons_succ]
  refine k_intm rfl _ rfl rfl ?_; try simp only [Act.put, List.setIfInBounds_toArray, List.set_cons_zero, List.set_cons_succ]
  refine k_callC1 rfl rfl rfl Try.call10 (fun w' h => (num6_any _ w').mono fun e w'' h2 => ⟨h2.1, h.trans h2.2⟩) ?_; try simp only [Act.put, List.setIfInBounds_toArray, List.set_cons_zero, List.set_cons_succ]
  refine k_intm rfl _ rfl rfl ?_; try simp only [Act.put, List.setIfInBounds_toArray, List.set_cons_zero, List.set_cons_succ]
  refine k_ints (t := true) rfl _ _ _ rfl rfl rfl rfl ?_; try simp only [Act.put, List.setIfInBounds_toArray, List.set_cons_zero, List.set_cons_succ]
  refine k_pickT rfl _ _ _ rfl rfl rfl ?_; try simp only [Act.put, List.setIfInBounds_toArray, List.set_cons_zero, List.set_cons_succ]
  refine k_boolm rfl _ rfl rfl ?_; try simp only [Act.put, List.setIfInBounds_toArray, List.set_cons_zero, List.set_cons_succ]
  refine k_intm rfl _ rfl rfl ?_; try simp only [Act.put, List.setIfInBounds_toArray, List.set_cons_zero, List.set_cons_succ]
  refine k_ints (t := false) rfl _ _ _ rfl rfl rfl rfl ?_; try simp only [Act.put, List.setIfInBounds_toArray, List.set_cons_zero, List.set_cons_succ]
  refine k_boolm rfl _ rfl rfl ?_; try simp only [Act.put, List.setIfInBounds_toArray, List.set_cons_zero, List.set_cons_succ]
  refine k_loadW (b := b8) rfl _ rfl rfl (fun w' h => HWB.out w' h) (wf_size _) ?_; try simp only [Act.put, List.setIfInBounds_toArray, List.set_cons_zero, List.set_cons_succ]
  refine k_build0 rfl rfl ?_; try simp only [Act.put, List.setIfInBounds_toArray, List.set_cons_zero, List.set_cons_succ]
  refine k_eql0 rfl _ _ _ rfl rfl rfl ?_; try simp only [Act.put, List.setIfInBounds_toArray, List.set_cons_zero, List.set_cons_succ]
  refine k_boolm rfl _ rfl rfl ?_; try simp only [Act.put, List.setIfInBounds_toArray, List.set_cons_zero, List.set_cons_succ]
  refine k_slice rfl _ rfl rfl ?_; try simp only [Act.put, List.setIfInBounds_toArray, List.set_cons_zero, List.set_cons_succ]
  refine k_lenNd rfl _ rfl rfl ?_; try simp only [Act.put, List.setIfInBounds_toArray, List.set_cons_zero, List.set_cons_succ]
  refine k_ints (t := true) rfl _ _ _ rfl rfl rfl rfl ?_; try simp only [Act.put, List.setIfInBounds_toArray, List.set_cons_zero, List.set_cons_succ]
  refine k_pickT rfl _ _ _ rfl rfl rfl ?_; try simp only [Act.put, List.setIfInBounds_toArray, List.set_cons_zero, List.set_cons_succ]
  refine k_pickF rfl _ _ _ rfl rfl rfl ?_; try simp only [Act.put, List.setIfInBounds_toArray, List.set_cons_zero, List.set_cons_succ]
  refine k_pickT rfl _ _ _ rfl rfl rfl ?_; try simp only [Act.put, List.setIfInBounds_toArray, List.set_cons_zero, List.set_cons_succ]
  refine k_boola rfl _ rfl rfl ?_; try simp only [Act.put, List.setIfInBounds_toArray, List.set_cons_zero, List.set_cons_succ]
  refine k_end ?_; try simp only [Act.put, List.setIfInBounds_toArray, List.set_cons_zero, List.set_cons_succ]
  intro zz hTz
  go_wp2
  go_ret
  exact ⟨rfl, HFR.out.trans hTz⟩
set_option maxHeartbeats 8000000 in
theorem tw_val (N : Nat) (hN : N = 1048577) (k : Nat) (w : World) (hk : k ≤ 200) :
    Calls Try.prog 4 #[.int .i64 4, .int .i64 (k : Int)] w fun e w' => e = .returned (.bool true) ∧ Tch [] w w' := by
  obtain ⟨PS, hPS⟩ : ∃ PS : List En, PS = [([97], zb N), ([98], [50])] := ⟨_, rfl⟩
  have hmay : mayE PS = 3 := by rw [hPS]; exact tw_vlong (by omega)
  have HRT := Lib.hid (fun (W : World) (v : Value) (hv : PairsAt W v PS) => show Calls Try.prog 9 #[v] W fun e w' => e = .returned (.tuple #[.agg (wf (fun _ => 0)), .int .i64 3]) ∧ Tch [] W w' from by
    have h := Root_any v PS W hv (by rw [hPS]; simp) (fun hm p hp => by exact absurd (hmay.symm.trans hm) (by decide))
    rw [hmay] at h
    rw [show rootW PS = fun _ => 0 from by unfold rootW; rw [if_neg (by rw [hmay]; decide)]] at h; exact h)
  have HND := Lib.hid (fun (W : World) (v : Value) (hv : PairsAt W v PS) => show Calls Try.prog 13 #[v] W fun e w' => Tch [] W w' ∧ ∃ p c, e = .returned (.tuple #[.slice p 0 c, .int .i64 3]) from (Nodes_weak v PS W hv (by rw [hPS]; simp) (fun hm p hp => by exact absurd (hmay.symm.trans hm) (by decide))).mono fun e w' h => by
    obtain ⟨h1, p, n, c, he, hz⟩ := h
    rw [hmay] at he hz
    rw [hz (by decide)] at he; exact ⟨h1, p, c, he⟩)
  have e1 : ¬ (k : Int) < 0 := by omega
  have e2 : ¬ (200 : Int) < (k : Int) := by omega
  have HNN := Lib.hid (And.intro (show (1048577 : Int) = (N : Int) by omega) (show N ≤ 16777216 by omega))
  clear hN
  have kb := build_pair
  have hS := St.start w
  clear hmay
  have HPS := Lib.hid hPS
  clear hPS
  skip
  skip
  skip
  go_enter Try.func4, Try.ntmps4
  go_upto_region 4 with (go_at_call 5; refine (alive6_any _).mono ?_; rintro e w1 ⟨rfl, hT⟩; replace hS := hS.call hT; clear hT)
  go_upto_region 5 with (first
    | (go_at_call 12; (refine (lpair_any ⟨#[97]⟩ ⟨#[49]⟩ [97] [49] _ rfl rfl).mono ?_; rintro e x1 ⟨hT, p1, m1, q1, n1, rfl, hk1, hv1⟩; replace hS := hS.call hT; clear hT))
    | (go_at_call 12; (refine (lpair_any ⟨#[98]⟩ ⟨#[50]⟩ [98] [50] _ rfl rfl).mono ?_; rintro e x2 ⟨hT, p2, m2, q2, n2, rfl, hk2, hv2⟩; replace hk1 := hk1.tch hT (by simp); replace hv1 := hv1.tch hT (by simp); replace hS := hS.call hT; clear hT))
    | (refine st_buildVT #[(0, .agg #[.slice p1 1 m1, .slice q1 1 n1]), (1, .agg #[.slice p2 1 m2, .slice q2 1 n2])] hS rfl rfl (by simp only [List.map_toArray, List.map_cons, List.map_nil]; rfl) (build2P _ _ _ _ _ _ _ _ _ _ _ _) ?_; clear hS; intro y bp hS hTn; have HR := Lib.hid (And.intro (hk1.tch hTn (by simp)) (And.intro (hv1.tch hTn (by simp)) (And.intro (hk2.tch hTn (by simp)) (hv2.tch hTn (by simp))))); clear hTn hk1 hv1 hk2 hv2))
  have hY : Tch [] y y := Tch.refl _ _
  have ki := fun w => idxP bp 2 2 (j := 0) (by decide) w
  have kf := fa_p01
  go_upto_region 23 with (first
    | (refine st_makeB1 N 1048577 (HNN.out.1) hS rfl _ _ rfl rfl rfl HNN.out.2 ?_; clear hS; intro y1 bz hS hz hTz; have HZ := Lib.hid hz; replace hY := hY.trans hTz; have HY := Lib.hid hY; clear hz hTz)
    | (refine st_storeV (v := .slice (some ⟨bz, 0, none⟩) N N) (j := 1) hS rfl 22 _ _ rfl rfl rfl rfl bytes_size1 .head (show 1 < 4 by decide) ?_; have hB0 := hS.get .head; clear hS; intro y2 hS hO; have HO := Lib.hid (And.intro hB0 hO); clear hB0 hO))
  have hA : Tch [] y2 y2 := Tch.refl _ _
  have HPA := Lib.hid (fun (W : World) (h : Tch [] y2 W) => show PairsAt W (.slice (some ⟨bp, 0, none⟩) 2 2) PS from by
    rw [HPS.out]
    exact pairs2 (h.blk (hS.get .head) (by simp)) (((HR.out.1.tch (bs := []) HY.out (by simp)).rdB_off HO.out.1 (nob4 _ _ _ _ _ _ _ _ _ _ _ _) HO.out.2).tch h (by simp)) ((HZ.out.rdB_off HO.out.1 (nob4 _ _ _ _ _ _ _ _ _ _ _ _) HO.out.2).tch h (by simp)) (((HR.out.2.2.1.tch (bs := []) HY.out (by simp)).rdB_off HO.out.1 (nob4 _ _ _ _ _ _ _ _ _ _ _ _) HO.out.2).tch h (by simp)) (((HR.out.2.2.2.tch (bs := []) HY.out (by simp)).rdB_off HO.out.1 (nob4 _ _ _ _ _ _ _ _ _ _ _ _) HO.out.2).tch h (by simp)))
  go_upto_region 26 with (first
    | (go_at_call 9; refine (HRT.out _ _ (HPA.out _ hA)).mono ?_; rintro e z1 ⟨rfl, hT⟩; replace hS := hS.call hT; replace hA := hA.trans hT; clear hT)
    | (refine st_newT hS rfl 33 rfl word_zero ?_; clear hS; intro z2 b8 hS hTa hba; have HTA := Lib.hid (And.intro hTa hba); clear hTa hba)
    | (refine st_storeO (b := b8) (c' := wf (fun _ => 0)) hS rfl 33 _ _ rfl rfl rfl .head word_size (wf_size _) (wf_size _) (wf_one _) ?_; clear hS; intro z3 hS hO; replace hA := hA.trans (HTA.out.1.only hO (.inl HTA.out.2)); clear hO)
    | (go_at_call 13; refine (HND.out _ _ (HPA.out _ hA)).mono ?_; rintro e z4 ⟨hT, pn, cn, rfl⟩; replace hS := hS.call hT; clear hT))
  have HWB := Lib.hid (fun (w' : World) (h : Tch [] z4 w') => h.blk (hS.get .head) (by simp))
  have HFR := Lib.hid hS.frame
  clear hS kb HRT HND HPA hA HTA HR HPS e1 e2
  try simp only [Act.put, List.setIfInBounds_toArray, List.set_cons_zero, List.set_cons_succ]
  refine k_seq (C := fun w' => Tch [] z4 w') (Tch.refl _ _) ?_
  refine k_intm rfl _ rfl rfl ?_; try simp only [Act.put, List.setIfInBounds_toArray, List.set_cons_zero, List.set_cons_succ]
  refine k_callC1 rfl rfl rfl Try.call10 (fun w' h => (num6_any _ w').mono fun e w'' h2 => ⟨h2.1, h.trans h2.2⟩) ?_; try simp only [Act.put, List.setIfInBounds_toArray, List.set_cons_zero, List.set_cons_succ]
  refine k_intm rfl _ rfl rfl ?_; try simp only [Act.put, List.setIfInBounds_toArray, List.set_cons_zero, List.set_cons_succ]
  refine k_ints (t := true) rfl _ _ _ rfl rfl rfl rfl ?_; try simp only [Act.put, List.setIfInBounds_toArray, List.set_cons_zero, List.set_cons_succ]
  refine k_boolm rfl _ rfl rfl ?_; try simp only [Act.put, List.setIfInBounds_toArray, List.set_cons_zero, List.set_cons_succ]
  refine k_intm rfl _ rfl rfl ?_; try simp only [Act.put, List.setIfInBounds_toArray, List.set_cons_zero, List.set_cons_succ]
  refine k_callC1 rfl rfl rfl Try.call10 (fun w' h => (num6_any _ w').mono fun e w'' h2 => ⟨h2.1, h.trans h2.2⟩) ?_; try simp only [Act.put, List.setIfInBounds_toArray, List.set_cons_zero, List.set_cons_succ]
  refine k_intm rfl _ rfl rfl ?_; try simp only [Act.put, List.setIfInBounds_toArray, List.set_cons_zero, List.set_cons_succ]
  refine k_ints (t := true) rfl _ _ _ rfl rfl rfl rfl ?_; try simp only [Act.put, List.setIfInBounds_toArray, List.set_cons_zero, List.set_cons_succ]
  refine k_pickT rfl _ _ _ rfl rfl rfl ?_; try simp only [Act.put, List.setIfInBounds_toArray, List.set_cons_zero, List.set_cons_succ]
  refine k_boolm rfl _ rfl rfl ?_; try simp only [Act.put, List.setIfInBounds_toArray, List.set_cons_zero, List.set_cons_succ]
  refine k_intm rfl _ rfl rfl ?_; try simp only [Act.put, List.setIfInBounds_toArray, List.set_cons_zero, List.set_cons_succ]
  refine k_ints (t := false) rfl _ _ _ rfl rfl rfl rfl ?_; try simp only [Act.put, List.setIfInBounds_toArray, List.set_cons_zero, List.set_cons_succ]
  refine k_boolm rfl _ rfl rfl ?_; try simp only [Act.put, List.setIfInBounds_toArray, List.set_cons_zero, List.set_cons_succ]
  refine k_loadW (b := b8) rfl _ rfl rfl (fun w' h => HWB.out w' h) (wf_size _) ?_; try simp only [Act.put, List.setIfInBounds_toArray, List.set_cons_zero, List.set_cons_succ]
  refine k_build0 rfl rfl ?_; try simp only [Act.put, List.setIfInBounds_toArray, List.set_cons_zero, List.set_cons_succ]
  refine k_eql0 rfl _ _ _ rfl rfl rfl ?_; try simp only [Act.put, List.setIfInBounds_toArray, List.set_cons_zero, List.set_cons_succ]
  refine k_boolm rfl _ rfl rfl ?_; try simp only [Act.put, List.setIfInBounds_toArray, List.set_cons_zero, List.set_cons_succ]
  refine k_slice rfl _ rfl rfl ?_; try simp only [Act.put, List.setIfInBounds_toArray, List.set_cons_zero, List.set_cons_succ]
  refine k_lenNd rfl _ rfl rfl ?_; try simp only [Act.put, List.setIfInBounds_toArray, List.set_cons_zero, List.set_cons_succ]
  refine k_ints (t := true) rfl _ _ _ rfl rfl rfl rfl ?_; try simp only [Act.put, List.setIfInBounds_toArray, List.set_cons_zero, List.set_cons_succ]
  refine k_pickT rfl _ _ _ rfl rfl rfl ?_; try simp only [Act.put, List.setIfInBounds_toArray, List.set_cons_zero, List.set_cons_succ]
  refine k_pickF rfl _ _ _ rfl rfl rfl ?_; try simp only [Act.put, List.setIfInBounds_toArray, List.set_cons_zero, List.set_cons_succ]
  refine k_pickT rfl _ _ _ rfl rfl rfl ?_; try simp only [Act.put, List.setIfInBounds_toArray, List.set_cons_zero, List.set_cons_succ]
  refine k_boola rfl _ rfl rfl ?_; try simp only [Act.put, List.setIfInBounds_toArray, List.set_cons_zero, List.set_cons_succ]
  refine k_end ?_; try simp only [Act.put, List.setIfInBounds_toArray, List.set_cons_zero, List.set_cons_succ]
  intro zz hTz
  go_wp2
  go_ret
  exact ⟨rfl, HFR.out.trans hTz⟩
set_option maxHeartbeats 8000000 in
theorem tw_twice (k : Nat) (w : World) (hk : k ≤ 200) :
    Calls Try.prog 4 #[.int .i64 0, .int .i64 (k : Int)] w fun e w' => e = .returned (.bool true) ∧ Tch [] w w' := by
  obtain ⟨PS, hPS⟩ : ∃ PS : List En, PS = [([97], [49]), ([98], [50]), ([97], [51])] := ⟨_, rfl⟩
  have hmay : mayE PS = 1 := by rw [hPS]; exact (by decide)
  have HRT := Lib.hid (fun (W : World) (v : Value) (hv : PairsAt W v PS) => show Calls Try.prog 9 #[v] W fun e w' => e = .returned (.tuple #[.agg (wf (fun _ => 0)), .int .i64 1]) ∧ Tch [] W w' from by
    have h := Root_any v PS W hv (by rw [hPS]; simp) (fun hm p hp => by exact absurd (hmay.symm.trans hm) (by decide))
    rw [hmay] at h
    rw [show rootW PS = fun _ => 0 from by unfold rootW; rw [if_neg (by rw [hmay]; decide)]] at h; exact h)
  have HND := Lib.hid (fun (W : World) (v : Value) (hv : PairsAt W v PS) => show Calls Try.prog 13 #[v] W fun e w' => Tch [] W w' ∧ ∃ p c, e = .returned (.tuple #[.slice p 0 c, .int .i64 1]) from (Nodes_weak v PS W hv (by rw [hPS]; simp) (fun hm p hp => by exact absurd (hmay.symm.trans hm) (by decide))).mono fun e w' h => by
    obtain ⟨h1, p, n, c, he, hz⟩ := h
    rw [hmay] at he hz
    rw [hz (by decide)] at he; exact ⟨h1, p, c, he⟩)
  have e1 : ¬ (k : Int) < 0 := by omega
  have e2 : ¬ (200 : Int) < (k : Int) := by omega
  have kb := build_pair
  have hS := St.start w
  clear hmay
  have HPS := Lib.hid hPS
  clear hPS
  skip
  skip
  skip
  go_enter Try.func4, Try.ntmps4
  go_upto_region 4 with (go_at_call 5; refine (alive6_any _).mono ?_; rintro e w1 ⟨rfl, hT⟩; replace hS := hS.call hT; clear hT)
  go_upto_region 5 with (first
    | (go_at_call 12; (refine (lpair_any ⟨#[97]⟩ ⟨#[49]⟩ [97] [49] _ rfl rfl).mono ?_; rintro e x1 ⟨hT, p1, m1, q1, n1, rfl, hk1, hv1⟩; replace hS := hS.call hT; clear hT))
    | (go_at_call 12; (refine (lpair_any ⟨#[98]⟩ ⟨#[50]⟩ [98] [50] _ rfl rfl).mono ?_; rintro e x2 ⟨hT, p2, m2, q2, n2, rfl, hk2, hv2⟩; replace hk1 := hk1.tch hT (by simp); replace hv1 := hv1.tch hT (by simp); replace hS := hS.call hT; clear hT))
    | (refine st_buildVT #[(0, .agg #[.slice p1 1 m1, .slice q1 1 n1]), (1, .agg #[.slice p2 1 m2, .slice q2 1 n2])] hS rfl rfl (by simp only [List.map_toArray, List.map_cons, List.map_nil]; rfl) (build2P _ _ _ _ _ _ _ _ _ _ _ _) ?_; clear hS; intro y bp hS hTn; have HR := Lib.hid (And.intro (hk1.tch hTn (by simp)) (And.intro (hv1.tch hTn (by simp)) (And.intro (hk2.tch hTn (by simp)) (hv2.tch hTn (by simp))))); clear hTn hk1 hv1 hk2 hv2))
  have hY : Tch [] y y := Tch.refl _ _
  go_upto_region 9 with (first
    | (go_at_call 12; (refine (lpair_any ⟨#[97]⟩ ⟨#[51]⟩ [97] [51] _ rfl rfl).mono ?_; rintro e x3 ⟨hT, p3, m3, q3, n3, rfl, hk3, hv3⟩; replace hY := hY.trans hT; have H3 := Lib.hid (And.intro hk3 hv3); replace hS := hS.call hT; clear hT hk3 hv3))
    | (have _g := H3; refine st_buildC #[(0, .agg #[.slice p3 1 m3, .slice q3 1 n3])] rfl rfl (by simp only [List.map_toArray, List.map_cons, List.map_nil]; rfl) (build1Pw _ _ _ _ _ _) ?_; intro y3 hy3)
    | (subst hy3; refine st_appP (w0 := w) (bp := bp) rfl _ _ rfl rfl rfl (hS.get .head) rfl ((hS.own .head).resolve_right (by simp)) hS.frame.size rfl (pair2_one _ _ _ _ _ _) ?_; intro g cap cur y4 hBg hgw hcs htk hcap hTb hgb; have HG := Lib.hid (And.intro hBg (And.intro hgw (And.intro hcs (And.intro htk (And.intro hcap (And.intro hTb (And.intro (hS.get .head) (And.intro hS.frame ((hS.own .head).resolve_right (by simp)))))))))); have HGB := Lib.hid hgb; clear hBg hgw hcs htk hcap hTb hgb))
  have HY := Lib.hid hY
  have hS2 : St [] w y4 [(g, 38, cur)] := ⟨HG.out.2.2.2.2.2.2.2.1.fresh HG.out.2.2.2.2.2.1 (fun x hx => by rw [List.mem_singleton.1 hx]; exact HG.out.2.2.2.2.2.2.2.2), fun e he => by rcases List.mem_singleton.1 he with rfl; exact ⟨HG.out.1, .inl HG.out.2.1⟩, List.pairwise_singleton _ _⟩
  clear hS hY
  have hS := hS2
  clear hS2
  have HB6 := Lib.hid (tw_six HG.out.2.2.2.2.2.1 HG.out.2.2.2.2.2.2.1 (nob4 _ _ _ _ _ _ _ _ _ _ _ _) HGB.out)
  have HR6 := Lib.hid (And.intro (HB6.out _ _ (HR.out.1.tch HY.out (by simp))) (And.intro (HB6.out _ _ (HR.out.2.1.tch HY.out (by simp))) (And.intro (HB6.out _ _ (HR.out.2.2.1.tch HY.out (by simp))) (And.intro (HB6.out _ _ (HR.out.2.2.2.tch HY.out (by simp))) (And.intro (HB6.out _ _ H3.out.1) (HB6.out _ _ H3.out.2))))))
  clear HB6
  have hA : Tch [] y4 y4 := Tch.refl _ _
  have HPA := Lib.hid (fun (W : World) (h : Tch [] y4 W) => show PairsAt W (.slice (some ⟨g, 0, none⟩) 3 cap) PS from by
    rw [HPS.out]
    exact pairs3 (h.blk HG.out.1 (by simp)) HG.out.2.2.2.1 HG.out.2.2.2.2.1 (HR6.out.1.rdB.tch h (by simp)) (HR6.out.2.1.rdB.tch h (by simp)) (HR6.out.2.2.1.rdB.tch h (by simp)) (HR6.out.2.2.2.1.rdB.tch h (by simp)) (HR6.out.2.2.2.2.1.rdB.tch h (by simp)) (HR6.out.2.2.2.2.2.rdB.tch h (by simp)))
  clear HG HR6 HY H3
  go_upto_region 26 with (first
    | (go_at_call 9; refine (HRT.out _ _ (HPA.out _ hA)).mono ?_; rintro e z1 ⟨rfl, hT⟩; replace hS := hS.call hT; replace hA := hA.trans hT; clear hT)
    | (refine st_newT hS rfl 33 rfl word_zero ?_; clear hS; intro z2 b8 hS hTa hba; have HTA := Lib.hid (And.intro hTa hba); clear hTa hba)
    | (refine st_storeO (b := b8) (c' := wf (fun _ => 0)) hS rfl 33 _ _ rfl rfl rfl .head word_size (wf_size _) (wf_size _) (wf_one _) ?_; clear hS; intro z3 hS hO; replace hA := hA.trans (HTA.out.1.only hO (.inl HTA.out.2)); clear hO)
    | (go_at_call 13; refine (HND.out _ _ (HPA.out _ hA)).mono ?_; rintro e z4 ⟨hT, pn, cn, rfl⟩; replace hS := hS.call hT; clear hT))
  have HWB := Lib.hid (fun (w' : World) (h : Tch [] z4 w') => h.blk (hS.get .head) (by simp))
  have HFR := Lib.hid hS.frame
  clear hS kb HRT HND HPA hA HTA HR HPS e1 e2
  try simp only [Act.put, List.setIfInBounds_toArray, List.set_cons_zero, List.set_cons_succ]
  refine k_seq (C := fun w' => Tch [] z4 w') (Tch.refl _ _) ?_
  refine k_intm rfl _ rfl rfl ?_; try simp only [Act.put, List.setIfInBounds_toArray, List.set_cons_zero, List.set_cons_succ]
  refine k_callC1 rfl rfl rfl Try.call10 (fun w' h => (num6_any _ w').mono fun e w'' h2 => ⟨h2.1, h.trans h2.2⟩) ?_; try simp only [Act.put, List.setIfInBounds_toArray, List.set_cons_zero, List.set_cons_succ]
  refine k_intm rfl _ rfl rfl ?_; try simp only [Act.put, List.setIfInBounds_toArray, List.set_cons_zero, List.set_cons_succ]
  refine k_ints (t := true) rfl _ _ _ rfl rfl rfl rfl ?_; try simp only [Act.put, List.setIfInBounds_toArray, List.set_cons_zero, List.set_cons_succ]
  refine k_boolm rfl _ rfl rfl ?_; try simp only [Act.put, List.setIfInBounds_toArray, List.set_cons_zero, List.set_cons_succ]
  refine k_intm rfl _ rfl rfl ?_; try simp only [Act.put, List.setIfInBounds_toArray, List.set_cons_zero, List.set_cons_succ]
  refine k_callC1 rfl rfl rfl Try.call10 (fun w' h => (num6_any _ w').mono fun e w'' h2 => ⟨h2.1, h.trans h2.2⟩) ?_; try simp only [Act.put, List.setIfInBounds_toArray, List.set_cons_zero, List.set_cons_succ]
  refine k_intm rfl _ rfl rfl ?_; try simp only [Act.put, List.setIfInBounds_toArray, List.set_cons_zero, List.set_cons_succ]
  refine k_ints (t := true) rfl _ _ _ rfl rfl rfl rfl ?_; try simp only [Act.put, List.setIfInBounds_toArray, List.set_cons_zero, List.set_cons_succ]
  refine k_pickT rfl _ _ _ rfl rfl rfl ?_; try simp only [Act.put, List.setIfInBounds_toArray, List.set_cons_zero, List.set_cons_succ]
  refine k_boolm rfl _ rfl rfl ?_; try simp only [Act.put, List.setIfInBounds_toArray, List.set_cons_zero, List.set_cons_succ]
  refine k_intm rfl _ rfl rfl ?_; try simp only [Act.put, List.setIfInBounds_toArray, List.set_cons_zero, List.set_cons_succ]
  refine k_ints (t := false) rfl _ _ _ rfl rfl rfl rfl ?_; try simp only [Act.put, List.setIfInBounds_toArray, List.set_cons_zero, List.set_cons_succ]
  refine k_boolm rfl _ rfl rfl ?_; try simp only [Act.put, List.setIfInBounds_toArray, List.set_cons_zero, List.set_cons_succ]
  refine k_loadW (b := b8) rfl _ rfl rfl (fun w' h => HWB.out w' h) (wf_size _) ?_; try simp only [Act.put, List.setIfInBounds_toArray, List.set_cons_zero, List.set_cons_succ]
  refine k_build0 rfl rfl ?_; try simp only [Act.put, List.setIfInBounds_toArray, List.set_cons_zero, List.set_cons_succ]
  refine k_eql0 rfl _ _ _ rfl rfl rfl ?_; try simp only [Act.put, List.setIfInBounds_toArray, List.set_cons_zero, List.set_cons_succ]
  refine k_boolm rfl _ rfl rfl ?_; try simp only [Act.put, List.setIfInBounds_toArray, List.set_cons_zero, List.set_cons_succ]
  refine k_slice rfl _ rfl rfl ?_; try simp only [Act.put, List.setIfInBounds_toArray, List.set_cons_zero, List.set_cons_succ]
  refine k_lenNd rfl _ rfl rfl ?_; try simp only [Act.put, List.setIfInBounds_toArray, List.set_cons_zero, List.set_cons_succ]
  refine k_ints (t := true) rfl _ _ _ rfl rfl rfl rfl ?_; try simp only [Act.put, List.setIfInBounds_toArray, List.set_cons_zero, List.set_cons_succ]
  refine k_pickT rfl _ _ _ rfl rfl rfl ?_; try simp only [Act.put, List.setIfInBounds_toArray, List.set_cons_zero, List.set_cons_succ]
  refine k_pickF rfl _ _ _ rfl rfl rfl ?_; try simp only [Act.put, List.setIfInBounds_toArray, List.set_cons_zero, List.set_cons_succ]
  refine k_pickT rfl _ _ _ rfl rfl rfl ?_; try simp only [Act.put, List.setIfInBounds_toArray, List.set_cons_zero, List.set_cons_succ]
  refine k_boola rfl _ rfl rfl ?_; try simp only [Act.put, List.setIfInBounds_toArray, List.set_cons_zero, List.set_cons_succ]
  refine k_end ?_; try simp only [Act.put, List.setIfInBounds_toArray, List.set_cons_zero, List.set_cons_succ]
  intro zz hTz
  go_wp2
  go_ret
  exact ⟨rfl, HFR.out.trans hTz⟩
set_option maxHeartbeats 8000000 in
theorem tw_key3 (k : Nat) (w : World) (hk : k ≤ 200) :
    Calls Try.prog 4 #[.int .i64 3, .int .i64 (k : Int)] w fun e w' => e = .returned (.bool true) ∧ Tch [] w w' := by
  obtain ⟨PS, hPS⟩ : ∃ PS : List En, PS = [([97], [49]), (zb (65 + k), [50]), ([97], [51])] := ⟨_, rfl⟩
  have hmay : mayE PS = 3 := by rw [hPS]; exact may_long (p := (zb (65 + k), [50])) (by simp) (.inl (by show 64 < (zb (65 + k)).length; rw [zb_len]; omega))
  have HRT := Lib.hid (fun (W : World) (v : Value) (hv : PairsAt W v PS) => show Calls Try.prog 9 #[v] W fun e w' => e = .returned (.tuple #[.agg (wf (fun _ => 0)), .int .i64 3]) ∧ Tch [] W w' from by
    have h := Root_any v PS W hv (by rw [hPS]; simp) (fun hm p hp => by exact absurd (hmay.symm.trans hm) (by decide))
    rw [hmay] at h
    rw [show rootW PS = fun _ => 0 from by unfold rootW; rw [if_neg (by rw [hmay]; decide)]] at h; exact h)
  have HND := Lib.hid (fun (W : World) (v : Value) (hv : PairsAt W v PS) => show Calls Try.prog 13 #[v] W fun e w' => Tch [] W w' ∧ ∃ p c, e = .returned (.tuple #[.slice p 0 c, .int .i64 3]) from (Nodes_weak v PS W hv (by rw [hPS]; simp) (fun hm p hp => by exact absurd (hmay.symm.trans hm) (by decide))).mono fun e w' h => by
    obtain ⟨h1, p, n, c, he, hz⟩ := h
    rw [hmay] at he hz
    rw [hz (by decide)] at he; exact ⟨h1, p, c, he⟩)
  have e1 : ¬ (k : Int) < 0 := by omega
  have e2 : ¬ (200 : Int) < (k : Int) := by omega
  have kb := build_pair
  have hS := St.start w
  clear hmay
  have HPS := Lib.hid hPS
  clear hPS
  skip
  skip
  skip
  go_enter Try.func4, Try.ntmps4
  go_upto_region 4 with (go_at_call 5; refine (alive6_any _).mono ?_; rintro e w1 ⟨rfl, hT⟩; replace hS := hS.call hT; clear hT)
  go_upto_region 5 with (first
    | (go_at_call 12; (refine (lpair_any ⟨#[97]⟩ ⟨#[49]⟩ [97] [49] _ rfl rfl).mono ?_; rintro e x1 ⟨hT, p1, m1, q1, n1, rfl, hk1, hv1⟩; replace hS := hS.call hT; clear hT))
    | (go_at_call 12; (refine (lpair_any ⟨#[98]⟩ ⟨#[50]⟩ [98] [50] _ rfl rfl).mono ?_; rintro e x2 ⟨hT, p2, m2, q2, n2, rfl, hk2, hv2⟩; replace hk1 := hk1.tch hT (by simp); replace hv1 := hv1.tch hT (by simp); replace hS := hS.call hT; clear hT))
    | (refine st_buildVT #[(0, .agg #[.slice p1 1 m1, .slice q1 1 n1]), (1, .agg #[.slice p2 1 m2, .slice q2 1 n2])] hS rfl rfl (by simp only [List.map_toArray, List.map_cons, List.map_nil]; rfl) (build2P _ _ _ _ _ _ _ _ _ _ _ _) ?_; clear hS; intro y bp hS hTn; have HR := Lib.hid (And.intro (hk1.tch hTn (by simp)) (And.intro (hv1.tch hTn (by simp)) (And.intro (hk2.tch hTn (by simp)) (hv2.tch hTn (by simp))))); clear hTn hk1 hv1 hk2 hv2))
  have hY : Tch [] y y := Tch.refl _ _
  go_upto_region 19 with (first
    | (go_at_call 12; (refine (lpair_any ⟨#[97]⟩ ⟨#[51]⟩ [97] [51] _ rfl rfl).mono ?_; rintro e x3 ⟨hT, p3, m3, q3, n3, rfl, hk3, hv3⟩; replace hY := hY.trans hT; have H3 := Lib.hid (And.intro hk3 hv3); replace hS := hS.call hT; clear hT hk3 hv3))
    | (have _g := H3; refine st_buildC #[(0, .agg #[.slice p3 1 m3, .slice q3 1 n3])] rfl rfl (by simp only [List.map_toArray, List.map_cons, List.map_nil]; rfl) (build1Pw _ _ _ _ _ _) ?_; intro y3 hy3)
    | (subst hy3; refine st_appP (w0 := w) (bp := bp) rfl _ _ rfl rfl rfl (hS.get .head) rfl ((hS.own .head).resolve_right (by simp)) hS.frame.size rfl (pair2_one _ _ _ _ _ _) ?_; intro g cap cur y4 hBg hgw hcs htk hcap hTb hgb; have HG := Lib.hid (And.intro hBg (And.intro hgw (And.intro hcs (And.intro htk (And.intro hcap (And.intro hTb (And.intro (hS.get .head) (And.intro hS.frame ((hS.own .head).resolve_right (by simp)))))))))); have HGB := Lib.hid hgb; clear hBg hgw hcs htk hcap hTb hgb))
  have HY := Lib.hid hY
  have hS2 : St [] w y4 [(g, 38, cur)] := ⟨HG.out.2.2.2.2.2.2.2.1.fresh HG.out.2.2.2.2.2.1 (fun x hx => by rw [List.mem_singleton.1 hx]; exact HG.out.2.2.2.2.2.2.2.2), fun e he => by rcases List.mem_singleton.1 he with rfl; exact ⟨HG.out.1, .inl HG.out.2.1⟩, List.pairwise_singleton _ _⟩
  clear hS hY
  have hS := hS2
  clear hS2
  have HB6 := Lib.hid (tw_six HG.out.2.2.2.2.2.1 HG.out.2.2.2.2.2.2.1 (nob4 _ _ _ _ _ _ _ _ _ _ _ _) HGB.out)
  have HR6 := Lib.hid (And.intro (HB6.out _ _ (HR.out.1.tch HY.out (by simp))) (And.intro (HB6.out _ _ (HR.out.2.1.tch HY.out (by simp))) (And.intro (HB6.out _ _ (HR.out.2.2.1.tch HY.out (by simp))) (And.intro (HB6.out _ _ (HR.out.2.2.2.tch HY.out (by simp))) (And.intro (HB6.out _ _ H3.out.1) (HB6.out _ _ H3.out.2))))))
  clear HB6
  have ki := fun w => idxP g 3 cap (j := 1) (by decide) w
  have kf := fa_p20
  have h65 : IntKind.i64.wrap (65 + (k : Int)) = ((65 + k : Nat) : Int) := tw_wrap hk
  have hi65 : (65 : Int) + (k : Int) = ((65 + k : Nat) : Int) := by omega
  have hY2 : Tch [] y4 y4 := Tch.refl _ _
  obtain ⟨kk, hkk⟩ : ∃ kk, kk = 65 + k := ⟨_, rfl⟩
  rw [← hkk] at h65 hi65
  have HKK := Lib.hid hkk
  have hkl : kk ≤ 16777216 := by omega
  clear hkk
  have HCS := Lib.hid (show 2 < cur.size by have := HG.out.2.2.1; omega)
  go_upto_region 20 with (first
    | (refine st_makeB2 kk hS rfl _ _ rfl rfl rfl hkl ?_; clear hS; intro y5 bz hS hz hTz hbz; have HZ := Lib.hid (And.intro hz (And.intro hTz hbz)); clear hz hTz hbz)
    | (refine st_storeV (v := .slice (some ⟨bz, 0, none⟩) kk kk) (j := 2) hS rfl 22 _ _ rfl rfl rfl rfl bytes_size1 .head HCS.out ?_; have hB0 := hS.get .head; clear hS; intro y6 hS hO; have HO := Lib.hid (And.intro hB0 hO); clear hB0 hO))
  have hA : Tch [] y6 y6 := Tch.refl _ _
  have HPA := Lib.hid (fun (W : World) (h : Tch [] y6 W) => show PairsAt W (.slice (some ⟨g, 0, none⟩) 3 cap) PS from by
    rw [HPS.out, ← HKK.out]
    exact pairs3 (h.blk (hS.get .head) (by simp)) (tw_set HG.out.2.2.2.1 HG.out.2.2.1) HG.out.2.2.2.2.1 (((HR6.out.1.tch (HZ.out.2.1.mono (by simp))).tch HO.out.2.tch).rdB.tch h (by simp)) (((HR6.out.2.1.tch (HZ.out.2.1.mono (by simp))).tch HO.out.2.tch).rdB.tch h (by simp)) (((rdB_at (X := [g]) HZ.out.1 (fun hm => by have := List.mem_singleton.1 hm; have := HZ.out.2.2; have := HG.out.1.lt; omega)).tch HO.out.2.tch).rdB.tch h (by simp)) (((HR6.out.2.2.2.1.tch (HZ.out.2.1.mono (by simp))).tch HO.out.2.tch).rdB.tch h (by simp)) (((HR6.out.2.2.2.2.1.tch (HZ.out.2.1.mono (by simp))).tch HO.out.2.tch).rdB.tch h (by simp)) (((HR6.out.2.2.2.2.2.tch (HZ.out.2.1.mono (by simp))).tch HO.out.2.tch).rdB.tch h (by simp)))
  clear HG HR6 HY H3
  go_upto_region 26 with (first
    | (go_at_call 9; refine (HRT.out _ _ (HPA.out _ hA)).mono ?_; rintro e z1 ⟨rfl, hT⟩; replace hS := hS.call hT; replace hA := hA.trans hT; clear hT)
    | (refine st_newT hS rfl 33 rfl word_zero ?_; clear hS; intro z2 b8 hS hTa hba; have HTA := Lib.hid (And.intro hTa hba); clear hTa hba)
    | (refine st_storeO (b := b8) (c' := wf (fun _ => 0)) hS rfl 33 _ _ rfl rfl rfl .head word_size (wf_size _) (wf_size _) (wf_one _) ?_; clear hS; intro z3 hS hO; replace hA := hA.trans (HTA.out.1.only hO (.inl HTA.out.2)); clear hO)
    | (go_at_call 13; refine (HND.out _ _ (HPA.out _ hA)).mono ?_; rintro e z4 ⟨hT, pn, cn, rfl⟩; replace hS := hS.call hT; clear hT))
  have HWB := Lib.hid (fun (w' : World) (h : Tch [] z4 w') => h.blk (hS.get .head) (by simp))
  have HFR := Lib.hid hS.frame
  clear hS kb HRT HND HPA hA HTA HR HPS e1 e2
  try simp only [Act.put, List.setIfInBounds_toArray, List.set_cons_zero, List.set_cons_succ]
  refine k_seq (C := fun w' => Tch [] z4 w') (Tch.refl _ _) ?_
  refine k_intm rfl _ rfl rfl ?_; try simp only [Act.put, List.setIfInBounds_toArray, List.set_cons_zero, List.set_cons_succ]
  refine k_callC1 rfl rfl rfl Try.call10 (fun w' h => (num6_any _ w').mono fun e w'' h2 => ⟨h2.1, h.trans h2.2⟩) ?_; try simp only [Act.put, List.setIfInBounds_toArray, List.set_cons_zero, List.set_cons_succ]
  refine k_intm rfl _ rfl rfl ?_; try simp only [Act.put, List.setIfInBounds_toArray, List.set_cons_zero, List.set_cons_succ]
  refine k_ints (t := true) rfl _ _ _ rfl rfl rfl rfl ?_; try simp only [Act.put, List.setIfInBounds_toArray, List.set_cons_zero, List.set_cons_succ]
  refine k_boolm rfl _ rfl rfl ?_; try simp only [Act.put, List.setIfInBounds_toArray, List.set_cons_zero, List.set_cons_succ]
  refine k_intm rfl _ rfl rfl ?_; try simp only [Act.put, List.setIfInBounds_toArray, List.set_cons_zero, List.set_cons_succ]
  refine k_callC1 rfl rfl rfl Try.call10 (fun w' h => (num6_any _ w').mono fun e w'' h2 => ⟨h2.1, h.trans h2.2⟩) ?_; try simp only [Act.put, List.setIfInBounds_toArray, List.set_cons_zero, List.set_cons_succ]
  refine k_intm rfl _ rfl rfl ?_; try simp only [Act.put, List.setIfInBounds_toArray, List.set_cons_zero, List.set_cons_succ]
  refine k_ints (t := true) rfl _ _ _ rfl rfl rfl rfl ?_; try simp only [Act.put, List.setIfInBounds_toArray, List.set_cons_zero, List.set_cons_succ]
  refine k_pickT rfl _ _ _ rfl rfl rfl ?_; try simp only [Act.put, List.setIfInBounds_toArray, List.set_cons_zero, List.set_cons_succ]
  refine k_boolm rfl _ rfl rfl ?_; try simp only [Act.put, List.setIfInBounds_toArray, List.set_cons_zero, List.set_cons_succ]
  refine k_intm rfl _ rfl rfl ?_; try simp only [Act.put, List.setIfInBounds_toArray, List.set_cons_zero, List.set_cons_succ]
  refine k_ints (t := false) rfl _ _ _ rfl rfl rfl rfl ?_; try simp only [Act.put, List.setIfInBounds_toArray, List.set_cons_zero, List.set_cons_succ]
  refine k_boolm rfl _ rfl rfl ?_; try simp only [Act.put, List.setIfInBounds_toArray, List.set_cons_zero, List.set_cons_succ]
  refine k_loadW (b := b8) rfl _ rfl rfl (fun w' h => HWB.out w' h) (wf_size _) ?_; try simp only [Act.put, List.setIfInBounds_toArray, List.set_cons_zero, List.set_cons_succ]
  refine k_build0 rfl rfl ?_; try simp only [Act.put, List.setIfInBounds_toArray, List.set_cons_zero, List.set_cons_succ]
  refine k_eql0 rfl _ _ _ rfl rfl rfl ?_; try simp only [Act.put, List.setIfInBounds_toArray, List.set_cons_zero, List.set_cons_succ]
  refine k_boolm rfl _ rfl rfl ?_; try simp only [Act.put, List.setIfInBounds_toArray, List.set_cons_zero, List.set_cons_succ]
  refine k_slice rfl _ rfl rfl ?_; try simp only [Act.put, List.setIfInBounds_toArray, List.set_cons_zero, List.set_cons_succ]
  refine k_lenNd rfl _ rfl rfl ?_; try simp only [Act.put, List.setIfInBounds_toArray, List.set_cons_zero, List.set_cons_succ]
  refine k_ints (t := true) rfl _ _ _ rfl rfl rfl rfl ?_; try simp only [Act.put, List.setIfInBounds_toArray, List.set_cons_zero, List.set_cons_succ]
  refine k_pickT rfl _ _ _ rfl rfl rfl ?_; try simp only [Act.put, List.setIfInBounds_toArray, List.set_cons_zero, List.set_cons_succ]
  refine k_pickF rfl _ _ _ rfl rfl rfl ?_; try simp only [Act.put, List.setIfInBounds_toArray, List.set_cons_zero, List.set_cons_succ]
  refine k_pickT rfl _ _ _ rfl rfl rfl ?_; try simp only [Act.put, List.setIfInBounds_toArray, List.set_cons_zero, List.set_cons_succ]
  refine k_boola rfl _ rfl rfl ?_; try simp only [Act.put, List.setIfInBounds_toArray, List.set_cons_zero, List.set_cons_succ]
  refine k_end ?_; try simp only [Act.put, List.setIfInBounds_toArray, List.set_cons_zero, List.set_cons_succ]
  intro zz hTz
  go_wp2
  go_ret
  exact ⟨rfl, HFR.out.trans hTz⟩
end Go.Proofs.Ytfdihphhmhgejaa
