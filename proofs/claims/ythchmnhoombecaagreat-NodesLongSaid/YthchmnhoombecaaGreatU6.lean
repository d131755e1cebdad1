/- A tree of no pair or of one: what is taken back, what is too long; Get, Commit. -/
import Derived.Test.YthchmnhoombecaaGreatU5
namespace Go.Proofs.YthchmnhoombecaaGreat
open Go.RowKit

set_option maxHeartbeats 2000000 in
set_option maxRecDepth 100000 in
theorem setLeaf_gone (b : Nat) (p0 v0 p : Value) (pv : Option Addr) (c : Nat) (lp lv0 : List Nat) (w : World) (hB : Blk w b 95 #[p0, v0]) (h1 : RdB w p0 lp) (h2 : RdB w v0 lv0) (h3 : RdB w p lp) :
    Calls Tryz.prog 44 #[.pointer (some ⟨b, 0, none⟩), p, .slice pv 0 c] w fun e w' => e = .returned .nilIface ∧ Tch [] w w' := by
  obtain ⟨q1, c1, rfl⟩ := h1.shape
  obtain ⟨q2, c2, rfl⟩ := h2.shape
  obtain ⟨q3, c3, rfl⟩ := h3.shape
  have hc0 := hB.cell (j := 0) rfl
  have E1 := Lib.hid (equal_any _ _ lp lp w h1 h3)
  rw [beq_self_eq_true] at E1
  clear hB h1 h2 h3
  go_enter Tryz.func44, Tryz.ntmps44
  go_wp2_with (go_at_call 48; refine E1.out.mono ?_; rintro e w1 ⟨rfl, hT⟩)
  go_ret
  exact ⟨rfl, hT⟩
set_option maxHeartbeats 2000000 in
set_option maxRecDepth 100000 in
theorem set_gone (b : Nat) (tp p0 v0 p : Value) (pv : Option Addr) (c : Nat) (lp lv0 : List Nat) (w : World) (hB : Blk w b 95 #[p0, v0]) (h1 : RdB w p0 lp) (h2 : RdB w v0 lv0) (h3 : RdB w p lp) (h0 : lv0 ≠ []) :
    Calls Tryz.prog 28 #[tp, .iface 87 (.pointer (some ⟨b, 0, none⟩)), p, .slice pv 0 c] w fun e w' => e = .returned (.tuple #[.nilIface, .int .i64 0]) ∧ Tch [] w w' := by
  have k1 := ta_leaf_l
  have hf : (lv0 == ([] : List Nat)) = false := by simpa using h0
  have hr4 : ∀ w1, RdB w1 (.slice pv 0 c) [] := fun w1 => ⟨pv, c, rfl, Nat.zero_le _, by simp, fun h => absurd rfl h⟩
  have E1 := Lib.hid (fun (w1 : World) (hT : Tch [] w w1) => setsNothing_any b p0 v0 p (.slice pv 0 c) lp lv0 lp [] w1 (hT.blk hB (by simp)) (h1.tch hT (by simp)) (h2.tch hT (by simp)) (h3.tch hT (by simp)) (hr4 w1) rfl)
  rw [hf] at E1
  have E2 := Lib.hid (fun (w1 : World) (hT : Tch [] w w1) => setLeaf_gone b p0 v0 p pv c lp lv0 w1 (hT.blk hB (by simp)) (h1.tch hT (by simp)) (h2.tch hT (by simp)) (h3.tch hT (by simp)))
  obtain ⟨q3, c3, rfl⟩ := h3.shape
  clear hB h1 h2 h3 hf h0 hr4
  go_enter Tryz.func28, Tryz.ntmps28
  go_wp2_with (first
    | (go_at_call 27; refine (look_leaf _ _ _).mono ?_; rintro e w1 ⟨rfl, hT⟩)
    | (go_at_call 43; refine (E1.out _ hT).mono ?_; rintro e w2 ⟨rfl, hT2⟩; replace hT := hT.trans hT2)
    | (go_at_call 44; refine (E2.out _ hT).mono ?_; rintro e w3 ⟨rfl, hT3⟩))
  go_ret2
  exact ⟨rfl, hT.trans hT3⟩
set_option maxHeartbeats 2000000 in
set_option maxRecDepth 100000 in
theorem put_none (b : Nat) (s : Option Addr) (key value : Value) (lk lv : List Nat) (w : World) (hB : Blk w b 64 #[.pointer s, .nilIface]) (hk : RdB w key lk) (hv : RdB w value lv) (hlk : lk.length ≤ 64) (h0 : lv = []) :
    Calls Tryz.prog 16 #[.pointer (some ⟨b, 0, none⟩), key, value] w fun e w' => e = .returned (.int .i64 0) ∧ Tch [b] w w' ∧ Blk w' b 64 #[.pointer s, .nilIface] := by
  have hS := St.one hB
  obtain ⟨kp, kc, rfl⟩ := hk.shape
  obtain ⟨vp, vc, rfl⟩ := hv.shape
  have HB := Lib.hid hB
  have HK := Lib.hid (fun (w1 : World) (hT : Tch [] w w1) => hk.tch hT (by simp))
  have HV := Lib.hid (fun (w1 : World) (hT : Tch [] w w1) => hv.tch hT (by simp))
  have d1 : ¬ (64 : Int) < (lk.length : Int) := by omega
  have hl0 : lv.length = 0 := by rw [h0]; rfl
  have d2 : ¬ (1048576 : Int) < (lv.length : Int) := by omega
  clear hB hk hv
  go_enter Tryz.func16, Tryz.ntmps16
  go_upto_region 3 with fail
  refine wp_region_held_drew (S := fun w' => Tch [] w w') (by kernel_rfl) ((Tch.refl _ _).drew) (fun hC => ?_)
  generalize World.drew w = u0 at hC ⊢
  refine held_in (v := .pointer (some ⟨b, 0, none⟩)) 0 rfl (by kernel_rfl) (by kernel_rfl) (by kernel_rfl) (fun _ _ _ h => h) hC rfl (fun w' hw' => x_val (.inl rfl) rfl) ?_
  try simp only [Act.put, List.setIfInBounds_toArray, List.set_cons_zero, List.set_cons_succ]
  refine held_in (v := .pointer (some ⟨b, 0, none⟩)) 1 rfl (by kernel_rfl) (by kernel_rfl) (by kernel_rfl) (fun _ _ _ h => h) hC rfl (fun w' hw' => x_val (.inl rfl) rfl) ?_
  try simp only [Act.put, List.setIfInBounds_toArray, List.set_cons_zero, List.set_cons_succ]
  refine held_in (v := .pointer (some ⟨b, 0, none⟩)) 2 rfl (by kernel_rfl) (by kernel_rfl) (by kernel_rfl) (fun _ _ _ h => h) hC rfl (fun w' hw' => x_nilck _ rfl rfl) ?_
  try simp only [Act.put, List.setIfInBounds_toArray, List.set_cons_zero, List.set_cons_succ]
  refine held_in (v := .pointer (some ⟨b, 1, none⟩)) 3 rfl (by kernel_rfl) (by kernel_rfl) (by kernel_rfl) (fun _ _ _ h => h) hC rfl (fun w' hw' => x_fa _ _ _ rfl rfl (fa_tree _ _)) ?_
  try simp only [Act.put, List.setIfInBounds_toArray, List.set_cons_zero, List.set_cons_succ]
  refine held_in (v := .nilIface) 4 rfl (by kernel_rfl) (by kernel_rfl) (by kernel_rfl) (fun _ _ _ h => h) hC rfl (fun w' hw' => x_cell _ _ rfl rfl ((hw'.blk HB.out (by simp)).cell rfl) node_agg) ?_
  try simp only [Act.put, List.setIfInBounds_toArray, List.set_cons_zero, List.set_cons_succ]
  refine held_in (v := .slice kp lk.length kc) 5 rfl (by kernel_rfl) (by kernel_rfl) (by kernel_rfl) (fun _ _ _ h => h) hC rfl (fun w' hw' => x_val (.inl rfl) rfl) ?_
  try simp only [Act.put, List.setIfInBounds_toArray, List.set_cons_zero, List.set_cons_succ]
  refine held_in (v := .slice vp lv.length vc) 7 rfl (by kernel_rfl) (by kernel_rfl) (by kernel_rfl) (fun _ _ _ h => h) hC rfl (fun w' hw' => x_val (.inl rfl) rfl) ?_
  try simp only [Act.put, List.setIfInBounds_toArray, List.set_cons_zero, List.set_cons_succ]
  refine held_one 6 (by kernel_rfl) ?_
  refine held_call (v1 := .slice kp lk.length kc) rfl rfl rfl (by rfl) Tryz.call29 (Split_rd _ lk u0 (by omega) (HK.out u0 hC)) ?_
  rintro e u1 ⟨hT1, sp, sc, rfl, hr1⟩
  have hC1 := hC.trans hT1
  refine ⟨_, rfl, hC1, ?_⟩
  try simp only [Act.put, List.setIfInBounds_toArray, List.set_cons_zero, List.set_cons_succ]
  refine held_one 8 (by kernel_rfl) ?_
  refine held_call (v1 := .slice vp lv.length vc) rfl rfl rfl (by rfl) Tryz.call22 (clone_rd _ lv u1 (by omega) (HV.out u1 hC1)) ?_
  rintro e u2 ⟨hT2, cp, cc, rfl, hr2⟩
  have hC2 := hC1.trans hT2
  replace hr1 := hr1.tch hT2 (by simp)
  refine ⟨_, rfl, hC2, ?_⟩
  try simp only [Act.put, List.setIfInBounds_toArray, List.set_cons_zero, List.set_cons_succ]
  refine held_one 9 (by kernel_rfl) ?_
  refine held_call4 (v1 := .pointer (some ⟨b, 0, none⟩)) (v2 := .nilIface) (v3 := .slice sp (nibs lk).length sc) (v4 := .slice cp lv.length cc) rfl rfl rfl (by rfl) (by rfl) (by rfl) (by rfl) Tryz.call28 (by rw [hl0]; exact set_none _ _ _ _ u2) ?_
  rintro e u3 ⟨rfl, hT3⟩
  have hC3 := hC2.trans hT3
  refine ⟨_, rfl, hC3, ?_⟩
  try simp only [Act.put, List.setIfInBounds_toArray, List.set_cons_zero, List.set_cons_succ]
  refine held_in (v := .tuple #[.nilIface, .int .i64 0]) 10 rfl (by kernel_rfl) (by kernel_rfl) (by kernel_rfl) (fun _ _ _ h => h) hC3 rfl (fun w' hw' => x_val (.inl rfl) rfl) ?_
  try simp only [Act.put, List.setIfInBounds_toArray, List.set_cons_zero, List.set_cons_succ]
  refine held_in (v := .nilIface) 11 rfl (by kernel_rfl) (by kernel_rfl) (by kernel_rfl) (fun _ _ _ h => h) hC3 rfl (fun w' hw' => x_extract _ _ rfl rfl rfl) ?_
  try simp only [Act.put, List.setIfInBounds_toArray, List.set_cons_zero, List.set_cons_succ]
  refine held_in (v := .int .i64 0) 12 rfl (by kernel_rfl) (by kernel_rfl) (by kernel_rfl) (fun _ _ _ h => h) hC3 rfl (fun w' hw' => x_extract _ _ rfl rfl rfl) ?_
  try simp only [Act.put, List.setIfInBounds_toArray, List.set_cons_zero, List.set_cons_succ]
  refine held_in (v := .nilIface) 13 rfl (by kernel_rfl) (by kernel_rfl) (by kernel_rfl) (fun _ _ _ h => h) hC3 rfl (fun w' hw' => x_val (.inr rfl) rfl) ?_
  try simp only [Act.put, List.setIfInBounds_toArray, List.set_cons_zero, List.set_cons_succ]
  refine held_in (v := .int .i64 0) 14 rfl (by kernel_rfl) (by kernel_rfl) (by kernel_rfl) (fun _ _ _ h => h) hC3 rfl (fun w' hw' => x_val (.inr rfl) rfl) ?_
  try simp only [Act.put, List.setIfInBounds_toArray, List.set_cons_zero, List.set_cons_succ]
  refine wpAnyH_done (by kernel_rfl) ?_ _
  replace hS := hS.call hC3
  clear hr1 hr2 hT1 hT2 hT3 hC hC1 hC2 hC3 HK HV HB
  go_wp2_with (refine st_storeV (b := b) (j := 1) (v := .nilIface) hS rfl 62 _ _ rfl rfl rfl rfl node_size .head (show 1 < 2 by decide) ?_; clear hS; intro w4 hS hO)
  go_ret
  exact ⟨rfl, hS.frame, (by have h := hS.get .head; simpa using h)⟩
set_option maxHeartbeats 2000000 in
set_option maxRecDepth 100000 in
theorem put_gone (b bl : Nat) (s : Option Addr) (key value p u : Value) (lk lv lu : List Nat) (w : World) (hB : Blk w b 64 #[.pointer s, .iface 87 (.pointer (some ⟨bl, 0, none⟩))]) (hL : Blk w bl 95 #[p, u]) (hp : RdB w p (nibs lk)) (hu : RdB w u lu) (hlu : lu ≠ []) (hk : RdB w key lk) (hv : RdB w value lv) (hlk : lk.length ≤ 64) (h0 : lv = []) :
    Calls Tryz.prog 16 #[.pointer (some ⟨b, 0, none⟩), key, value] w fun e w' => e = .returned (.int .i64 0) ∧ Tch [b] w w' ∧ Blk w' b 64 #[.pointer s, .nilIface] := by
  have hS := St.one hB
  obtain ⟨kp, kc, rfl⟩ := hk.shape
  obtain ⟨vp, vc, rfl⟩ := hv.shape
  have HB := Lib.hid hB
  have HK := Lib.hid (fun (w1 : World) (hT : Tch [] w w1) => hk.tch hT (by simp))
  have HV := Lib.hid (fun (w1 : World) (hT : Tch [] w w1) => hv.tch hT (by simp))
  have d1 : ¬ (64 : Int) < (lk.length : Int) := by omega
  have hl0 : lv.length = 0 := by rw [h0]; rfl
  have d2 : ¬ (1048576 : Int) < (lv.length : Int) := by omega
  have HL := Lib.hid (fun (w1 : World) (hT : Tch [] w w1) => (And.intro (hT.blk hL (by simp)) (And.intro (hp.tch hT (by simp)) (hu.tch hT (by simp)))))
  clear hB hk hv hL hp hu
  go_enter Tryz.func16, Tryz.ntmps16
  go_upto_region 3 with fail
  refine wp_region_held_drew (S := fun w' => Tch [] w w') (by kernel_rfl) ((Tch.refl _ _).drew) (fun hC => ?_)
  generalize World.drew w = u0 at hC ⊢
  refine held_in (v := .pointer (some ⟨b, 0, none⟩)) 0 rfl (by kernel_rfl) (by kernel_rfl) (by kernel_rfl) (fun _ _ _ h => h) hC rfl (fun w' hw' => x_val (.inl rfl) rfl) ?_
  try simp only [Act.put, List.setIfInBounds_toArray, List.set_cons_zero, List.set_cons_succ]
  refine held_in (v := .pointer (some ⟨b, 0, none⟩)) 1 rfl (by kernel_rfl) (by kernel_rfl) (by kernel_rfl) (fun _ _ _ h => h) hC rfl (fun w' hw' => x_val (.inl rfl) rfl) ?_
  try simp only [Act.put, List.setIfInBounds_toArray, List.set_cons_zero, List.set_cons_succ]
  refine held_in (v := .pointer (some ⟨b, 0, none⟩)) 2 rfl (by kernel_rfl) (by kernel_rfl) (by kernel_rfl) (fun _ _ _ h => h) hC rfl (fun w' hw' => x_nilck _ rfl rfl) ?_
  try simp only [Act.put, List.setIfInBounds_toArray, List.set_cons_zero, List.set_cons_succ]
  refine held_in (v := .pointer (some ⟨b, 1, none⟩)) 3 rfl (by kernel_rfl) (by kernel_rfl) (by kernel_rfl) (fun _ _ _ h => h) hC rfl (fun w' hw' => x_fa _ _ _ rfl rfl (fa_tree _ _)) ?_
  try simp only [Act.put, List.setIfInBounds_toArray, List.set_cons_zero, List.set_cons_succ]
  refine held_in (v := .iface 87 (.pointer (some ⟨bl, 0, none⟩))) 4 rfl (by kernel_rfl) (by kernel_rfl) (by kernel_rfl) (fun _ _ _ h => h) hC rfl (fun w' hw' => x_cell _ _ rfl rfl ((hw'.blk HB.out (by simp)).cell rfl) node_agg) ?_
  try simp only [Act.put, List.setIfInBounds_toArray, List.set_cons_zero, List.set_cons_succ]
  refine held_in (v := .slice kp lk.length kc) 5 rfl (by kernel_rfl) (by kernel_rfl) (by kernel_rfl) (fun _ _ _ h => h) hC rfl (fun w' hw' => x_val (.inl rfl) rfl) ?_
  try simp only [Act.put, List.setIfInBounds_toArray, List.set_cons_zero, List.set_cons_succ]
  refine held_in (v := .slice vp lv.length vc) 7 rfl (by kernel_rfl) (by kernel_rfl) (by kernel_rfl) (fun _ _ _ h => h) hC rfl (fun w' hw' => x_val (.inl rfl) rfl) ?_
  try simp only [Act.put, List.setIfInBounds_toArray, List.set_cons_zero, List.set_cons_succ]
  refine held_one 6 (by kernel_rfl) ?_
  refine held_call (v1 := .slice kp lk.length kc) rfl rfl rfl (by rfl) Tryz.call29 (Split_rd _ lk u0 (by omega) (HK.out u0 hC)) ?_
  rintro e u1 ⟨hT1, sp, sc, rfl, hr1⟩
  have hC1 := hC.trans hT1
  refine ⟨_, rfl, hC1, ?_⟩
  try simp only [Act.put, List.setIfInBounds_toArray, List.set_cons_zero, List.set_cons_succ]
  refine held_one 8 (by kernel_rfl) ?_
  refine held_call (v1 := .slice vp lv.length vc) rfl rfl rfl (by rfl) Tryz.call22 (clone_rd _ lv u1 (by omega) (HV.out u1 hC1)) ?_
  rintro e u2 ⟨hT2, cp, cc, rfl, hr2⟩
  have hC2 := hC1.trans hT2
  replace hr1 := hr1.tch hT2 (by simp)
  refine ⟨_, rfl, hC2, ?_⟩
  try simp only [Act.put, List.setIfInBounds_toArray, List.set_cons_zero, List.set_cons_succ]
  refine held_one 9 (by kernel_rfl) ?_
  refine held_call4 (v1 := .pointer (some ⟨b, 0, none⟩)) (v2 := .iface 87 (.pointer (some ⟨bl, 0, none⟩))) (v3 := .slice sp (nibs lk).length sc) (v4 := .slice cp lv.length cc) rfl rfl rfl (by rfl) (by rfl) (by rfl) (by rfl) Tryz.call28 (by rw [hl0]; exact set_gone bl _ p u _ _ _ (nibs lk) lu u2 (HL.out u2 hC2).1 (HL.out u2 hC2).2.1 (HL.out u2 hC2).2.2 hr1 hlu) ?_
  rintro e u3 ⟨rfl, hT3⟩
  have hC3 := hC2.trans hT3
  refine ⟨_, rfl, hC3, ?_⟩
  try simp only [Act.put, List.setIfInBounds_toArray, List.set_cons_zero, List.set_cons_succ]
  refine held_in (v := .tuple #[.nilIface, .int .i64 0]) 10 rfl (by kernel_rfl) (by kernel_rfl) (by kernel_rfl) (fun _ _ _ h => h) hC3 rfl (fun w' hw' => x_val (.inl rfl) rfl) ?_
  try simp only [Act.put, List.setIfInBounds_toArray, List.set_cons_zero, List.set_cons_succ]
  refine held_in (v := .nilIface) 11 rfl (by kernel_rfl) (by kernel_rfl) (by kernel_rfl) (fun _ _ _ h => h) hC3 rfl (fun w' hw' => x_extract _ _ rfl rfl rfl) ?_
  try simp only [Act.put, List.setIfInBounds_toArray, List.set_cons_zero, List.set_cons_succ]
  refine held_in (v := .int .i64 0) 12 rfl (by kernel_rfl) (by kernel_rfl) (by kernel_rfl) (fun _ _ _ h => h) hC3 rfl (fun w' hw' => x_extract _ _ rfl rfl rfl) ?_
  try simp only [Act.put, List.setIfInBounds_toArray, List.set_cons_zero, List.set_cons_succ]
  refine held_in (v := .nilIface) 13 rfl (by kernel_rfl) (by kernel_rfl) (by kernel_rfl) (fun _ _ _ h => h) hC3 rfl (fun w' hw' => x_val (.inr rfl) rfl) ?_
  try simp only [Act.put, List.setIfInBounds_toArray, List.set_cons_zero, List.set_cons_succ]
  refine held_in (v := .int .i64 0) 14 rfl (by kernel_rfl) (by kernel_rfl) (by kernel_rfl) (fun _ _ _ h => h) hC3 rfl (fun w' hw' => x_val (.inr rfl) rfl) ?_
  try simp only [Act.put, List.setIfInBounds_toArray, List.set_cons_zero, List.set_cons_succ]
  refine wpAnyH_done (by kernel_rfl) ?_ _
  replace hS := hS.call hC3
  clear hr1 hr2 hT1 hT2 hT3 hC hC1 hC2 hC3 HK HV HB HL
  go_wp2_with (refine st_storeV (b := b) (j := 1) (v := .nilIface) hS rfl 62 _ _ rfl rfl rfl rfl node_size .head (show 1 < 2 by decide) ?_; clear hS; intro w4 hS hO)
  go_ret
  exact ⟨rfl, hS.frame, (by have h := hS.get .head; simpa using h)⟩
set_option maxHeartbeats 1000000 in
set_option maxRecDepth 100000 in
theorem put_long (b : Value) (key value : Value) (lk lv : List Nat) (w : World) (hk : RdB w key lk) (hv : RdB w value lv) (h : 64 < lk.length ∨ 1048576 < lv.length) :
    Calls Tryz.prog 16 #[b, key, value] w fun e w' => e = .returned (.int .i64 3) ∧ w' = w := by
  obtain ⟨kp, kc, rfl⟩ := hk.shape
  obtain ⟨vp, vc, rfl⟩ := hv.shape
  clear hk hv
  by_cases h1 : 64 < lk.length
  · have d1 : (64 : Int) < (lk.length : Int) := by omega
    go_enter Tryz.func16, Tryz.ntmps16
    go_wp2_with fail
    go_ret
    exact ⟨rfl, rfl⟩
  · have d1 : ¬ (64 : Int) < (lk.length : Int) := by omega
    have d2 : (1048576 : Int) < (lv.length : Int) := by omega
    go_enter Tryz.func16, Tryz.ntmps16
    go_wp2_with fail
    go_ret
    exact ⟨rfl, rfl⟩
set_option maxHeartbeats 1000000 in
set_option maxRecDepth 100000 in
theorem find_nil (b : Nat) (s : Option Addr) (p : Option Addr) (n c : Nat) (w : World) (hB : Blk w b 64 #[.pointer s, .nilIface]) :
    Calls Tryz.prog 30 #[.pointer (some ⟨b, 0, none⟩), .slice p n c] w fun e w' => e = .returned (.tuple #[.slice none 0 0, .int .i64 0]) ∧ Tch [] w w' := by
  have k1 := ta_nil_l
  have k2 := ta_nil_e
  have k3 := ta_nil_b
  have hc := hB.cell (j := 1) rfl
  clear hB
  go_enter Tryz.func30, Tryz.ntmps30
  go_wp2
  refine wp_loop_rounds 1 ?_
  rw [rounds_succ]
  go_wp2_with (go_at_call 27; refine (look_nil _ _).mono ?_; rintro e w1 ⟨rfl, hT⟩)
  go_ret2
  exact ⟨rfl, hT⟩
set_option maxHeartbeats 1000000 in
set_option maxRecDepth 100000 in
theorem find_leaf (b bl : Nat) (s : Option Addr) (p u q : Value) (lp lu : List Nat) (w : World) (hB : Blk w b 64 #[.pointer s, .iface 87 (.pointer (some ⟨bl, 0, none⟩))]) (hL : Blk w bl 95 #[p, u]) (hp : RdB w p lp) (hu : RdB w u lu) (hq : RdB w q lp) :
    Calls Tryz.prog 30 #[.pointer (some ⟨b, 0, none⟩), q] w fun e w' => e = .returned (.tuple #[u, .int .i64 0]) ∧ Tch [] w w' := by
  have k1 := ta_leaf_l
  have hc := hB.cell (j := 1) rfl
  have HL := Lib.hid (fun (w1 : World) (hT : Tch [] w w1) => hT.blk hL (by simp))
  have E1 := Lib.hid (fun (w1 : World) (hT : Tch [] w w1) => equal_any p q lp lp w1 (hp.tch hT (by simp)) (hq.tch hT (by simp)))
  rw [beq_self_eq_true] at E1
  obtain ⟨p1, c1, rfl⟩ := hp.shape
  obtain ⟨p2, c2, rfl⟩ := hu.shape
  obtain ⟨p3, c3, rfl⟩ := hq.shape
  clear hB hL hp hu hq
  go_enter Tryz.func30, Tryz.ntmps30
  go_wp2
  refine wp_loop_rounds 1 ?_
  rw [rounds_succ]
  go_wp2_with (first
    | (go_at_call 27; refine (look_leaf _ _ _).mono ?_; rintro e w1 ⟨rfl, hT⟩; have hc0 := (HL.out _ hT).cell (j := 0) rfl)
    | (go_at_call 48; refine (E1.out _ hT).mono ?_; rintro e w2 ⟨rfl, hT2⟩; replace hT := hT.trans hT2; have hc1 := (HL.out _ hT).cell (j := 1) rfl))
  go_ret2
  exact ⟨rfl, hT⟩
set_option maxHeartbeats 1000000 in
set_option maxRecDepth 100000 in
theorem get_long (b : Value) (key : Value) (lk : List Nat) (w : World) (hk : RdB w key lk) (h : 64 < lk.length) :
    Calls Tryz.prog 17 #[b, key] w fun e w' => e = .returned (.tuple #[.slice none 0 0, .int .i64 0]) ∧ w' = w := by
  obtain ⟨kp, kc, rfl⟩ := hk.shape
  have d1 : (64 : Int) < (lk.length : Int) := by omega
  clear hk
  go_enter Tryz.func17, Tryz.ntmps17
  go_wp2_with fail
  go_ret2
  exact ⟨rfl, rfl⟩
set_option maxHeartbeats 1000000 in
set_option maxRecDepth 100000 in
/-- Get, where find answers so. -/
theorem get_of (b : Value) (key : Value) (lk lu : List Nat) (w : World) (hk : RdB w key lk) (hlk : lk.length ≤ 64) (hlu : lu.length ≤ 100000000)
    (hf : ∀ w1 p c, Tch [] w w1 → RdB w1 (.slice p (nibs lk).length c) (nibs lk) → Calls Tryz.prog 30 #[b, .slice p (nibs lk).length c] w1 fun e w' => ∃ p c, e = .returned (.tuple #[.slice p lu.length c, .int .i64 0]) ∧ Tch [] w1 w' ∧ RdB w' (.slice p lu.length c) lu) :
    Calls Tryz.prog 17 #[b, key] w fun e w' => Tch [] w w' ∧ ∃ p c, e = .returned (.tuple #[.slice p lu.length c, .int .i64 0]) ∧ RdB w' (.slice p lu.length c) lu := by
  obtain ⟨kp, kc, rfl⟩ := hk.shape
  have d1 : ¬ (64 : Int) < (lk.length : Int) := by omega
  have HS := Lib.hid (Split_rd _ lk w (by omega) hk)
  have HF := Lib.hid hf
  clear hk hf
  go_enter Tryz.func17, Tryz.ntmps17
  go_wp2_with (first
    | (go_at_call 29; refine HS.out.mono ?_; rintro e w1 ⟨hT, sp, sc, rfl, hr⟩)
    | (go_at_call 30; refine (HF.out _ _ _ hT hr).mono ?_; rintro e w2 ⟨p2, c2, rfl, hT2, hr2⟩; replace hT := hT.trans hT2; clear hr)
    | (go_at_call 22; refine (clone_rd _ lu _ hlu hr2).mono ?_; rintro e w3 ⟨hT3, p3, c3, rfl, hr3⟩))
  go_ret2
  exact ⟨hT.trans hT3, _, _, rfl, hr3⟩
set_option maxHeartbeats 1000000 in
set_option maxRecDepth 100000 in
theorem commit_nil (b : Nat) (s : Option Addr) (w : World) (hB : Blk w b 64 #[.pointer s, .nilIface]) :
    Calls Tryz.prog 19 #[.pointer (some ⟨b, 0, none⟩)] w fun e w' => e = .returned (.tuple #[.agg (wf (hashN [128])), .slice none 0 0]) ∧ Tch [] w w' := by
  have hS := St.start w
  have HB := Lib.hid (fun (w1 : World) (hT : Tch [] w w1) => (hT.blk hB (by simp)).cell (j := 1) rfl)
  have k1 : ∀ w, (binOp .eql 62 .nilIface .nilIface).run Tryz.prog w = .ok (.bool true) w := fun w => by kernel_rfl
  clear hB
  go_enter Tryz.func19, Tryz.ntmps19
  go_wp2_with (first
    | (refine st_new hS rfl 35 rfl word_zero ?_; clear hS; intro w1 b1 hS; have hc := HB.out _ hS.frame)
    | (go_at_call 26; refine (emptyRoot_any _).mono ?_; rintro e w2 ⟨rfl, hT⟩; replace hS := hS.call hT; clear hT)
    | (refine st_store (b := b1) (c' := wf (hashN [128])) hS rfl 35 _ _ rfl rfl rfl .head word_size (wf_size _) (wf_size _) (wf_one _) ?_; clear hS; intro w5 hS))
  exact post_cell_one 2 3 35 rfl rfl rfl rfl (hS.get .head) word_type rfl word_size (wf_size _) ⟨rfl, hS.frame⟩
end Go.Proofs.YthchmnhoombecaaGreat
