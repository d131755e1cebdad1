/- RlpNumbers: the walk. -/
import Derived.Test.YtjlhnjnoigjjfaaDoorN16
namespace Go.Proofs.YtjlhnjnoigjjfaaDoor
open Go.RowKit

set_option maxHeartbeats 4000000 in
set_option maxRecDepth 100000 in
theorem numb_none (n : Int) (Wd : List Nat) (k : Nat) (y0 yb yl : Value) (w : World) (hn : n ≤ 9223372036854775807) (hw : Wd.length = 32) (hwl : ∀ x ∈ Wd, x < 256) (hitr : ItR [] w k y0 yb yl)
    (C6 : ∀ w', Tch [] w w' → Calls Tryd.prog 6 #[.agg #[y0, yb, yl]] w' (fun e w'' => e = .returned (.tuple #[.int .i64 0, .bool false]) ∧ Tch [] w' w''))
    (C7 : ∀ w', Tch [] w w' → Calls Tryd.prog 7 #[.agg #[y0, yb, yl]] w' (fun e w'' => e = .returned (.tuple #[.int .i64 0, .bool false]) ∧ Tch [] w' w''))
    (C8 : ∀ w', Tch [] w w' → Calls Tryd.prog 8 #[.agg #[y0, yb, yl]] w' (fun e w'' => e = .returned (.tuple #[.agg (wv zeros32), .bool false]) ∧ Tch [] w' w''))
    (C9 : ∀ w', Tch [] w w' → Calls Tryd.prog 9 #[.agg #[y0, yb, yl]] w' (fun e w'' => e = .returned (.tuple #[.agg (wv zeros32), .bool false]) ∧ Tch [] w' w'')) :
    Calls Tryd.prog 3 #[.int .i64 n, .agg (wv Wd), .agg #[y0, yb, yl]] w fun e w' => e = .returned (.bool true) ∧ Tch [] w w' := by
  have hS := St.start w
  obtain ⟨f0, f1, f2, hfs, _⟩ := item_ty
  have HT := Lib.hid hfs
  clear hfs
  obtain ⟨z, hz, hz0⟩ : ∃ z, z = (bc 32 fun _ => 0) ∧ (Tryd.prog.info? 23).bind (·.zero) = some (.agg z) := ⟨_, rfl, word_zero⟩
  have HZ := Lib.hid (And.intro (show z.size = 32 by rw [hz]; exact bc_size _ _) (And.intro hz0 hz))
  have HZ1 := Lib.hid (show (wv Wd).size = 32 from bc_size _ _)
  clear hz hz0
  have H6 := Lib.hid C6
  have H7 := Lib.hid C7
  have H8 := Lib.hid C8
  have H9 := Lib.hid C9
  have HW := Lib.hid (And.intro hw hwl)
  have HVL := Lib.hid (show ∀ x ∈ zeros32, x < 256 from zeros_ok.2)
  have HN := Lib.hid hn
  have HB := Lib.hid (fun (w' : World) (h : Tch [] w w') => big_any k y0 yb yl w' (hitr.tch h))
  clear C6 C7 C8 C9 hw hwl hn hitr
  go_enter Tryd.func3, Tryd.ntmps3
  go_upto_region 3 with (first
    | (refine st_box (L := []) hS rfl 23 _ rfl rfl ?_; clear hS; intro w1 b1 hS)
    | (refine st_box hS rfl 27 _ rfl rfl ?_; clear hS; intro w2 b2 hS)
    | (go_at_call 4; refine (alive_any _).mono ?_; rintro e w3 ⟨rfl, hT3⟩; replace hS := hS.call hT3; clear hT3)
    | (refine st_load (b := b2) hS rfl 27 _ rfl rfl .head HT.out rfl itemN_size rfl ?_)
    | (go_at_call 5; go_must (refine (HB.out _ hS.frame).mono ?_; rintro e w4 ⟨hT4, q, rfl, hq⟩; replace hS := hS.call hT4; clear hq hT4)))
  cases q with
  | true =>
    clear H6 H7 H8 H9 HVL HN HB HZ HZ1 HT
    go_wp2
    go_ret
    exact ⟨rfl, hS.frame⟩
  | false =>
    go_upto_region 13 with (first
      | (refine st_load (b := b2) hS rfl 27 _ rfl rfl .head HT.out rfl itemN_size rfl ?_)
      | (refine st_load (b := b2) hS rfl 27 _ rfl rfl (.tail .head) HT.out rfl itemN_size rfl ?_)
      | (go_at_call 6; go_must (refine (H6.out _ hS.frame).mono ?_; rintro e w5 ⟨rfl, hT5⟩; replace hS := hS.call hT5; clear hT5))
      | (go_at_call 7; go_must (refine (H7.out _ hS.frame).mono ?_; rintro e w6 ⟨rfl, hT6⟩; replace hS := hS.call hT6; clear hT6))
      | (go_at_call 8; go_must (refine (H8.out _ hS.frame).mono ?_; rintro e w7 ⟨rfl, hT7⟩; replace hS := hS.call hT7; clear hT7))
      | (refine st_new (L := [(b2, 27, #[y0, yb, yl]), (b1, 23, wv Wd)]) hS rfl 23 rfl HZ.out.2.1 ?_; clear hS; intro w8 b8 hS)
      | (refine st_store (b := b8) (c' := wv zeros32) hS rfl 23 _ _ rfl rfl rfl .head wordN_size HZ.out.1 (bc_size _ _) (bc_one _ _) ?_; clear hS; intro w9 hS)
      | (go_at_call 9; go_must (refine (H9.out _ hS.frame).mono ?_; rintro e w10 ⟨rfl, hT10⟩; replace hS := hS.call hT10; clear hT10))
      | (refine st_new hS rfl 23 rfl HZ.out.2.1 ?_; clear hS; intro w11 b11 hS)
      | (refine st_store (b := b11) (c' := wv zeros32) hS rfl 23 _ _ rfl rfl rfl .head wordN_size HZ.out.1 (bc_size _ _) (bc_one _ _) ?_; clear hS; intro w12 hS)
      | (refine st_store (b := b11) (c' := wv zeros32) hS rfl 23 _ _ rfl rfl (word_lit_eq.trans (congrArg Value.agg wv_zero)) .head wordN_size (bc_size _ _) (bc_size _ _) (bc_one _ _) ?_; clear hS; intro w12 hS))
    have X13 := hS.get (.tail .head)
    have X15 := hS.get .head
    have X4 := hS.get (.tail (.tail (.tail .head)))
    have K13 := Lib.hid (fun (w' : World) (h : Tch [] _ w') => h.blk X13 (by simp))
    have K15 := Lib.hid (fun (w' : World) (h : Tch [] _ w') => h.blk X15 (by simp))
    have K4 := Lib.hid (fun (w' : World) (h : Tch [] _ w') => h.blk X4 (by simp))
    have HF := Lib.hid hS.frame
    clear X13 X15 X4 hS H6 H7 H8 H9 HB HZ HT
    refine wp_region_held_drew (S := fun w' => Tch [] w12 w') (by kernel_rfl) ((Tch.refl _ _).drew) (fun hC => ?_)
    generalize World.drew w12 = u0 at hC ⊢
    refine held_in (v := .int .i64 0) 0 rfl (by kernel_rfl) (by kernel_rfl) (by kernel_rfl) (fun _ _ _ h => h) hC rfl (fun w' hw' => x_val _ (.inl rfl) rfl) ?_
    try simp only [Act.put, List.setIfInBounds_toArray, List.set_cons_zero, List.set_cons_succ]
    refine held_in (v := .int .i64 0) 1 rfl (by kernel_rfl) (by kernel_rfl) (by kernel_rfl) (fun _ _ _ h => h) hC rfl (fun w' hw' => x_val _ (.inl rfl) rfl) ?_
    try simp only [Act.put, List.setIfInBounds_toArray, List.set_cons_zero, List.set_cons_succ]
    refine held_in (v := .bool true) 2 rfl (by kernel_rfl) (by kernel_rfl) (by kernel_rfl) (fun _ _ _ h => h) hC rfl (fun w' hw' => x_ints _ _ _ rfl rfl rfl) ?_
    try simp only [Act.put, List.setIfInBounds_toArray, List.set_cons_zero, List.set_cons_succ]
    refine held_in (v := .bool true) 3 rfl (by kernel_rfl) (by kernel_rfl) (by kernel_rfl) (fun _ _ _ h => h) hC rfl (fun w' hw' => x_val _ (.inl rfl) rfl) ?_
    try simp only [Act.put, List.setIfInBounds_toArray, List.set_cons_zero, List.set_cons_succ]
    refine held_in (v := .bool false) 4 rfl (by kernel_rfl) (by kernel_rfl) (by kernel_rfl) (fun _ _ _ h => h) hC rfl (fun w' hw' => x_val _ (.inl rfl) rfl) ?_
    try simp only [Act.put, List.setIfInBounds_toArray, List.set_cons_zero, List.set_cons_succ]
    refine held_in (v := .bool false) 5 rfl (by kernel_rfl) (by kernel_rfl) (by kernel_rfl) (fun _ _ _ h => h) hC rfl (fun w' hw' => x_val _ (.inl rfl) rfl) ?_
    try simp only [Act.put, List.setIfInBounds_toArray, List.set_cons_zero, List.set_cons_succ]
    refine held_in (v := .bool true) 6 rfl (by kernel_rfl) (by kernel_rfl) (by kernel_rfl) (fun _ _ _ h => h) hC rfl (fun w' hw' => x_bools _ _ _ rfl rfl rfl) ?_
    try simp only [Act.put, List.setIfInBounds_toArray, List.set_cons_zero, List.set_cons_succ]
    refine held_in (v := .bool true) 7 rfl (by kernel_rfl) (by kernel_rfl) (by kernel_rfl) (fun _ _ _ h => h) hC rfl (fun w' hw' => x_pickT _ _ _ rfl rfl rfl) ?_
    try simp only [Act.put, List.setIfInBounds_toArray, List.set_cons_zero, List.set_cons_succ]
    refine held_in (v := .bool true) 8 rfl (by kernel_rfl) (by kernel_rfl) (by kernel_rfl) (fun _ _ _ h => h) hC rfl (fun w' hw' => x_val _ (.inl rfl) rfl) ?_
    try simp only [Act.put, List.setIfInBounds_toArray, List.set_cons_zero, List.set_cons_succ]
    refine held_in (v := .agg (wv zeros32)) 9 rfl (by kernel_rfl) (by kernel_rfl) (by kernel_rfl) (fun _ _ _ h => h) hC rfl (fun w' hw' => x_load _ _ rfl rfl (K13.out w' hw') wordN_type wordN_size (bc_size _ _)) ?_
    try simp only [Act.put, List.setIfInBounds_toArray, List.set_cons_zero, List.set_cons_succ]
    refine held_in (v := .agg (wv zeros32)) 10 rfl (by kernel_rfl) (by kernel_rfl) (by kernel_rfl) (fun _ _ _ h => h) hC rfl (fun w' hw' => x_load _ _ rfl rfl (K15.out w' hw') wordN_type wordN_size (bc_size _ _)) ?_
    try simp only [Act.put, List.setIfInBounds_toArray, List.set_cons_zero, List.set_cons_succ]
    refine held_in (v := .bool true) 11 rfl (by kernel_rfl) (by kernel_rfl) (by kernel_rfl) (fun _ _ _ h => h) hC rfl (fun w' hw' => x_words HVL.out _ _ _ rfl rfl rfl) ?_
    try simp only [Act.put, List.setIfInBounds_toArray, List.set_cons_zero, List.set_cons_succ]
    refine held_in (v := .bool true) 12 rfl (by kernel_rfl) (by kernel_rfl) (by kernel_rfl) (fun _ _ _ h => h) hC rfl (fun w' hw' => x_pickT _ _ _ rfl rfl rfl) ?_
    try simp only [Act.put, List.setIfInBounds_toArray, List.set_cons_zero, List.set_cons_succ]
    refine held_in (v := .bool true) 13 rfl (by kernel_rfl) (by kernel_rfl) (by kernel_rfl) (fun _ _ _ h => h) hC rfl (fun w' hw' => x_val _ (.inl rfl) rfl) ?_
    try simp only [Act.put, List.setIfInBounds_toArray, List.set_cons_zero, List.set_cons_succ]
    refine held_in (v := .bool false) 14 rfl (by kernel_rfl) (by kernel_rfl) (by kernel_rfl) (fun _ _ _ h => h) hC rfl (fun w' hw' => x_val _ (.inl rfl) rfl) ?_
    try simp only [Act.put, List.setIfInBounds_toArray, List.set_cons_zero, List.set_cons_succ]
    refine held_in (v := .bool false) 15 rfl (by kernel_rfl) (by kernel_rfl) (by kernel_rfl) (fun _ _ _ h => h) hC rfl (fun w' hw' => x_val _ (.inl rfl) rfl) ?_
    try simp only [Act.put, List.setIfInBounds_toArray, List.set_cons_zero, List.set_cons_succ]
    refine held_in (v := .bool true) 16 rfl (by kernel_rfl) (by kernel_rfl) (by kernel_rfl) (fun _ _ _ h => h) hC rfl (fun w' hw' => x_bools _ _ _ rfl rfl rfl) ?_
    try simp only [Act.put, List.setIfInBounds_toArray, List.set_cons_zero, List.set_cons_succ]
    refine held_in (v := .bool true) 17 rfl (by kernel_rfl) (by kernel_rfl) (by kernel_rfl) (fun _ _ _ h => h) hC rfl (fun w' hw' => x_pickT _ _ _ rfl rfl rfl) ?_
    try simp only [Act.put, List.setIfInBounds_toArray, List.set_cons_zero, List.set_cons_succ]
    refine held_in (v := .bool true) 18 rfl (by kernel_rfl) (by kernel_rfl) (by kernel_rfl) (fun _ _ _ h => h) hC rfl (fun w' hw' => x_val _ (.inl rfl) rfl) ?_
    try simp only [Act.put, List.setIfInBounds_toArray, List.set_cons_zero, List.set_cons_succ]
    refine held_in (v := .int .i64 n) 19 rfl (by kernel_rfl) (by kernel_rfl) (by kernel_rfl) (fun _ _ _ h => h) hC rfl (fun w' hw' => x_val _ (.inl rfl) rfl) ?_
    try simp only [Act.put, List.setIfInBounds_toArray, List.set_cons_zero, List.set_cons_succ]
    refine held_in (v := .int .i64 n) 21 rfl (by kernel_rfl) (by kernel_rfl) (by kernel_rfl) (fun _ _ _ h => h) hC rfl (fun w' hw' => x_val _ (.inl rfl) rfl) ?_
    try simp only [Act.put, List.setIfInBounds_toArray, List.set_cons_zero, List.set_cons_succ]
    refine held_one 20 (by kernel_rfl) ?_
    refine held_call (v1 := .int .i64 n) rfl rfl rfl (by rfl) Tryd.call11 (pnum_all n u0 HN.out) ?_
    rintro e u1 ⟨hU1, p1, n1, c1, rfl, hr1⟩
    have hC1 := hC.trans hU1
    refine ⟨_, rfl, hC1, ?_⟩
    try simp only [Act.put, List.setIfInBounds_toArray, List.set_cons_zero, List.set_cons_succ]
    refine held_one 22 (by kernel_rfl) ?_
    refine held_call (v1 := .int .i64 n) rfl rfl rfl (by rfl) Tryd.call12 (rnum_all n u1 HN.out) ?_
    rintro e u2 ⟨hU2, p2, n2, c2, rfl, hr2⟩
    have hC2 := hC1.trans hU2
    refine ⟨_, rfl, hC2, ?_⟩
    try simp only [Act.put, List.setIfInBounds_toArray, List.set_cons_zero, List.set_cons_succ]
    refine held_one 23 (by kernel_rfl) ?_
    refine held_call2 (v1 := .agg #[.bool false, .slice p1 n1 c1, .slice none 0 0]) (v2 := .agg #[.bool false, .slice p2 n2 c2, .slice none 0 0]) rfl rfl rfl (by rfl) (by rfl) Tryd.call10 (same_str _ _ _ _ _ _ u2 (hr1.tch hU2) hr2) ?_
    rintro e u3 ⟨rfl, hU3⟩
    rw [beq_self_eq_true]
    have hC3 := hC2.trans hU3
    refine ⟨_, rfl, hC3, ?_⟩
    try simp only [Act.put, List.setIfInBounds_toArray, List.set_cons_zero, List.set_cons_succ]
    clear hr1 hr2 hU1 hU2 hU3 hC hC1 hC2
    have hC := hC3
    clear hC3
    refine held_in (v := .bool true) 24 rfl (by kernel_rfl) (by kernel_rfl) (by kernel_rfl) (fun _ _ _ h => h) hC rfl (fun w' hw' => x_pickT _ _ _ rfl rfl rfl) ?_
    try simp only [Act.put, List.setIfInBounds_toArray, List.set_cons_zero, List.set_cons_succ]
    refine held_in (v := .bool true) 25 rfl (by kernel_rfl) (by kernel_rfl) (by kernel_rfl) (fun _ _ _ h => h) hC rfl (fun w' hw' => x_val _ (.inl rfl) rfl) ?_
    try simp only [Act.put, List.setIfInBounds_toArray, List.set_cons_zero, List.set_cons_succ]
    refine held_in (v := .agg (wv Wd)) 26 rfl (by kernel_rfl) (by kernel_rfl) (by kernel_rfl) (fun _ _ _ h => h) hC rfl (fun w' hw' => x_load _ _ rfl rfl (K4.out w' hw') wordN_type wordN_size (bc_size _ _)) ?_
    try simp only [Act.put, List.setIfInBounds_toArray, List.set_cons_zero, List.set_cons_succ]
    refine held_in (v := .agg (wv Wd)) 28 rfl (by kernel_rfl) (by kernel_rfl) (by kernel_rfl) (fun _ _ _ h => h) hC rfl (fun w' hw' => x_load _ _ rfl rfl (K4.out w' hw') wordN_type wordN_size (bc_size _ _)) ?_
    try simp only [Act.put, List.setIfInBounds_toArray, List.set_cons_zero, List.set_cons_succ]
    refine held_one 27 (by kernel_rfl) ?_
    refine held_call (v1 := .agg (wv Wd)) rfl rfl rfl (by rfl) Tryd.call13 (big_rlp Wd u3 HW.out.1 HW.out.2) ?_
    rintro e u4 ⟨hU4, p1, n1, c1, rfl, hr1⟩
    have hC4 := hC.trans hU4
    refine ⟨_, rfl, hC4, ?_⟩
    try simp only [Act.put, List.setIfInBounds_toArray, List.set_cons_zero, List.set_cons_succ]
    refine held_one 29 (by kernel_rfl) ?_
    refine held_call (v1 := .agg (wv Wd)) rfl rfl rfl (by rfl) Tryd.call14 (refBig_any Wd u4 HW.out.1 HW.out.2) ?_
    rintro e u5 ⟨hU5, p2, n2, c2, rfl, hr2⟩
    have hC5 := hC4.trans hU5
    refine ⟨_, rfl, hC5, ?_⟩
    try simp only [Act.put, List.setIfInBounds_toArray, List.set_cons_zero, List.set_cons_succ]
    have hr1' := hr1.tch hU5
    refine held_rest 30 (fun w' => Tch [] u5 w') (by kernel_rfl) (by kernel_rfl) (Tch.refl _ _) (fun w' h => hC5.trans h) ?_
    simp only [List.drop_succ_cons, List.drop_zero]
    try simp only [Act.put, List.setIfInBounds_toArray, List.set_cons_zero, List.set_cons_succ]
    refine k_callC2 rfl rfl rfl rfl Tryd.call10 (fun w' h => (same_str _ _ _ _ _ _ w' (hr1'.tch h) (hr2.tch h)).mono (R' := fun e w'' => e = .returned (.bool true) ∧ Tch [] u5 w'') (fun e w'' h2 => ⟨by rw [h2.1, beq_self_eq_true], h.trans h2.2⟩)) ?_; try simp only [Act.put, List.setIfInBounds_toArray, List.set_cons_zero, List.set_cons_succ]
    refine k_pickT rfl _ _ _ rfl rfl rfl ?_; try simp only [Act.put, List.setIfInBounds_toArray, List.set_cons_zero, List.set_cons_succ]
    refine k_boola rfl _ rfl rfl ?_; try simp only [Act.put, List.setIfInBounds_toArray, List.set_cons_zero, List.set_cons_succ]
    refine k_end ?_
    intro u6 hU6
    go_wp2
    go_ret
    exact ⟨rfl, (HF.out.trans hC5).trans hU6⟩
end Go.Proofs.YtjlhnjnoigjjfaaDoor
