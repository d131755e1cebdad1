/- The document's Num over what its Of answers. -/
import Derived.Test.YtjlhnjnoigjjfaaDoorN6
namespace Go.Proofs.YtjlhnjnoigjjfaaDoor
open Go.RowKit

set_option maxHeartbeats 2000000 in
set_option maxRecDepth 100000 in
theorem refBig_anyF (X : List Nat) (W : List Nat) (w : World) (hX : ∀ x ∈ X, x < w.heap.size) (hn : W.length = 32) (hl : ∀ x ∈ W, x < 256) : Calls Tryd.prog 14 #[.agg (wv W)] w (BytesPost X (stripZ W) w) := by
  obtain ⟨f0, f1, f2, hty, _⟩ := item_ty
  have hS := St.start w
  have HN := Lib.hid (And.intro hn hl)
  have HX := Lib.hid hX
  clear hn hl hX
  go_enter Tryd.func14, Tryd.ntmps14
  go_wp2_with (first
    | (refine st_box (L := []) hS rfl 23 _ rfl rfl ?_; clear hS; intro w1 b1 hS)
    | (refine st_new (L := [(b1, 23, wv W)]) hS rfl 27 rfl itemN_zero ?_; clear hS; intro w2 b2 hS))
  have HB := Lib.hid (show ∀ x ∈ b2 :: X, x < w2.heap.size by
    intro x hx
    rcases List.mem_cons.1 hx with rfl | hx
    · exact (hS.get .head).lt
    · exact Nat.lt_of_lt_of_le (HX.out x hx) hS.frame.size)
  have HS := Lib.hid hS
  clear hS
  go_loopw [3] (fun i wr => ∃ k : Nat, i = .int .i64 (k : Int) ∧ k ≤ 32 ∧ w2 = wr ∧ Hid (∀ i, i < k → W.getD i 0 = 0)) (fun i _ => 32 - (intOf i).toNat)
  case atStart => exact ⟨0, rfl, by omega, by first | trivial | rfl, Lib.hid (fun i hi => by omega)⟩
  case round =>
    obtain ⟨k, rfl, hk, rfl, HZ⟩ := hrel
    have fin : Hid (∀ (q : Nat), True → True) := Lib.hid (fun _ h => h)
    by_cases hlt : k < 32
    · have e1 : (k : Int) < 32 := by omega
      have e0 : (0 : Int) ≤ (k : Int) := by omega
      have hcl := (HS.out.get (.tail .head)).cell (bc_get (f := fun i => W.getD i 0) hlt)
      obtain ⟨x, hx⟩ : ∃ x, x = W.getD k 0 := ⟨_, rfl⟩
      rw [← hx] at hcl
      have HX := Lib.hid hx
      clear hx
      by_cases hx0 : x = 0
      · subst hx0
        go_wp2
        go_roundw
        case rel => exact ⟨k + 1, by go_num, hlt, by first | trivial | rfl, Lib.hid (fun i hi => by
          rcases Nat.lt_or_ge i k with h | h
          · exact HZ.out i h
          · rw [show i = k by omega, ← HX.out])⟩
        case measure => simp [intOf]; omega
      · have e2 : ((x : Int) == 0) = false := by rw [beq_eq_false_iff_ne]; omega
        have e3 : ¬ (x : Int) = 0 := by omega
        have HST := Lib.hid (strip_drop W k HZ.out (by have := HN.out.1; omega) (.inr (by rw [← HX.out]; exact hx0)))
        clear hx0
        go_upto_region 4 with (fail)
        obtain ⟨p', hp1, hp2⟩ := arr_from b1 k (by omega)
        have HP := Lib.hid hp1
        have hsrc := RdA.fromWord (X := []) (HS.out.get (.tail .head)) HN.out.1 HN.out.2 (by simp) (show k ≤ 32 by omega) hp2
        rw [← HST.out] at hsrc
        have HSRC := Lib.hid hsrc
        have hS := HS.out
        have HLS := Lib.hid (show (stripZ W).length ≤ 32 by rw [HST.out, List.length_drop]; have := HN.out.1; omega)
        clear hsrc hp1 hp2
        go_wp2_with (first
          | (refine st_fromN (v := .pointer (some ⟨b1, 0, none⟩)) (l := .int .i64 (k : Int)) (r := .slice p' (32 - k) (32 - k)) rfl 23 _ _ (by rfl) (by rfl) (by rfl) HP.out ?_)
          | (at_builtin; go_must (refine st_appB (w0 := w2) (v := .slice none 0 0) (l := []) (m := stripZ W) (ty := 5) rfl _ _ rfl rfl rfl (own_nil _ _) (Tch.refl _ _) HSRC.out.rdB (by have := HLS.out; simp; omega) ?_; intro v5 w5 hown5 hT5; have HR5 := Lib.hid ((RdF.own hown5 (fun x hx => HSRC.out.lt x hx)) (b2 :: X) HB.out); replace hS := hS.call hT5; clear hown5))
          | (go_at_call 23; go_must (refine (refBytes_any (b2 :: X) _ _ _ HR5.out).mono ?_; rintro e w6 ⟨hT6, p6, n6, c6, rfl, hr6⟩; replace hS := hS.call hT6; have HR6 := Lib.hid hr6; clear hr6))
          | (refine arm_store (b := b2) (c := #[.bool false, .slice p6 n6 c6, .slice none 0 0]) (w' := w6.setRow b2 #[.bool false, .slice p6 n6 c6, .slice none 0 0]) rfl 27 _ _ rfl rfl rfl ((hS.get .head).store itemN_size (by rfl) (by rfl) (oneN3 rfl rfl rfl)) ?_))
        have hO := Only.setRow w6 b2 #[.bool false, .slice p6 n6 c6, .slice none 0 0]
        have hS4 := hS.upd .head hO ((hS.get .head).row _)
        refine post_cell 2 27 rfl rfl rfl (hS4.get .head) hty rfl itemN_size rfl ?_
        exact ⟨hS4.frame, _, _, _, rfl, ((HR6.out.tch ((Tch.refl (b2 :: X) w6).only hO (.inr (by simp)))).mono (fun x hx => .inl (List.mem_cons_of_mem _ hx)))⟩
    · obtain rfl : k = 32 := by omega
      have HST := Lib.hid (strip_drop W 32 HZ.out (by have := HN.out.1; omega) (.inl HN.out.1.symm))
      go_upto_region 4 with (fail)
      obtain ⟨p', hp1, hp2⟩ := arr_from b1 32 (by omega)
      have HP := Lib.hid hp1
      have hsrc := RdA.fromWord (X := []) (HS.out.get (.tail .head)) HN.out.1 HN.out.2 (by simp) (show 32 ≤ 32 by omega) hp2
      rw [← HST.out] at hsrc
      have HSRC := Lib.hid hsrc
      have hS := HS.out
      have HLS := Lib.hid (show (stripZ W).length ≤ 32 by rw [HST.out, List.length_drop]; have := HN.out.1; omega)
      clear hsrc hp1 hp2
      go_wp2_with (first
        | (refine st_fromN (v := .pointer (some ⟨b1, 0, none⟩)) (l := .int .i64 32) (r := .slice p' (32 - 32) (32 - 32)) rfl 23 _ _ (by rfl) (by rfl) (by rfl) HP.out ?_)
        | (at_builtin; go_must (refine st_appB (w0 := w2) (v := .slice none 0 0) (l := []) (m := stripZ W) (ty := 5) rfl _ _ rfl rfl rfl (own_nil _ _) (Tch.refl _ _) HSRC.out.rdB (by have := HLS.out; simp; omega) ?_; intro v5 w5 hown5 hT5; have HR5 := Lib.hid ((RdF.own hown5 (fun x hx => HSRC.out.lt x hx)) (b2 :: X) HB.out); replace hS := hS.call hT5; clear hown5))
        | (go_at_call 23; go_must (refine (refBytes_any (b2 :: X) _ _ _ HR5.out).mono ?_; rintro e w6 ⟨hT6, p6, n6, c6, rfl, hr6⟩; replace hS := hS.call hT6; have HR6 := Lib.hid hr6; clear hr6))
        | (refine arm_store (b := b2) (c := #[.bool false, .slice p6 n6 c6, .slice none 0 0]) (w' := w6.setRow b2 #[.bool false, .slice p6 n6 c6, .slice none 0 0]) rfl 27 _ _ rfl rfl rfl ((hS.get .head).store itemN_size (by rfl) (by rfl) (oneN3 rfl rfl rfl)) ?_))
      have hO := Only.setRow w6 b2 #[.bool false, .slice p6 n6 c6, .slice none 0 0]
      have hS4 := hS.upd .head hO ((hS.get .head).row _)
      refine post_cell 2 27 rfl rfl rfl (hS4.get .head) hty rfl itemN_size rfl ?_
      exact ⟨hS4.frame, _, _, _, rfl, ((HR6.out.tch ((Tch.refl (b2 :: X) w6).only hO (.inr (by simp)))).mono (fun x hx => .inl (List.mem_cons_of_mem _ hx)))⟩
set_option maxHeartbeats 2000000 in
set_option maxRecDepth 100000 in
/-- What the document's Of answers, given; the number made at least nought. -/
theorem rnum_any (n : Int) (W : List Nat) (w : World) (hn : W.length = 32) (hl : ∀ x ∈ W, x < 256)
    (HO : ∀ (k : Int) w', k = (n.toNat : Int) → Calls Tryd.prog 21 #[.int .i64 k] w' (fun e w'' => e = .returned (.agg (wv W)) ∧ Tch [] w' w'')) :
    Calls Tryd.prog 12 #[.int .i64 n] w (BytesPost [] (stripZ W) w) := by
  obtain ⟨f0, f1, f2, hty, _⟩ := item_ty
  have hS := St.start w
  have HN := Lib.hid (And.intro hn hl)
  have HC := Lib.hid HO
  clear hn hl HO
  go_enter Tryd.func12, Tryd.ntmps12
  go_wp2_with (first
    | (refine st_new (L := []) hS rfl 27 rfl itemN_zero ?_; clear hS; intro w2 b2 hS)
    | (go_at_call 21; go_must (refine (HC.out _ _ (by omega)).mono ?_; rintro e w3 ⟨rfl, hT3⟩; replace hS := hS.call hT3; clear hT3))
    | (go_at_call 14; go_must (refine (refBig_anyF [b2] W _ (by intro x hx; rw [List.mem_singleton.1 hx]; exact (hS.get .head).lt) HN.out.1 HN.out.2).mono ?_; rintro e w4 ⟨hT4, p3, n3, c3, rfl, hr⟩; replace hS := hS.call hT4; clear hT4; have HR := Lib.hid hr; clear hr))
    | (refine arm_store (b := b2) (c := #[.bool false, .slice p3 n3 c3, .slice none 0 0]) (w' := w4.setRow b2 #[.bool false, .slice p3 n3 c3, .slice none 0 0]) rfl 27 _ _ rfl rfl rfl ((hS.get .head).store itemN_size (by rfl) (by rfl) (oneN3 rfl rfl rfl)) ?_))
  all_goals
    have hO := Only.setRow w4 b2 #[.bool false, .slice p3 n3 c3, .slice none 0 0]
    have hS4 := hS.upd .head hO ((hS.get .head).row _)
    refine post_cell 2 27 rfl rfl rfl (hS4.get .head) hty rfl itemN_size rfl ?_
    exact ⟨hS4.frame, _, _, _, rfl, ((HR.out.tch ((Tch.refl [b2] w4).only hO (.inr (by simp)))).mono (by simp))⟩
end Go.Proofs.YtjlhnjnoigjjfaaDoor
