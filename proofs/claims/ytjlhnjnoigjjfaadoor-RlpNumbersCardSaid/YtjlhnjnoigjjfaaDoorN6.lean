/- rlp.Num over what word.Of answers. -/
import Derived.Test.YtjlhnjnoigjjfaaDoorN5
namespace Go.Proofs.YtjlhnjnoigjjfaaDoor
open Go.RowKit

theorem notinN {w0 w : World} {b1 b2 : Nat} {t1 t2 : TypeId} {c1 c2 : Array Value} {X : List Nat} (hS : St [] w0 w [(b2, t2, c2), (b1, t1, c1)]) (hX : ∀ x ∈ X, x < w0.heap.size) : b1 ∉ b2 :: X := by
  intro h
  rcases List.mem_cons.1 h with h | h
  · exact apartN hS h.symm
  · have h1 := hX _ h
    rcases hS.own (.tail .head) with h' | h'
    · omega
    · simp at h'
set_option maxHeartbeats 2000000 in
set_option maxRecDepth 100000 in
theorem big_rlpF (X : List Nat) (W : List Nat) (w : World) (hX : ∀ x ∈ X, x < w.heap.size) (hn : W.length = 32) (hl : ∀ x ∈ W, x < 256) : Calls Tryd.prog 13 #[.agg (wv W)] w (BytesPost X (stripZ W) w) := by
  obtain ⟨f0, f1, f2, hty, _⟩ := item_ty
  have hS := St.start w
  have HN := Lib.hid (And.intro hn hl)
  have HX := Lib.hid hX
  clear hn hl hX
  go_enter Tryd.func13, Tryd.ntmps13
  go_wp2_with (first
    | (refine st_box (L := []) hS rfl 23 _ rfl rfl ?_; clear hS; intro w1 b1 hS)
    | (refine st_new (L := [(b1, 23, wv W)]) hS rfl 27 rfl itemN_zero ?_; clear hS; intro w2 b2 hS)
    | (go_at_call 22; go_must (refine (trimLeft_any (b2 :: X) (.slice (some ⟨b1, 0, none⟩) 32 32) W w2 (by have := HN.out.1; omega) (RdA.ofWord (hS.get (.tail .head)) HN.out.1 HN.out.2 (notinN hS HX.out))).mono ?_; rintro e w3 ⟨v3, rfl, rfl, hr⟩; obtain ⟨p3, n3, c3, rfl⟩ := slice_keep hr; have HR := Lib.hid hr; clear hr))
    | (refine arm_store (b := b2) (c := #[.bool false, .slice p3 n3 c3, .slice none 0 0]) (w' := w2.setRow b2 #[.bool false, .slice p3 n3 c3, .slice none 0 0]) rfl 27 _ _ rfl rfl rfl ((hS.get .head).store itemN_size (by rfl) (by rfl) (oneN3 rfl rfl rfl)) ?_))
  have hO := Only.setRow w2 b2 #[.bool false, .slice p3 n3 c3, .slice none 0 0]
  have hS4 := hS.upd .head hO ((hS.get .head).row _)
  refine post_cell 2 27 rfl rfl rfl (hS4.get .head) hty rfl itemN_size rfl ?_
  exact ⟨hS4.frame, _, _, _, rfl, ((HR.out.tch ((Tch.refl (b2 :: X) w2).only hO (.inr (by simp)))).mono (fun x hx => .inl (List.mem_cons_of_mem _ hx)))⟩
set_option maxHeartbeats 2000000 in
set_option maxRecDepth 100000 in
/-- What word.Of answers, given; the number made at least nought. -/
theorem pnum_any (n : Int) (W : List Nat) (w : World) (hn : W.length = 32) (hl : ∀ x ∈ W, x < 256)
    (HO : ∀ (k : Int) w', k = (n.toNat : Int) → Calls Tryd.prog 20 #[.int .i64 k] w' (fun e w'' => e = .returned (.agg (wv W)) ∧ Tch [] w' w'')) :
    Calls Tryd.prog 11 #[.int .i64 n] w (BytesPost [] (stripZ W) w) := by
  obtain ⟨f0, f1, f2, hty, _⟩ := item_ty
  have hS := St.start w
  have HN := Lib.hid (And.intro hn hl)
  have HC := Lib.hid HO
  clear hn hl HO
  go_enter Tryd.func11, Tryd.ntmps11
  go_wp2_with (first
    | (refine st_new (L := []) hS rfl 27 rfl itemN_zero ?_; clear hS; intro w2 b2 hS)
    | (go_at_call 20; go_must (refine (HC.out _ _ (by omega)).mono ?_; rintro e w3 ⟨rfl, hT3⟩; replace hS := hS.call hT3; clear hT3))
    | (go_at_call 13; go_must (refine (big_rlpF [b2] W _ (by intro x hx; rw [List.mem_singleton.1 hx]; exact (hS.get .head).lt) HN.out.1 HN.out.2).mono ?_; rintro e w4 ⟨hT4, p3, n3, c3, rfl, hr⟩; replace hS := hS.call hT4; clear hT4; have HR := Lib.hid hr; clear hr))
    | (refine arm_store (b := b2) (c := #[.bool false, .slice p3 n3 c3, .slice none 0 0]) (w' := w4.setRow b2 #[.bool false, .slice p3 n3 c3, .slice none 0 0]) rfl 27 _ _ rfl rfl rfl ((hS.get .head).store itemN_size (by rfl) (by rfl) (oneN3 rfl rfl rfl)) ?_))
  all_goals
    have hO := Only.setRow w4 b2 #[.bool false, .slice p3 n3 c3, .slice none 0 0]
    have hS4 := hS.upd .head hO ((hS.get .head).row _)
    refine post_cell 2 27 rfl rfl rfl (hS4.get .head) hty rfl itemN_size rfl ?_
    exact ⟨hS4.frame, _, _, _, rfl, ((HR.out.tch ((Tch.refl [b2] w4).only hO (.inr (by simp)))).mono (by simp))⟩
end Go.Proofs.YtjlhnjnoigjjfaaDoor
