/- rlp.Big; the document's Bytes, Big. -/
import Derived.Test.YtjlhnjnoigjjfaaDoorN1
namespace Go.Proofs.YtjlhnjnoigjjfaaDoor
open Go.RowKit

theorem wordN_type : Tryd.prog.underlying 23 = some (.array 32 5) := by kernel_rfl
theorem wordN_size : (Tryd.prog.info? 23).map (·.size) = some 32 := by kernel_rfl
theorem itemN_size : (Tryd.prog.info? 27).map (·.size) = some 3 := by kernel_rfl
theorem itemN_zero : (Tryd.prog.info? 27).bind (·.zero) = some (.agg #[.bool false, .slice none 0 0, .slice none 0 0]) := by kernel_rfl
theorem oneN3 {a b c : Value} (ha : a.oneCell' = true) (hb : b.oneCell' = true) (hc : c.oneCell' = true) : (#[a, b, c] : Array Value).all (·.oneCell') = true := by simp [ha, hb, hc]
theorem apartN {bs : List Nat} {w0 w : World} {L : List Ent} {e f : Ent} (h : St bs w0 w (e :: f :: L)) : e.1 ≠ f.1 := (List.pairwise_cons.1 h.apart).1 f List.mem_cons_self
/-- A word of these bytes. -/
def wv (W : List Nat) : Array Value := bc 32 fun i => W.getD i 0
theorem RdA.ofWord {X : List Nat} {w : World} {b : Nat} {t : TypeId} {W : List Nat} (h : Blk w b t (wv W)) (hn : W.length = 32) (hl : ∀ x ∈ W, x < 256) (hb : b ∉ X) : RdA X w (.slice (some ⟨b, 0, none⟩) 32 32) W :=
  ⟨_, _, by rw [hn], by omega, hl, fun _ => ⟨b, 0, rfl, h.lt, hb, fun i hi => by rw [Nat.zero_add]; exact h.cell (bc_get (by omega))⟩⟩
/-- An item of bytes is handed back. -/
def BytesPost (X : List Nat) (L : List Nat) (w : World) (e : Ending) (w' : World) : Prop :=
  Tch [] w w' ∧ ∃ p n c, e = .returned (.agg #[.bool false, .slice p n c, .slice none 0 0]) ∧ RdA X w' (.slice p n c) L
set_option maxHeartbeats 2000000 in
set_option maxRecDepth 100000 in
theorem big_rlp (W : List Nat) (w : World) (hn : W.length = 32) (hl : ∀ x ∈ W, x < 256) : Calls Tryd.prog 13 #[.agg (wv W)] w (BytesPost [] (stripZ W) w) := by
  obtain ⟨f0, f1, f2, hty, _⟩ := item_ty
  have hS := St.start w
  have HN := Lib.hid (And.intro hn hl)
  clear hn hl
  go_enter Tryd.func13, Tryd.ntmps13
  go_wp2_with (first
    | (refine st_box (L := []) hS rfl 23 _ rfl rfl ?_; clear hS; intro w1 b1 hS)
    | (refine st_new (L := [(b1, 23, wv W)]) hS rfl 27 rfl itemN_zero ?_; clear hS; intro w2 b2 hS)
    | (go_at_call 22; go_must (refine (trimLeft_any [b2] (.slice (some ⟨b1, 0, none⟩) 32 32) W w2 (by have := HN.out.1; omega) (RdA.ofWord (hS.get (.tail .head)) HN.out.1 HN.out.2 (by simp; exact Ne.symm (apartN hS)))).mono ?_; rintro e w3 ⟨v3, rfl, rfl, hr⟩; obtain ⟨p3, n3, c3, rfl⟩ := slice_keep hr; have HR := Lib.hid hr; clear hr))
    | (refine arm_store (b := b2) (c := #[.bool false, .slice p3 n3 c3, .slice none 0 0]) (w' := w2.setRow b2 #[.bool false, .slice p3 n3 c3, .slice none 0 0]) rfl 27 _ _ rfl rfl rfl ((hS.get .head).store itemN_size (by rfl) (by rfl) (oneN3 rfl rfl rfl)) ?_))
  have hO := Only.setRow w2 b2 #[.bool false, .slice p3 n3 c3, .slice none 0 0]
  have hS4 := hS.upd .head hO ((hS.get .head).row _)
  refine post_cell 2 27 rfl rfl rfl (hS4.get .head) hty rfl itemN_size rfl ?_
  exact ⟨hS4.frame, _, _, _, rfl, ((HR.out.tch ((Tch.refl [b2] w2).only hO (.inr (by simp)))).mono (by simp))⟩
set_option maxHeartbeats 2000000 in
set_option maxRecDepth 100000 in
theorem refBytes_any (X : List Nat) (v : Value) (L : List Nat) (w : World) (hv : RdA X w v L) : Calls Tryd.prog 23 #[v] w (BytesPost X L w) := by
  obtain ⟨f0, f1, f2, hty, _⟩ := item_ty
  obtain ⟨p, n, c, rfl⟩ := slice_keep hv
  have hS := St.start w
  have HV := Lib.hid hv
  clear hv
  go_enter Tryd.func23, Tryd.ntmps23
  go_wp2_with (first
    | (refine st_new (L := []) hS rfl 27 rfl itemN_zero ?_; clear hS; intro w2 b2 hS)
    | (refine st_store (c' := #[.bool false, .slice p n c, .slice none 0 0]) hS rfl 27 _ _ rfl rfl rfl (by repeat (first | exact Upd.head | apply Upd.tail)) itemN_size (by rfl) (by rfl) (oneN3 rfl rfl rfl) ?_; clear hS; intro w4 hS))
  refine post_cell 2 27 rfl rfl rfl (hS.get .head) hty rfl itemN_size rfl ?_
  exact ⟨hS.frame, _, _, _, rfl, HV.out.tch (hS.frame.mono (by simp))⟩
theorem strip_drop : ∀ (W : List Nat) (k : Nat), (∀ i, i < k → W.getD i 0 = 0) → k ≤ W.length → (k = W.length ∨ W.getD k 0 ≠ 0) → stripZ W = W.drop k
  | [], k, _, hk, _ => by
    obtain rfl : k = 0 := by simpa using hk
    rfl
  | x :: r, 0, _, _, h => by
    rcases h with h | h
    · simp at h
    · rw [stripZ_pos r (by simpa using h), List.drop_zero]
  | x :: r, k + 1, h0, hk, h => by
    have hx := h0 0 (by omega)
    simp only [List.getD_cons_zero] at hx
    subst hx
    rw [stripZ_zero, List.drop_succ_cons]
    refine strip_drop r k (fun i hi => ?_) (by simpa using hk) ?_
    · have := h0 (i + 1) (by omega); simpa using this
    · rcases h with h | h
      · left; simpa using h
      · right; simpa using h
end Go.Proofs.YtjlhnjnoigjjfaaDoor
