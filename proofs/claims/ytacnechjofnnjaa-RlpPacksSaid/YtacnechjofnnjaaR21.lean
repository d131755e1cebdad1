/- rlp.Read at any bytes. -/
import Derived.Test.YtacnechjofnnjaaR20
namespace Go.Proofs.Ytacnechjofnnjaa
open Go.RowKit

def rdItem (l : List Nat) : It := match rd l with | .ok t => t | .error _ => .str []
def rdErr (l : List Nat) : Nat := match rd l with | .ok _ => 0 | .error c => c
theorem rd_error {l : List Nat} {c : Nat} (h : rd l = .error c) : c = 3 ∨ c = 4 := by
  unfold rd at h
  split at h
  · cases h; omega
  · split at h
    · rename_i e he; cases h; exact dec_error he
    · split at h
      · cases h
      · cases h; omega
theorem rd_back {l : List Nat} (hb : ∀ x ∈ l, x < 256) (h : rdErr l = 0) : l = enc (rdItem l) := by
  unfold rdErr at h
  unfold rdItem
  cases hr : rd l with
  | ok t => exact rd_enc hb hr
  | error c =>
    rw [hr] at h
    have := rd_error hr
    simp only at h
    omega
/-- What Read answers. -/
def ReadPost (l : List Nat) (w : World) (e : Ending) (w' : World) : Prop :=
  Tch [] w w' ∧ ∃ d p1 n1 c1 p2 n2 c2, e = .returned (.tuple #[.agg #[.bool d, .slice p1 n1 c1, .slice p2 n2 c2], .int .i64 (rdErr l : Int)]) ∧ ItF w w' 34 (.bool d) (.slice p1 n1 c1) (.slice p2 n2 c2) (rdItem l)
theorem readpost_no {l : List Nat} {c : Nat} {w w' : World} {n : Int} (h : rd l = .error c) (hn : n = (c : Int)) (hT : Tch [] w w') : ReadPost l w (.returned (.tuple #[.agg #[.bool false, .slice none 0 0, .slice none 0 0], .int .i64 n])) w' := by
  have e1 : rdErr l = c := by unfold rdErr; rw [h]
  have e2 : rdItem l = .str [] := by unfold rdItem; rw [h]
  refine ⟨hT, _, _, _, _, _, _, _, by rw [e1, hn], fun X _ => ?_⟩
  rw [e2]
  unfold ItC
  exact ⟨rfl, (RdB.nil w').rdA' X, by simp⟩
theorem readpost_yes {l : List Nat} {t : It} {w w' : World} {d : Bool} {p1 p2 : Option Addr} {n1 c1 n2 c2 k : Nat} (h : rd l = .ok t) (hT : Tch [] w w') (hk : k ≤ 34) (hI : ∀ X, (∀ x ∈ X, x < w.heap.size) → ItC X w' k (.bool d) (.slice p1 n1 c1) (.slice p2 n2 c2) t) : ReadPost l w (.returned (.tuple #[.agg #[.bool d, .slice p1 n1 c1, .slice p2 n2 c2], .int .i64 0])) w' := by
  have e1 : rdErr l = 0 := by unfold rdErr; rw [h]
  have e2 : rdItem l = t := by unfold rdItem; rw [h]
  exact ⟨hT, _, _, _, _, _, _, _, by rw [e1]; rfl, fun X hX => by rw [e2]; exact (hI X hX).up hk⟩
set_option maxHeartbeats 800000 in
set_option maxRecDepth 100000 in
theorem read_long (v : Value) (l : List Nat) (w : World) (hm : l.length < 4611686018427387904) (hv : RdA [] w v l) (hl : 16777216 < l.length) : Calls Try.prog 10 #[v] w (ReadPost l w) := by
  obtain ⟨f0, f1, f2, hty, _⟩ := item_ty
  have hS := St.start w
  have hrd : rd l = .error 3 := by unfold rd; rw [if_pos hl]
  obtain ⟨p, n, c, rfl⟩ := slice_keep hv
  have hln := hv.len
  have hgt : (16777216 : Int) < (n : Int) := by omega
  have HR := Lib.hid hrd
  clear hrd hv hln
  go_enter Try.func10, Try.ntmps10
  go_wp2_with (first
    | (refine st_new hS rfl 25 rfl item_zero ?_; clear hS; intro w0 b0 hS)
    | (refine st_store (c' := #[.bool false, .slice none 0 0, .slice none 0 0]) hS rfl 25 _ _ rfl rfl rfl (by repeat (first | exact Upd.head | apply Upd.tail)) item_size (by rfl) (by rfl) (one3 rfl rfl rfl) ?_; clear hS; intro w4 hS))
  exact post_cell_one 2 3 25 rfl rfl rfl rfl (hS.get .head) hty rfl item_size rfl (readpost_no HR.out rfl hS.frame)
set_option maxHeartbeats 800000 in
set_option maxRecDepth 100000 in
theorem read_err (v : Value) (l : List Nat) (ec : Nat) (w : World) (hv : RdA [] w v l) (hl : l.length ≤ 16777216) (hd : dec 32 l = .error ec) : Calls Try.prog 10 #[v] w (ReadPost l w) := by
  obtain ⟨f0, f1, f2, hty, _⟩ := item_ty
  have hS := St.start w
  have hrd : rd l = .error ec := by unfold rd; rw [if_neg (by omega), hd]
  have hp := fun (w1 : World) (hT : Tch [] w w1) => ((parse_list_any 32).1 [] v l w1 0 (by omega) (by simp) (hv.tch hT) (by omega) (by omega)).mono (R' := fun e w' => ∃ v1 v2, e = .returned (.tuple #[v1, v2, .int .i64 (ec : Int)]) ∧ Tch [] w1 w') (fun e w' h => by
    obtain ⟨h1, h2⟩ := h
    rw [hd] at h2
    obtain ⟨v1, v2, h3⟩ := h2
    exact ⟨v1, v2, h3, h1⟩)
  have he := dec_error hd
  have e0 : ((ec : Int) == 0) = false := by rw [beq_eq_false_iff_ne]; omega
  have e1 : ((ec : Int) != 0) = true := by rw [bne_iff_ne]; omega
  obtain ⟨p, n, c, rfl⟩ := slice_keep hv
  have hln := hv.len
  have hgt : ¬ (16777216 : Int) < (n : Int) := by omega
  have HR := Lib.hid hrd
  have HP := Lib.hid hp
  clear hrd hv hln hp hd
  go_enter Try.func10, Try.ntmps10
  go_wp2_with (first
    | (refine st_new hS rfl 25 rfl item_zero ?_; clear hS; intro w0 b0 hS)
    | (go_at_call 17; refine (HP.out w0 hS.frame).mono ?_; rintro e w1 ⟨v1, v2, rfl, hT1⟩; replace hS := hS.call hT1)
    | (refine st_store (c' := #[.bool false, .slice none 0 0, .slice none 0 0]) hS rfl 25 _ _ rfl rfl rfl (by repeat (first | exact Upd.head | apply Upd.tail)) item_size (by rfl) (by rfl) (one3 rfl rfl rfl) ?_; clear hS; intro w4 hS))
  exact post_cell_one 2 3 25 rfl rfl rfl rfl (hS.get .head) hty rfl item_size rfl (readpost_no HR.out rfl hS.frame)
set_option maxHeartbeats 800000 in
set_option maxRecDepth 100000 in
theorem read_more (v : Value) (l r : List Nat) (t : It) (w : World) (hv : RdA [] w v l) (hl : l.length ≤ 16777216) (hd : dec 32 l = .ok (t, r)) (hr : r ≠ []) : Calls Try.prog 10 #[v] w (ReadPost l w) := by
  obtain ⟨f0, f1, f2, hty, _⟩ := item_ty
  have hS := St.start w
  have hrd : rd l = .error 4 := by unfold rd; rw [if_neg (by omega), hd]; simp only []; rw [if_neg hr]
  have hp := fun (w1 : World) (hT : Tch [] w w1) => ((parse_list_any 32).1 [] v l w1 0 (by omega) (by simp) (hv.tch hT) (by omega) (by omega)).mono (R' := fun e w' => ∃ v1 p2 n2 c2, 0 < n2 ∧ e = .returned (.tuple #[v1, .slice p2 n2 c2, .int .i64 0]) ∧ Tch [] w1 w') (fun e w' h => by
    obtain ⟨h1, h2⟩ := h
    rw [hd] at h2
    obtain ⟨v1, v2, h3, _, h4⟩ := h2
    obtain ⟨p2, n2, c2, rfl⟩ := slice_keep h4
    exact ⟨v1, p2, n2, c2, by rw [h4.len]; exact List.length_pos_iff.2 hr, h3, h1⟩)
  obtain ⟨p, n, c, rfl⟩ := slice_keep hv
  have hln := hv.len
  have hgt : ¬ (16777216 : Int) < (n : Int) := by omega
  have HR := Lib.hid hrd
  have HP := Lib.hid hp
  clear hrd hv hln hp hd
  go_enter Try.func10, Try.ntmps10
  go_wp2_with (first
    | (refine st_new hS rfl 25 rfl item_zero ?_; clear hS; intro w0 b0 hS)
    | (go_at_call 17; refine (HP.out w0 hS.frame).mono ?_; rintro e w1 ⟨v1, p2, n2, c2, hn2, rfl, hT1⟩; replace hS := hS.call hT1)
    | (refine st_store (c' := #[.bool false, .slice none 0 0, .slice none 0 0]) hS rfl 25 _ _ rfl rfl rfl (by repeat (first | exact Upd.head | apply Upd.tail)) item_size (by rfl) (by rfl) (one3 rfl rfl rfl) ?_; clear hS; intro w4 hS))
  exact post_cell_one 2 3 25 rfl rfl rfl rfl (hS.get .head) hty rfl item_size rfl (readpost_no HR.out rfl hS.frame)
set_option maxHeartbeats 800000 in
set_option maxRecDepth 100000 in
theorem read_ok (v : Value) (l : List Nat) (t : It) (w : World) (hv : RdA [] w v l) (hl : l.length ≤ 16777216) (hd : dec 32 l = .ok (t, [])) : Calls Try.prog 10 #[v] w (ReadPost l w) := by
  obtain ⟨f0, f1, f2, hty, _⟩ := item_ty
  have hS := St.start w
  have hrd : rd l = .ok t := by unfold rd; rw [if_neg (by omega), hd]; simp
  have henc := dec_enc 32 l t [] hv.lt hd
  rw [List.append_nil] at henc
  have hp := fun (w1 : World) (hT : Tch [] w w1) => ((parse_list_any 32).1 [] v l w1 0 (by omega) (by simp) (hv.tch hT) (by omega) (by omega)).mono (R' := fun e w' => ∃ T1 u1 p2 c2, e = .returned (.tuple #[.iface T1 u1, .slice p2 0 c2, .int .i64 0]) ∧ Tch [] w1 w' ∧ Calls Try.prog 18 #[.iface T1 u1] w' (ItemPost w' 33 t)) (fun e w' h => by
    obtain ⟨h1, h2⟩ := h
    rw [hd] at h2
    obtain ⟨v1, v2, h3, h4, h5⟩ := h2
    obtain ⟨p2, n2, c2, rfl⟩ := slice_keep h5
    obtain ⟨T1, u1, rfl⟩ := h4.iface
    have : n2 = 0 := h5.len
    subst this
    exact ⟨T1, u1, p2, c2, h3, h1, item_any 33 _ _ t w' h4 (by rw [← henc]; omega)⟩)
  obtain ⟨p, n, c, rfl⟩ := slice_keep hv
  have hln := hv.len
  have hgt : ¬ (16777216 : Int) < (n : Int) := by omega
  have HR := Lib.hid hrd
  have HP := Lib.hid hp
  clear hrd hv hln hp hd henc
  go_enter Try.func10, Try.ntmps10
  go_wp2_with (first
    | (refine st_new hS rfl 25 rfl item_zero ?_; clear hS; intro w0 b0 hS)
    | (go_at_call 17; refine (HP.out w0 hS.frame).mono ?_; rintro e w1 ⟨T1, u1, p2, c2, rfl, hT1, hitem⟩; replace hS := hS.call hT1; have HI := Lib.hid hitem; clear hitem)
    | (go_at_call 18; refine HI.out.mono ?_; rintro e w2 ⟨hT2, d, p3, n3, c3, p4, n4, c4, rfl, hitf⟩
       have hB0 := (hS.call hT2).get .head
       have hge0 := (hS.own .head).resolve_right (by simp)
       have hlt0 := (hS.get .head).lt
       have hF := hS.frame
       clear hS
       have hS := St.one hB0)
    | (refine st_store (c' := #[.bool d, .slice p3 n3 c3, .slice p4 n4 c4]) hS rfl 25 _ _ rfl rfl rfl (by repeat (first | exact Upd.head | apply Upd.tail)) item_size (by rfl) (by rfl) (one3 rfl rfl rfl) ?_; clear hS; intro w4 hS))
  refine post_cell_one 2 3 25 rfl rfl rfl rfl (hS.get .head) hty rfl item_size rfl (readpost_yes HR.out ((hF.trans hT2).fresh hS.frame (fun x hx => by simp at hx; omega)) (show 33 ≤ 34 by omega) (fun X hX => ?_))
  exact ((hitf (b0 :: X) (fun x hx => by
    rcases List.mem_cons.1 hx with rfl | hx
    · exact hlt0
    · exact Nat.lt_of_lt_of_le (hX x hx) hF.size)).tch (hS.frame.mono (by simp))).mono (fun y hy => .inl (List.mem_cons_of_mem _ hy))
theorem read_any (v : Value) (l : List Nat) (w : World) (hm : l.length < 4611686018427387904) (hv : RdA [] w v l) : Calls Try.prog 10 #[v] w (ReadPost l w) := by
  by_cases hl : 16777216 < l.length
  · exact read_long v l w hm hv hl
  · cases hd : dec 32 l with
    | error ec => exact read_err v l ec w hv (by omega) hd
    | ok tr =>
      obtain ⟨t, r⟩ := tr
      by_cases hr : r = []
      · subst hr; exact read_ok v l t w hv (by omega) hd
      · exact read_more v l r t w hv (by omega) hd hr
end Go.Proofs.Ytacnechjofnnjaa
