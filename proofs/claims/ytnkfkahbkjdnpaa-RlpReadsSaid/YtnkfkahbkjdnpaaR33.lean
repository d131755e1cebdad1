/- The document's Read at any bytes. -/
import Derived.Test.YtnkfkahbkjdnpaaR32
namespace Go.Proofs.Ytnkfkahbkjdnpaa
open Go.RowKit

set_option maxHeartbeats 2000000 in
set_option maxRecDepth 100000 in
theorem refread_long (v : Value) (l : List Nat) (w : World) (hm : l.length < 4611686018427387904) (hv : RdA [] w v l) (hl : 16777216 < l.length) : Calls Try.prog 17 #[v] w (ReadPost l w) := by
  obtain ⟨f0, f1, f2, hty, _⟩ := item_ty
  have hS := St.start w
  have hrd : rd l = .error 3 := by unfold rd; rw [if_pos hl]
  obtain ⟨p, n, c, rfl⟩ := slice_keep hv
  have hln := hv.len
  have hgt : (16777216 : Int) < (n : Int) := by omega
  have HR := Lib.hid hrd
  clear hrd hv hln
  go_enter Try.func17, Try.ntmps17
  go_wp2_with (first
    | (refine st_new (L := []) hS rfl 25 rfl item_zero ?_; clear hS; intro w0 b0 hS)
    | (refine st_store (c' := #[.bool false, .slice none 0 0, .slice none 0 0]) hS rfl 25 _ _ rfl rfl rfl (by repeat (first | exact Upd.head | apply Upd.tail)) item_size (by rfl) (by rfl) (one3 rfl rfl rfl) ?_; clear hS; intro w4 hS))
  exact post_cell_one 2 3 25 rfl rfl rfl rfl (hS.get .head) hty rfl item_size rfl (readpost_no HR.out rfl hS.frame)
set_option maxHeartbeats 2000000 in
set_option maxRecDepth 100000 in
theorem refread_err (v : Value) (l : List Nat) (ec : Nat) (w : World) (hv : RdA [] w v l) (hl : l.length ≤ 16777216) (hd : dec 32 l = .error ec) : Calls Try.prog 17 #[v] w (ReadPost l w) := by
  obtain ⟨f0, f1, f2, hty, _⟩ := item_ty
  have hS := St.start w
  obtain ⟨p, n, c, rfl⟩ := slice_keep hv
  have hln := hv.len
  have hrd : rd l = .error ec := by unfold rd; rw [if_neg (by omega), hd]
  have he := dec_error hd
  have e0 : ((ec : Int) == 0) = false := by rw [beq_eq_false_iff_ne]; omega
  have e1 : ((ec : Int) != 0) = true := by rw [bne_iff_ne]; omega
  have e2 : ¬ (ec : Int) = 0 := by omega
  have hp : ∀ w1 : World, Tch [] w w1 → Calls Try.prog 25 #[.slice p n c, .int .i64 32] w1 (fun e w' => ∃ d p1 n1 c1 p2 n2 c2, ∃ cnt : Nat, e = .returned (.tuple #[.agg #[.bool d, .slice p1 n1 c1, .slice p2 n2 c2], .int .i64 (cnt : Int), .int .i64 (ec : Int)]) ∧ Tch [] w1 w') := fun w1 hT => (part_any 32 (Nat.le_refl _) (.slice p n c) l w1 hl (hv.tch hT)).mono (fun e w' h => by
    obtain ⟨h1, d, p1, n1, c1, p2, n2, c2, cnt, en, h2, h3⟩ := h
    rw [hd] at h3
    obtain ⟨rfl, _⟩ := h3
    exact ⟨d, p1, n1, c1, p2, n2, c2, cnt, h2, h1⟩)
  have hgt : ¬ (16777216 : Int) < (n : Int) := by omega
  have hnl : n ≤ 16777216 := by omega
  have HR := Lib.hid hrd
  have HP := Lib.hid hp
  clear hrd hv hln hp hd
  go_enter Try.func17, Try.ntmps17
  go_wp2_with (first
    | (refine st_new (L := []) hS rfl 25 rfl item_zero ?_; clear hS; intro w0 b0 hS)
    | (go_at_call 25; with_reducible refine (HP.out w0 hS.frame).mono ?_; rintro e w1 ⟨d, p1, n1, c1, p2, n2, c2, cnt, rfl, hT1⟩; replace hS := hS.call hT1)
    | (refine st_new (L := [(b0, 25, #[.bool false, .slice none 0 0, .slice none 0 0])]) hS rfl 25 rfl item_zero ?_; clear hS; intro w2 b4 hS)
    | (refine st_store (c' := #[.bool d, .slice p1 n1 c1, .slice p2 n2 c2]) hS rfl 25 _ _ rfl rfl rfl (by repeat (first | exact Upd.head | apply Upd.tail)) item_size (by rfl) (by rfl) (one3 rfl rfl rfl) ?_; clear hS; intro w3 hS)
    | (refine st_store (c' := #[.bool false, .slice none 0 0, .slice none 0 0]) hS rfl 25 _ _ rfl rfl rfl (by repeat (first | exact Upd.head | apply Upd.tail)) item_size (by rfl) (by rfl) (one3 rfl rfl rfl) ?_; clear hS; intro w4 hS))
  exact post_cell_one 2 3 25 rfl rfl rfl rfl (hS.get (.tail .head)) hty rfl item_size rfl (readpost_no HR.out rfl hS.frame)
set_option maxHeartbeats 2000000 in
set_option maxRecDepth 100000 in
theorem refread_more (v : Value) (l r : List Nat) (t : It) (w : World) (hv : RdA [] w v l) (hl : l.length ≤ 16777216) (hd : dec 32 l = .ok (t, r)) (hr : r ≠ []) : Calls Try.prog 17 #[v] w (ReadPost l w) := by
  obtain ⟨f0, f1, f2, hty, _⟩ := item_ty
  have hS := St.start w
  obtain ⟨p, n, c, rfl⟩ := slice_keep hv
  have hln := hv.len
  have hrd : rd l = .error 4 := by unfold rd; rw [if_neg (by omega), hd]; simp only []; rw [if_neg hr]
  have hpos := List.length_pos_iff.2 hr
  have hp : ∀ w1 : World, Tch [] w w1 → Calls Try.prog 25 #[.slice p n c, .int .i64 32] w1 (fun e w' => ∃ d p1 n1 c1 p2 n2 c2, ∃ cnt : Nat, e = .returned (.tuple #[.agg #[.bool d, .slice p1 n1 c1, .slice p2 n2 c2], .int .i64 (cnt : Int), .int .i64 0]) ∧ Tch [] w1 w' ∧ cnt < n) := fun w1 hT => (part_any 32 (Nat.le_refl _) (.slice p n c) l w1 hl (hv.tch hT)).mono (fun e w' h => by
    obtain ⟨h1, d, p1, n1, c1, p2, n2, c2, cnt, en, h2, h3⟩ := h
    rw [hd] at h3
    obtain ⟨rfl, h4, _⟩ := h3
    exact ⟨d, p1, n1, c1, p2, n2, c2, cnt, h2, h1, by omega⟩)
  have hgt : ¬ (16777216 : Int) < (n : Int) := by omega
  have hnl : n ≤ 16777216 := by omega
  have HR := Lib.hid hrd
  have HP := Lib.hid hp
  clear hrd hv hln hp hd
  clear hpos
  go_enter Try.func17, Try.ntmps17
  go_wp2_with (first
    | (refine st_new (L := []) hS rfl 25 rfl item_zero ?_; clear hS; intro w0 b0 hS)
    | (go_at_call 25; with_reducible refine (HP.out w0 hS.frame).mono ?_; rintro e w1 ⟨d, p1, n1, c1, p2, n2, c2, cnt, rfl, hT1, hcn⟩; have e0 : ((cnt : Int) == (n : Int)) = false := by rw [beq_eq_false_iff_ne]; omega
       have e1 : ((cnt : Int) != (n : Int)) = true := by rw [bne_iff_ne]; omega
       have e2 : ¬ (cnt : Int) = (n : Int) := by omega
       have e3 : ¬ cnt = n := by omega
       replace hS := hS.call hT1)
    | (refine st_new (L := [(b0, 25, #[.bool false, .slice none 0 0, .slice none 0 0])]) hS rfl 25 rfl item_zero ?_; clear hS; intro w2 b4 hS)
    | (refine st_store (c' := #[.bool d, .slice p1 n1 c1, .slice p2 n2 c2]) hS rfl 25 _ _ rfl rfl rfl (by repeat (first | exact Upd.head | apply Upd.tail)) item_size (by rfl) (by rfl) (one3 rfl rfl rfl) ?_; clear hS; intro w3 hS)
    | (refine st_store (c' := #[.bool false, .slice none 0 0, .slice none 0 0]) hS rfl 25 _ _ rfl rfl rfl (by repeat (first | exact Upd.head | apply Upd.tail)) item_size (by rfl) (by rfl) (one3 rfl rfl rfl) ?_; clear hS; intro w4 hS))
  exact post_cell_one 2 3 25 rfl rfl rfl rfl (hS.get (.tail .head)) hty rfl item_size rfl (readpost_no HR.out rfl hS.frame)
set_option maxHeartbeats 2000000 in
set_option maxRecDepth 100000 in
theorem refread_ok (v : Value) (l : List Nat) (t : It) (w : World) (hv : RdA [] w v l) (hl : l.length ≤ 16777216) (hd : dec 32 l = .ok (t, [])) : Calls Try.prog 17 #[v] w (ReadPost l w) := by
  obtain ⟨f0, f1, f2, hty, _⟩ := item_ty
  have hS := St.start w
  obtain ⟨p, n, c, rfl⟩ := slice_keep hv
  have hln := hv.len
  have hrd : rd l = .ok t := by unfold rd; rw [if_neg (by omega), hd]; simp
  have hp : ∀ w1 : World, Tch [] w w1 → Calls Try.prog 25 #[.slice p n c, .int .i64 32] w1 (fun e w' => ∃ d p1 n1 c1 p2 n2 c2, e = .returned (.tuple #[.agg #[.bool d, .slice p1 n1 c1, .slice p2 n2 c2], .int .i64 (n : Int), .int .i64 0]) ∧ Tch [] w1 w' ∧ ItF w1 w' 33 (.bool d) (.slice p1 n1 c1) (.slice p2 n2 c2) t) := fun w1 hT => (part_any 32 (Nat.le_refl _) (.slice p n c) l w1 hl (hv.tch hT)).mono (fun e w' h => by
    obtain ⟨h1, d, p1, n1, c1, p2, n2, c2, cnt, en, h2, h3⟩ := h
    rw [hd] at h3
    obtain ⟨rfl, h4, _, h5⟩ := h3
    obtain rfl : cnt = n := by simp at h4; omega
    exact ⟨d, p1, n1, c1, p2, n2, c2, h2, h1, h5⟩)
  have hgt : ¬ (16777216 : Int) < (n : Int) := by omega
  have hnl : n ≤ 16777216 := by omega
  have HR := Lib.hid hrd
  have HP := Lib.hid hp
  clear hrd hv hln hp hd
  go_enter Try.func17, Try.ntmps17
  go_wp2_with (first
    | (refine st_new (L := []) hS rfl 25 rfl item_zero ?_; clear hS; intro w0 b0 hS)
    | (go_at_call 25; with_reducible refine (HP.out w0 hS.frame).mono ?_; rintro e w1 ⟨d, p1, n1, c1, p2, n2, c2, rfl, hT1, hitf⟩
       have HI := Lib.hid hitf
       have hB0 := (hS.call hT1).get .head
       have hge0 := (hS.own .head).resolve_right (by simp)
       have hlt0 := (hS.get .head).lt
       have hF := hS.frame
       clear hS hitf
       have hS := St.one hB0
       clear hB0)
    | (refine st_new (L := [(b0, 25, #[.bool false, .slice none 0 0, .slice none 0 0])]) hS rfl 25 rfl item_zero ?_; clear hS; intro w2 b4 hS)
    | (refine st_load (b := b4) hS rfl 25 _ rfl rfl (by repeat (first | exact At.head | apply At.tail)) hty rfl item_size (by rfl) ?_)
    | (refine st_store (c' := #[.bool d, .slice p1 n1 c1, .slice p2 n2 c2]) hS rfl 25 _ _ rfl rfl rfl (by repeat (first | exact Upd.head | apply Upd.tail)) item_size (by rfl) (by rfl) (one3 rfl rfl rfl) ?_; clear hS; intro w4 hS))
  refine post_cell_one 2 3 25 rfl rfl rfl rfl (hS.get (.tail .head)) hty rfl item_size rfl (readpost_yes HR.out ((hF.trans hT1).fresh hS.frame (fun x hx => by simp at hx; omega)) (show 33 ≤ 34 by omega) (fun X hX => ?_))
  exact ((HI.out (b0 :: X) (fun x hx => by
    rcases List.mem_cons.1 hx with rfl | hx
    · exact hlt0
    · exact Nat.lt_of_lt_of_le (hX x hx) hF.size)).tch (hS.frame.mono (by simp))).mono (fun y hy => .inl (List.mem_cons_of_mem _ hy))
theorem refread_any (v : Value) (l : List Nat) (w : World) (hm : l.length < 4611686018427387904) (hv : RdA [] w v l) : Calls Try.prog 17 #[v] w (ReadPost l w) := by
  by_cases hl : 16777216 < l.length
  · exact refread_long v l w hm hv hl
  · cases hd : dec 32 l with
    | error ec => exact refread_err v l ec w hv (by omega) hd
    | ok tr =>
      obtain ⟨t, r⟩ := tr
      by_cases hr : r = []
      · subst hr; exact refread_ok v l t w hv (by omega) hd
      · exact refread_more v l r t w hv (by omega) hd hr
end Go.Proofs.Ytnkfkahbkjdnpaa
