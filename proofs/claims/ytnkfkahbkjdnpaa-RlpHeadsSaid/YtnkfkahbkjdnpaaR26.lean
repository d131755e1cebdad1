/- The document's part: heads that don't hold. -/
import Derived.Test.YtnkfkahbkjdnpaaR25
namespace Go.Proofs.Ytnkfkahbkjdnpaa
open Go.RowKit

set_option maxHeartbeats 1000000 in
set_option maxRecDepth 100000 in
theorem part_short_nofit (j : Nat) (v : Value) (x : Nat) (r : List Nat) (w : World) (hn : (x :: r).length ≤ 16777216) (hv : RdA [] w v (x :: r)) (hx : 128 ≤ x) (hg : ¬ (192 ≤ x ∧ j = 0)) (hs : spl (x :: r) = none) (h64 : x % 64 ≤ 55) (hf : r.length < x % 64) : Calls Try.prog 25 #[v, .int .i64 (j : Int)] w (PartPost j (x :: r) w) := by
  obtain ⟨f0, f1, f2, hty, _⟩ := item_ty
  have hS := St.start w
  obtain ⟨p, n, c, rfl⟩ := slice_keep hv
  obtain ⟨p', c', hp, hcap, hb, h4⟩ := id hv
  have hxb := hb x List.mem_cons_self
  cases hp
  obtain ⟨b, o, rfl, hbw, _, h8⟩ := h4 (by simp)
  have hc0 := h8 0 (by simp)
  rw [Nat.add_zero] at hc0
  simp only [List.getD_cons_zero] at hc0
  have hdec : dec j (x :: r) = .error 4 := by rw [dec_eq, if_neg (by simpa using hg), hs]
  have HD := Lib.hid hdec
  have hx2 : ¬ (x : Int) < 128 := by omega
  have hxx : (192 ≤ x ∧ 0 < j) ∨ x < 192 := by
    rcases Nat.lt_or_ge x 192 with h | h
    · exact .inr h
    · exact .inl ⟨h, by rcases Nat.eq_zero_or_pos j with h0 | h0; exact absurd ⟨h, h0⟩ hg; exact h0⟩
  obtain ⟨N, hN⟩ : ∃ N, N = x % 64 := ⟨_, rfl⟩
  have hand := and63 x hxb
  rw [← hN] at hand
  have hk4 : ∀ w' : World, Tch [] w w' → w'.cell? ⟨b, o, none⟩ = some (.int .u8 (x : Int)) := fun w' hT => (hT.cell (p := ⟨b, o, none⟩) hbw (by simp)).trans hc0
  have HK := Lib.hid hk4
  have hlt55 : ¬ (55 : Int) < (N : Int) := by omega
  have hfit : ((r.length + 1 : Nat) : Int) - 1 < (N : Int) := by omega
  clear hdec h8 h4 hv hb hk4 hc0 hs hg hN
  simp only [List.length_cons] at *
  clear hf h64
  rcases hxx with ⟨hx3, hj⟩ | hx3
  · have hx4 : (192 : Int) ≤ x := by omega
    have hj0 : ((j : Int) == 0) = false := by rw [beq_eq_false_iff_ne]; omega
    have hj1 : ¬ (j : Int) = 0 := by omega
    clear hx3 hj
    go_enter Try.func25, Try.ntmps25
    go_wp2_with (first | (refine st_new (L := []) hS rfl 25 rfl item_zero ?_; clear hS; intro w4 b4 hS; have hc4 := HK.out w4 hS.frame) | (refine st_store (c' := #[.bool false, .slice none 0 0, .slice none 0 0]) hS rfl 25 _ _ rfl rfl rfl (by repeat (first | exact Upd.head | apply Upd.tail)) item_size (by rfl) (by rfl) (one3 rfl rfl rfl) ?_; clear hS; intro w5 hS))
    exact post_cell_two 4 5 6 25 rfl rfl rfl rfl rfl (hS.get .head) hty rfl item_size rfl (partpost_no HD.out rfl hS.frame)
  · have hx4 : ¬ (192 : Int) ≤ x := by omega
    clear hx3
    go_enter Try.func25, Try.ntmps25
    go_wp2_with (first | (refine st_new (L := []) hS rfl 25 rfl item_zero ?_; clear hS; intro w4 b4 hS; have hc4 := HK.out w4 hS.frame) | (refine st_store (c' := #[.bool false, .slice none 0 0, .slice none 0 0]) hS rfl 25 _ _ rfl rfl rfl (by repeat (first | exact Upd.head | apply Upd.tail)) item_size (by rfl) (by rfl) (one3 rfl rfl rfl) ?_; clear hS; intro w5 hS))
    exact post_cell_two 4 5 6 25 rfl rfl rfl rfl rfl (hS.get .head) hty rfl item_size rfl (partpost_no HD.out rfl hS.frame)
set_option maxHeartbeats 1000000 in
set_option maxRecDepth 100000 in
theorem part_short_one (j : Nat) (v : Value) (x : Nat) (r : List Nat) (w : World) (hn : (x :: r).length ≤ 16777216) (hv : RdA [] w v (x :: r)) (hx : 128 ≤ x) (hg : ¬ (192 ≤ x ∧ j = 0)) (hs : spl (x :: r) = none) (hx9 : x = 129) (hr : 0 < r.length) (hy : r.getD 0 0 < 128) : Calls Try.prog 25 #[v, .int .i64 (j : Int)] w (PartPost j (x :: r) w) := by
  obtain ⟨f0, f1, f2, hty, _⟩ := item_ty
  have hS := St.start w
  obtain ⟨p, n, c, rfl⟩ := slice_keep hv
  obtain ⟨p', c', hp, hcap, hb, h4⟩ := id hv
  have hxb := hb x List.mem_cons_self
  cases hp
  obtain ⟨b, o, rfl, hbw, _, h8⟩ := h4 (by simp)
  have hc0 := h8 0 (by simp)
  rw [Nat.add_zero] at hc0
  simp only [List.getD_cons_zero] at hc0
  have hdec : dec j (x :: r) = .error 4 := by rw [dec_eq, if_neg (by simpa using hg), hs]
  have HD := Lib.hid hdec
  subst hx9
  have hc1 := h8 1 (by simp; omega)
  simp only [List.getD_cons_succ] at hc1
  have hcap2 : r.length + 1 ≤ c := hcap
  have hk4 : ∀ w' : World, Tch [] w w' → w'.cell? ⟨b, o, none⟩ = some (.int .u8 129) := fun w' hT => (hT.cell (p := ⟨b, o, none⟩) hbw (by simp)).trans hc0
  have hk5 : ∀ w' : World, Tch [] w w' → w'.cell? ⟨b, o + 1, none⟩ = some (.int .u8 ((r.getD 0 0 : Nat) : Int)) := fun w' hT => (hT.cell (p := ⟨b, o + 1, none⟩) hbw (by simp)).trans hc1
  have hand : bits BinOp.and IntKind.i64 129 63 = 1 := and63 129 (by omega)
  have hy' : ((r.getD 0 0 : Nat) : Int) < 128 := by omega
  generalize r.getD 0 0 = y at *
  have HK := Lib.hid hk4
  have HK5 := Lib.hid hk5
  have hcc : ¬ c = 1 := by omega
  have hge : ¬ ((r.length + 1 : Nat) : Int) - 1 < 1 := by omega
  clear hdec h8 h4 hv hb hk4 hk5 hc0 hc1 hs hg
  simp only [List.length_cons] at *
  go_enter Try.func25, Try.ntmps25
  go_wp2_with (first | (refine st_new (L := []) hS rfl 25 rfl item_zero ?_; clear hS; intro w4 b4 hS; have hc4 := HK.out w4 hS.frame; have hc5 := HK5.out w4 hS.frame) | (refine st_store (c' := #[.bool false, .slice none 0 0, .slice none 0 0]) hS rfl 25 _ _ rfl rfl rfl (by repeat (first | exact Upd.head | apply Upd.tail)) item_size (by rfl) (by rfl) (one3 rfl rfl rfl) ?_; clear hS; intro w5 hS))
  exact post_cell_two 4 5 6 25 rfl rfl rfl rfl rfl (hS.get .head) hty rfl item_size rfl (partpost_no HD.out rfl hS.frame)
end Go.Proofs.Ytnkfkahbkjdnpaa
