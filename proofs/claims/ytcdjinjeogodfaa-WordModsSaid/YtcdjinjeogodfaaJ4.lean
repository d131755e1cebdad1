/- Words shifted: shl, shr, sar, negative. -/
import Derived.Test.YtcdjinjeogodfaaC3
import Derived.Test.YtcdjinjeogodfaaJ3
import Derived.Test.YtcdjinjeogodfaaJ1
namespace Go.Proofs.Ytcdjinjeogodfaa
open Go.RowKit

set_option maxRecDepth 100000 in
theorem and_128 : ∀ b : Fin 256, ((b.val &&& 128 : Nat) != 0) = decide (128 ≤ b.val) := by decide
theorem top_byte {x : Nat} (hx : x < M256) : 128 ≤ byt x 0 ↔ 2 ^ 255 ≤ x := by
  unfold byt M256 at *
  have h : x / 2 ^ (8 * (31 - 0)) < 256 := by
    rw [Nat.div_lt_iff_lt_mul (Nat.two_pow_pos _)]; exact hx
  rw [Nat.mod_eq_of_lt h, Nat.le_div_iff_mul_le (Nat.two_pow_pos _)]
set_option maxHeartbeats 1000000 in
set_option maxRecDepth 100000 in
theorem negative_any (x : Nat) (hx : x < M256) (w : World) :
    Calls Try.prog 81 #[.agg (wcells x)] w fun e w' => e = .returned (.bool (decide (2 ^ 255 ≤ x))) ∧ Below w.heap.size w w' := by
  have B := Blk.new w 23 (wcells x)
  have g := B.cell (wf_get (show 0 < 32 by decide))
  have hl := byt_lt x 0
  have ht := top_byte hx
  obtain ⟨v, hv⟩ : ∃ v, v = byt x 0 := ⟨_, rfl⟩
  rw [← hv] at g hl ht
  have H := Lib.hid ht
  clear hv ht hx
  have hb0 := (Below.refl w.heap.size w).alloc (Nat.le_refl _) (.cells (wcells x) 23)
  go_enter Try.func81, Try.ntmps81
  go_wp2
  go_ret
  refine ⟨ret_bool ?_, hb0⟩
  have e := u8_and_nat v 128 hl (by decide)
  show (bits BinOp.and IntKind.u8 (v : Int) 128 != 0) = _
  rw [show bits BinOp.and IntKind.u8 (v : Int) 128 = ((v &&& 128 : Nat) : Int) from e]
  have e2 := and_128 ⟨v, hl⟩
  have e3 : (((v &&& 128 : Nat) : Int) != 0) = ((v &&& 128 : Nat) != 0) := by
    rw [Bool.eq_iff_iff]; simp only [bne_iff_ne, ne_eq]; omega
  rw [e3, e2]
  simp only [H.out]
set_option maxHeartbeats 1000000 in
set_option maxRecDepth 100000 in
theorem shl_any (n x : Nat) (hn : n < 256) (hx : x < M256) (w : World) :
    Calls Try.prog 88 #[.int .u64 (n : Int), .agg (wcells x)] w fun e w' => e = .returned (.agg (wcells (x * 2 ^ n))) ∧ Below w.heap.size w w' := by
  have HX := Lib.hid (And.intro hn hx)
  clear hn hx
  have hS := St.start w
  go_enter Try.func88, Try.ntmps88
  go_wp2_with (first | (refine st_box hS rfl _ _ rfl rfl ?_; clear hS; intro w1 b1 hS) | (refine st_new hS rfl 23 rfl word_zero ?_; clear hS; intro w1 b1 hS) | (refine st_load hS rfl 23 _ rfl rfl (by repeat (first | exact At.head | apply At.tail)) word_type rfl word_size (wf_size _) ?_) | (refine st_store hS rfl 23 _ _ rfl rfl rfl (by repeat (first | exact Upd.head | apply Upd.tail)) word_size (wf_size _) (wf_size _) (wf_one _) ?_; clear hS; intro w1 hS) | (go_at_call 66; with_reducible refine (load_any _ _).mono ?_; rintro e w1 ⟨rfl, hb⟩; replace hS := hS.call hb; clear hb) | (go_at_call 104; with_reducible refine (left_any x n HX.out.2 HX.out.1 _).mono ?_; rintro e w1 ⟨rfl, hb⟩; replace hS := hS.call hb; clear hb) | (go_at_call 68; with_reducible refine (word_any _ _).mono ?_; rintro e w1 ⟨rfl, hb⟩; replace hS := hS.call hb; clear hb))
  exact st_post hS 4 23 rfl rfl rfl (by repeat (first | exact At.head | apply At.tail)) word_type rfl word_size (wf_size _) (fun hb => ⟨rfl, hb⟩)
set_option maxHeartbeats 1000000 in
set_option maxRecDepth 100000 in
theorem shr_any (n x : Nat) (hn : n < 256) (hx : x < M256) (w : World) :
    Calls Try.prog 90 #[.int .u64 (n : Int), .agg (wcells x)] w fun e w' => e = .returned (.agg (wcells (x / 2 ^ n))) ∧ Below w.heap.size w w' := by
  have HX := Lib.hid (And.intro hn hx)
  clear hn hx
  have hS := St.start w
  go_enter Try.func90, Try.ntmps90
  go_wp2_with (first | (refine st_box hS rfl _ _ rfl rfl ?_; clear hS; intro w1 b1 hS) | (refine st_new hS rfl 23 rfl word_zero ?_; clear hS; intro w1 b1 hS) | (refine st_load hS rfl 23 _ rfl rfl (by repeat (first | exact At.head | apply At.tail)) word_type rfl word_size (wf_size _) ?_) | (refine st_store hS rfl 23 _ _ rfl rfl rfl (by repeat (first | exact Upd.head | apply Upd.tail)) word_size (wf_size _) (wf_size _) (wf_one _) ?_; clear hS; intro w1 hS) | (go_at_call 66; with_reducible refine (load_any _ _).mono ?_; rintro e w1 ⟨rfl, hb⟩; replace hS := hS.call hb; clear hb) | (go_at_call 107; with_reducible refine (right_any x n HX.out.2 HX.out.1 _).mono ?_; rintro e w1 ⟨rfl, hb⟩; replace hS := hS.call hb; clear hb) | (go_at_call 68; with_reducible refine (word_any _ _).mono ?_; rintro e w1 ⟨rfl, hb⟩; replace hS := hS.call hb; clear hb))
  exact st_post hS 4 23 rfl rfl rfl (by repeat (first | exact At.head | apply At.tail)) word_type rfl word_size (wf_size _) (fun hb => ⟨rfl, hb⟩)
/-- What shifting to the right does to a signed word. -/
def sarN (n x : Nat) : Nat := if 2 ^ 255 ≤ x then M256 - ((M256 - (x + 1)) / 2 ^ n + 1) else x / 2 ^ n
set_option maxHeartbeats 1000000 in
set_option maxRecDepth 100000 in
theorem sar_any (n x : Nat) (hn : n < 256) (hx : x < M256) (w : World) :
    Calls Try.prog 91 #[.int .u64 (n : Int), .agg (wcells x)] w fun e w' => e = .returned (.agg (wcells (sarN n x))) ∧ Below w.heap.size w w' := by
  obtain ⟨y, hy⟩ : ∃ y, y = M256 - (x + 1) := ⟨_, rfl⟩
  obtain ⟨z, hz⟩ : ∃ z, z = y / 2 ^ n := ⟨_, rfl⟩
  have hyl : y < M256 := by omega
  have hzl : z < M256 := by rw [hz]; exact Nat.lt_of_le_of_lt (Nat.div_le_self _ _) hyl
  by_cases hs : 2 ^ 255 ≤ x
  · have hd : decide (2 ^ 255 ≤ x) = true := decide_eq_true hs
    have he : sarN n x = M256 - (z + 1) := by rw [sarN, if_pos hs, hz, hy]
    have hnot : ∀ w, Calls Try.prog 44 #[.agg (wcells x)] w fun e w' => e = .returned (.agg (wcells y)) ∧ Below w.heap.size w w' := fun w => by rw [hy]; exact not_any x hx w
    have hshr : ∀ w, Calls Try.prog 90 #[.int .u64 (n : Int), .agg (wcells y)] w fun e w' => e = .returned (.agg (wcells z)) ∧ Below w.heap.size w w' := fun w => by rw [hz]; exact shr_any n y hn hyl w
    have hnot2 := not_any z hzl
    have hneg := negative_any x hx
    rw [hd] at hneg
    rw [he]
    generalize M256 - (z + 1) = r at *
    clear hy hz hyl hzl hs hd he hn hx
    have H := Lib.hid (And.intro hnot (And.intro hshr (And.intro hnot2 hneg)))
    clear hnot hshr hnot2 hneg
    have hS := St.start w
    go_enter Try.func91, Try.ntmps91
    go_wp2_with (first | (refine st_box hS rfl _ _ rfl rfl ?_; clear hS; intro w1 b1 hS) | (refine st_new hS rfl 23 rfl word_zero ?_; clear hS; intro w1 b1 hS) | (refine st_load hS rfl 23 _ rfl rfl (by repeat (first | exact At.head | apply At.tail)) word_type rfl word_size (wf_size _) ?_) | (refine st_store hS rfl 23 _ _ rfl rfl rfl (by repeat (first | exact Upd.head | apply Upd.tail)) word_size (wf_size _) (wf_size _) (wf_one _) ?_; clear hS; intro w1 hS) | (go_at_call 81; with_reducible refine (H.out.2.2.2 _).mono ?_; rintro e w1 ⟨rfl, hb⟩; replace hS := hS.call hb; clear hb) | (go_at_call 44; with_reducible refine (H.out.1 _).mono ?_; rintro e w1 ⟨rfl, hb⟩; replace hS := hS.call hb; clear hb) | (go_at_call 90; with_reducible refine (H.out.2.1 _).mono ?_; rintro e w1 ⟨rfl, hb⟩; replace hS := hS.call hb; clear hb) | (go_at_call 44; with_reducible refine (H.out.2.2.1 _).mono ?_; rintro e w1 ⟨rfl, hb⟩; replace hS := hS.call hb; clear hb))
    exact st_post hS 4 23 rfl rfl rfl (by repeat (first | exact At.head | apply At.tail)) word_type rfl word_size (wf_size _) (fun hb => ⟨rfl, hb⟩)
  · have hd : decide (2 ^ 255 ≤ x) = false := decide_eq_false hs
    have he : sarN n x = x / 2 ^ n := by rw [sarN, if_neg hs]
    have hshr := shr_any n x hn hx
    have hneg := negative_any x hx
    rw [hd] at hneg
    rw [he]
    clear hy hz hyl hzl hs hd he hn hx
    have H := Lib.hid (And.intro hshr hneg)
    clear hshr hneg
    have hS := St.start w
    go_enter Try.func91, Try.ntmps91
    go_wp2_with (first | (refine st_box hS rfl _ _ rfl rfl ?_; clear hS; intro w1 b1 hS) | (refine st_new hS rfl 23 rfl word_zero ?_; clear hS; intro w1 b1 hS) | (refine st_load hS rfl 23 _ rfl rfl (by repeat (first | exact At.head | apply At.tail)) word_type rfl word_size (wf_size _) ?_) | (refine st_store hS rfl 23 _ _ rfl rfl rfl (by repeat (first | exact Upd.head | apply Upd.tail)) word_size (wf_size _) (wf_size _) (wf_one _) ?_; clear hS; intro w1 hS) | (go_at_call 81; with_reducible refine (H.out.2 _).mono ?_; rintro e w1 ⟨rfl, hb⟩; replace hS := hS.call hb; clear hb) | (go_at_call 90; with_reducible refine (H.out.1 _).mono ?_; rintro e w1 ⟨rfl, hb⟩; replace hS := hS.call hb; clear hb))
    exact st_post hS 4 23 rfl rfl rfl (by repeat (first | exact At.head | apply At.tail)) word_type rfl word_size (wf_size _) (fun hb => ⟨rfl, hb⟩)
end Go.Proofs.Ytcdjinjeogodfaa
