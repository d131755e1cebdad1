/- Of, Add, Sub and the example of the laws: what they hand back. -/
import Derived.Test.YtcdjinjeogodfaaE2
import Derived.Deep.RegionHeld
import Derived.Test.YtcdjinjeogodfaaC1
import Derived.Test.YtcdjinjeogodfaaC2
namespace Go.Proofs.Ytcdjinjeogodfaa
open Go.RowKit

theorem word_of {cs : Array Value} {x : Nat} (h : cs = dig 4 x) (w : World) :
    Calls Try.prog 68 #[.agg cs] w fun e w' => e = .returned (.agg (wcells x)) ∧ Below w.heap.size w w' := by
  subst h; exact word_any x w
theorem wcells_congr {x y : Nat} (h : x = y) : wcells x = wcells y := by rw [h]
/-- Sums and differences of words. -/
def wadd (x y : Nat) : Nat := (x + y) % M256
def wsub (x y : Nat) : Nat := (x + (M256 - y)) % M256
theorem M256_pos : 0 < M256 := by unfold M256; decide
theorem wadd_lt (x y : Nat) : wadd x y < M256 := Nat.mod_lt _ M256_pos
theorem wsub_lt (x y : Nat) : wsub x y < M256 := Nat.mod_lt _ M256_pos
theorem wsub_spec {x y : Nat} (hy : y < M256) : (wsub x y + y) % M256 = x % M256 := by
  unfold wsub
  rw [Nat.mod_add_mod, Nat.add_assoc, Nat.sub_add_cancel (Nat.le_of_lt hy), Nat.add_mod_right]
theorem wadd_eq (x y : Nat) : (x + y) % 2 ^ 256 = wadd x y := rfl
theorem plus_w (x y z c : Nat) (hz : z = wadd x y ∧ c = cry x y 4) (w : World) :
    Calls Try.prog 67 #[.agg (dig 4 x), .agg (dig 4 y)] w fun e w' => e = .returned (.tuple #[.agg (dig 4 z), .int .u64 (c : Int)]) ∧ Below w.heap.size w w' := by
  rw [hz.1, hz.2, ← wadd_eq]; exact plus_any x y w

set_option maxHeartbeats 1000000 in
set_option maxRecDepth 100000 in
theorem of_any (n : Int) (hn : -9223372036854775808 ≤ n ∧ n ≤ 9223372036854775807) (w : World) :
    Calls Try.prog 58 #[.int .i64 n] w fun e w' => e = .returned (.agg (wcells (wint n))) ∧ Below w.heap.size w w' := by
  have hd := dig_of hn
  rw [← IntKind.wrap_u64, ← IntKind.wrap_u64] at hd
  have HD := Lib.hid hd
  clear hd
  have hS := St.start w
  go_enter Try.func58, Try.ntmps58
  go_wp2_with (first | (refine st_box hS rfl _ _ rfl rfl ?_; clear hS; intro w1 b1 hS) | (refine st_new hS rfl 23 rfl word_zero ?_; clear hS; intro w1 b1 hS) | (refine st_load hS rfl 23 _ rfl rfl (by repeat (first | exact At.head | apply At.tail)) word_type rfl word_size (wf_size _) ?_) | (refine st_store hS rfl 23 _ _ rfl rfl rfl (by repeat (first | exact Upd.head | apply Upd.tail)) word_size (wf_size _) (wf_size _) (wf_one _) ?_; clear hS; intro w1 hS) | (go_at_call 68; refine (word_of HD.out _).mono ?_; rintro e w1 ⟨rfl, hb⟩; replace hS := hS.call hb; clear hb))
  exact st_post hS 2 23 rfl rfl rfl (by repeat (first | exact At.head | apply At.tail)) word_type rfl word_size (wf_size _) (fun hb => ⟨rfl, hb⟩)

set_option maxHeartbeats 1000000 in
set_option maxRecDepth 100000 in
theorem add_any (x y : Nat) (w : World) :
    Calls Try.prog 18 #[.agg (wcells x), .agg (wcells y)] w fun e w' => e = .returned (.agg (wcells (wadd x y))) ∧ Below w.heap.size w w' := by
  obtain ⟨z, c, hz⟩ : ∃ z c : Nat, z = wadd x y ∧ c = cry x y 4 := ⟨_, _, rfl, rfl⟩
  have HC := Lib.hid hz
  clear hz
  have hS := St.start w
  go_enter Try.func18, Try.ntmps18
  go_wp2_with (first | (refine st_box hS rfl _ _ rfl rfl ?_; clear hS; intro w1 b1 hS) | (refine st_new hS rfl 23 rfl word_zero ?_; clear hS; intro w1 b1 hS) | (refine st_load hS rfl 23 _ rfl rfl (by repeat (first | exact At.head | apply At.tail)) word_type rfl word_size (wf_size _) ?_) | (refine st_store hS rfl 23 _ _ rfl rfl rfl (by repeat (first | exact Upd.head | apply Upd.tail)) word_size (wf_size _) (wf_size _) (wf_one _) ?_; clear hS; intro w1 hS) | (refine st_new hS rfl 42 rfl limbs_zero ?_; clear hS; intro w1 b1 hS) | (refine st_load hS rfl 42 _ rfl rfl (by repeat (first | exact At.head | apply At.tail)) limbs_type rfl limbs_size (dig_size _ _) ?_) | (refine st_store hS rfl 42 _ _ rfl rfl rfl (by repeat (first | exact Upd.head | apply Upd.tail)) limbs_size (dig_size _ _) (dig_size _ _) (dig_one _ _) ?_; clear hS; intro w1 hS))
  refine wp_region_held_drew (S := fun w' => St w w' _) (by kernel_rfl) hS.drew fun _ => ?_
  replace hS := hS.drew
  simp only [List.size_toArray, List.length_cons, List.length_nil, Nat.reduceAdd, Array.replicate_succ, Array.replicate_zero, List.push_toArray, List.nil_append, List.cons_append]
  refine wpAnyH_take (i := 0) rfl (by kernel_rfl) (by kernel_rfl) (by kernel_rfl) (fun _ _ _ h => h) (y_load rfl 23 _ rfl rfl (by repeat (first | exact At.head | apply At.tail)) word_type rfl word_size (wf_size _)) hS ?_; simp only [Act.put, List.getElem_toArray, List.getElem_cons_succ, List.getElem_cons_zero, List.setIfInBounds_toArray, List.set_cons_zero, List.set_cons_succ]
  refine wpAnyH_take (i := 2) rfl (by kernel_rfl) (by kernel_rfl) (by kernel_rfl) (fun _ _ _ h => h) (y_load rfl 23 _ rfl rfl (by repeat (first | exact At.head | apply At.tail)) word_type rfl word_size (wf_size _)) hS ?_; simp only [Act.put, List.getElem_toArray, List.getElem_cons_succ, List.getElem_cons_zero, List.setIfInBounds_toArray, List.set_cons_zero, List.set_cons_succ]
  refine wpAnyH_all (rs := [1, 8]) (by kernel_rfl) (by simp) ?_
  intro i hi
  have hi2 : i = 1 ∨ i = 8 := by simpa using hi
  rcases hi2 with rfl | rfl
  ·
    refine o_call rfl rfl (by kernel_rfl) (load_any x _) hS fun w1 hS => ⟨hS, ?_⟩
    simp only [Act.put, List.getElem_toArray, List.getElem_cons_succ, List.getElem_cons_zero, List.setIfInBounds_toArray, List.set_cons_zero, List.set_cons_succ]
    refine wpAnyH_all (rs := [3, 8]) (by kernel_rfl) (by simp) ?_
    intro i hi
    have hi2 : i = 3 ∨ i = 8 := by simpa using hi
    rcases hi2 with rfl | rfl
    ·
      refine o_call rfl rfl (by kernel_rfl) (load_any y _) hS fun w1 hS => ⟨hS, ?_⟩
      simp only [Act.put, List.getElem_toArray, List.getElem_cons_succ, List.getElem_cons_zero, List.setIfInBounds_toArray, List.set_cons_zero, List.set_cons_succ]
      refine wpAnyH_all (rs := [4, 8]) (by kernel_rfl) (by simp) ?_
      intro i hi
      have hi2 : i = 4 ∨ i = 8 := by simpa using hi
      rcases hi2 with rfl | rfl
      ·
        refine o_call rfl rfl (by kernel_rfl) (plus_w x y z c HC.out _) hS fun w1 hS => ⟨hS, ?_⟩
        simp only [Act.put, List.getElem_toArray, List.getElem_cons_succ, List.getElem_cons_zero, List.setIfInBounds_toArray, List.set_cons_zero, List.set_cons_succ]
        refine wpAnyH_take (i := 5) rfl (by kernel_rfl) (by kernel_rfl) (by kernel_rfl) (fun _ _ _ h => h) (y_move (v := .tuple #[.agg (dig 4 z), .int .u64 (c : Int)]) rfl _ (.inl rfl) rfl) hS ?_; simp only [Act.put, List.getElem_toArray, List.getElem_cons_succ, List.getElem_cons_zero, List.setIfInBounds_toArray, List.set_cons_zero, List.set_cons_succ]
        refine wpAnyH_take (i := 6) rfl (by kernel_rfl) (by kernel_rfl) (by kernel_rfl) (fun _ _ _ h => h) (y_extract (v := .agg (dig 4 z)) (vs := #[.agg (dig 4 z), .int .u64 (c : Int)]) rfl _ 0 rfl rfl rfl) hS ?_; simp only [Act.put, List.getElem_toArray, List.getElem_cons_succ, List.getElem_cons_zero, List.setIfInBounds_toArray, List.set_cons_zero, List.set_cons_succ]
        refine wpAnyH_take (i := 7) rfl (by kernel_rfl) (by kernel_rfl) (by kernel_rfl) (fun _ _ _ h => h) (y_extract (v := .int .u64 (c : Int)) (vs := #[.agg (dig 4 z), .int .u64 (c : Int)]) rfl _ 1 rfl rfl rfl) hS ?_; simp only [Act.put, List.getElem_toArray, List.getElem_cons_succ, List.getElem_cons_zero, List.setIfInBounds_toArray, List.set_cons_zero, List.set_cons_succ]
        refine wpAnyH_all (rs := [8]) (by kernel_rfl) (by simp) ?_
        intro i hi
        obtain rfl : i = 8 := by simpa using hi
        refine o_new rfl rfl 42 rfl limbs_zero hS fun w1 bs hS => ⟨hS.drop, ?_⟩
        simp only [Act.put, List.getElem_toArray, List.getElem_cons_succ, List.getElem_cons_zero, List.setIfInBounds_toArray, List.set_cons_zero, List.set_cons_succ]
        refine wpAnyH_all (rs := [9]) (by kernel_rfl) (by simp) ?_
        intro i hi
        obtain rfl : i = 9 := by simpa using hi
        refine o_store (c' := dig 4 z) rfl rfl hS 42 _ _ rfl rfl rfl (by repeat (first | exact Upd.head | apply Upd.tail)) limbs_size (dig_size _ _) (dig_size _ _) (dig_one _ _) fun w1 hS => ⟨hS.drop, ?_⟩
        simp only [Act.put, List.getElem_toArray, List.getElem_cons_succ, List.getElem_cons_zero, List.setIfInBounds_toArray, List.set_cons_zero, List.set_cons_succ]
        refine wpAnyH_take (i := 10) rfl (by kernel_rfl) (by kernel_rfl) (by kernel_rfl) (fun _ _ _ h => h) (y_move (v := .int .u64 (c : Int)) rfl _ (.inr rfl) rfl) hS.drop ?_; simp only [Act.put, List.getElem_toArray, List.getElem_cons_succ, List.getElem_cons_zero, List.setIfInBounds_toArray, List.set_cons_zero, List.set_cons_succ]
        refine wpAnyH_done (by kernel_rfl) ?_ _
        go_wp2_with (first | (refine st_box hS rfl _ _ rfl rfl ?_; clear hS; intro w1 b1 hS) | (refine st_new hS rfl 23 rfl word_zero ?_; clear hS; intro w1 b1 hS) | (refine st_load hS rfl 23 _ rfl rfl (by repeat (first | exact At.head | apply At.tail)) word_type rfl word_size (wf_size _) ?_) | (refine st_store hS rfl 23 _ _ rfl rfl rfl (by repeat (first | exact Upd.head | apply Upd.tail)) word_size (wf_size _) (wf_size _) (wf_one _) ?_; clear hS; intro w1 hS) | (refine st_new hS rfl 42 rfl limbs_zero ?_; clear hS; intro w1 b1 hS) | (refine st_load hS rfl 42 _ rfl rfl (by repeat (first | exact At.head | apply At.tail)) limbs_type rfl limbs_size (dig_size _ _) ?_) | (refine st_store hS rfl 42 _ _ rfl rfl rfl (by repeat (first | exact Upd.head | apply Upd.tail)) limbs_size (dig_size _ _) (dig_size _ _) (dig_one _ _) ?_; clear hS; intro w1 hS) | (go_at_call 68; refine (word_any _ _).mono ?_; rintro e w1 ⟨rfl, hb⟩; replace hS := hS.call hb; clear hb))
        rw [← HC.out.1]
        exact st_post hS 4 23 rfl rfl rfl (by repeat (first | exact At.head | apply At.tail)) word_type rfl word_size (wf_size _) (fun hb => ⟨rfl, hb⟩)
      ·
        refine o_new rfl rfl 42 rfl limbs_zero hS fun w1 bs hS => ⟨hS.drop, ?_⟩
        simp only [Act.put, List.getElem_toArray, List.getElem_cons_succ, List.getElem_cons_zero, List.setIfInBounds_toArray, List.set_cons_zero, List.set_cons_succ]
        refine wpAnyH_all (rs := [4]) (by kernel_rfl) (by simp) ?_
        intro i hi
        obtain rfl : i = 4 := by simpa using hi
        refine o_call rfl rfl (by kernel_rfl) (plus_w x y z c HC.out _) hS fun w1 hS => ⟨hS.drop, ?_⟩
        simp only [Act.put, List.getElem_toArray, List.getElem_cons_succ, List.getElem_cons_zero, List.setIfInBounds_toArray, List.set_cons_zero, List.set_cons_succ]
        refine wpAnyH_take (i := 5) rfl (by kernel_rfl) (by kernel_rfl) (by kernel_rfl) (fun _ _ _ h => h) (y_move (v := .tuple #[.agg (dig 4 z), .int .u64 (c : Int)]) rfl _ (.inl rfl) rfl) hS.drop ?_; simp only [Act.put, List.getElem_toArray, List.getElem_cons_succ, List.getElem_cons_zero, List.setIfInBounds_toArray, List.set_cons_zero, List.set_cons_succ]
        refine wpAnyH_take (i := 6) rfl (by kernel_rfl) (by kernel_rfl) (by kernel_rfl) (fun _ _ _ h => h) (y_extract (v := .agg (dig 4 z)) (vs := #[.agg (dig 4 z), .int .u64 (c : Int)]) rfl _ 0 rfl rfl rfl) hS.drop ?_; simp only [Act.put, List.getElem_toArray, List.getElem_cons_succ, List.getElem_cons_zero, List.setIfInBounds_toArray, List.set_cons_zero, List.set_cons_succ]
        refine wpAnyH_take (i := 7) rfl (by kernel_rfl) (by kernel_rfl) (by kernel_rfl) (fun _ _ _ h => h) (y_extract (v := .int .u64 (c : Int)) (vs := #[.agg (dig 4 z), .int .u64 (c : Int)]) rfl _ 1 rfl rfl rfl) hS.drop ?_; simp only [Act.put, List.getElem_toArray, List.getElem_cons_succ, List.getElem_cons_zero, List.setIfInBounds_toArray, List.set_cons_zero, List.set_cons_succ]
        refine wpAnyH_all (rs := [9]) (by kernel_rfl) (by simp) ?_
        intro i hi
        obtain rfl : i = 9 := by simpa using hi
        refine o_store (c' := dig 4 z) rfl rfl hS 42 _ _ rfl rfl rfl (by repeat (first | exact Upd.head | apply Upd.tail)) limbs_size (dig_size _ _) (dig_size _ _) (dig_one _ _) fun w1 hS => ⟨hS.drop, ?_⟩
        simp only [Act.put, List.getElem_toArray, List.getElem_cons_succ, List.getElem_cons_zero, List.setIfInBounds_toArray, List.set_cons_zero, List.set_cons_succ]
        refine wpAnyH_take (i := 10) rfl (by kernel_rfl) (by kernel_rfl) (by kernel_rfl) (fun _ _ _ h => h) (y_move (v := .int .u64 (c : Int)) rfl _ (.inr rfl) rfl) hS.drop ?_; simp only [Act.put, List.getElem_toArray, List.getElem_cons_succ, List.getElem_cons_zero, List.setIfInBounds_toArray, List.set_cons_zero, List.set_cons_succ]
        refine wpAnyH_done (by kernel_rfl) ?_ _
        go_wp2_with (first | (refine st_box hS rfl _ _ rfl rfl ?_; clear hS; intro w1 b1 hS) | (refine st_new hS rfl 23 rfl word_zero ?_; clear hS; intro w1 b1 hS) | (refine st_load hS rfl 23 _ rfl rfl (by repeat (first | exact At.head | apply At.tail)) word_type rfl word_size (wf_size _) ?_) | (refine st_store hS rfl 23 _ _ rfl rfl rfl (by repeat (first | exact Upd.head | apply Upd.tail)) word_size (wf_size _) (wf_size _) (wf_one _) ?_; clear hS; intro w1 hS) | (refine st_new hS rfl 42 rfl limbs_zero ?_; clear hS; intro w1 b1 hS) | (refine st_load hS rfl 42 _ rfl rfl (by repeat (first | exact At.head | apply At.tail)) limbs_type rfl limbs_size (dig_size _ _) ?_) | (refine st_store hS rfl 42 _ _ rfl rfl rfl (by repeat (first | exact Upd.head | apply Upd.tail)) limbs_size (dig_size _ _) (dig_size _ _) (dig_one _ _) ?_; clear hS; intro w1 hS) | (go_at_call 68; refine (word_any _ _).mono ?_; rintro e w1 ⟨rfl, hb⟩; replace hS := hS.call hb; clear hb))
        rw [← HC.out.1]
        exact st_post hS 4 23 rfl rfl rfl (by repeat (first | exact At.head | apply At.tail)) word_type rfl word_size (wf_size _) (fun hb => ⟨rfl, hb⟩)
    ·
      refine o_new rfl rfl 42 rfl limbs_zero hS fun w1 bs hS => ⟨hS.drop, ?_⟩
      simp only [Act.put, List.getElem_toArray, List.getElem_cons_succ, List.getElem_cons_zero, List.setIfInBounds_toArray, List.set_cons_zero, List.set_cons_succ]
      refine wpAnyH_all (rs := [3]) (by kernel_rfl) (by simp) ?_
      intro i hi
      obtain rfl : i = 3 := by simpa using hi
      refine o_call rfl rfl (by kernel_rfl) (load_any y _) hS fun w1 hS => ⟨hS.drop, ?_⟩
      simp only [Act.put, List.getElem_toArray, List.getElem_cons_succ, List.getElem_cons_zero, List.setIfInBounds_toArray, List.set_cons_zero, List.set_cons_succ]
      refine wpAnyH_all (rs := [4]) (by kernel_rfl) (by simp) ?_
      intro i hi
      obtain rfl : i = 4 := by simpa using hi
      refine o_call rfl rfl (by kernel_rfl) (plus_w x y z c HC.out _) hS fun w1 hS => ⟨hS.drop, ?_⟩
      simp only [Act.put, List.getElem_toArray, List.getElem_cons_succ, List.getElem_cons_zero, List.setIfInBounds_toArray, List.set_cons_zero, List.set_cons_succ]
      refine wpAnyH_take (i := 5) rfl (by kernel_rfl) (by kernel_rfl) (by kernel_rfl) (fun _ _ _ h => h) (y_move (v := .tuple #[.agg (dig 4 z), .int .u64 (c : Int)]) rfl _ (.inl rfl) rfl) hS.drop ?_; simp only [Act.put, List.getElem_toArray, List.getElem_cons_succ, List.getElem_cons_zero, List.setIfInBounds_toArray, List.set_cons_zero, List.set_cons_succ]
      refine wpAnyH_take (i := 6) rfl (by kernel_rfl) (by kernel_rfl) (by kernel_rfl) (fun _ _ _ h => h) (y_extract (v := .agg (dig 4 z)) (vs := #[.agg (dig 4 z), .int .u64 (c : Int)]) rfl _ 0 rfl rfl rfl) hS.drop ?_; simp only [Act.put, List.getElem_toArray, List.getElem_cons_succ, List.getElem_cons_zero, List.setIfInBounds_toArray, List.set_cons_zero, List.set_cons_succ]
      refine wpAnyH_take (i := 7) rfl (by kernel_rfl) (by kernel_rfl) (by kernel_rfl) (fun _ _ _ h => h) (y_extract (v := .int .u64 (c : Int)) (vs := #[.agg (dig 4 z), .int .u64 (c : Int)]) rfl _ 1 rfl rfl rfl) hS.drop ?_; simp only [Act.put, List.getElem_toArray, List.getElem_cons_succ, List.getElem_cons_zero, List.setIfInBounds_toArray, List.set_cons_zero, List.set_cons_succ]
      refine wpAnyH_all (rs := [9]) (by kernel_rfl) (by simp) ?_
      intro i hi
      obtain rfl : i = 9 := by simpa using hi
      refine o_store (c' := dig 4 z) rfl rfl hS 42 _ _ rfl rfl rfl (by repeat (first | exact Upd.head | apply Upd.tail)) limbs_size (dig_size _ _) (dig_size _ _) (dig_one _ _) fun w1 hS => ⟨hS.drop, ?_⟩
      simp only [Act.put, List.getElem_toArray, List.getElem_cons_succ, List.getElem_cons_zero, List.setIfInBounds_toArray, List.set_cons_zero, List.set_cons_succ]
      refine wpAnyH_take (i := 10) rfl (by kernel_rfl) (by kernel_rfl) (by kernel_rfl) (fun _ _ _ h => h) (y_move (v := .int .u64 (c : Int)) rfl _ (.inr rfl) rfl) hS.drop ?_; simp only [Act.put, List.getElem_toArray, List.getElem_cons_succ, List.getElem_cons_zero, List.setIfInBounds_toArray, List.set_cons_zero, List.set_cons_succ]
      refine wpAnyH_done (by kernel_rfl) ?_ _
      go_wp2_with (first | (refine st_box hS rfl _ _ rfl rfl ?_; clear hS; intro w1 b1 hS) | (refine st_new hS rfl 23 rfl word_zero ?_; clear hS; intro w1 b1 hS) | (refine st_load hS rfl 23 _ rfl rfl (by repeat (first | exact At.head | apply At.tail)) word_type rfl word_size (wf_size _) ?_) | (refine st_store hS rfl 23 _ _ rfl rfl rfl (by repeat (first | exact Upd.head | apply Upd.tail)) word_size (wf_size _) (wf_size _) (wf_one _) ?_; clear hS; intro w1 hS) | (refine st_new hS rfl 42 rfl limbs_zero ?_; clear hS; intro w1 b1 hS) | (refine st_load hS rfl 42 _ rfl rfl (by repeat (first | exact At.head | apply At.tail)) limbs_type rfl limbs_size (dig_size _ _) ?_) | (refine st_store hS rfl 42 _ _ rfl rfl rfl (by repeat (first | exact Upd.head | apply Upd.tail)) limbs_size (dig_size _ _) (dig_size _ _) (dig_one _ _) ?_; clear hS; intro w1 hS) | (go_at_call 68; refine (word_any _ _).mono ?_; rintro e w1 ⟨rfl, hb⟩; replace hS := hS.call hb; clear hb))
      rw [← HC.out.1]
      exact st_post hS 4 23 rfl rfl rfl (by repeat (first | exact At.head | apply At.tail)) word_type rfl word_size (wf_size _) (fun hb => ⟨rfl, hb⟩)
  ·
    refine o_new rfl rfl 42 rfl limbs_zero hS fun w1 bs hS => ⟨hS.drop, ?_⟩
    simp only [Act.put, List.getElem_toArray, List.getElem_cons_succ, List.getElem_cons_zero, List.setIfInBounds_toArray, List.set_cons_zero, List.set_cons_succ]
    refine wpAnyH_all (rs := [1]) (by kernel_rfl) (by simp) ?_
    intro i hi
    obtain rfl : i = 1 := by simpa using hi
    refine o_call rfl rfl (by kernel_rfl) (load_any x _) hS fun w1 hS => ⟨hS.drop, ?_⟩
    simp only [Act.put, List.getElem_toArray, List.getElem_cons_succ, List.getElem_cons_zero, List.setIfInBounds_toArray, List.set_cons_zero, List.set_cons_succ]
    refine wpAnyH_all (rs := [3]) (by kernel_rfl) (by simp) ?_
    intro i hi
    obtain rfl : i = 3 := by simpa using hi
    refine o_call rfl rfl (by kernel_rfl) (load_any y _) hS fun w1 hS => ⟨hS.drop, ?_⟩
    simp only [Act.put, List.getElem_toArray, List.getElem_cons_succ, List.getElem_cons_zero, List.setIfInBounds_toArray, List.set_cons_zero, List.set_cons_succ]
    refine wpAnyH_all (rs := [4]) (by kernel_rfl) (by simp) ?_
    intro i hi
    obtain rfl : i = 4 := by simpa using hi
    refine o_call rfl rfl (by kernel_rfl) (plus_w x y z c HC.out _) hS fun w1 hS => ⟨hS.drop, ?_⟩
    simp only [Act.put, List.getElem_toArray, List.getElem_cons_succ, List.getElem_cons_zero, List.setIfInBounds_toArray, List.set_cons_zero, List.set_cons_succ]
    refine wpAnyH_take (i := 5) rfl (by kernel_rfl) (by kernel_rfl) (by kernel_rfl) (fun _ _ _ h => h) (y_move (v := .tuple #[.agg (dig 4 z), .int .u64 (c : Int)]) rfl _ (.inl rfl) rfl) hS.drop ?_; simp only [Act.put, List.getElem_toArray, List.getElem_cons_succ, List.getElem_cons_zero, List.setIfInBounds_toArray, List.set_cons_zero, List.set_cons_succ]
    refine wpAnyH_take (i := 6) rfl (by kernel_rfl) (by kernel_rfl) (by kernel_rfl) (fun _ _ _ h => h) (y_extract (v := .agg (dig 4 z)) (vs := #[.agg (dig 4 z), .int .u64 (c : Int)]) rfl _ 0 rfl rfl rfl) hS.drop ?_; simp only [Act.put, List.getElem_toArray, List.getElem_cons_succ, List.getElem_cons_zero, List.setIfInBounds_toArray, List.set_cons_zero, List.set_cons_succ]
    refine wpAnyH_take (i := 7) rfl (by kernel_rfl) (by kernel_rfl) (by kernel_rfl) (fun _ _ _ h => h) (y_extract (v := .int .u64 (c : Int)) (vs := #[.agg (dig 4 z), .int .u64 (c : Int)]) rfl _ 1 rfl rfl rfl) hS.drop ?_; simp only [Act.put, List.getElem_toArray, List.getElem_cons_succ, List.getElem_cons_zero, List.setIfInBounds_toArray, List.set_cons_zero, List.set_cons_succ]
    refine wpAnyH_all (rs := [9]) (by kernel_rfl) (by simp) ?_
    intro i hi
    obtain rfl : i = 9 := by simpa using hi
    refine o_store (c' := dig 4 z) rfl rfl hS 42 _ _ rfl rfl rfl (by repeat (first | exact Upd.head | apply Upd.tail)) limbs_size (dig_size _ _) (dig_size _ _) (dig_one _ _) fun w1 hS => ⟨hS.drop, ?_⟩
    simp only [Act.put, List.getElem_toArray, List.getElem_cons_succ, List.getElem_cons_zero, List.setIfInBounds_toArray, List.set_cons_zero, List.set_cons_succ]
    refine wpAnyH_take (i := 10) rfl (by kernel_rfl) (by kernel_rfl) (by kernel_rfl) (fun _ _ _ h => h) (y_move (v := .int .u64 (c : Int)) rfl _ (.inr rfl) rfl) hS.drop ?_; simp only [Act.put, List.getElem_toArray, List.getElem_cons_succ, List.getElem_cons_zero, List.setIfInBounds_toArray, List.set_cons_zero, List.set_cons_succ]
    refine wpAnyH_done (by kernel_rfl) ?_ _
    go_wp2_with (first | (refine st_box hS rfl _ _ rfl rfl ?_; clear hS; intro w1 b1 hS) | (refine st_new hS rfl 23 rfl word_zero ?_; clear hS; intro w1 b1 hS) | (refine st_load hS rfl 23 _ rfl rfl (by repeat (first | exact At.head | apply At.tail)) word_type rfl word_size (wf_size _) ?_) | (refine st_store hS rfl 23 _ _ rfl rfl rfl (by repeat (first | exact Upd.head | apply Upd.tail)) word_size (wf_size _) (wf_size _) (wf_one _) ?_; clear hS; intro w1 hS) | (refine st_new hS rfl 42 rfl limbs_zero ?_; clear hS; intro w1 b1 hS) | (refine st_load hS rfl 42 _ rfl rfl (by repeat (first | exact At.head | apply At.tail)) limbs_type rfl limbs_size (dig_size _ _) ?_) | (refine st_store hS rfl 42 _ _ rfl rfl rfl (by repeat (first | exact Upd.head | apply Upd.tail)) limbs_size (dig_size _ _) (dig_size _ _) (dig_one _ _) ?_; clear hS; intro w1 hS) | (go_at_call 68; refine (word_any _ _).mono ?_; rintro e w1 ⟨rfl, hb⟩; replace hS := hS.call hb; clear hb))
    rw [← HC.out.1]
    exact st_post hS 4 23 rfl rfl rfl (by repeat (first | exact At.head | apply At.tail)) word_type rfl word_size (wf_size _) (fun hb => ⟨rfl, hb⟩)

set_option maxHeartbeats 1000000 in
set_option maxRecDepth 100000 in
theorem sub_any (x y : Nat) (hy : y < M256) (w : World) :
    Calls Try.prog 20 #[.agg (wcells x), .agg (wcells y)] w fun e w' => e = .returned (.agg (wcells (wsub x y))) ∧ Below w.heap.size w w' := by
  have HY := Lib.hid hy
  clear hy
  have hS := St.start w
  go_enter Try.func20, Try.ntmps20
  go_wp2_with (first | (refine st_box hS rfl _ _ rfl rfl ?_; clear hS; intro w1 b1 hS) | (refine st_new hS rfl 23 rfl word_zero ?_; clear hS; intro w1 b1 hS) | (refine st_load hS rfl 23 _ rfl rfl (by repeat (first | exact At.head | apply At.tail)) word_type rfl word_size (wf_size _) ?_) | (refine st_store hS rfl 23 _ _ rfl rfl rfl (by repeat (first | exact Upd.head | apply Upd.tail)) word_size (wf_size _) (wf_size _) (wf_one _) ?_; clear hS; intro w1 hS) | (refine st_new hS rfl 42 rfl limbs_zero ?_; clear hS; intro w1 b1 hS) | (refine st_load hS rfl 42 _ rfl rfl (by repeat (first | exact At.head | apply At.tail)) limbs_type rfl limbs_size (dig_size _ _) ?_) | (refine st_store hS rfl 42 _ _ rfl rfl rfl (by repeat (first | exact Upd.head | apply Upd.tail)) limbs_size (dig_size _ _) (dig_size _ _) (dig_one _ _) ?_; clear hS; intro w1 hS))
  refine wp_region_head (C := fun w' => St w w' _) 6 (by kernel_rfl) (by kernel_rfl) hS.drew ?_
  simp only [List.take_succ_cons, List.take_zero, List.drop_succ_cons, List.drop_zero]
  repeat (first | (refine q_load rfl 23 _ rfl rfl (by repeat (first | exact At.head | apply At.tail)) word_type rfl word_size (wf_size _) ?_; try simp only [Act.put, List.setIfInBounds_toArray, List.set_cons_zero, List.set_cons_succ]) | (refine wpQuiet_step (fun K hK => ?_); go_simp; first | (refine hK _ ?_; clear hK K) | (apply Exists.intro; refine ⟨fun w hw => ?_, hK _ ?_⟩; (first | (go_at_call 66; exact q_of hw (load_any _ _)) | (go_at_call 72; exact q_of hw (minus_any _ _ _ (wsub_spec HY.out) _)) | (go_at_call 68; exact q_of hw (word_any _ _))); clear hK K)))
  refine wpQuiet_nil ?_
  clear hS
  intro w1 hS
  go_wp2_with (first | (refine st_box hS rfl _ _ rfl rfl ?_; clear hS; intro w1 b1 hS) | (refine st_new hS rfl 23 rfl word_zero ?_; clear hS; intro w1 b1 hS) | (refine st_load hS rfl 23 _ rfl rfl (by repeat (first | exact At.head | apply At.tail)) word_type rfl word_size (wf_size _) ?_) | (refine st_store hS rfl 23 _ _ rfl rfl rfl (by repeat (first | exact Upd.head | apply Upd.tail)) word_size (wf_size _) (wf_size _) (wf_one _) ?_; clear hS; intro w1 hS) | (refine st_new hS rfl 42 rfl limbs_zero ?_; clear hS; intro w1 b1 hS) | (refine st_load hS rfl 42 _ rfl rfl (by repeat (first | exact At.head | apply At.tail)) limbs_type rfl limbs_size (dig_size _ _) ?_) | (refine st_store hS rfl 42 _ _ rfl rfl rfl (by repeat (first | exact Upd.head | apply Upd.tail)) limbs_size (dig_size _ _) (dig_size _ _) (dig_one _ _) ?_; clear hS; intro w1 hS))
  exact st_post hS 4 23 rfl rfl rfl (by repeat (first | exact At.head | apply At.tail)) word_type rfl word_size (wf_size _) (fun hb => ⟨rfl, hb⟩)
end Go.Proofs.Ytcdjinjeogodfaa
