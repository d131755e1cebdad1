/- Quotients and remainders of words: Div, Mod. -/
import Derived.Test.YtcdjinjeogodfaaD9
import Derived.Test.YtcdjinjeogodfaaI3
import Derived.Test.YtcdjinjeogodfaaC5
import Derived.StillTailTactics
namespace Go.Proofs.Ytcdjinjeogodfaa
open Go.RowKit

/-- The remainder of words. -/
def wrest (x y : Nat) : Nat := if y = 0 then 0 else x % y
theorem wrest_lt {x y : Nat} (hx : x < M256) : wrest x y < M256 := by
  unfold wrest; split
  · exact M256_pos
  · exact Nat.lt_of_le_of_lt (Nat.mod_le _ _) hx
def restN (U V : Nat) : Nat := if V = 0 then 0 else U % V
theorem divide_r (U V : Nat) (w : World) (hU : U < 2 ^ (64 * 8)) (hV : V < M256) :
    Calls Try.prog 77 #[.agg (dig 8 U), .agg (dig 4 V)] w fun e w' => e = .returned (.tuple #[.agg (dig 8 (U / V)), .agg (dig 4 (restN U V))]) ∧ Below w.heap.size w w' := divide_any U V w hU hV
theorem div_lt {x y : Nat} (hx : x < M256) : x / y < M256 := Nat.lt_of_le_of_lt (Nat.div_le_self _ _) hx
set_option maxHeartbeats 8000000 in
set_option maxRecDepth 100000 in
theorem div_any (x y : Nat) (hx : x < M256) (hy : y < M256) (w : World) :
    Calls Try.prog 24 #[.agg (wcells x), .agg (wcells y)] w fun e w' => e = .returned (.agg (wcells (x / y))) ∧ Below w.heap.size w w' := by
  have HX := Lib.hid (And.intro hx (And.intro hy (show x + 0 * 2 ^ 256 < 2 ^ (64 * 8) from (by have := Nat.lt_of_lt_of_le (show x < 2 ^ 256 from hx) (Nat.pow_le_pow_right (by decide) (show 256 ≤ 64 * 8 by decide)); rw [Nat.zero_mul, Nat.add_zero]; exact this))))
  clear hx hy
  have hS := St.start w
  go_enter Try.func24, Try.ntmps24
  go_wp2_with (first | (have _t := b3; clear _t; refine st_new hS rfl 23 rfl word_zero ?_; clear hS; intro w1 b4 hS) | (have _t := b2; clear _t; refine st_box hS rfl _ _ rfl rfl ?_; clear hS; intro w1 b3 hS) | (refine st_box hS rfl _ _ rfl rfl ?_; clear hS; intro w1 b2 hS))
  try simp only [Act.put, List.setIfInBounds_toArray, List.set_cons_zero, List.set_cons_succ]
  go_cut [5, 6] (fun s5 s6 wx => ∃ c5 c6 : Nat, s5 = .pointer (some ⟨c5, 0, none⟩) ∧ s6 = .pointer (some ⟨c6, 0, none⟩) ∧ St w wx [(c6, 42, dig 4 (restN (x + 0 * 2 ^ 256) y)), (c5, 53, dig 8 ((x + 0 * 2 ^ 256) / y)), (b4, 23, wcells 0), (b3, 23, wcells y), (b2, 23, wcells x)])
  case first =>
    refine wp_region_held_drew (S := fun w' => St w w' _) (by kernel_rfl) hS.drew fun _ => ?_
    replace hS := hS.drew
    simp only [List.size_toArray, List.length_cons, List.length_nil, Nat.reduceAdd, Array.replicate_succ, Array.replicate_zero, List.push_toArray, List.nil_append, List.cons_append]
    refine wpAnyH_take (i := 0) rfl (by kernel_rfl) (by kernel_rfl) (by kernel_rfl) (fun _ _ _ h => h) (y_load rfl 23 _ rfl rfl (by repeat (first | exact At.head | apply At.tail)) word_type rfl word_size (wf_size _)) hS ?_; simp only [Act.put, List.getElem_toArray, List.getElem_cons_succ, List.getElem_cons_zero, List.setIfInBounds_toArray, List.set_cons_zero, List.set_cons_succ]
    refine wpAnyH_take (i := 3) rfl (by kernel_rfl) (by kernel_rfl) (by kernel_rfl) (fun _ _ _ h => h) (y_load rfl 23 _ rfl rfl (by repeat (first | exact At.head | apply At.tail)) word_type rfl word_size (wf_size _)) hS ?_; simp only [Act.put, List.getElem_toArray, List.getElem_cons_succ, List.getElem_cons_zero, List.setIfInBounds_toArray, List.set_cons_zero, List.set_cons_succ]
    refine wpAnyH_all (rs := [1, 9, 10]) (by kernel_rfl) (by simp) ?_
    intro i hi
    have hi2 : i = 1 ∨ i = 9 ∨ i = 10 := by simpa using hi
    rcases hi2 with rfl | rfl | rfl
    ·
      refine o_callR rfl rfl (by kernel_rfl) (load_any x _) ?_
      rintro e w1 ⟨rfl, hb⟩
      replace hS := hS.call hb
      clear hb
      refine ⟨_, rfl, hS, ?_⟩
      simp only [Act.put, List.getElem_toArray, List.getElem_cons_succ, List.getElem_cons_zero, List.setIfInBounds_toArray, List.set_cons_zero, List.set_cons_succ]
      refine wpAnyH_all (rs := [2, 9, 10]) (by kernel_rfl) (by simp) ?_
      intro i hi
      have hi2 : i = 2 ∨ i = 9 ∨ i = 10 := by simpa using hi
      rcases hi2 with rfl | rfl | rfl
      ·
        refine o_callR rfl rfl (by kernel_rfl) (wide_any x 0 _ HX.out.1 (by decide)) ?_
        rintro e w1 ⟨rfl, hb⟩
        replace hS := hS.call hb
        clear hb
        refine ⟨_, rfl, hS, ?_⟩
        simp only [Act.put, List.getElem_toArray, List.getElem_cons_succ, List.getElem_cons_zero, List.setIfInBounds_toArray, List.set_cons_zero, List.set_cons_succ]
        refine wpAnyH_all (rs := [4, 9, 10]) (by kernel_rfl) (by simp) ?_
        intro i hi
        have hi2 : i = 4 ∨ i = 9 ∨ i = 10 := by simpa using hi
        rcases hi2 with rfl | rfl | rfl
        ·
          refine o_callR rfl rfl (by kernel_rfl) (load_any y _) ?_
          rintro e w1 ⟨rfl, hb⟩
          replace hS := hS.call hb
          clear hb
          refine ⟨_, rfl, hS, ?_⟩
          simp only [Act.put, List.getElem_toArray, List.getElem_cons_succ, List.getElem_cons_zero, List.setIfInBounds_toArray, List.set_cons_zero, List.set_cons_succ]
          refine wpAnyH_all (rs := [5, 9, 10]) (by kernel_rfl) (by simp) ?_
          intro i hi
          have hi2 : i = 5 ∨ i = 9 ∨ i = 10 := by simpa using hi
          rcases hi2 with rfl | rfl | rfl
          ·
            refine o_callR rfl rfl (by kernel_rfl) (divide_r (x + 0 * 2 ^ 256) y _ HX.out.2.2 HX.out.2.1) ?_
            rintro e w1 ⟨rfl, hb⟩
            replace hS := hS.call hb
            clear hb
            refine ⟨_, rfl, hS, ?_⟩
            simp only [Act.put, List.getElem_toArray, List.getElem_cons_succ, List.getElem_cons_zero, List.setIfInBounds_toArray, List.set_cons_zero, List.set_cons_succ]
            refine wpAnyH_take (i := 6) rfl (by kernel_rfl) (by kernel_rfl) (by kernel_rfl) (fun _ _ _ h => h) (y_move rfl _ (.inl rfl) rfl) hS ?_; simp only [Act.put, List.getElem_toArray, List.getElem_cons_succ, List.getElem_cons_zero, List.setIfInBounds_toArray, List.set_cons_zero, List.set_cons_succ]
            refine wpAnyH_take (i := 7) rfl (by kernel_rfl) (by kernel_rfl) (by kernel_rfl) (fun _ _ _ h => h) (y_extract rfl _ 0 rfl rfl rfl) hS ?_; simp only [Act.put, List.getElem_toArray, List.getElem_cons_succ, List.getElem_cons_zero, List.setIfInBounds_toArray, List.set_cons_zero, List.set_cons_succ]
            refine wpAnyH_take (i := 8) rfl (by kernel_rfl) (by kernel_rfl) (by kernel_rfl) (fun _ _ _ h => h) (y_extract rfl _ 1 rfl rfl rfl) hS ?_; simp only [Act.put, List.getElem_toArray, List.getElem_cons_succ, List.getElem_cons_zero, List.setIfInBounds_toArray, List.set_cons_zero, List.set_cons_succ]
            refine wpAnyH_all (rs := [9, 10]) (by kernel_rfl) (by simp) ?_
            intro i hi
            have hi2 : i = 9 ∨ i = 10 := by simpa using hi
            rcases hi2 with rfl | rfl
            ·
              refine o_new rfl rfl 53 rfl wide_zero hS fun w1 c9 hS => ⟨hS.drop, ?_⟩
              simp only [Act.put, List.getElem_toArray, List.getElem_cons_succ, List.getElem_cons_zero, List.setIfInBounds_toArray, List.set_cons_zero, List.set_cons_succ]
              refine wpAnyH_all (rs := [10]) (by kernel_rfl) (by simp) ?_
              intro i hi
              obtain rfl : i = 10 := by simpa using hi
              refine o_new rfl rfl 42 rfl limbs_zero hS fun w1 c10 hS => ⟨hS.drop.drop, ?_⟩
              simp only [Act.put, List.getElem_toArray, List.getElem_cons_succ, List.getElem_cons_zero, List.setIfInBounds_toArray, List.set_cons_zero, List.set_cons_succ]
              refine wpAnyH_all (rs := [11]) (by kernel_rfl) (by simp) ?_
              intro i hi
              obtain rfl : i = 11 := by simpa using hi
              refine o_store (c' := dig 8 ((x + 0 * 2 ^ 256) / y)) rfl rfl hS 53 _ _ rfl rfl rfl (by repeat (first | exact Upd.head | apply Upd.tail)) wide_size (dig_size _ _) (dig_size _ _) (dig_one _ _) fun w1 hS => ⟨hS.drop.drop, ?_⟩
              simp only [Act.put, List.getElem_toArray, List.getElem_cons_succ, List.getElem_cons_zero, List.setIfInBounds_toArray, List.set_cons_zero, List.set_cons_succ]
              refine wpAnyH_all (rs := [12]) (by kernel_rfl) (by simp) ?_
              intro i hi
              obtain rfl : i = 12 := by simpa using hi
              refine o_store (c' := dig 4 (restN (x + 0 * 2 ^ 256) y)) rfl rfl hS 42 _ _ rfl rfl rfl (by repeat (first | exact Upd.head | apply Upd.tail)) limbs_size (dig_size _ _) (dig_size _ _) (dig_one _ _) fun w1 hS => ⟨hS.drop.drop, ?_⟩
              simp only [Act.put, List.getElem_toArray, List.getElem_cons_succ, List.getElem_cons_zero, List.setIfInBounds_toArray, List.set_cons_zero, List.set_cons_succ]
              refine wpAnyH_done (by kernel_rfl) ?_ _
              go_wp2_with (fail)
              go_meet
              exact ⟨_, _, rfl, rfl, hS⟩
            ·
              refine o_new rfl rfl 42 rfl limbs_zero hS fun w1 c10 hS => ⟨hS.drop, ?_⟩
              simp only [Act.put, List.getElem_toArray, List.getElem_cons_succ, List.getElem_cons_zero, List.setIfInBounds_toArray, List.set_cons_zero, List.set_cons_succ]
              refine wpAnyH_all (rs := [9]) (by kernel_rfl) (by simp) ?_
              intro i hi
              obtain rfl : i = 9 := by simpa using hi
              refine o_new rfl rfl 53 rfl wide_zero hS fun w1 c9 hS => ⟨hS.drop.drop, ?_⟩
              simp only [Act.put, List.getElem_toArray, List.getElem_cons_succ, List.getElem_cons_zero, List.setIfInBounds_toArray, List.set_cons_zero, List.set_cons_succ]
              replace hS := hS.swap
              refine wpAnyH_all (rs := [11]) (by kernel_rfl) (by simp) ?_
              intro i hi
              obtain rfl : i = 11 := by simpa using hi
              refine o_store (c' := dig 8 ((x + 0 * 2 ^ 256) / y)) rfl rfl hS 53 _ _ rfl rfl rfl (by repeat (first | exact Upd.head | apply Upd.tail)) wide_size (dig_size _ _) (dig_size _ _) (dig_one _ _) fun w1 hS => ⟨hS.drop.drop, ?_⟩
              simp only [Act.put, List.getElem_toArray, List.getElem_cons_succ, List.getElem_cons_zero, List.setIfInBounds_toArray, List.set_cons_zero, List.set_cons_succ]
              refine wpAnyH_all (rs := [12]) (by kernel_rfl) (by simp) ?_
              intro i hi
              obtain rfl : i = 12 := by simpa using hi
              refine o_store (c' := dig 4 (restN (x + 0 * 2 ^ 256) y)) rfl rfl hS 42 _ _ rfl rfl rfl (by repeat (first | exact Upd.head | apply Upd.tail)) limbs_size (dig_size _ _) (dig_size _ _) (dig_one _ _) fun w1 hS => ⟨hS.drop.drop, ?_⟩
              simp only [Act.put, List.getElem_toArray, List.getElem_cons_succ, List.getElem_cons_zero, List.setIfInBounds_toArray, List.set_cons_zero, List.set_cons_succ]
              refine wpAnyH_done (by kernel_rfl) ?_ _
              go_wp2_with (fail)
              go_meet
              exact ⟨_, _, rfl, rfl, hS⟩
          ·
            refine o_new rfl rfl 53 rfl wide_zero hS fun w1 c9 hS => ⟨hS.drop, ?_⟩
            simp only [Act.put, List.getElem_toArray, List.getElem_cons_succ, List.getElem_cons_zero, List.setIfInBounds_toArray, List.set_cons_zero, List.set_cons_succ]
            refine wpAnyH_all (rs := [5, 10]) (by kernel_rfl) (by simp) ?_
            intro i hi
            have hi2 : i = 5 ∨ i = 10 := by simpa using hi
            rcases hi2 with rfl | rfl
            ·
              refine o_callR rfl rfl (by kernel_rfl) (divide_r (x + 0 * 2 ^ 256) y _ HX.out.2.2 HX.out.2.1) ?_
              rintro e w1 ⟨rfl, hb⟩
              replace hS := hS.call hb
              clear hb
              refine ⟨_, rfl, hS.drop, ?_⟩
              simp only [Act.put, List.getElem_toArray, List.getElem_cons_succ, List.getElem_cons_zero, List.setIfInBounds_toArray, List.set_cons_zero, List.set_cons_succ]
              refine wpAnyH_take (i := 6) rfl (by kernel_rfl) (by kernel_rfl) (by kernel_rfl) (fun _ _ _ h => h) (y_move rfl _ (.inl rfl) rfl) hS.drop ?_; simp only [Act.put, List.getElem_toArray, List.getElem_cons_succ, List.getElem_cons_zero, List.setIfInBounds_toArray, List.set_cons_zero, List.set_cons_succ]
              refine wpAnyH_take (i := 7) rfl (by kernel_rfl) (by kernel_rfl) (by kernel_rfl) (fun _ _ _ h => h) (y_extract rfl _ 0 rfl rfl rfl) hS.drop ?_; simp only [Act.put, List.getElem_toArray, List.getElem_cons_succ, List.getElem_cons_zero, List.setIfInBounds_toArray, List.set_cons_zero, List.set_cons_succ]
              refine wpAnyH_take (i := 8) rfl (by kernel_rfl) (by kernel_rfl) (by kernel_rfl) (fun _ _ _ h => h) (y_extract rfl _ 1 rfl rfl rfl) hS.drop ?_; simp only [Act.put, List.getElem_toArray, List.getElem_cons_succ, List.getElem_cons_zero, List.setIfInBounds_toArray, List.set_cons_zero, List.set_cons_succ]
              refine wpAnyH_all (rs := [10]) (by kernel_rfl) (by simp) ?_
              intro i hi
              obtain rfl : i = 10 := by simpa using hi
              refine o_new rfl rfl 42 rfl limbs_zero hS fun w1 c10 hS => ⟨hS.drop.drop, ?_⟩
              simp only [Act.put, List.getElem_toArray, List.getElem_cons_succ, List.getElem_cons_zero, List.setIfInBounds_toArray, List.set_cons_zero, List.set_cons_succ]
              refine wpAnyH_all (rs := [11]) (by kernel_rfl) (by simp) ?_
              intro i hi
              obtain rfl : i = 11 := by simpa using hi
              refine o_store (c' := dig 8 ((x + 0 * 2 ^ 256) / y)) rfl rfl hS 53 _ _ rfl rfl rfl (by repeat (first | exact Upd.head | apply Upd.tail)) wide_size (dig_size _ _) (dig_size _ _) (dig_one _ _) fun w1 hS => ⟨hS.drop.drop, ?_⟩
              simp only [Act.put, List.getElem_toArray, List.getElem_cons_succ, List.getElem_cons_zero, List.setIfInBounds_toArray, List.set_cons_zero, List.set_cons_succ]
              refine wpAnyH_all (rs := [12]) (by kernel_rfl) (by simp) ?_
              intro i hi
              obtain rfl : i = 12 := by simpa using hi
              refine o_store (c' := dig 4 (restN (x + 0 * 2 ^ 256) y)) rfl rfl hS 42 _ _ rfl rfl rfl (by repeat (first | exact Upd.head | apply Upd.tail)) limbs_size (dig_size _ _) (dig_size _ _) (dig_one _ _) fun w1 hS => ⟨hS.drop.drop, ?_⟩
              simp only [Act.put, List.getElem_toArray, List.getElem_cons_succ, List.getElem_cons_zero, List.setIfInBounds_toArray, List.set_cons_zero, List.set_cons_succ]
              refine wpAnyH_done (by kernel_rfl) ?_ _
              go_wp2_with (fail)
              go_meet
              exact ⟨_, _, rfl, rfl, hS⟩
            ·
              refine o_new rfl rfl 42 rfl limbs_zero hS fun w1 c10 hS => ⟨hS.drop.drop, ?_⟩
              simp only [Act.put, List.getElem_toArray, List.getElem_cons_succ, List.getElem_cons_zero, List.setIfInBounds_toArray, List.set_cons_zero, List.set_cons_succ]
              refine wpAnyH_all (rs := [5]) (by kernel_rfl) (by simp) ?_
              intro i hi
              obtain rfl : i = 5 := by simpa using hi
              refine o_callR rfl rfl (by kernel_rfl) (divide_r (x + 0 * 2 ^ 256) y _ HX.out.2.2 HX.out.2.1) ?_
              rintro e w1 ⟨rfl, hb⟩
              replace hS := hS.call hb
              clear hb
              refine ⟨_, rfl, hS.drop.drop, ?_⟩
              simp only [Act.put, List.getElem_toArray, List.getElem_cons_succ, List.getElem_cons_zero, List.setIfInBounds_toArray, List.set_cons_zero, List.set_cons_succ]
              refine wpAnyH_take (i := 6) rfl (by kernel_rfl) (by kernel_rfl) (by kernel_rfl) (fun _ _ _ h => h) (y_move rfl _ (.inl rfl) rfl) hS.drop.drop ?_; simp only [Act.put, List.getElem_toArray, List.getElem_cons_succ, List.getElem_cons_zero, List.setIfInBounds_toArray, List.set_cons_zero, List.set_cons_succ]
              refine wpAnyH_take (i := 7) rfl (by kernel_rfl) (by kernel_rfl) (by kernel_rfl) (fun _ _ _ h => h) (y_extract rfl _ 0 rfl rfl rfl) hS.drop.drop ?_; simp only [Act.put, List.getElem_toArray, List.getElem_cons_succ, List.getElem_cons_zero, List.setIfInBounds_toArray, List.set_cons_zero, List.set_cons_succ]
              refine wpAnyH_take (i := 8) rfl (by kernel_rfl) (by kernel_rfl) (by kernel_rfl) (fun _ _ _ h => h) (y_extract rfl _ 1 rfl rfl rfl) hS.drop.drop ?_; simp only [Act.put, List.getElem_toArray, List.getElem_cons_succ, List.getElem_cons_zero, List.setIfInBounds_toArray, List.set_cons_zero, List.set_cons_succ]
              refine wpAnyH_all (rs := [11]) (by kernel_rfl) (by simp) ?_
              intro i hi
              obtain rfl : i = 11 := by simpa using hi
              refine o_store (c' := dig 8 ((x + 0 * 2 ^ 256) / y)) rfl rfl hS 53 _ _ rfl rfl rfl (by repeat (first | exact Upd.head | apply Upd.tail)) wide_size (dig_size _ _) (dig_size _ _) (dig_one _ _) fun w1 hS => ⟨hS.drop.drop, ?_⟩
              simp only [Act.put, List.getElem_toArray, List.getElem_cons_succ, List.getElem_cons_zero, List.setIfInBounds_toArray, List.set_cons_zero, List.set_cons_succ]
              refine wpAnyH_all (rs := [12]) (by kernel_rfl) (by simp) ?_
              intro i hi
              obtain rfl : i = 12 := by simpa using hi
              refine o_store (c' := dig 4 (restN (x + 0 * 2 ^ 256) y)) rfl rfl hS 42 _ _ rfl rfl rfl (by repeat (first | exact Upd.head | apply Upd.tail)) limbs_size (dig_size _ _) (dig_size _ _) (dig_one _ _) fun w1 hS => ⟨hS.drop.drop, ?_⟩
              simp only [Act.put, List.getElem_toArray, List.getElem_cons_succ, List.getElem_cons_zero, List.setIfInBounds_toArray, List.set_cons_zero, List.set_cons_succ]
              refine wpAnyH_done (by kernel_rfl) ?_ _
              go_wp2_with (fail)
              go_meet
              exact ⟨_, _, rfl, rfl, hS⟩
          ·
            refine o_new rfl rfl 42 rfl limbs_zero hS fun w1 c10 hS => ⟨hS.drop, ?_⟩
            simp only [Act.put, List.getElem_toArray, List.getElem_cons_succ, List.getElem_cons_zero, List.setIfInBounds_toArray, List.set_cons_zero, List.set_cons_succ]
            refine wpAnyH_all (rs := [5, 9]) (by kernel_rfl) (by simp) ?_
            intro i hi
            have hi2 : i = 5 ∨ i = 9 := by simpa using hi
            rcases hi2 with rfl | rfl
            ·
              refine o_callR rfl rfl (by kernel_rfl) (divide_r (x + 0 * 2 ^ 256) y _ HX.out.2.2 HX.out.2.1) ?_
              rintro e w1 ⟨rfl, hb⟩
              replace hS := hS.call hb
              clear hb
              refine ⟨_, rfl, hS.drop, ?_⟩
              simp only [Act.put, List.getElem_toArray, List.getElem_cons_succ, List.getElem_cons_zero, List.setIfInBounds_toArray, List.set_cons_zero, List.set_cons_succ]
              refine wpAnyH_take (i := 6) rfl (by kernel_rfl) (by kernel_rfl) (by kernel_rfl) (fun _ _ _ h => h) (y_move rfl _ (.inl rfl) rfl) hS.drop ?_; simp only [Act.put, List.getElem_toArray, List.getElem_cons_succ, List.getElem_cons_zero, List.setIfInBounds_toArray, List.set_cons_zero, List.set_cons_succ]
              refine wpAnyH_take (i := 7) rfl (by kernel_rfl) (by kernel_rfl) (by kernel_rfl) (fun _ _ _ h => h) (y_extract rfl _ 0 rfl rfl rfl) hS.drop ?_; simp only [Act.put, List.getElem_toArray, List.getElem_cons_succ, List.getElem_cons_zero, List.setIfInBounds_toArray, List.set_cons_zero, List.set_cons_succ]
              refine wpAnyH_take (i := 8) rfl (by kernel_rfl) (by kernel_rfl) (by kernel_rfl) (fun _ _ _ h => h) (y_extract rfl _ 1 rfl rfl rfl) hS.drop ?_; simp only [Act.put, List.getElem_toArray, List.getElem_cons_succ, List.getElem_cons_zero, List.setIfInBounds_toArray, List.set_cons_zero, List.set_cons_succ]
              refine wpAnyH_all (rs := [9]) (by kernel_rfl) (by simp) ?_
              intro i hi
              obtain rfl : i = 9 := by simpa using hi
              refine o_new rfl rfl 53 rfl wide_zero hS fun w1 c9 hS => ⟨hS.drop.drop, ?_⟩
              simp only [Act.put, List.getElem_toArray, List.getElem_cons_succ, List.getElem_cons_zero, List.setIfInBounds_toArray, List.set_cons_zero, List.set_cons_succ]
              replace hS := hS.swap
              refine wpAnyH_all (rs := [11]) (by kernel_rfl) (by simp) ?_
              intro i hi
              obtain rfl : i = 11 := by simpa using hi
              refine o_store (c' := dig 8 ((x + 0 * 2 ^ 256) / y)) rfl rfl hS 53 _ _ rfl rfl rfl (by repeat (first | exact Upd.head | apply Upd.tail)) wide_size (dig_size _ _) (dig_size _ _) (dig_one _ _) fun w1 hS => ⟨hS.drop.drop, ?_⟩
              simp only [Act.put, List.getElem_toArray, List.getElem_cons_succ, List.getElem_cons_zero, List.setIfInBounds_toArray, List.set_cons_zero, List.set_cons_succ]
              refine wpAnyH_all (rs := [12]) (by kernel_rfl) (by simp) ?_
              intro i hi
              obtain rfl : i = 12 := by simpa using hi
              refine o_store (c' := dig 4 (restN (x + 0 * 2 ^ 256) y)) rfl rfl hS 42 _ _ rfl rfl rfl (by repeat (first | exact Upd.head | apply Upd.tail)) limbs_size (dig_size _ _) (dig_size _ _) (dig_one _ _) fun w1 hS => ⟨hS.drop.drop, ?_⟩
              simp only [Act.put, List.getElem_toArray, List.getElem_cons_succ, List.getElem_cons_zero, List.setIfInBounds_toArray, List.set_cons_zero, List.set_cons_succ]
              refine wpAnyH_done (by kernel_rfl) ?_ _
              go_wp2_with (fail)
              go_meet
              exact ⟨_, _, rfl, rfl, hS⟩
            ·
              refine o_new rfl rfl 53 rfl wide_zero hS fun w1 c9 hS => ⟨hS.drop.drop, ?_⟩
              simp only [Act.put, List.getElem_toArray, List.getElem_cons_succ, List.getElem_cons_zero, List.setIfInBounds_toArray, List.set_cons_zero, List.set_cons_succ]
              refine wpAnyH_all (rs := [5]) (by kernel_rfl) (by simp) ?_
              intro i hi
              obtain rfl : i = 5 := by simpa using hi
              refine o_callR rfl rfl (by kernel_rfl) (divide_r (x + 0 * 2 ^ 256) y _ HX.out.2.2 HX.out.2.1) ?_
              rintro e w1 ⟨rfl, hb⟩
              replace hS := hS.call hb
              clear hb
              refine ⟨_, rfl, hS.drop.drop, ?_⟩
              simp only [Act.put, List.getElem_toArray, List.getElem_cons_succ, List.getElem_cons_zero, List.setIfInBounds_toArray, List.set_cons_zero, List.set_cons_succ]
              refine wpAnyH_take (i := 6) rfl (by kernel_rfl) (by kernel_rfl) (by kernel_rfl) (fun _ _ _ h => h) (y_move rfl _ (.inl rfl) rfl) hS.drop.drop ?_; simp only [Act.put, List.getElem_toArray, List.getElem_cons_succ, List.getElem_cons_zero, List.setIfInBounds_toArray, List.set_cons_zero, List.set_cons_succ]
              refine wpAnyH_take (i := 7) rfl (by kernel_rfl) (by kernel_rfl) (by kernel_rfl) (fun _ _ _ h => h) (y_extract rfl _ 0 rfl rfl rfl) hS.drop.drop ?_; simp only [Act.put, List.getElem_toArray, List.getElem_cons_succ, List.getElem_cons_zero, List.setIfInBounds_toArray, List.set_cons_zero, List.set_cons_succ]
              refine wpAnyH_take (i := 8) rfl (by kernel_rfl) (by kernel_rfl) (by kernel_rfl) (fun _ _ _ h => h) (y_extract rfl _ 1 rfl rfl rfl) hS.drop.drop ?_; simp only [Act.put, List.getElem_toArray, List.getElem_cons_succ, List.getElem_cons_zero, List.setIfInBounds_toArray, List.set_cons_zero, List.set_cons_succ]
              replace hS := hS.swap
              refine wpAnyH_all (rs := [11]) (by kernel_rfl) (by simp) ?_
              intro i hi
              obtain rfl : i = 11 := by simpa using hi
              refine o_store (c' := dig 8 ((x + 0 * 2 ^ 256) / y)) rfl rfl hS 53 _ _ rfl rfl rfl (by repeat (first | exact Upd.head | apply Upd.tail)) wide_size (dig_size _ _) (dig_size _ _) (dig_one _ _) fun w1 hS => ⟨hS.drop.drop, ?_⟩
              simp only [Act.put, List.getElem_toArray, List.getElem_cons_succ, List.getElem_cons_zero, List.setIfInBounds_toArray, List.set_cons_zero, List.set_cons_succ]
              refine wpAnyH_all (rs := [12]) (by kernel_rfl) (by simp) ?_
              intro i hi
              obtain rfl : i = 12 := by simpa using hi
              refine o_store (c' := dig 4 (restN (x + 0 * 2 ^ 256) y)) rfl rfl hS 42 _ _ rfl rfl rfl (by repeat (first | exact Upd.head | apply Upd.tail)) limbs_size (dig_size _ _) (dig_size _ _) (dig_one _ _) fun w1 hS => ⟨hS.drop.drop, ?_⟩
              simp only [Act.put, List.getElem_toArray, List.getElem_cons_succ, List.getElem_cons_zero, List.setIfInBounds_toArray, List.set_cons_zero, List.set_cons_succ]
              refine wpAnyH_done (by kernel_rfl) ?_ _
              go_wp2_with (fail)
              go_meet
              exact ⟨_, _, rfl, rfl, hS⟩
        ·
          refine o_new rfl rfl 53 rfl wide_zero hS fun w1 c9 hS => ⟨hS.drop, ?_⟩
          simp only [Act.put, List.getElem_toArray, List.getElem_cons_succ, List.getElem_cons_zero, List.setIfInBounds_toArray, List.set_cons_zero, List.set_cons_succ]
          refine wpAnyH_all (rs := [4, 10]) (by kernel_rfl) (by simp) ?_
          intro i hi
          have hi2 : i = 4 ∨ i = 10 := by simpa using hi
          rcases hi2 with rfl | rfl
          ·
            refine o_callR rfl rfl (by kernel_rfl) (load_any y _) ?_
            rintro e w1 ⟨rfl, hb⟩
            replace hS := hS.call hb
            clear hb
            refine ⟨_, rfl, hS.drop, ?_⟩
            simp only [Act.put, List.getElem_toArray, List.getElem_cons_succ, List.getElem_cons_zero, List.setIfInBounds_toArray, List.set_cons_zero, List.set_cons_succ]
            refine wpAnyH_all (rs := [5, 10]) (by kernel_rfl) (by simp) ?_
            intro i hi
            have hi2 : i = 5 ∨ i = 10 := by simpa using hi
            rcases hi2 with rfl | rfl
            ·
              refine o_callR rfl rfl (by kernel_rfl) (divide_r (x + 0 * 2 ^ 256) y _ HX.out.2.2 HX.out.2.1) ?_
              rintro e w1 ⟨rfl, hb⟩
              replace hS := hS.call hb
              clear hb
              refine ⟨_, rfl, hS.drop, ?_⟩
              simp only [Act.put, List.getElem_toArray, List.getElem_cons_succ, List.getElem_cons_zero, List.setIfInBounds_toArray, List.set_cons_zero, List.set_cons_succ]
              refine wpAnyH_take (i := 6) rfl (by kernel_rfl) (by kernel_rfl) (by kernel_rfl) (fun _ _ _ h => h) (y_move rfl _ (.inl rfl) rfl) hS.drop ?_; simp only [Act.put, List.getElem_toArray, List.getElem_cons_succ, List.getElem_cons_zero, List.setIfInBounds_toArray, List.set_cons_zero, List.set_cons_succ]
              refine wpAnyH_take (i := 7) rfl (by kernel_rfl) (by kernel_rfl) (by kernel_rfl) (fun _ _ _ h => h) (y_extract rfl _ 0 rfl rfl rfl) hS.drop ?_; simp only [Act.put, List.getElem_toArray, List.getElem_cons_succ, List.getElem_cons_zero, List.setIfInBounds_toArray, List.set_cons_zero, List.set_cons_succ]
              refine wpAnyH_take (i := 8) rfl (by kernel_rfl) (by kernel_rfl) (by kernel_rfl) (fun _ _ _ h => h) (y_extract rfl _ 1 rfl rfl rfl) hS.drop ?_; simp only [Act.put, List.getElem_toArray, List.getElem_cons_succ, List.getElem_cons_zero, List.setIfInBounds_toArray, List.set_cons_zero, List.set_cons_succ]
              refine wpAnyH_all (rs := [10]) (by kernel_rfl) (by simp) ?_
              intro i hi
              obtain rfl : i = 10 := by simpa using hi
              refine o_new rfl rfl 42 rfl limbs_zero hS fun w1 c10 hS => ⟨hS.drop.drop, ?_⟩
              simp only [Act.put, List.getElem_toArray, List.getElem_cons_succ, List.getElem_cons_zero, List.setIfInBounds_toArray, List.set_cons_zero, List.set_cons_succ]
              refine wpAnyH_all (rs := [11]) (by kernel_rfl) (by simp) ?_
              intro i hi
              obtain rfl : i = 11 := by simpa using hi
              refine o_store (c' := dig 8 ((x + 0 * 2 ^ 256) / y)) rfl rfl hS 53 _ _ rfl rfl rfl (by repeat (first | exact Upd.head | apply Upd.tail)) wide_size (dig_size _ _) (dig_size _ _) (dig_one _ _) fun w1 hS => ⟨hS.drop.drop, ?_⟩
              simp only [Act.put, List.getElem_toArray, List.getElem_cons_succ, List.getElem_cons_zero, List.setIfInBounds_toArray, List.set_cons_zero, List.set_cons_succ]
              refine wpAnyH_all (rs := [12]) (by kernel_rfl) (by simp) ?_
              intro i hi
              obtain rfl : i = 12 := by simpa using hi
              refine o_store (c' := dig 4 (restN (x + 0 * 2 ^ 256) y)) rfl rfl hS 42 _ _ rfl rfl rfl (by repeat (first | exact Upd.head | apply Upd.tail)) limbs_size (dig_size _ _) (dig_size _ _) (dig_one _ _) fun w1 hS => ⟨hS.drop.drop, ?_⟩
              simp only [Act.put, List.getElem_toArray, List.getElem_cons_succ, List.getElem_cons_zero, List.setIfInBounds_toArray, List.set_cons_zero, List.set_cons_succ]
              refine wpAnyH_done (by kernel_rfl) ?_ _
              go_wp2_with (fail)
              go_meet
              exact ⟨_, _, rfl, rfl, hS⟩
            ·
              refine o_new rfl rfl 42 rfl limbs_zero hS fun w1 c10 hS => ⟨hS.drop.drop, ?_⟩
              simp only [Act.put, List.getElem_toArray, List.getElem_cons_succ, List.getElem_cons_zero, List.setIfInBounds_toArray, List.set_cons_zero, List.set_cons_succ]
              refine wpAnyH_all (rs := [5]) (by kernel_rfl) (by simp) ?_
              intro i hi
              obtain rfl : i = 5 := by simpa using hi
              refine o_callR rfl rfl (by kernel_rfl) (divide_r (x + 0 * 2 ^ 256) y _ HX.out.2.2 HX.out.2.1) ?_
              rintro e w1 ⟨rfl, hb⟩
              replace hS := hS.call hb
              clear hb
              refine ⟨_, rfl, hS.drop.drop, ?_⟩
              simp only [Act.put, List.getElem_toArray, List.getElem_cons_succ, List.getElem_cons_zero, List.setIfInBounds_toArray, List.set_cons_zero, List.set_cons_succ]
              refine wpAnyH_take (i := 6) rfl (by kernel_rfl) (by kernel_rfl) (by kernel_rfl) (fun _ _ _ h => h) (y_move rfl _ (.inl rfl) rfl) hS.drop.drop ?_; simp only [Act.put, List.getElem_toArray, List.getElem_cons_succ, List.getElem_cons_zero, List.setIfInBounds_toArray, List.set_cons_zero, List.set_cons_succ]
              refine wpAnyH_take (i := 7) rfl (by kernel_rfl) (by kernel_rfl) (by kernel_rfl) (fun _ _ _ h => h) (y_extract rfl _ 0 rfl rfl rfl) hS.drop.drop ?_; simp only [Act.put, List.getElem_toArray, List.getElem_cons_succ, List.getElem_cons_zero, List.setIfInBounds_toArray, List.set_cons_zero, List.set_cons_succ]
              refine wpAnyH_take (i := 8) rfl (by kernel_rfl) (by kernel_rfl) (by kernel_rfl) (fun _ _ _ h => h) (y_extract rfl _ 1 rfl rfl rfl) hS.drop.drop ?_; simp only [Act.put, List.getElem_toArray, List.getElem_cons_succ, List.getElem_cons_zero, List.setIfInBounds_toArray, List.set_cons_zero, List.set_cons_succ]
              refine wpAnyH_all (rs := [11]) (by kernel_rfl) (by simp) ?_
              intro i hi
              obtain rfl : i = 11 := by simpa using hi
              refine o_store (c' := dig 8 ((x + 0 * 2 ^ 256) / y)) rfl rfl hS 53 _ _ rfl rfl rfl (by repeat (first | exact Upd.head | apply Upd.tail)) wide_size (dig_size _ _) (dig_size _ _) (dig_one _ _) fun w1 hS => ⟨hS.drop.drop, ?_⟩
              simp only [Act.put, List.getElem_toArray, List.getElem_cons_succ, List.getElem_cons_zero, List.setIfInBounds_toArray, List.set_cons_zero, List.set_cons_succ]
              refine wpAnyH_all (rs := [12]) (by kernel_rfl) (by simp) ?_
              intro i hi
              obtain rfl : i = 12 := by simpa using hi
              refine o_store (c' := dig 4 (restN (x + 0 * 2 ^ 256) y)) rfl rfl hS 42 _ _ rfl rfl rfl (by repeat (first | exact Upd.head | apply Upd.tail)) limbs_size (dig_size _ _) (dig_size _ _) (dig_one _ _) fun w1 hS => ⟨hS.drop.drop, ?_⟩
              simp only [Act.put, List.getElem_toArray, List.getElem_cons_succ, List.getElem_cons_zero, List.setIfInBounds_toArray, List.set_cons_zero, List.set_cons_succ]
              refine wpAnyH_done (by kernel_rfl) ?_ _
              go_wp2_with (fail)
              go_meet
              exact ⟨_, _, rfl, rfl, hS⟩
          ·
            refine o_new rfl rfl 42 rfl limbs_zero hS fun w1 c10 hS => ⟨hS.drop.drop, ?_⟩
            simp only [Act.put, List.getElem_toArray, List.getElem_cons_succ, List.getElem_cons_zero, List.setIfInBounds_toArray, List.set_cons_zero, List.set_cons_succ]
            refine wpAnyH_all (rs := [4]) (by kernel_rfl) (by simp) ?_
            intro i hi
            obtain rfl : i = 4 := by simpa using hi
            refine o_callR rfl rfl (by kernel_rfl) (load_any y _) ?_
            rintro e w1 ⟨rfl, hb⟩
            replace hS := hS.call hb
            clear hb
            refine ⟨_, rfl, hS.drop.drop, ?_⟩
            simp only [Act.put, List.getElem_toArray, List.getElem_cons_succ, List.getElem_cons_zero, List.setIfInBounds_toArray, List.set_cons_zero, List.set_cons_succ]
            refine wpAnyH_all (rs := [5]) (by kernel_rfl) (by simp) ?_
            intro i hi
            obtain rfl : i = 5 := by simpa using hi
            refine o_callR rfl rfl (by kernel_rfl) (divide_r (x + 0 * 2 ^ 256) y _ HX.out.2.2 HX.out.2.1) ?_
            rintro e w1 ⟨rfl, hb⟩
            replace hS := hS.call hb
            clear hb
            refine ⟨_, rfl, hS.drop.drop, ?_⟩
            simp only [Act.put, List.getElem_toArray, List.getElem_cons_succ, List.getElem_cons_zero, List.setIfInBounds_toArray, List.set_cons_zero, List.set_cons_succ]
            refine wpAnyH_take (i := 6) rfl (by kernel_rfl) (by kernel_rfl) (by kernel_rfl) (fun _ _ _ h => h) (y_move rfl _ (.inl rfl) rfl) hS.drop.drop ?_; simp only [Act.put, List.getElem_toArray, List.getElem_cons_succ, List.getElem_cons_zero, List.setIfInBounds_toArray, List.set_cons_zero, List.set_cons_succ]
            refine wpAnyH_take (i := 7) rfl (by kernel_rfl) (by kernel_rfl) (by kernel_rfl) (fun _ _ _ h => h) (y_extract rfl _ 0 rfl rfl rfl) hS.drop.drop ?_; simp only [Act.put, List.getElem_toArray, List.getElem_cons_succ, List.getElem_cons_zero, List.setIfInBounds_toArray, List.set_cons_zero, List.set_cons_succ]
            refine wpAnyH_take (i := 8) rfl (by kernel_rfl) (by kernel_rfl) (by kernel_rfl) (fun _ _ _ h => h) (y_extract rfl _ 1 rfl rfl rfl) hS.drop.drop ?_; simp only [Act.put, List.getElem_toArray, List.getElem_cons_succ, List.getElem_cons_zero, List.setIfInBounds_toArray, List.set_cons_zero, List.set_cons_succ]
            refine wpAnyH_all (rs := [11]) (by kernel_rfl) (by simp) ?_
            intro i hi
            obtain rfl : i = 11 := by simpa using hi
            refine o_store (c' := dig 8 ((x + 0 * 2 ^ 256) / y)) rfl rfl hS 53 _ _ rfl rfl rfl (by repeat (first | exact Upd.head | apply Upd.tail)) wide_size (dig_size _ _) (dig_size _ _) (dig_one _ _) fun w1 hS => ⟨hS.drop.drop, ?_⟩
            simp only [Act.put, List.getElem_toArray, List.getElem_cons_succ, List.getElem_cons_zero, List.setIfInBounds_toArray, List.set_cons_zero, List.set_cons_succ]
            refine wpAnyH_all (rs := [12]) (by kernel_rfl) (by simp) ?_
            intro i hi
            obtain rfl : i = 12 := by simpa using hi
            refine o_store (c' := dig 4 (restN (x + 0 * 2 ^ 256) y)) rfl rfl hS 42 _ _ rfl rfl rfl (by repeat (first | exact Upd.head | apply Upd.tail)) limbs_size (dig_size _ _) (dig_size _ _) (dig_one _ _) fun w1 hS => ⟨hS.drop.drop, ?_⟩
            simp only [Act.put, List.getElem_toArray, List.getElem_cons_succ, List.getElem_cons_zero, List.setIfInBounds_toArray, List.set_cons_zero, List.set_cons_succ]
            refine wpAnyH_done (by kernel_rfl) ?_ _
            go_wp2_with (fail)
            go_meet
            exact ⟨_, _, rfl, rfl, hS⟩
        ·
          refine o_new rfl rfl 42 rfl limbs_zero hS fun w1 c10 hS => ⟨hS.drop, ?_⟩
          simp only [Act.put, List.getElem_toArray, List.getElem_cons_succ, List.getElem_cons_zero, List.setIfInBounds_toArray, List.set_cons_zero, List.set_cons_succ]
          refine wpAnyH_all (rs := [4, 9]) (by kernel_rfl) (by simp) ?_
          intro i hi
          have hi2 : i = 4 ∨ i = 9 := by simpa using hi
          rcases hi2 with rfl | rfl
          ·
            refine o_callR rfl rfl (by kernel_rfl) (load_any y _) ?_
            rintro e w1 ⟨rfl, hb⟩
            replace hS := hS.call hb
            clear hb
            refine ⟨_, rfl, hS.drop, ?_⟩
            simp only [Act.put, List.getElem_toArray, List.getElem_cons_succ, List.getElem_cons_zero, List.setIfInBounds_toArray, List.set_cons_zero, List.set_cons_succ]
            refine wpAnyH_all (rs := [5, 9]) (by kernel_rfl) (by simp) ?_
            intro i hi
            have hi2 : i = 5 ∨ i = 9 := by simpa using hi
            rcases hi2 with rfl | rfl
            ·
              refine o_callR rfl rfl (by kernel_rfl) (divide_r (x + 0 * 2 ^ 256) y _ HX.out.2.2 HX.out.2.1) ?_
              rintro e w1 ⟨rfl, hb⟩
              replace hS := hS.call hb
              clear hb
              refine ⟨_, rfl, hS.drop, ?_⟩
              simp only [Act.put, List.getElem_toArray, List.getElem_cons_succ, List.getElem_cons_zero, List.setIfInBounds_toArray, List.set_cons_zero, List.set_cons_succ]
              refine wpAnyH_take (i := 6) rfl (by kernel_rfl) (by kernel_rfl) (by kernel_rfl) (fun _ _ _ h => h) (y_move rfl _ (.inl rfl) rfl) hS.drop ?_; simp only [Act.put, List.getElem_toArray, List.getElem_cons_succ, List.getElem_cons_zero, List.setIfInBounds_toArray, List.set_cons_zero, List.set_cons_succ]
              refine wpAnyH_take (i := 7) rfl (by kernel_rfl) (by kernel_rfl) (by kernel_rfl) (fun _ _ _ h => h) (y_extract rfl _ 0 rfl rfl rfl) hS.drop ?_; simp only [Act.put, List.getElem_toArray, List.getElem_cons_succ, List.getElem_cons_zero, List.setIfInBounds_toArray, List.set_cons_zero, List.set_cons_succ]
              refine wpAnyH_take (i := 8) rfl (by kernel_rfl) (by kernel_rfl) (by kernel_rfl) (fun _ _ _ h => h) (y_extract rfl _ 1 rfl rfl rfl) hS.drop ?_; simp only [Act.put, List.getElem_toArray, List.getElem_cons_succ, List.getElem_cons_zero, List.setIfInBounds_toArray, List.set_cons_zero, List.set_cons_succ]
              refine wpAnyH_all (rs := [9]) (by kernel_rfl) (by simp) ?_
              intro i hi
              obtain rfl : i = 9 := by simpa using hi
              refine o_new rfl rfl 53 rfl wide_zero hS fun w1 c9 hS => ⟨hS.drop.drop, ?_⟩
              simp only [Act.put, List.getElem_toArray, List.getElem_cons_succ, List.getElem_cons_zero, List.setIfInBounds_toArray, List.set_cons_zero, List.set_cons_succ]
              replace hS := hS.swap
              refine wpAnyH_all (rs := [11]) (by kernel_rfl) (by simp) ?_
              intro i hi
              obtain rfl : i = 11 := by simpa using hi
              refine o_store (c' := dig 8 ((x + 0 * 2 ^ 256) / y)) rfl rfl hS 53 _ _ rfl rfl rfl (by repeat (first | exact Upd.head | apply Upd.tail)) wide_size (dig_size _ _) (dig_size _ _) (dig_one _ _) fun w1 hS => ⟨hS.drop.drop, ?_⟩
              simp only [Act.put, List.getElem_toArray, List.getElem_cons_succ, List.getElem_cons_zero, List.setIfInBounds_toArray, List.set_cons_zero, List.set_cons_succ]
              refine wpAnyH_all (rs := [12]) (by kernel_rfl) (by simp) ?_
              intro i hi
              obtain rfl : i = 12 := by simpa using hi
              refine o_store (c' := dig 4 (restN (x + 0 * 2 ^ 256) y)) rfl rfl hS 42 _ _ rfl rfl rfl (by repeat (first | exact Upd.head | apply Upd.tail)) limbs_size (dig_size _ _) (dig_size _ _) (dig_one _ _) fun w1 hS => ⟨hS.drop.drop, ?_⟩
              simp only [Act.put, List.getElem_toArray, List.getElem_cons_succ, List.getElem_cons_zero, List.setIfInBounds_toArray, List.set_cons_zero, List.set_cons_succ]
              refine wpAnyH_done (by kernel_rfl) ?_ _
              go_wp2_with (fail)
              go_meet
              exact ⟨_, _, rfl, rfl, hS⟩
            ·
              refine o_new rfl rfl 53 rfl wide_zero hS fun w1 c9 hS => ⟨hS.drop.drop, ?_⟩
              simp only [Act.put, List.getElem_toArray, List.getElem_cons_succ, List.getElem_cons_zero, List.setIfInBounds_toArray, List.set_cons_zero, List.set_cons_succ]
              refine wpAnyH_all (rs := [5]) (by kernel_rfl) (by simp) ?_
              intro i hi
              obtain rfl : i = 5 := by simpa using hi
              refine o_callR rfl rfl (by kernel_rfl) (divide_r (x + 0 * 2 ^ 256) y _ HX.out.2.2 HX.out.2.1) ?_
              rintro e w1 ⟨rfl, hb⟩
              replace hS := hS.call hb
              clear hb
              refine ⟨_, rfl, hS.drop.drop, ?_⟩
              simp only [Act.put, List.getElem_toArray, List.getElem_cons_succ, List.getElem_cons_zero, List.setIfInBounds_toArray, List.set_cons_zero, List.set_cons_succ]
              refine wpAnyH_take (i := 6) rfl (by kernel_rfl) (by kernel_rfl) (by kernel_rfl) (fun _ _ _ h => h) (y_move rfl _ (.inl rfl) rfl) hS.drop.drop ?_; simp only [Act.put, List.getElem_toArray, List.getElem_cons_succ, List.getElem_cons_zero, List.setIfInBounds_toArray, List.set_cons_zero, List.set_cons_succ]
              refine wpAnyH_take (i := 7) rfl (by kernel_rfl) (by kernel_rfl) (by kernel_rfl) (fun _ _ _ h => h) (y_extract rfl _ 0 rfl rfl rfl) hS.drop.drop ?_; simp only [Act.put, List.getElem_toArray, List.getElem_cons_succ, List.getElem_cons_zero, List.setIfInBounds_toArray, List.set_cons_zero, List.set_cons_succ]
              refine wpAnyH_take (i := 8) rfl (by kernel_rfl) (by kernel_rfl) (by kernel_rfl) (fun _ _ _ h => h) (y_extract rfl _ 1 rfl rfl rfl) hS.drop.drop ?_; simp only [Act.put, List.getElem_toArray, List.getElem_cons_succ, List.getElem_cons_zero, List.setIfInBounds_toArray, List.set_cons_zero, List.set_cons_succ]
              replace hS := hS.swap
              refine wpAnyH_all (rs := [11]) (by kernel_rfl) (by simp) ?_
              intro i hi
              obtain rfl : i = 11 := by simpa using hi
              refine o_store (c' := dig 8 ((x + 0 * 2 ^ 256) / y)) rfl rfl hS 53 _ _ rfl rfl rfl (by repeat (first | exact Upd.head | apply Upd.tail)) wide_size (dig_size _ _) (dig_size _ _) (dig_one _ _) fun w1 hS => ⟨hS.drop.drop, ?_⟩
              simp only [Act.put, List.getElem_toArray, List.getElem_cons_succ, List.getElem_cons_zero, List.setIfInBounds_toArray, List.set_cons_zero, List.set_cons_succ]
              refine wpAnyH_all (rs := [12]) (by kernel_rfl) (by simp) ?_
              intro i hi
              obtain rfl : i = 12 := by simpa using hi
              refine o_store (c' := dig 4 (restN (x + 0 * 2 ^ 256) y)) rfl rfl hS 42 _ _ rfl rfl rfl (by repeat (first | exact Upd.head | apply Upd.tail)) limbs_size (dig_size _ _) (dig_size _ _) (dig_one _ _) fun w1 hS => ⟨hS.drop.drop, ?_⟩
              simp only [Act.put, List.getElem_toArray, List.getElem_cons_succ, List.getElem_cons_zero, List.setIfInBounds_toArray, List.set_cons_zero, List.set_cons_succ]
              refine wpAnyH_done (by kernel_rfl) ?_ _
              go_wp2_with (fail)
              go_meet
              exact ⟨_, _, rfl, rfl, hS⟩
          ·
            refine o_new rfl rfl 53 rfl wide_zero hS fun w1 c9 hS => ⟨hS.drop.drop, ?_⟩
            simp only [Act.put, List.getElem_toArray, List.getElem_cons_succ, List.getElem_cons_zero, List.setIfInBounds_toArray, List.set_cons_zero, List.set_cons_succ]
            refine wpAnyH_all (rs := [4]) (by kernel_rfl) (by simp) ?_
            intro i hi
            obtain rfl : i = 4 := by simpa using hi
            refine o_callR rfl rfl (by kernel_rfl) (load_any y _) ?_
            rintro e w1 ⟨rfl, hb⟩
            replace hS := hS.call hb
            clear hb
            refine ⟨_, rfl, hS.drop.drop, ?_⟩
            simp only [Act.put, List.getElem_toArray, List.getElem_cons_succ, List.getElem_cons_zero, List.setIfInBounds_toArray, List.set_cons_zero, List.set_cons_succ]
            refine wpAnyH_all (rs := [5]) (by kernel_rfl) (by simp) ?_
            intro i hi
            obtain rfl : i = 5 := by simpa using hi
            refine o_callR rfl rfl (by kernel_rfl) (divide_r (x + 0 * 2 ^ 256) y _ HX.out.2.2 HX.out.2.1) ?_
            rintro e w1 ⟨rfl, hb⟩
            replace hS := hS.call hb
            clear hb
            refine ⟨_, rfl, hS.drop.drop, ?_⟩
            simp only [Act.put, List.getElem_toArray, List.getElem_cons_succ, List.getElem_cons_zero, List.setIfInBounds_toArray, List.set_cons_zero, List.set_cons_succ]
            refine wpAnyH_take (i := 6) rfl (by kernel_rfl) (by kernel_rfl) (by kernel_rfl) (fun _ _ _ h => h) (y_move rfl _ (.inl rfl) rfl) hS.drop.drop ?_; simp only [Act.put, List.getElem_toArray, List.getElem_cons_succ, List.getElem_cons_zero, List.setIfInBounds_toArray, List.set_cons_zero, List.set_cons_succ]
            refine wpAnyH_take (i := 7) rfl (by kernel_rfl) (by kernel_rfl) (by kernel_rfl) (fun _ _ _ h => h) (y_extract rfl _ 0 rfl rfl rfl) hS.drop.drop ?_; simp only [Act.put, List.getElem_toArray, List.getElem_cons_succ, List.getElem_cons_zero, List.setIfInBounds_toArray, List.set_cons_zero, List.set_cons_succ]
            refine wpAnyH_take (i := 8) rfl (by kernel_rfl) (by kernel_rfl) (by kernel_rfl) (fun _ _ _ h => h) (y_extract rfl _ 1 rfl rfl rfl) hS.drop.drop ?_; simp only [Act.put, List.getElem_toArray, List.getElem_cons_succ, List.getElem_cons_zero, List.setIfInBounds_toArray, List.set_cons_zero, List.set_cons_succ]
            replace hS := hS.swap
            refine wpAnyH_all (rs := [11]) (by kernel_rfl) (by simp) ?_
            intro i hi
            obtain rfl : i = 11 := by simpa using hi
            refine o_store (c' := dig 8 ((x + 0 * 2 ^ 256) / y)) rfl rfl hS 53 _ _ rfl rfl rfl (by repeat (first | exact Upd.head | apply Upd.tail)) wide_size (dig_size _ _) (dig_size _ _) (dig_one _ _) fun w1 hS => ⟨hS.drop.drop, ?_⟩
            simp only [Act.put, List.getElem_toArray, List.getElem_cons_succ, List.getElem_cons_zero, List.setIfInBounds_toArray, List.set_cons_zero, List.set_cons_succ]
            refine wpAnyH_all (rs := [12]) (by kernel_rfl) (by simp) ?_
            intro i hi
            obtain rfl : i = 12 := by simpa using hi
            refine o_store (c' := dig 4 (restN (x + 0 * 2 ^ 256) y)) rfl rfl hS 42 _ _ rfl rfl rfl (by repeat (first | exact Upd.head | apply Upd.tail)) limbs_size (dig_size _ _) (dig_size _ _) (dig_one _ _) fun w1 hS => ⟨hS.drop.drop, ?_⟩
            simp only [Act.put, List.getElem_toArray, List.getElem_cons_succ, List.getElem_cons_zero, List.setIfInBounds_toArray, List.set_cons_zero, List.set_cons_succ]
            refine wpAnyH_done (by kernel_rfl) ?_ _
            go_wp2_with (fail)
            go_meet
            exact ⟨_, _, rfl, rfl, hS⟩
      ·
        refine o_new rfl rfl 53 rfl wide_zero hS fun w1 c9 hS => ⟨hS.drop, ?_⟩
        simp only [Act.put, List.getElem_toArray, List.getElem_cons_succ, List.getElem_cons_zero, List.setIfInBounds_toArray, List.set_cons_zero, List.set_cons_succ]
        refine wpAnyH_all (rs := [2, 10]) (by kernel_rfl) (by simp) ?_
        intro i hi
        have hi2 : i = 2 ∨ i = 10 := by simpa using hi
        rcases hi2 with rfl | rfl
        ·
          refine o_callR rfl rfl (by kernel_rfl) (wide_any x 0 _ HX.out.1 (by decide)) ?_
          rintro e w1 ⟨rfl, hb⟩
          replace hS := hS.call hb
          clear hb
          refine ⟨_, rfl, hS.drop, ?_⟩
          simp only [Act.put, List.getElem_toArray, List.getElem_cons_succ, List.getElem_cons_zero, List.setIfInBounds_toArray, List.set_cons_zero, List.set_cons_succ]
          refine wpAnyH_all (rs := [4, 10]) (by kernel_rfl) (by simp) ?_
          intro i hi
          have hi2 : i = 4 ∨ i = 10 := by simpa using hi
          rcases hi2 with rfl | rfl
          ·
            refine o_callR rfl rfl (by kernel_rfl) (load_any y _) ?_
            rintro e w1 ⟨rfl, hb⟩
            replace hS := hS.call hb
            clear hb
            refine ⟨_, rfl, hS.drop, ?_⟩
            simp only [Act.put, List.getElem_toArray, List.getElem_cons_succ, List.getElem_cons_zero, List.setIfInBounds_toArray, List.set_cons_zero, List.set_cons_succ]
            refine wpAnyH_all (rs := [5, 10]) (by kernel_rfl) (by simp) ?_
            intro i hi
            have hi2 : i = 5 ∨ i = 10 := by simpa using hi
            rcases hi2 with rfl | rfl
            ·
              refine o_callR rfl rfl (by kernel_rfl) (divide_r (x + 0 * 2 ^ 256) y _ HX.out.2.2 HX.out.2.1) ?_
              rintro e w1 ⟨rfl, hb⟩
              replace hS := hS.call hb
              clear hb
              refine ⟨_, rfl, hS.drop, ?_⟩
              simp only [Act.put, List.getElem_toArray, List.getElem_cons_succ, List.getElem_cons_zero, List.setIfInBounds_toArray, List.set_cons_zero, List.set_cons_succ]
              refine wpAnyH_take (i := 6) rfl (by kernel_rfl) (by kernel_rfl) (by kernel_rfl) (fun _ _ _ h => h) (y_move rfl _ (.inl rfl) rfl) hS.drop ?_; simp only [Act.put, List.getElem_toArray, List.getElem_cons_succ, List.getElem_cons_zero, List.setIfInBounds_toArray, List.set_cons_zero, List.set_cons_succ]
              refine wpAnyH_take (i := 7) rfl (by kernel_rfl) (by kernel_rfl) (by kernel_rfl) (fun _ _ _ h => h) (y_extract rfl _ 0 rfl rfl rfl) hS.drop ?_; simp only [Act.put, List.getElem_toArray, List.getElem_cons_succ, List.getElem_cons_zero, List.setIfInBounds_toArray, List.set_cons_zero, List.set_cons_succ]
              refine wpAnyH_take (i := 8) rfl (by kernel_rfl) (by kernel_rfl) (by kernel_rfl) (fun _ _ _ h => h) (y_extract rfl _ 1 rfl rfl rfl) hS.drop ?_; simp only [Act.put, List.getElem_toArray, List.getElem_cons_succ, List.getElem_cons_zero, List.setIfInBounds_toArray, List.set_cons_zero, List.set_cons_succ]
              refine wpAnyH_all (rs := [10]) (by kernel_rfl) (by simp) ?_
              intro i hi
              obtain rfl : i = 10 := by simpa using hi
              refine o_new rfl rfl 42 rfl limbs_zero hS fun w1 c10 hS => ⟨hS.drop.drop, ?_⟩
              simp only [Act.put, List.getElem_toArray, List.getElem_cons_succ, List.getElem_cons_zero, List.setIfInBounds_toArray, List.set_cons_zero, List.set_cons_succ]
              refine wpAnyH_all (rs := [11]) (by kernel_rfl) (by simp) ?_
              intro i hi
              obtain rfl : i = 11 := by simpa using hi
              refine o_store (c' := dig 8 ((x + 0 * 2 ^ 256) / y)) rfl rfl hS 53 _ _ rfl rfl rfl (by repeat (first | exact Upd.head | apply Upd.tail)) wide_size (dig_size _ _) (dig_size _ _) (dig_one _ _) fun w1 hS => ⟨hS.drop.drop, ?_⟩
              simp only [Act.put, List.getElem_toArray, List.getElem_cons_succ, List.getElem_cons_zero, List.setIfInBounds_toArray, List.set_cons_zero, List.set_cons_succ]
              refine wpAnyH_all (rs := [12]) (by kernel_rfl) (by simp) ?_
              intro i hi
              obtain rfl : i = 12 := by simpa using hi
              refine o_store (c' := dig 4 (restN (x + 0 * 2 ^ 256) y)) rfl rfl hS 42 _ _ rfl rfl rfl (by repeat (first | exact Upd.head | apply Upd.tail)) limbs_size (dig_size _ _) (dig_size _ _) (dig_one _ _) fun w1 hS => ⟨hS.drop.drop, ?_⟩
              simp only [Act.put, List.getElem_toArray, List.getElem_cons_succ, List.getElem_cons_zero, List.setIfInBounds_toArray, List.set_cons_zero, List.set_cons_succ]
              refine wpAnyH_done (by kernel_rfl) ?_ _
              go_wp2_with (fail)
              go_meet
              exact ⟨_, _, rfl, rfl, hS⟩
            ·
              refine o_new rfl rfl 42 rfl limbs_zero hS fun w1 c10 hS => ⟨hS.drop.drop, ?_⟩
              simp only [Act.put, List.getElem_toArray, List.getElem_cons_succ, List.getElem_cons_zero, List.setIfInBounds_toArray, List.set_cons_zero, List.set_cons_succ]
              refine wpAnyH_all (rs := [5]) (by kernel_rfl) (by simp) ?_
              intro i hi
              obtain rfl : i = 5 := by simpa using hi
              refine o_callR rfl rfl (by kernel_rfl) (divide_r (x + 0 * 2 ^ 256) y _ HX.out.2.2 HX.out.2.1) ?_
              rintro e w1 ⟨rfl, hb⟩
              replace hS := hS.call hb
              clear hb
              refine ⟨_, rfl, hS.drop.drop, ?_⟩
              simp only [Act.put, List.getElem_toArray, List.getElem_cons_succ, List.getElem_cons_zero, List.setIfInBounds_toArray, List.set_cons_zero, List.set_cons_succ]
              refine wpAnyH_take (i := 6) rfl (by kernel_rfl) (by kernel_rfl) (by kernel_rfl) (fun _ _ _ h => h) (y_move rfl _ (.inl rfl) rfl) hS.drop.drop ?_; simp only [Act.put, List.getElem_toArray, List.getElem_cons_succ, List.getElem_cons_zero, List.setIfInBounds_toArray, List.set_cons_zero, List.set_cons_succ]
              refine wpAnyH_take (i := 7) rfl (by kernel_rfl) (by kernel_rfl) (by kernel_rfl) (fun _ _ _ h => h) (y_extract rfl _ 0 rfl rfl rfl) hS.drop.drop ?_; simp only [Act.put, List.getElem_toArray, List.getElem_cons_succ, List.getElem_cons_zero, List.setIfInBounds_toArray, List.set_cons_zero, List.set_cons_succ]
              refine wpAnyH_take (i := 8) rfl (by kernel_rfl) (by kernel_rfl) (by kernel_rfl) (fun _ _ _ h => h) (y_extract rfl _ 1 rfl rfl rfl) hS.drop.drop ?_; simp only [Act.put, List.getElem_toArray, List.getElem_cons_succ, List.getElem_cons_zero, List.setIfInBounds_toArray, List.set_cons_zero, List.set_cons_succ]
              refine wpAnyH_all (rs := [11]) (by kernel_rfl) (by simp) ?_
              intro i hi
              obtain rfl : i = 11 := by simpa using hi
              refine o_store (c' := dig 8 ((x + 0 * 2 ^ 256) / y)) rfl rfl hS 53 _ _ rfl rfl rfl (by repeat (first | exact Upd.head | apply Upd.tail)) wide_size (dig_size _ _) (dig_size _ _) (dig_one _ _) fun w1 hS => ⟨hS.drop.drop, ?_⟩
              simp only [Act.put, List.getElem_toArray, List.getElem_cons_succ, List.getElem_cons_zero, List.setIfInBounds_toArray, List.set_cons_zero, List.set_cons_succ]
              refine wpAnyH_all (rs := [12]) (by kernel_rfl) (by simp) ?_
              intro i hi
              obtain rfl : i = 12 := by simpa using hi
              refine o_store (c' := dig 4 (restN (x + 0 * 2 ^ 256) y)) rfl rfl hS 42 _ _ rfl rfl rfl (by repeat (first | exact Upd.head | apply Upd.tail)) limbs_size (dig_size _ _) (dig_size _ _) (dig_one _ _) fun w1 hS => ⟨hS.drop.drop, ?_⟩
              simp only [Act.put, List.getElem_toArray, List.getElem_cons_succ, List.getElem_cons_zero, List.setIfInBounds_toArray, List.set_cons_zero, List.set_cons_succ]
              refine wpAnyH_done (by kernel_rfl) ?_ _
              go_wp2_with (fail)
              go_meet
              exact ⟨_, _, rfl, rfl, hS⟩
          ·
            refine o_new rfl rfl 42 rfl limbs_zero hS fun w1 c10 hS => ⟨hS.drop.drop, ?_⟩
            simp only [Act.put, List.getElem_toArray, List.getElem_cons_succ, List.getElem_cons_zero, List.setIfInBounds_toArray, List.set_cons_zero, List.set_cons_succ]
            refine wpAnyH_all (rs := [4]) (by kernel_rfl) (by simp) ?_
            intro i hi
            obtain rfl : i = 4 := by simpa using hi
            refine o_callR rfl rfl (by kernel_rfl) (load_any y _) ?_
            rintro e w1 ⟨rfl, hb⟩
            replace hS := hS.call hb
            clear hb
            refine ⟨_, rfl, hS.drop.drop, ?_⟩
            simp only [Act.put, List.getElem_toArray, List.getElem_cons_succ, List.getElem_cons_zero, List.setIfInBounds_toArray, List.set_cons_zero, List.set_cons_succ]
            refine wpAnyH_all (rs := [5]) (by kernel_rfl) (by simp) ?_
            intro i hi
            obtain rfl : i = 5 := by simpa using hi
            refine o_callR rfl rfl (by kernel_rfl) (divide_r (x + 0 * 2 ^ 256) y _ HX.out.2.2 HX.out.2.1) ?_
            rintro e w1 ⟨rfl, hb⟩
            replace hS := hS.call hb
            clear hb
            refine ⟨_, rfl, hS.drop.drop, ?_⟩
            simp only [Act.put, List.getElem_toArray, List.getElem_cons_succ, List.getElem_cons_zero, List.setIfInBounds_toArray, List.set_cons_zero, List.set_cons_succ]
            refine wpAnyH_take (i := 6) rfl (by kernel_rfl) (by kernel_rfl) (by kernel_rfl) (fun _ _ _ h => h) (y_move rfl _ (.inl rfl) rfl) hS.drop.drop ?_; simp only [Act.put, List.getElem_toArray, List.getElem_cons_succ, List.getElem_cons_zero, List.setIfInBounds_toArray, List.set_cons_zero, List.set_cons_succ]
            refine wpAnyH_take (i := 7) rfl (by kernel_rfl) (by kernel_rfl) (by kernel_rfl) (fun _ _ _ h => h) (y_extract rfl _ 0 rfl rfl rfl) hS.drop.drop ?_; simp only [Act.put, List.getElem_toArray, List.getElem_cons_succ, List.getElem_cons_zero, List.setIfInBounds_toArray, List.set_cons_zero, List.set_cons_succ]
            refine wpAnyH_take (i := 8) rfl (by kernel_rfl) (by kernel_rfl) (by kernel_rfl) (fun _ _ _ h => h) (y_extract rfl _ 1 rfl rfl rfl) hS.drop.drop ?_; simp only [Act.put, List.getElem_toArray, List.getElem_cons_succ, List.getElem_cons_zero, List.setIfInBounds_toArray, List.set_cons_zero, List.set_cons_succ]
            refine wpAnyH_all (rs := [11]) (by kernel_rfl) (by simp) ?_
            intro i hi
            obtain rfl : i = 11 := by simpa using hi
            refine o_store (c' := dig 8 ((x + 0 * 2 ^ 256) / y)) rfl rfl hS 53 _ _ rfl rfl rfl (by repeat (first | exact Upd.head | apply Upd.tail)) wide_size (dig_size _ _) (dig_size _ _) (dig_one _ _) fun w1 hS => ⟨hS.drop.drop, ?_⟩
            simp only [Act.put, List.getElem_toArray, List.getElem_cons_succ, List.getElem_cons_zero, List.setIfInBounds_toArray, List.set_cons_zero, List.set_cons_succ]
            refine wpAnyH_all (rs := [12]) (by kernel_rfl) (by simp) ?_
            intro i hi
            obtain rfl : i = 12 := by simpa using hi
            refine o_store (c' := dig 4 (restN (x + 0 * 2 ^ 256) y)) rfl rfl hS 42 _ _ rfl rfl rfl (by repeat (first | exact Upd.head | apply Upd.tail)) limbs_size (dig_size _ _) (dig_size _ _) (dig_one _ _) fun w1 hS => ⟨hS.drop.drop, ?_⟩
            simp only [Act.put, List.getElem_toArray, List.getElem_cons_succ, List.getElem_cons_zero, List.setIfInBounds_toArray, List.set_cons_zero, List.set_cons_succ]
            refine wpAnyH_done (by kernel_rfl) ?_ _
            go_wp2_with (fail)
            go_meet
            exact ⟨_, _, rfl, rfl, hS⟩
        ·
          refine o_new rfl rfl 42 rfl limbs_zero hS fun w1 c10 hS => ⟨hS.drop.drop, ?_⟩
          simp only [Act.put, List.getElem_toArray, List.getElem_cons_succ, List.getElem_cons_zero, List.setIfInBounds_toArray, List.set_cons_zero, List.set_cons_succ]
          refine wpAnyH_all (rs := [2]) (by kernel_rfl) (by simp) ?_
          intro i hi
          obtain rfl : i = 2 := by simpa using hi
          refine o_callR rfl rfl (by kernel_rfl) (wide_any x 0 _ HX.out.1 (by decide)) ?_
          rintro e w1 ⟨rfl, hb⟩
          replace hS := hS.call hb
          clear hb
          refine ⟨_, rfl, hS.drop.drop, ?_⟩
          simp only [Act.put, List.getElem_toArray, List.getElem_cons_succ, List.getElem_cons_zero, List.setIfInBounds_toArray, List.set_cons_zero, List.set_cons_succ]
          refine wpAnyH_all (rs := [4]) (by kernel_rfl) (by simp) ?_
          intro i hi
          obtain rfl : i = 4 := by simpa using hi
          refine o_callR rfl rfl (by kernel_rfl) (load_any y _) ?_
          rintro e w1 ⟨rfl, hb⟩
          replace hS := hS.call hb
          clear hb
          refine ⟨_, rfl, hS.drop.drop, ?_⟩
          simp only [Act.put, List.getElem_toArray, List.getElem_cons_succ, List.getElem_cons_zero, List.setIfInBounds_toArray, List.set_cons_zero, List.set_cons_succ]
          refine wpAnyH_all (rs := [5]) (by kernel_rfl) (by simp) ?_
          intro i hi
          obtain rfl : i = 5 := by simpa using hi
          refine o_callR rfl rfl (by kernel_rfl) (divide_r (x + 0 * 2 ^ 256) y _ HX.out.2.2 HX.out.2.1) ?_
          rintro e w1 ⟨rfl, hb⟩
          replace hS := hS.call hb
          clear hb
          refine ⟨_, rfl, hS.drop.drop, ?_⟩
          simp only [Act.put, List.getElem_toArray, List.getElem_cons_succ, List.getElem_cons_zero, List.setIfInBounds_toArray, List.set_cons_zero, List.set_cons_succ]
          refine wpAnyH_take (i := 6) rfl (by kernel_rfl) (by kernel_rfl) (by kernel_rfl) (fun _ _ _ h => h) (y_move rfl _ (.inl rfl) rfl) hS.drop.drop ?_; simp only [Act.put, List.getElem_toArray, List.getElem_cons_succ, List.getElem_cons_zero, List.setIfInBounds_toArray, List.set_cons_zero, List.set_cons_succ]
          refine wpAnyH_take (i := 7) rfl (by kernel_rfl) (by kernel_rfl) (by kernel_rfl) (fun _ _ _ h => h) (y_extract rfl _ 0 rfl rfl rfl) hS.drop.drop ?_; simp only [Act.put, List.getElem_toArray, List.getElem_cons_succ, List.getElem_cons_zero, List.setIfInBounds_toArray, List.set_cons_zero, List.set_cons_succ]
          refine wpAnyH_take (i := 8) rfl (by kernel_rfl) (by kernel_rfl) (by kernel_rfl) (fun _ _ _ h => h) (y_extract rfl _ 1 rfl rfl rfl) hS.drop.drop ?_; simp only [Act.put, List.getElem_toArray, List.getElem_cons_succ, List.getElem_cons_zero, List.setIfInBounds_toArray, List.set_cons_zero, List.set_cons_succ]
          refine wpAnyH_all (rs := [11]) (by kernel_rfl) (by simp) ?_
          intro i hi
          obtain rfl : i = 11 := by simpa using hi
          refine o_store (c' := dig 8 ((x + 0 * 2 ^ 256) / y)) rfl rfl hS 53 _ _ rfl rfl rfl (by repeat (first | exact Upd.head | apply Upd.tail)) wide_size (dig_size _ _) (dig_size _ _) (dig_one _ _) fun w1 hS => ⟨hS.drop.drop, ?_⟩
          simp only [Act.put, List.getElem_toArray, List.getElem_cons_succ, List.getElem_cons_zero, List.setIfInBounds_toArray, List.set_cons_zero, List.set_cons_succ]
          refine wpAnyH_all (rs := [12]) (by kernel_rfl) (by simp) ?_
          intro i hi
          obtain rfl : i = 12 := by simpa using hi
          refine o_store (c' := dig 4 (restN (x + 0 * 2 ^ 256) y)) rfl rfl hS 42 _ _ rfl rfl rfl (by repeat (first | exact Upd.head | apply Upd.tail)) limbs_size (dig_size _ _) (dig_size _ _) (dig_one _ _) fun w1 hS => ⟨hS.drop.drop, ?_⟩
          simp only [Act.put, List.getElem_toArray, List.getElem_cons_succ, List.getElem_cons_zero, List.setIfInBounds_toArray, List.set_cons_zero, List.set_cons_succ]
          refine wpAnyH_done (by kernel_rfl) ?_ _
          go_wp2_with (fail)
          go_meet
          exact ⟨_, _, rfl, rfl, hS⟩
      ·
        refine o_new rfl rfl 42 rfl limbs_zero hS fun w1 c10 hS => ⟨hS.drop, ?_⟩
        simp only [Act.put, List.getElem_toArray, List.getElem_cons_succ, List.getElem_cons_zero, List.setIfInBounds_toArray, List.set_cons_zero, List.set_cons_succ]
        refine wpAnyH_all (rs := [2, 9]) (by kernel_rfl) (by simp) ?_
        intro i hi
        have hi2 : i = 2 ∨ i = 9 := by simpa using hi
        rcases hi2 with rfl | rfl
        ·
          refine o_callR rfl rfl (by kernel_rfl) (wide_any x 0 _ HX.out.1 (by decide)) ?_
          rintro e w1 ⟨rfl, hb⟩
          replace hS := hS.call hb
          clear hb
          refine ⟨_, rfl, hS.drop, ?_⟩
          simp only [Act.put, List.getElem_toArray, List.getElem_cons_succ, List.getElem_cons_zero, List.setIfInBounds_toArray, List.set_cons_zero, List.set_cons_succ]
          refine wpAnyH_all (rs := [4, 9]) (by kernel_rfl) (by simp) ?_
          intro i hi
          have hi2 : i = 4 ∨ i = 9 := by simpa using hi
          rcases hi2 with rfl | rfl
          ·
            refine o_callR rfl rfl (by kernel_rfl) (load_any y _) ?_
            rintro e w1 ⟨rfl, hb⟩
            replace hS := hS.call hb
            clear hb
            refine ⟨_, rfl, hS.drop, ?_⟩
            simp only [Act.put, List.getElem_toArray, List.getElem_cons_succ, List.getElem_cons_zero, List.setIfInBounds_toArray, List.set_cons_zero, List.set_cons_succ]
            refine wpAnyH_all (rs := [5, 9]) (by kernel_rfl) (by simp) ?_
            intro i hi
            have hi2 : i = 5 ∨ i = 9 := by simpa using hi
            rcases hi2 with rfl | rfl
            ·
              refine o_callR rfl rfl (by kernel_rfl) (divide_r (x + 0 * 2 ^ 256) y _ HX.out.2.2 HX.out.2.1) ?_
              rintro e w1 ⟨rfl, hb⟩
              replace hS := hS.call hb
              clear hb
              refine ⟨_, rfl, hS.drop, ?_⟩
              simp only [Act.put, List.getElem_toArray, List.getElem_cons_succ, List.getElem_cons_zero, List.setIfInBounds_toArray, List.set_cons_zero, List.set_cons_succ]
              refine wpAnyH_take (i := 6) rfl (by kernel_rfl) (by kernel_rfl) (by kernel_rfl) (fun _ _ _ h => h) (y_move rfl _ (.inl rfl) rfl) hS.drop ?_; simp only [Act.put, List.getElem_toArray, List.getElem_cons_succ, List.getElem_cons_zero, List.setIfInBounds_toArray, List.set_cons_zero, List.set_cons_succ]
              refine wpAnyH_take (i := 7) rfl (by kernel_rfl) (by kernel_rfl) (by kernel_rfl) (fun _ _ _ h => h) (y_extract rfl _ 0 rfl rfl rfl) hS.drop ?_; simp only [Act.put, List.getElem_toArray, List.getElem_cons_succ, List.getElem_cons_zero, List.setIfInBounds_toArray, List.set_cons_zero, List.set_cons_succ]
              refine wpAnyH_take (i := 8) rfl (by kernel_rfl) (by kernel_rfl) (by kernel_rfl) (fun _ _ _ h => h) (y_extract rfl _ 1 rfl rfl rfl) hS.drop ?_; simp only [Act.put, List.getElem_toArray, List.getElem_cons_succ, List.getElem_cons_zero, List.setIfInBounds_toArray, List.set_cons_zero, List.set_cons_succ]
              refine wpAnyH_all (rs := [9]) (by kernel_rfl) (by simp) ?_
              intro i hi
              obtain rfl : i = 9 := by simpa using hi
              refine o_new rfl rfl 53 rfl wide_zero hS fun w1 c9 hS => ⟨hS.drop.drop, ?_⟩
              simp only [Act.put, List.getElem_toArray, List.getElem_cons_succ, List.getElem_cons_zero, List.setIfInBounds_toArray, List.set_cons_zero, List.set_cons_succ]
              replace hS := hS.swap
              refine wpAnyH_all (rs := [11]) (by kernel_rfl) (by simp) ?_
              intro i hi
              obtain rfl : i = 11 := by simpa using hi
              refine o_store (c' := dig 8 ((x + 0 * 2 ^ 256) / y)) rfl rfl hS 53 _ _ rfl rfl rfl (by repeat (first | exact Upd.head | apply Upd.tail)) wide_size (dig_size _ _) (dig_size _ _) (dig_one _ _) fun w1 hS => ⟨hS.drop.drop, ?_⟩
              simp only [Act.put, List.getElem_toArray, List.getElem_cons_succ, List.getElem_cons_zero, List.setIfInBounds_toArray, List.set_cons_zero, List.set_cons_succ]
              refine wpAnyH_all (rs := [12]) (by kernel_rfl) (by simp) ?_
              intro i hi
              obtain rfl : i = 12 := by simpa using hi
              refine o_store (c' := dig 4 (restN (x + 0 * 2 ^ 256) y)) rfl rfl hS 42 _ _ rfl rfl rfl (by repeat (first | exact Upd.head | apply Upd.tail)) limbs_size (dig_size _ _) (dig_size _ _) (dig_one _ _) fun w1 hS => ⟨hS.drop.drop, ?_⟩
              simp only [Act.put, List.getElem_toArray, List.getElem_cons_succ, List.getElem_cons_zero, List.setIfInBounds_toArray, List.set_cons_zero, List.set_cons_succ]
              refine wpAnyH_done (by kernel_rfl) ?_ _
              go_wp2_with (fail)
              go_meet
              exact ⟨_, _, rfl, rfl, hS⟩
            ·
              refine o_new rfl rfl 53 rfl wide_zero hS fun w1 c9 hS => ⟨hS.drop.drop, ?_⟩
              simp only [Act.put, List.getElem_toArray, List.getElem_cons_succ, List.getElem_cons_zero, List.setIfInBounds_toArray, List.set_cons_zero, List.set_cons_succ]
              refine wpAnyH_all (rs := [5]) (by kernel_rfl) (by simp) ?_
              intro i hi
              obtain rfl : i = 5 := by simpa using hi
              refine o_callR rfl rfl (by kernel_rfl) (divide_r (x + 0 * 2 ^ 256) y _ HX.out.2.2 HX.out.2.1) ?_
              rintro e w1 ⟨rfl, hb⟩
              replace hS := hS.call hb
              clear hb
              refine ⟨_, rfl, hS.drop.drop, ?_⟩
              simp only [Act.put, List.getElem_toArray, List.getElem_cons_succ, List.getElem_cons_zero, List.setIfInBounds_toArray, List.set_cons_zero, List.set_cons_succ]
              refine wpAnyH_take (i := 6) rfl (by kernel_rfl) (by kernel_rfl) (by kernel_rfl) (fun _ _ _ h => h) (y_move rfl _ (.inl rfl) rfl) hS.drop.drop ?_; simp only [Act.put, List.getElem_toArray, List.getElem_cons_succ, List.getElem_cons_zero, List.setIfInBounds_toArray, List.set_cons_zero, List.set_cons_succ]
              refine wpAnyH_take (i := 7) rfl (by kernel_rfl) (by kernel_rfl) (by kernel_rfl) (fun _ _ _ h => h) (y_extract rfl _ 0 rfl rfl rfl) hS.drop.drop ?_; simp only [Act.put, List.getElem_toArray, List.getElem_cons_succ, List.getElem_cons_zero, List.setIfInBounds_toArray, List.set_cons_zero, List.set_cons_succ]
              refine wpAnyH_take (i := 8) rfl (by kernel_rfl) (by kernel_rfl) (by kernel_rfl) (fun _ _ _ h => h) (y_extract rfl _ 1 rfl rfl rfl) hS.drop.drop ?_; simp only [Act.put, List.getElem_toArray, List.getElem_cons_succ, List.getElem_cons_zero, List.setIfInBounds_toArray, List.set_cons_zero, List.set_cons_succ]
              replace hS := hS.swap
              refine wpAnyH_all (rs := [11]) (by kernel_rfl) (by simp) ?_
              intro i hi
              obtain rfl : i = 11 := by simpa using hi
              refine o_store (c' := dig 8 ((x + 0 * 2 ^ 256) / y)) rfl rfl hS 53 _ _ rfl rfl rfl (by repeat (first | exact Upd.head | apply Upd.tail)) wide_size (dig_size _ _) (dig_size _ _) (dig_one _ _) fun w1 hS => ⟨hS.drop.drop, ?_⟩
              simp only [Act.put, List.getElem_toArray, List.getElem_cons_succ, List.getElem_cons_zero, List.setIfInBounds_toArray, List.set_cons_zero, List.set_cons_succ]
              refine wpAnyH_all (rs := [12]) (by kernel_rfl) (by simp) ?_
              intro i hi
              obtain rfl : i = 12 := by simpa using hi
              refine o_store (c' := dig 4 (restN (x + 0 * 2 ^ 256) y)) rfl rfl hS 42 _ _ rfl rfl rfl (by repeat (first | exact Upd.head | apply Upd.tail)) limbs_size (dig_size _ _) (dig_size _ _) (dig_one _ _) fun w1 hS => ⟨hS.drop.drop, ?_⟩
              simp only [Act.put, List.getElem_toArray, List.getElem_cons_succ, List.getElem_cons_zero, List.setIfInBounds_toArray, List.set_cons_zero, List.set_cons_succ]
              refine wpAnyH_done (by kernel_rfl) ?_ _
              go_wp2_with (fail)
              go_meet
              exact ⟨_, _, rfl, rfl, hS⟩
          ·
            refine o_new rfl rfl 53 rfl wide_zero hS fun w1 c9 hS => ⟨hS.drop.drop, ?_⟩
            simp only [Act.put, List.getElem_toArray, List.getElem_cons_succ, List.getElem_cons_zero, List.setIfInBounds_toArray, List.set_cons_zero, List.set_cons_succ]
            refine wpAnyH_all (rs := [4]) (by kernel_rfl) (by simp) ?_
            intro i hi
            obtain rfl : i = 4 := by simpa using hi
            refine o_callR rfl rfl (by kernel_rfl) (load_any y _) ?_
            rintro e w1 ⟨rfl, hb⟩
            replace hS := hS.call hb
            clear hb
            refine ⟨_, rfl, hS.drop.drop, ?_⟩
            simp only [Act.put, List.getElem_toArray, List.getElem_cons_succ, List.getElem_cons_zero, List.setIfInBounds_toArray, List.set_cons_zero, List.set_cons_succ]
            refine wpAnyH_all (rs := [5]) (by kernel_rfl) (by simp) ?_
            intro i hi
            obtain rfl : i = 5 := by simpa using hi
            refine o_callR rfl rfl (by kernel_rfl) (divide_r (x + 0 * 2 ^ 256) y _ HX.out.2.2 HX.out.2.1) ?_
            rintro e w1 ⟨rfl, hb⟩
            replace hS := hS.call hb
            clear hb
            refine ⟨_, rfl, hS.drop.drop, ?_⟩
            simp only [Act.put, List.getElem_toArray, List.getElem_cons_succ, List.getElem_cons_zero, List.setIfInBounds_toArray, List.set_cons_zero, List.set_cons_succ]
            refine wpAnyH_take (i := 6) rfl (by kernel_rfl) (by kernel_rfl) (by kernel_rfl) (fun _ _ _ h => h) (y_move rfl _ (.inl rfl) rfl) hS.drop.drop ?_; simp only [Act.put, List.getElem_toArray, List.getElem_cons_succ, List.getElem_cons_zero, List.setIfInBounds_toArray, List.set_cons_zero, List.set_cons_succ]
            refine wpAnyH_take (i := 7) rfl (by kernel_rfl) (by kernel_rfl) (by kernel_rfl) (fun _ _ _ h => h) (y_extract rfl _ 0 rfl rfl rfl) hS.drop.drop ?_; simp only [Act.put, List.getElem_toArray, List.getElem_cons_succ, List.getElem_cons_zero, List.setIfInBounds_toArray, List.set_cons_zero, List.set_cons_succ]
            refine wpAnyH_take (i := 8) rfl (by kernel_rfl) (by kernel_rfl) (by kernel_rfl) (fun _ _ _ h => h) (y_extract rfl _ 1 rfl rfl rfl) hS.drop.drop ?_; simp only [Act.put, List.getElem_toArray, List.getElem_cons_succ, List.getElem_cons_zero, List.setIfInBounds_toArray, List.set_cons_zero, List.set_cons_succ]
            replace hS := hS.swap
            refine wpAnyH_all (rs := [11]) (by kernel_rfl) (by simp) ?_
            intro i hi
            obtain rfl : i = 11 := by simpa using hi
            refine o_store (c' := dig 8 ((x + 0 * 2 ^ 256) / y)) rfl rfl hS 53 _ _ rfl rfl rfl (by repeat (first | exact Upd.head | apply Upd.tail)) wide_size (dig_size _ _) (dig_size _ _) (dig_one _ _) fun w1 hS => ⟨hS.drop.drop, ?_⟩
            simp only [Act.put, List.getElem_toArray, List.getElem_cons_succ, List.getElem_cons_zero, List.setIfInBounds_toArray, List.set_cons_zero, List.set_cons_succ]
            refine wpAnyH_all (rs := [12]) (by kernel_rfl) (by simp) ?_
            intro i hi
            obtain rfl : i = 12 := by simpa using hi
            refine o_store (c' := dig 4 (restN (x + 0 * 2 ^ 256) y)) rfl rfl hS 42 _ _ rfl rfl rfl (by repeat (first | exact Upd.head | apply Upd.tail)) limbs_size (dig_size _ _) (dig_size _ _) (dig_one _ _) fun w1 hS => ⟨hS.drop.drop, ?_⟩
            simp only [Act.put, List.getElem_toArray, List.getElem_cons_succ, List.getElem_cons_zero, List.setIfInBounds_toArray, List.set_cons_zero, List.set_cons_succ]
            refine wpAnyH_done (by kernel_rfl) ?_ _
            go_wp2_with (fail)
            go_meet
            exact ⟨_, _, rfl, rfl, hS⟩
        ·
          refine o_new rfl rfl 53 rfl wide_zero hS fun w1 c9 hS => ⟨hS.drop.drop, ?_⟩
          simp only [Act.put, List.getElem_toArray, List.getElem_cons_succ, List.getElem_cons_zero, List.setIfInBounds_toArray, List.set_cons_zero, List.set_cons_succ]
          refine wpAnyH_all (rs := [2]) (by kernel_rfl) (by simp) ?_
          intro i hi
          obtain rfl : i = 2 := by simpa using hi
          refine o_callR rfl rfl (by kernel_rfl) (wide_any x 0 _ HX.out.1 (by decide)) ?_
          rintro e w1 ⟨rfl, hb⟩
          replace hS := hS.call hb
          clear hb
          refine ⟨_, rfl, hS.drop.drop, ?_⟩
          simp only [Act.put, List.getElem_toArray, List.getElem_cons_succ, List.getElem_cons_zero, List.setIfInBounds_toArray, List.set_cons_zero, List.set_cons_succ]
          refine wpAnyH_all (rs := [4]) (by kernel_rfl) (by simp) ?_
          intro i hi
          obtain rfl : i = 4 := by simpa using hi
          refine o_callR rfl rfl (by kernel_rfl) (load_any y _) ?_
          rintro e w1 ⟨rfl, hb⟩
          replace hS := hS.call hb
          clear hb
          refine ⟨_, rfl, hS.drop.drop, ?_⟩
          simp only [Act.put, List.getElem_toArray, List.getElem_cons_succ, List.getElem_cons_zero, List.setIfInBounds_toArray, List.set_cons_zero, List.set_cons_succ]
          refine wpAnyH_all (rs := [5]) (by kernel_rfl) (by simp) ?_
          intro i hi
          obtain rfl : i = 5 := by simpa using hi
          refine o_callR rfl rfl (by kernel_rfl) (divide_r (x + 0 * 2 ^ 256) y _ HX.out.2.2 HX.out.2.1) ?_
          rintro e w1 ⟨rfl, hb⟩
          replace hS := hS.call hb
          clear hb
          refine ⟨_, rfl, hS.drop.drop, ?_⟩
          simp only [Act.put, List.getElem_toArray, List.getElem_cons_succ, List.getElem_cons_zero, List.setIfInBounds_toArray, List.set_cons_zero, List.set_cons_succ]
          refine wpAnyH_take (i := 6) rfl (by kernel_rfl) (by kernel_rfl) (by kernel_rfl) (fun _ _ _ h => h) (y_move rfl _ (.inl rfl) rfl) hS.drop.drop ?_; simp only [Act.put, List.getElem_toArray, List.getElem_cons_succ, List.getElem_cons_zero, List.setIfInBounds_toArray, List.set_cons_zero, List.set_cons_succ]
          refine wpAnyH_take (i := 7) rfl (by kernel_rfl) (by kernel_rfl) (by kernel_rfl) (fun _ _ _ h => h) (y_extract rfl _ 0 rfl rfl rfl) hS.drop.drop ?_; simp only [Act.put, List.getElem_toArray, List.getElem_cons_succ, List.getElem_cons_zero, List.setIfInBounds_toArray, List.set_cons_zero, List.set_cons_succ]
          refine wpAnyH_take (i := 8) rfl (by kernel_rfl) (by kernel_rfl) (by kernel_rfl) (fun _ _ _ h => h) (y_extract rfl _ 1 rfl rfl rfl) hS.drop.drop ?_; simp only [Act.put, List.getElem_toArray, List.getElem_cons_succ, List.getElem_cons_zero, List.setIfInBounds_toArray, List.set_cons_zero, List.set_cons_succ]
          replace hS := hS.swap
          refine wpAnyH_all (rs := [11]) (by kernel_rfl) (by simp) ?_
          intro i hi
          obtain rfl : i = 11 := by simpa using hi
          refine o_store (c' := dig 8 ((x + 0 * 2 ^ 256) / y)) rfl rfl hS 53 _ _ rfl rfl rfl (by repeat (first | exact Upd.head | apply Upd.tail)) wide_size (dig_size _ _) (dig_size _ _) (dig_one _ _) fun w1 hS => ⟨hS.drop.drop, ?_⟩
          simp only [Act.put, List.getElem_toArray, List.getElem_cons_succ, List.getElem_cons_zero, List.setIfInBounds_toArray, List.set_cons_zero, List.set_cons_succ]
          refine wpAnyH_all (rs := [12]) (by kernel_rfl) (by simp) ?_
          intro i hi
          obtain rfl : i = 12 := by simpa using hi
          refine o_store (c' := dig 4 (restN (x + 0 * 2 ^ 256) y)) rfl rfl hS 42 _ _ rfl rfl rfl (by repeat (first | exact Upd.head | apply Upd.tail)) limbs_size (dig_size _ _) (dig_size _ _) (dig_one _ _) fun w1 hS => ⟨hS.drop.drop, ?_⟩
          simp only [Act.put, List.getElem_toArray, List.getElem_cons_succ, List.getElem_cons_zero, List.setIfInBounds_toArray, List.set_cons_zero, List.set_cons_succ]
          refine wpAnyH_done (by kernel_rfl) ?_ _
          go_wp2_with (fail)
          go_meet
          exact ⟨_, _, rfl, rfl, hS⟩
    ·
      refine o_new rfl rfl 53 rfl wide_zero hS fun w1 c9 hS => ⟨hS.drop, ?_⟩
      simp only [Act.put, List.getElem_toArray, List.getElem_cons_succ, List.getElem_cons_zero, List.setIfInBounds_toArray, List.set_cons_zero, List.set_cons_succ]
      refine wpAnyH_all (rs := [1, 10]) (by kernel_rfl) (by simp) ?_
      intro i hi
      have hi2 : i = 1 ∨ i = 10 := by simpa using hi
      rcases hi2 with rfl | rfl
      ·
        refine o_callR rfl rfl (by kernel_rfl) (load_any x _) ?_
        rintro e w1 ⟨rfl, hb⟩
        replace hS := hS.call hb
        clear hb
        refine ⟨_, rfl, hS.drop, ?_⟩
        simp only [Act.put, List.getElem_toArray, List.getElem_cons_succ, List.getElem_cons_zero, List.setIfInBounds_toArray, List.set_cons_zero, List.set_cons_succ]
        refine wpAnyH_all (rs := [2, 10]) (by kernel_rfl) (by simp) ?_
        intro i hi
        have hi2 : i = 2 ∨ i = 10 := by simpa using hi
        rcases hi2 with rfl | rfl
        ·
          refine o_callR rfl rfl (by kernel_rfl) (wide_any x 0 _ HX.out.1 (by decide)) ?_
          rintro e w1 ⟨rfl, hb⟩
          replace hS := hS.call hb
          clear hb
          refine ⟨_, rfl, hS.drop, ?_⟩
          simp only [Act.put, List.getElem_toArray, List.getElem_cons_succ, List.getElem_cons_zero, List.setIfInBounds_toArray, List.set_cons_zero, List.set_cons_succ]
          refine wpAnyH_all (rs := [4, 10]) (by kernel_rfl) (by simp) ?_
          intro i hi
          have hi2 : i = 4 ∨ i = 10 := by simpa using hi
          rcases hi2 with rfl | rfl
          ·
            refine o_callR rfl rfl (by kernel_rfl) (load_any y _) ?_
            rintro e w1 ⟨rfl, hb⟩
            replace hS := hS.call hb
            clear hb
            refine ⟨_, rfl, hS.drop, ?_⟩
            simp only [Act.put, List.getElem_toArray, List.getElem_cons_succ, List.getElem_cons_zero, List.setIfInBounds_toArray, List.set_cons_zero, List.set_cons_succ]
            refine wpAnyH_all (rs := [5, 10]) (by kernel_rfl) (by simp) ?_
            intro i hi
            have hi2 : i = 5 ∨ i = 10 := by simpa using hi
            rcases hi2 with rfl | rfl
            ·
              refine o_callR rfl rfl (by kernel_rfl) (divide_r (x + 0 * 2 ^ 256) y _ HX.out.2.2 HX.out.2.1) ?_
              rintro e w1 ⟨rfl, hb⟩
              replace hS := hS.call hb
              clear hb
              refine ⟨_, rfl, hS.drop, ?_⟩
              simp only [Act.put, List.getElem_toArray, List.getElem_cons_succ, List.getElem_cons_zero, List.setIfInBounds_toArray, List.set_cons_zero, List.set_cons_succ]
              refine wpAnyH_take (i := 6) rfl (by kernel_rfl) (by kernel_rfl) (by kernel_rfl) (fun _ _ _ h => h) (y_move rfl _ (.inl rfl) rfl) hS.drop ?_; simp only [Act.put, List.getElem_toArray, List.getElem_cons_succ, List.getElem_cons_zero, List.setIfInBounds_toArray, List.set_cons_zero, List.set_cons_succ]
              refine wpAnyH_take (i := 7) rfl (by kernel_rfl) (by kernel_rfl) (by kernel_rfl) (fun _ _ _ h => h) (y_extract rfl _ 0 rfl rfl rfl) hS.drop ?_; simp only [Act.put, List.getElem_toArray, List.getElem_cons_succ, List.getElem_cons_zero, List.setIfInBounds_toArray, List.set_cons_zero, List.set_cons_succ]
              refine wpAnyH_take (i := 8) rfl (by kernel_rfl) (by kernel_rfl) (by kernel_rfl) (fun _ _ _ h => h) (y_extract rfl _ 1 rfl rfl rfl) hS.drop ?_; simp only [Act.put, List.getElem_toArray, List.getElem_cons_succ, List.getElem_cons_zero, List.setIfInBounds_toArray, List.set_cons_zero, List.set_cons_succ]
              refine wpAnyH_all (rs := [10]) (by kernel_rfl) (by simp) ?_
              intro i hi
              obtain rfl : i = 10 := by simpa using hi
              refine o_new rfl rfl 42 rfl limbs_zero hS fun w1 c10 hS => ⟨hS.drop.drop, ?_⟩
              simp only [Act.put, List.getElem_toArray, List.getElem_cons_succ, List.getElem_cons_zero, List.setIfInBounds_toArray, List.set_cons_zero, List.set_cons_succ]
              refine wpAnyH_all (rs := [11]) (by kernel_rfl) (by simp) ?_
              intro i hi
              obtain rfl : i = 11 := by simpa using hi
              refine o_store (c' := dig 8 ((x + 0 * 2 ^ 256) / y)) rfl rfl hS 53 _ _ rfl rfl rfl (by repeat (first | exact Upd.head | apply Upd.tail)) wide_size (dig_size _ _) (dig_size _ _) (dig_one _ _) fun w1 hS => ⟨hS.drop.drop, ?_⟩
              simp only [Act.put, List.getElem_toArray, List.getElem_cons_succ, List.getElem_cons_zero, List.setIfInBounds_toArray, List.set_cons_zero, List.set_cons_succ]
              refine wpAnyH_all (rs := [12]) (by kernel_rfl) (by simp) ?_
              intro i hi
              obtain rfl : i = 12 := by simpa using hi
              refine o_store (c' := dig 4 (restN (x + 0 * 2 ^ 256) y)) rfl rfl hS 42 _ _ rfl rfl rfl (by repeat (first | exact Upd.head | apply Upd.tail)) limbs_size (dig_size _ _) (dig_size _ _) (dig_one _ _) fun w1 hS => ⟨hS.drop.drop, ?_⟩
              simp only [Act.put, List.getElem_toArray, List.getElem_cons_succ, List.getElem_cons_zero, List.setIfInBounds_toArray, List.set_cons_zero, List.set_cons_succ]
              refine wpAnyH_done (by kernel_rfl) ?_ _
              go_wp2_with (fail)
              go_meet
              exact ⟨_, _, rfl, rfl, hS⟩
            ·
              refine o_new rfl rfl 42 rfl limbs_zero hS fun w1 c10 hS => ⟨hS.drop.drop, ?_⟩
              simp only [Act.put, List.getElem_toArray, List.getElem_cons_succ, List.getElem_cons_zero, List.setIfInBounds_toArray, List.set_cons_zero, List.set_cons_succ]
              refine wpAnyH_all (rs := [5]) (by kernel_rfl) (by simp) ?_
              intro i hi
              obtain rfl : i = 5 := by simpa using hi
              refine o_callR rfl rfl (by kernel_rfl) (divide_r (x + 0 * 2 ^ 256) y _ HX.out.2.2 HX.out.2.1) ?_
              rintro e w1 ⟨rfl, hb⟩
              replace hS := hS.call hb
              clear hb
              refine ⟨_, rfl, hS.drop.drop, ?_⟩
              simp only [Act.put, List.getElem_toArray, List.getElem_cons_succ, List.getElem_cons_zero, List.setIfInBounds_toArray, List.set_cons_zero, List.set_cons_succ]
              refine wpAnyH_take (i := 6) rfl (by kernel_rfl) (by kernel_rfl) (by kernel_rfl) (fun _ _ _ h => h) (y_move rfl _ (.inl rfl) rfl) hS.drop.drop ?_; simp only [Act.put, List.getElem_toArray, List.getElem_cons_succ, List.getElem_cons_zero, List.setIfInBounds_toArray, List.set_cons_zero, List.set_cons_succ]
              refine wpAnyH_take (i := 7) rfl (by kernel_rfl) (by kernel_rfl) (by kernel_rfl) (fun _ _ _ h => h) (y_extract rfl _ 0 rfl rfl rfl) hS.drop.drop ?_; simp only [Act.put, List.getElem_toArray, List.getElem_cons_succ, List.getElem_cons_zero, List.setIfInBounds_toArray, List.set_cons_zero, List.set_cons_succ]
              refine wpAnyH_take (i := 8) rfl (by kernel_rfl) (by kernel_rfl) (by kernel_rfl) (fun _ _ _ h => h) (y_extract rfl _ 1 rfl rfl rfl) hS.drop.drop ?_; simp only [Act.put, List.getElem_toArray, List.getElem_cons_succ, List.getElem_cons_zero, List.setIfInBounds_toArray, List.set_cons_zero, List.set_cons_succ]
              refine wpAnyH_all (rs := [11]) (by kernel_rfl) (by simp) ?_
              intro i hi
              obtain rfl : i = 11 := by simpa using hi
              refine o_store (c' := dig 8 ((x + 0 * 2 ^ 256) / y)) rfl rfl hS 53 _ _ rfl rfl rfl (by repeat (first | exact Upd.head | apply Upd.tail)) wide_size (dig_size _ _) (dig_size _ _) (dig_one _ _) fun w1 hS => ⟨hS.drop.drop, ?_⟩
              simp only [Act.put, List.getElem_toArray, List.getElem_cons_succ, List.getElem_cons_zero, List.setIfInBounds_toArray, List.set_cons_zero, List.set_cons_succ]
              refine wpAnyH_all (rs := [12]) (by kernel_rfl) (by simp) ?_
              intro i hi
              obtain rfl : i = 12 := by simpa using hi
              refine o_store (c' := dig 4 (restN (x + 0 * 2 ^ 256) y)) rfl rfl hS 42 _ _ rfl rfl rfl (by repeat (first | exact Upd.head | apply Upd.tail)) limbs_size (dig_size _ _) (dig_size _ _) (dig_one _ _) fun w1 hS => ⟨hS.drop.drop, ?_⟩
              simp only [Act.put, List.getElem_toArray, List.getElem_cons_succ, List.getElem_cons_zero, List.setIfInBounds_toArray, List.set_cons_zero, List.set_cons_succ]
              refine wpAnyH_done (by kernel_rfl) ?_ _
              go_wp2_with (fail)
              go_meet
              exact ⟨_, _, rfl, rfl, hS⟩
          ·
            refine o_new rfl rfl 42 rfl limbs_zero hS fun w1 c10 hS => ⟨hS.drop.drop, ?_⟩
            simp only [Act.put, List.getElem_toArray, List.getElem_cons_succ, List.getElem_cons_zero, List.setIfInBounds_toArray, List.set_cons_zero, List.set_cons_succ]
            refine wpAnyH_all (rs := [4]) (by kernel_rfl) (by simp) ?_
            intro i hi
            obtain rfl : i = 4 := by simpa using hi
            refine o_callR rfl rfl (by kernel_rfl) (load_any y _) ?_
            rintro e w1 ⟨rfl, hb⟩
            replace hS := hS.call hb
            clear hb
            refine ⟨_, rfl, hS.drop.drop, ?_⟩
            simp only [Act.put, List.getElem_toArray, List.getElem_cons_succ, List.getElem_cons_zero, List.setIfInBounds_toArray, List.set_cons_zero, List.set_cons_succ]
            refine wpAnyH_all (rs := [5]) (by kernel_rfl) (by simp) ?_
            intro i hi
            obtain rfl : i = 5 := by simpa using hi
            refine o_callR rfl rfl (by kernel_rfl) (divide_r (x + 0 * 2 ^ 256) y _ HX.out.2.2 HX.out.2.1) ?_
            rintro e w1 ⟨rfl, hb⟩
            replace hS := hS.call hb
            clear hb
            refine ⟨_, rfl, hS.drop.drop, ?_⟩
            simp only [Act.put, List.getElem_toArray, List.getElem_cons_succ, List.getElem_cons_zero, List.setIfInBounds_toArray, List.set_cons_zero, List.set_cons_succ]
            refine wpAnyH_take (i := 6) rfl (by kernel_rfl) (by kernel_rfl) (by kernel_rfl) (fun _ _ _ h => h) (y_move rfl _ (.inl rfl) rfl) hS.drop.drop ?_; simp only [Act.put, List.getElem_toArray, List.getElem_cons_succ, List.getElem_cons_zero, List.setIfInBounds_toArray, List.set_cons_zero, List.set_cons_succ]
            refine wpAnyH_take (i := 7) rfl (by kernel_rfl) (by kernel_rfl) (by kernel_rfl) (fun _ _ _ h => h) (y_extract rfl _ 0 rfl rfl rfl) hS.drop.drop ?_; simp only [Act.put, List.getElem_toArray, List.getElem_cons_succ, List.getElem_cons_zero, List.setIfInBounds_toArray, List.set_cons_zero, List.set_cons_succ]
            refine wpAnyH_take (i := 8) rfl (by kernel_rfl) (by kernel_rfl) (by kernel_rfl) (fun _ _ _ h => h) (y_extract rfl _ 1 rfl rfl rfl) hS.drop.drop ?_; simp only [Act.put, List.getElem_toArray, List.getElem_cons_succ, List.getElem_cons_zero, List.setIfInBounds_toArray, List.set_cons_zero, List.set_cons_succ]
            refine wpAnyH_all (rs := [11]) (by kernel_rfl) (by simp) ?_
            intro i hi
            obtain rfl : i = 11 := by simpa using hi
            refine o_store (c' := dig 8 ((x + 0 * 2 ^ 256) / y)) rfl rfl hS 53 _ _ rfl rfl rfl (by repeat (first | exact Upd.head | apply Upd.tail)) wide_size (dig_size _ _) (dig_size _ _) (dig_one _ _) fun w1 hS => ⟨hS.drop.drop, ?_⟩
            simp only [Act.put, List.getElem_toArray, List.getElem_cons_succ, List.getElem_cons_zero, List.setIfInBounds_toArray, List.set_cons_zero, List.set_cons_succ]
            refine wpAnyH_all (rs := [12]) (by kernel_rfl) (by simp) ?_
            intro i hi
            obtain rfl : i = 12 := by simpa using hi
            refine o_store (c' := dig 4 (restN (x + 0 * 2 ^ 256) y)) rfl rfl hS 42 _ _ rfl rfl rfl (by repeat (first | exact Upd.head | apply Upd.tail)) limbs_size (dig_size _ _) (dig_size _ _) (dig_one _ _) fun w1 hS => ⟨hS.drop.drop, ?_⟩
            simp only [Act.put, List.getElem_toArray, List.getElem_cons_succ, List.getElem_cons_zero, List.setIfInBounds_toArray, List.set_cons_zero, List.set_cons_succ]
            refine wpAnyH_done (by kernel_rfl) ?_ _
            go_wp2_with (fail)
            go_meet
            exact ⟨_, _, rfl, rfl, hS⟩
        ·
          refine o_new rfl rfl 42 rfl limbs_zero hS fun w1 c10 hS => ⟨hS.drop.drop, ?_⟩
          simp only [Act.put, List.getElem_toArray, List.getElem_cons_succ, List.getElem_cons_zero, List.setIfInBounds_toArray, List.set_cons_zero, List.set_cons_succ]
          refine wpAnyH_all (rs := [2]) (by kernel_rfl) (by simp) ?_
          intro i hi
          obtain rfl : i = 2 := by simpa using hi
          refine o_callR rfl rfl (by kernel_rfl) (wide_any x 0 _ HX.out.1 (by decide)) ?_
          rintro e w1 ⟨rfl, hb⟩
          replace hS := hS.call hb
          clear hb
          refine ⟨_, rfl, hS.drop.drop, ?_⟩
          simp only [Act.put, List.getElem_toArray, List.getElem_cons_succ, List.getElem_cons_zero, List.setIfInBounds_toArray, List.set_cons_zero, List.set_cons_succ]
          refine wpAnyH_all (rs := [4]) (by kernel_rfl) (by simp) ?_
          intro i hi
          obtain rfl : i = 4 := by simpa using hi
          refine o_callR rfl rfl (by kernel_rfl) (load_any y _) ?_
          rintro e w1 ⟨rfl, hb⟩
          replace hS := hS.call hb
          clear hb
          refine ⟨_, rfl, hS.drop.drop, ?_⟩
          simp only [Act.put, List.getElem_toArray, List.getElem_cons_succ, List.getElem_cons_zero, List.setIfInBounds_toArray, List.set_cons_zero, List.set_cons_succ]
          refine wpAnyH_all (rs := [5]) (by kernel_rfl) (by simp) ?_
          intro i hi
          obtain rfl : i = 5 := by simpa using hi
          refine o_callR rfl rfl (by kernel_rfl) (divide_r (x + 0 * 2 ^ 256) y _ HX.out.2.2 HX.out.2.1) ?_
          rintro e w1 ⟨rfl, hb⟩
          replace hS := hS.call hb
          clear hb
          refine ⟨_, rfl, hS.drop.drop, ?_⟩
          simp only [Act.put, List.getElem_toArray, List.getElem_cons_succ, List.getElem_cons_zero, List.setIfInBounds_toArray, List.set_cons_zero, List.set_cons_succ]
          refine wpAnyH_take (i := 6) rfl (by kernel_rfl) (by kernel_rfl) (by kernel_rfl) (fun _ _ _ h => h) (y_move rfl _ (.inl rfl) rfl) hS.drop.drop ?_; simp only [Act.put, List.getElem_toArray, List.getElem_cons_succ, List.getElem_cons_zero, List.setIfInBounds_toArray, List.set_cons_zero, List.set_cons_succ]
          refine wpAnyH_take (i := 7) rfl (by kernel_rfl) (by kernel_rfl) (by kernel_rfl) (fun _ _ _ h => h) (y_extract rfl _ 0 rfl rfl rfl) hS.drop.drop ?_; simp only [Act.put, List.getElem_toArray, List.getElem_cons_succ, List.getElem_cons_zero, List.setIfInBounds_toArray, List.set_cons_zero, List.set_cons_succ]
          refine wpAnyH_take (i := 8) rfl (by kernel_rfl) (by kernel_rfl) (by kernel_rfl) (fun _ _ _ h => h) (y_extract rfl _ 1 rfl rfl rfl) hS.drop.drop ?_; simp only [Act.put, List.getElem_toArray, List.getElem_cons_succ, List.getElem_cons_zero, List.setIfInBounds_toArray, List.set_cons_zero, List.set_cons_succ]
          refine wpAnyH_all (rs := [11]) (by kernel_rfl) (by simp) ?_
          intro i hi
          obtain rfl : i = 11 := by simpa using hi
          refine o_store (c' := dig 8 ((x + 0 * 2 ^ 256) / y)) rfl rfl hS 53 _ _ rfl rfl rfl (by repeat (first | exact Upd.head | apply Upd.tail)) wide_size (dig_size _ _) (dig_size _ _) (dig_one _ _) fun w1 hS => ⟨hS.drop.drop, ?_⟩
          simp only [Act.put, List.getElem_toArray, List.getElem_cons_succ, List.getElem_cons_zero, List.setIfInBounds_toArray, List.set_cons_zero, List.set_cons_succ]
          refine wpAnyH_all (rs := [12]) (by kernel_rfl) (by simp) ?_
          intro i hi
          obtain rfl : i = 12 := by simpa using hi
          refine o_store (c' := dig 4 (restN (x + 0 * 2 ^ 256) y)) rfl rfl hS 42 _ _ rfl rfl rfl (by repeat (first | exact Upd.head | apply Upd.tail)) limbs_size (dig_size _ _) (dig_size _ _) (dig_one _ _) fun w1 hS => ⟨hS.drop.drop, ?_⟩
          simp only [Act.put, List.getElem_toArray, List.getElem_cons_succ, List.getElem_cons_zero, List.setIfInBounds_toArray, List.set_cons_zero, List.set_cons_succ]
          refine wpAnyH_done (by kernel_rfl) ?_ _
          go_wp2_with (fail)
          go_meet
          exact ⟨_, _, rfl, rfl, hS⟩
      ·
        refine o_new rfl rfl 42 rfl limbs_zero hS fun w1 c10 hS => ⟨hS.drop.drop, ?_⟩
        simp only [Act.put, List.getElem_toArray, List.getElem_cons_succ, List.getElem_cons_zero, List.setIfInBounds_toArray, List.set_cons_zero, List.set_cons_succ]
        refine wpAnyH_all (rs := [1]) (by kernel_rfl) (by simp) ?_
        intro i hi
        obtain rfl : i = 1 := by simpa using hi
        refine o_callR rfl rfl (by kernel_rfl) (load_any x _) ?_
        rintro e w1 ⟨rfl, hb⟩
        replace hS := hS.call hb
        clear hb
        refine ⟨_, rfl, hS.drop.drop, ?_⟩
        simp only [Act.put, List.getElem_toArray, List.getElem_cons_succ, List.getElem_cons_zero, List.setIfInBounds_toArray, List.set_cons_zero, List.set_cons_succ]
        refine wpAnyH_all (rs := [2]) (by kernel_rfl) (by simp) ?_
        intro i hi
        obtain rfl : i = 2 := by simpa using hi
        refine o_callR rfl rfl (by kernel_rfl) (wide_any x 0 _ HX.out.1 (by decide)) ?_
        rintro e w1 ⟨rfl, hb⟩
        replace hS := hS.call hb
        clear hb
        refine ⟨_, rfl, hS.drop.drop, ?_⟩
        simp only [Act.put, List.getElem_toArray, List.getElem_cons_succ, List.getElem_cons_zero, List.setIfInBounds_toArray, List.set_cons_zero, List.set_cons_succ]
        refine wpAnyH_all (rs := [4]) (by kernel_rfl) (by simp) ?_
        intro i hi
        obtain rfl : i = 4 := by simpa using hi
        refine o_callR rfl rfl (by kernel_rfl) (load_any y _) ?_
        rintro e w1 ⟨rfl, hb⟩
        replace hS := hS.call hb
        clear hb
        refine ⟨_, rfl, hS.drop.drop, ?_⟩
        simp only [Act.put, List.getElem_toArray, List.getElem_cons_succ, List.getElem_cons_zero, List.setIfInBounds_toArray, List.set_cons_zero, List.set_cons_succ]
        refine wpAnyH_all (rs := [5]) (by kernel_rfl) (by simp) ?_
        intro i hi
        obtain rfl : i = 5 := by simpa using hi
        refine o_callR rfl rfl (by kernel_rfl) (divide_r (x + 0 * 2 ^ 256) y _ HX.out.2.2 HX.out.2.1) ?_
        rintro e w1 ⟨rfl, hb⟩
        replace hS := hS.call hb
        clear hb
        refine ⟨_, rfl, hS.drop.drop, ?_⟩
        simp only [Act.put, List.getElem_toArray, List.getElem_cons_succ, List.getElem_cons_zero, List.setIfInBounds_toArray, List.set_cons_zero, List.set_cons_succ]
        refine wpAnyH_take (i := 6) rfl (by kernel_rfl) (by kernel_rfl) (by kernel_rfl) (fun _ _ _ h => h) (y_move rfl _ (.inl rfl) rfl) hS.drop.drop ?_; simp only [Act.put, List.getElem_toArray, List.getElem_cons_succ, List.getElem_cons_zero, List.setIfInBounds_toArray, List.set_cons_zero, List.set_cons_succ]
        refine wpAnyH_take (i := 7) rfl (by kernel_rfl) (by kernel_rfl) (by kernel_rfl) (fun _ _ _ h => h) (y_extract rfl _ 0 rfl rfl rfl) hS.drop.drop ?_; simp only [Act.put, List.getElem_toArray, List.getElem_cons_succ, List.getElem_cons_zero, List.setIfInBounds_toArray, List.set_cons_zero, List.set_cons_succ]
        refine wpAnyH_take (i := 8) rfl (by kernel_rfl) (by kernel_rfl) (by kernel_rfl) (fun _ _ _ h => h) (y_extract rfl _ 1 rfl rfl rfl) hS.drop.drop ?_; simp only [Act.put, List.getElem_toArray, List.getElem_cons_succ, List.getElem_cons_zero, List.setIfInBounds_toArray, List.set_cons_zero, List.set_cons_succ]
        refine wpAnyH_all (rs := [11]) (by kernel_rfl) (by simp) ?_
        intro i hi
        obtain rfl : i = 11 := by simpa using hi
        refine o_store (c' := dig 8 ((x + 0 * 2 ^ 256) / y)) rfl rfl hS 53 _ _ rfl rfl rfl (by repeat (first | exact Upd.head | apply Upd.tail)) wide_size (dig_size _ _) (dig_size _ _) (dig_one _ _) fun w1 hS => ⟨hS.drop.drop, ?_⟩
        simp only [Act.put, List.getElem_toArray, List.getElem_cons_succ, List.getElem_cons_zero, List.setIfInBounds_toArray, List.set_cons_zero, List.set_cons_succ]
        refine wpAnyH_all (rs := [12]) (by kernel_rfl) (by simp) ?_
        intro i hi
        obtain rfl : i = 12 := by simpa using hi
        refine o_store (c' := dig 4 (restN (x + 0 * 2 ^ 256) y)) rfl rfl hS 42 _ _ rfl rfl rfl (by repeat (first | exact Upd.head | apply Upd.tail)) limbs_size (dig_size _ _) (dig_size _ _) (dig_one _ _) fun w1 hS => ⟨hS.drop.drop, ?_⟩
        simp only [Act.put, List.getElem_toArray, List.getElem_cons_succ, List.getElem_cons_zero, List.setIfInBounds_toArray, List.set_cons_zero, List.set_cons_succ]
        refine wpAnyH_done (by kernel_rfl) ?_ _
        go_wp2_with (fail)
        go_meet
        exact ⟨_, _, rfl, rfl, hS⟩
    ·
      refine o_new rfl rfl 42 rfl limbs_zero hS fun w1 c10 hS => ⟨hS.drop, ?_⟩
      simp only [Act.put, List.getElem_toArray, List.getElem_cons_succ, List.getElem_cons_zero, List.setIfInBounds_toArray, List.set_cons_zero, List.set_cons_succ]
      refine wpAnyH_all (rs := [1, 9]) (by kernel_rfl) (by simp) ?_
      intro i hi
      have hi2 : i = 1 ∨ i = 9 := by simpa using hi
      rcases hi2 with rfl | rfl
      ·
        refine o_callR rfl rfl (by kernel_rfl) (load_any x _) ?_
        rintro e w1 ⟨rfl, hb⟩
        replace hS := hS.call hb
        clear hb
        refine ⟨_, rfl, hS.drop, ?_⟩
        simp only [Act.put, List.getElem_toArray, List.getElem_cons_succ, List.getElem_cons_zero, List.setIfInBounds_toArray, List.set_cons_zero, List.set_cons_succ]
        refine wpAnyH_all (rs := [2, 9]) (by kernel_rfl) (by simp) ?_
        intro i hi
        have hi2 : i = 2 ∨ i = 9 := by simpa using hi
        rcases hi2 with rfl | rfl
        ·
          refine o_callR rfl rfl (by kernel_rfl) (wide_any x 0 _ HX.out.1 (by decide)) ?_
          rintro e w1 ⟨rfl, hb⟩
          replace hS := hS.call hb
          clear hb
          refine ⟨_, rfl, hS.drop, ?_⟩
          simp only [Act.put, List.getElem_toArray, List.getElem_cons_succ, List.getElem_cons_zero, List.setIfInBounds_toArray, List.set_cons_zero, List.set_cons_succ]
          refine wpAnyH_all (rs := [4, 9]) (by kernel_rfl) (by simp) ?_
          intro i hi
          have hi2 : i = 4 ∨ i = 9 := by simpa using hi
          rcases hi2 with rfl | rfl
          ·
            refine o_callR rfl rfl (by kernel_rfl) (load_any y _) ?_
            rintro e w1 ⟨rfl, hb⟩
            replace hS := hS.call hb
            clear hb
            refine ⟨_, rfl, hS.drop, ?_⟩
            simp only [Act.put, List.getElem_toArray, List.getElem_cons_succ, List.getElem_cons_zero, List.setIfInBounds_toArray, List.set_cons_zero, List.set_cons_succ]
            refine wpAnyH_all (rs := [5, 9]) (by kernel_rfl) (by simp) ?_
            intro i hi
            have hi2 : i = 5 ∨ i = 9 := by simpa using hi
            rcases hi2 with rfl | rfl
            ·
              refine o_callR rfl rfl (by kernel_rfl) (divide_r (x + 0 * 2 ^ 256) y _ HX.out.2.2 HX.out.2.1) ?_
              rintro e w1 ⟨rfl, hb⟩
              replace hS := hS.call hb
              clear hb
              refine ⟨_, rfl, hS.drop, ?_⟩
              simp only [Act.put, List.getElem_toArray, List.getElem_cons_succ, List.getElem_cons_zero, List.setIfInBounds_toArray, List.set_cons_zero, List.set_cons_succ]
              refine wpAnyH_take (i := 6) rfl (by kernel_rfl) (by kernel_rfl) (by kernel_rfl) (fun _ _ _ h => h) (y_move rfl _ (.inl rfl) rfl) hS.drop ?_; simp only [Act.put, List.getElem_toArray, List.getElem_cons_succ, List.getElem_cons_zero, List.setIfInBounds_toArray, List.set_cons_zero, List.set_cons_succ]
              refine wpAnyH_take (i := 7) rfl (by kernel_rfl) (by kernel_rfl) (by kernel_rfl) (fun _ _ _ h => h) (y_extract rfl _ 0 rfl rfl rfl) hS.drop ?_; simp only [Act.put, List.getElem_toArray, List.getElem_cons_succ, List.getElem_cons_zero, List.setIfInBounds_toArray, List.set_cons_zero, List.set_cons_succ]
              refine wpAnyH_take (i := 8) rfl (by kernel_rfl) (by kernel_rfl) (by kernel_rfl) (fun _ _ _ h => h) (y_extract rfl _ 1 rfl rfl rfl) hS.drop ?_; simp only [Act.put, List.getElem_toArray, List.getElem_cons_succ, List.getElem_cons_zero, List.setIfInBounds_toArray, List.set_cons_zero, List.set_cons_succ]
              refine wpAnyH_all (rs := [9]) (by kernel_rfl) (by simp) ?_
              intro i hi
              obtain rfl : i = 9 := by simpa using hi
              refine o_new rfl rfl 53 rfl wide_zero hS fun w1 c9 hS => ⟨hS.drop.drop, ?_⟩
              simp only [Act.put, List.getElem_toArray, List.getElem_cons_succ, List.getElem_cons_zero, List.setIfInBounds_toArray, List.set_cons_zero, List.set_cons_succ]
              replace hS := hS.swap
              refine wpAnyH_all (rs := [11]) (by kernel_rfl) (by simp) ?_
              intro i hi
              obtain rfl : i = 11 := by simpa using hi
              refine o_store (c' := dig 8 ((x + 0 * 2 ^ 256) / y)) rfl rfl hS 53 _ _ rfl rfl rfl (by repeat (first | exact Upd.head | apply Upd.tail)) wide_size (dig_size _ _) (dig_size _ _) (dig_one _ _) fun w1 hS => ⟨hS.drop.drop, ?_⟩
              simp only [Act.put, List.getElem_toArray, List.getElem_cons_succ, List.getElem_cons_zero, List.setIfInBounds_toArray, List.set_cons_zero, List.set_cons_succ]
              refine wpAnyH_all (rs := [12]) (by kernel_rfl) (by simp) ?_
              intro i hi
              obtain rfl : i = 12 := by simpa using hi
              refine o_store (c' := dig 4 (restN (x + 0 * 2 ^ 256) y)) rfl rfl hS 42 _ _ rfl rfl rfl (by repeat (first | exact Upd.head | apply Upd.tail)) limbs_size (dig_size _ _) (dig_size _ _) (dig_one _ _) fun w1 hS => ⟨hS.drop.drop, ?_⟩
              simp only [Act.put, List.getElem_toArray, List.getElem_cons_succ, List.getElem_cons_zero, List.setIfInBounds_toArray, List.set_cons_zero, List.set_cons_succ]
              refine wpAnyH_done (by kernel_rfl) ?_ _
              go_wp2_with (fail)
              go_meet
              exact ⟨_, _, rfl, rfl, hS⟩
            ·
              refine o_new rfl rfl 53 rfl wide_zero hS fun w1 c9 hS => ⟨hS.drop.drop, ?_⟩
              simp only [Act.put, List.getElem_toArray, List.getElem_cons_succ, List.getElem_cons_zero, List.setIfInBounds_toArray, List.set_cons_zero, List.set_cons_succ]
              refine wpAnyH_all (rs := [5]) (by kernel_rfl) (by simp) ?_
              intro i hi
              obtain rfl : i = 5 := by simpa using hi
              refine o_callR rfl rfl (by kernel_rfl) (divide_r (x + 0 * 2 ^ 256) y _ HX.out.2.2 HX.out.2.1) ?_
              rintro e w1 ⟨rfl, hb⟩
              replace hS := hS.call hb
              clear hb
              refine ⟨_, rfl, hS.drop.drop, ?_⟩
              simp only [Act.put, List.getElem_toArray, List.getElem_cons_succ, List.getElem_cons_zero, List.setIfInBounds_toArray, List.set_cons_zero, List.set_cons_succ]
              refine wpAnyH_take (i := 6) rfl (by kernel_rfl) (by kernel_rfl) (by kernel_rfl) (fun _ _ _ h => h) (y_move rfl _ (.inl rfl) rfl) hS.drop.drop ?_; simp only [Act.put, List.getElem_toArray, List.getElem_cons_succ, List.getElem_cons_zero, List.setIfInBounds_toArray, List.set_cons_zero, List.set_cons_succ]
              refine wpAnyH_take (i := 7) rfl (by kernel_rfl) (by kernel_rfl) (by kernel_rfl) (fun _ _ _ h => h) (y_extract rfl _ 0 rfl rfl rfl) hS.drop.drop ?_; simp only [Act.put, List.getElem_toArray, List.getElem_cons_succ, List.getElem_cons_zero, List.setIfInBounds_toArray, List.set_cons_zero, List.set_cons_succ]
              refine wpAnyH_take (i := 8) rfl (by kernel_rfl) (by kernel_rfl) (by kernel_rfl) (fun _ _ _ h => h) (y_extract rfl _ 1 rfl rfl rfl) hS.drop.drop ?_; simp only [Act.put, List.getElem_toArray, List.getElem_cons_succ, List.getElem_cons_zero, List.setIfInBounds_toArray, List.set_cons_zero, List.set_cons_succ]
              replace hS := hS.swap
              refine wpAnyH_all (rs := [11]) (by kernel_rfl) (by simp) ?_
              intro i hi
              obtain rfl : i = 11 := by simpa using hi
              refine o_store (c' := dig 8 ((x + 0 * 2 ^ 256) / y)) rfl rfl hS 53 _ _ rfl rfl rfl (by repeat (first | exact Upd.head | apply Upd.tail)) wide_size (dig_size _ _) (dig_size _ _) (dig_one _ _) fun w1 hS => ⟨hS.drop.drop, ?_⟩
              simp only [Act.put, List.getElem_toArray, List.getElem_cons_succ, List.getElem_cons_zero, List.setIfInBounds_toArray, List.set_cons_zero, List.set_cons_succ]
              refine wpAnyH_all (rs := [12]) (by kernel_rfl) (by simp) ?_
              intro i hi
              obtain rfl : i = 12 := by simpa using hi
              refine o_store (c' := dig 4 (restN (x + 0 * 2 ^ 256) y)) rfl rfl hS 42 _ _ rfl rfl rfl (by repeat (first | exact Upd.head | apply Upd.tail)) limbs_size (dig_size _ _) (dig_size _ _) (dig_one _ _) fun w1 hS => ⟨hS.drop.drop, ?_⟩
              simp only [Act.put, List.getElem_toArray, List.getElem_cons_succ, List.getElem_cons_zero, List.setIfInBounds_toArray, List.set_cons_zero, List.set_cons_succ]
              refine wpAnyH_done (by kernel_rfl) ?_ _
              go_wp2_with (fail)
              go_meet
              exact ⟨_, _, rfl, rfl, hS⟩
          ·
            refine o_new rfl rfl 53 rfl wide_zero hS fun w1 c9 hS => ⟨hS.drop.drop, ?_⟩
            simp only [Act.put, List.getElem_toArray, List.getElem_cons_succ, List.getElem_cons_zero, List.setIfInBounds_toArray, List.set_cons_zero, List.set_cons_succ]
            refine wpAnyH_all (rs := [4]) (by kernel_rfl) (by simp) ?_
            intro i hi
            obtain rfl : i = 4 := by simpa using hi
            refine o_callR rfl rfl (by kernel_rfl) (load_any y _) ?_
            rintro e w1 ⟨rfl, hb⟩
            replace hS := hS.call hb
            clear hb
            refine ⟨_, rfl, hS.drop.drop, ?_⟩
            simp only [Act.put, List.getElem_toArray, List.getElem_cons_succ, List.getElem_cons_zero, List.setIfInBounds_toArray, List.set_cons_zero, List.set_cons_succ]
            refine wpAnyH_all (rs := [5]) (by kernel_rfl) (by simp) ?_
            intro i hi
            obtain rfl : i = 5 := by simpa using hi
            refine o_callR rfl rfl (by kernel_rfl) (divide_r (x + 0 * 2 ^ 256) y _ HX.out.2.2 HX.out.2.1) ?_
            rintro e w1 ⟨rfl, hb⟩
            replace hS := hS.call hb
            clear hb
            refine ⟨_, rfl, hS.drop.drop, ?_⟩
            simp only [Act.put, List.getElem_toArray, List.getElem_cons_succ, List.getElem_cons_zero, List.setIfInBounds_toArray, List.set_cons_zero, List.set_cons_succ]
            refine wpAnyH_take (i := 6) rfl (by kernel_rfl) (by kernel_rfl) (by kernel_rfl) (fun _ _ _ h => h) (y_move rfl _ (.inl rfl) rfl) hS.drop.drop ?_; simp only [Act.put, List.getElem_toArray, List.getElem_cons_succ, List.getElem_cons_zero, List.setIfInBounds_toArray, List.set_cons_zero, List.set_cons_succ]
            refine wpAnyH_take (i := 7) rfl (by kernel_rfl) (by kernel_rfl) (by kernel_rfl) (fun _ _ _ h => h) (y_extract rfl _ 0 rfl rfl rfl) hS.drop.drop ?_; simp only [Act.put, List.getElem_toArray, List.getElem_cons_succ, List.getElem_cons_zero, List.setIfInBounds_toArray, List.set_cons_zero, List.set_cons_succ]
            refine wpAnyH_take (i := 8) rfl (by kernel_rfl) (by kernel_rfl) (by kernel_rfl) (fun _ _ _ h => h) (y_extract rfl _ 1 rfl rfl rfl) hS.drop.drop ?_; simp only [Act.put, List.getElem_toArray, List.getElem_cons_succ, List.getElem_cons_zero, List.setIfInBounds_toArray, List.set_cons_zero, List.set_cons_succ]
            replace hS := hS.swap
            refine wpAnyH_all (rs := [11]) (by kernel_rfl) (by simp) ?_
            intro i hi
            obtain rfl : i = 11 := by simpa using hi
            refine o_store (c' := dig 8 ((x + 0 * 2 ^ 256) / y)) rfl rfl hS 53 _ _ rfl rfl rfl (by repeat (first | exact Upd.head | apply Upd.tail)) wide_size (dig_size _ _) (dig_size _ _) (dig_one _ _) fun w1 hS => ⟨hS.drop.drop, ?_⟩
            simp only [Act.put, List.getElem_toArray, List.getElem_cons_succ, List.getElem_cons_zero, List.setIfInBounds_toArray, List.set_cons_zero, List.set_cons_succ]
            refine wpAnyH_all (rs := [12]) (by kernel_rfl) (by simp) ?_
            intro i hi
            obtain rfl : i = 12 := by simpa using hi
            refine o_store (c' := dig 4 (restN (x + 0 * 2 ^ 256) y)) rfl rfl hS 42 _ _ rfl rfl rfl (by repeat (first | exact Upd.head | apply Upd.tail)) limbs_size (dig_size _ _) (dig_size _ _) (dig_one _ _) fun w1 hS => ⟨hS.drop.drop, ?_⟩
            simp only [Act.put, List.getElem_toArray, List.getElem_cons_succ, List.getElem_cons_zero, List.setIfInBounds_toArray, List.set_cons_zero, List.set_cons_succ]
            refine wpAnyH_done (by kernel_rfl) ?_ _
            go_wp2_with (fail)
            go_meet
            exact ⟨_, _, rfl, rfl, hS⟩
        ·
          refine o_new rfl rfl 53 rfl wide_zero hS fun w1 c9 hS => ⟨hS.drop.drop, ?_⟩
          simp only [Act.put, List.getElem_toArray, List.getElem_cons_succ, List.getElem_cons_zero, List.setIfInBounds_toArray, List.set_cons_zero, List.set_cons_succ]
          refine wpAnyH_all (rs := [2]) (by kernel_rfl) (by simp) ?_
          intro i hi
          obtain rfl : i = 2 := by simpa using hi
          refine o_callR rfl rfl (by kernel_rfl) (wide_any x 0 _ HX.out.1 (by decide)) ?_
          rintro e w1 ⟨rfl, hb⟩
          replace hS := hS.call hb
          clear hb
          refine ⟨_, rfl, hS.drop.drop, ?_⟩
          simp only [Act.put, List.getElem_toArray, List.getElem_cons_succ, List.getElem_cons_zero, List.setIfInBounds_toArray, List.set_cons_zero, List.set_cons_succ]
          refine wpAnyH_all (rs := [4]) (by kernel_rfl) (by simp) ?_
          intro i hi
          obtain rfl : i = 4 := by simpa using hi
          refine o_callR rfl rfl (by kernel_rfl) (load_any y _) ?_
          rintro e w1 ⟨rfl, hb⟩
          replace hS := hS.call hb
          clear hb
          refine ⟨_, rfl, hS.drop.drop, ?_⟩
          simp only [Act.put, List.getElem_toArray, List.getElem_cons_succ, List.getElem_cons_zero, List.setIfInBounds_toArray, List.set_cons_zero, List.set_cons_succ]
          refine wpAnyH_all (rs := [5]) (by kernel_rfl) (by simp) ?_
          intro i hi
          obtain rfl : i = 5 := by simpa using hi
          refine o_callR rfl rfl (by kernel_rfl) (divide_r (x + 0 * 2 ^ 256) y _ HX.out.2.2 HX.out.2.1) ?_
          rintro e w1 ⟨rfl, hb⟩
          replace hS := hS.call hb
          clear hb
          refine ⟨_, rfl, hS.drop.drop, ?_⟩
          simp only [Act.put, List.getElem_toArray, List.getElem_cons_succ, List.getElem_cons_zero, List.setIfInBounds_toArray, List.set_cons_zero, List.set_cons_succ]
          refine wpAnyH_take (i := 6) rfl (by kernel_rfl) (by kernel_rfl) (by kernel_rfl) (fun _ _ _ h => h) (y_move rfl _ (.inl rfl) rfl) hS.drop.drop ?_; simp only [Act.put, List.getElem_toArray, List.getElem_cons_succ, List.getElem_cons_zero, List.setIfInBounds_toArray, List.set_cons_zero, List.set_cons_succ]
          refine wpAnyH_take (i := 7) rfl (by kernel_rfl) (by kernel_rfl) (by kernel_rfl) (fun _ _ _ h => h) (y_extract rfl _ 0 rfl rfl rfl) hS.drop.drop ?_; simp only [Act.put, List.getElem_toArray, List.getElem_cons_succ, List.getElem_cons_zero, List.setIfInBounds_toArray, List.set_cons_zero, List.set_cons_succ]
          refine wpAnyH_take (i := 8) rfl (by kernel_rfl) (by kernel_rfl) (by kernel_rfl) (fun _ _ _ h => h) (y_extract rfl _ 1 rfl rfl rfl) hS.drop.drop ?_; simp only [Act.put, List.getElem_toArray, List.getElem_cons_succ, List.getElem_cons_zero, List.setIfInBounds_toArray, List.set_cons_zero, List.set_cons_succ]
          replace hS := hS.swap
          refine wpAnyH_all (rs := [11]) (by kernel_rfl) (by simp) ?_
          intro i hi
          obtain rfl : i = 11 := by simpa using hi
          refine o_store (c' := dig 8 ((x + 0 * 2 ^ 256) / y)) rfl rfl hS 53 _ _ rfl rfl rfl (by repeat (first | exact Upd.head | apply Upd.tail)) wide_size (dig_size _ _) (dig_size _ _) (dig_one _ _) fun w1 hS => ⟨hS.drop.drop, ?_⟩
          simp only [Act.put, List.getElem_toArray, List.getElem_cons_succ, List.getElem_cons_zero, List.setIfInBounds_toArray, List.set_cons_zero, List.set_cons_succ]
          refine wpAnyH_all (rs := [12]) (by kernel_rfl) (by simp) ?_
          intro i hi
          obtain rfl : i = 12 := by simpa using hi
          refine o_store (c' := dig 4 (restN (x + 0 * 2 ^ 256) y)) rfl rfl hS 42 _ _ rfl rfl rfl (by repeat (first | exact Upd.head | apply Upd.tail)) limbs_size (dig_size _ _) (dig_size _ _) (dig_one _ _) fun w1 hS => ⟨hS.drop.drop, ?_⟩
          simp only [Act.put, List.getElem_toArray, List.getElem_cons_succ, List.getElem_cons_zero, List.setIfInBounds_toArray, List.set_cons_zero, List.set_cons_succ]
          refine wpAnyH_done (by kernel_rfl) ?_ _
          go_wp2_with (fail)
          go_meet
          exact ⟨_, _, rfl, rfl, hS⟩
      ·
        refine o_new rfl rfl 53 rfl wide_zero hS fun w1 c9 hS => ⟨hS.drop.drop, ?_⟩
        simp only [Act.put, List.getElem_toArray, List.getElem_cons_succ, List.getElem_cons_zero, List.setIfInBounds_toArray, List.set_cons_zero, List.set_cons_succ]
        refine wpAnyH_all (rs := [1]) (by kernel_rfl) (by simp) ?_
        intro i hi
        obtain rfl : i = 1 := by simpa using hi
        refine o_callR rfl rfl (by kernel_rfl) (load_any x _) ?_
        rintro e w1 ⟨rfl, hb⟩
        replace hS := hS.call hb
        clear hb
        refine ⟨_, rfl, hS.drop.drop, ?_⟩
        simp only [Act.put, List.getElem_toArray, List.getElem_cons_succ, List.getElem_cons_zero, List.setIfInBounds_toArray, List.set_cons_zero, List.set_cons_succ]
        refine wpAnyH_all (rs := [2]) (by kernel_rfl) (by simp) ?_
        intro i hi
        obtain rfl : i = 2 := by simpa using hi
        refine o_callR rfl rfl (by kernel_rfl) (wide_any x 0 _ HX.out.1 (by decide)) ?_
        rintro e w1 ⟨rfl, hb⟩
        replace hS := hS.call hb
        clear hb
        refine ⟨_, rfl, hS.drop.drop, ?_⟩
        simp only [Act.put, List.getElem_toArray, List.getElem_cons_succ, List.getElem_cons_zero, List.setIfInBounds_toArray, List.set_cons_zero, List.set_cons_succ]
        refine wpAnyH_all (rs := [4]) (by kernel_rfl) (by simp) ?_
        intro i hi
        obtain rfl : i = 4 := by simpa using hi
        refine o_callR rfl rfl (by kernel_rfl) (load_any y _) ?_
        rintro e w1 ⟨rfl, hb⟩
        replace hS := hS.call hb
        clear hb
        refine ⟨_, rfl, hS.drop.drop, ?_⟩
        simp only [Act.put, List.getElem_toArray, List.getElem_cons_succ, List.getElem_cons_zero, List.setIfInBounds_toArray, List.set_cons_zero, List.set_cons_succ]
        refine wpAnyH_all (rs := [5]) (by kernel_rfl) (by simp) ?_
        intro i hi
        obtain rfl : i = 5 := by simpa using hi
        refine o_callR rfl rfl (by kernel_rfl) (divide_r (x + 0 * 2 ^ 256) y _ HX.out.2.2 HX.out.2.1) ?_
        rintro e w1 ⟨rfl, hb⟩
        replace hS := hS.call hb
        clear hb
        refine ⟨_, rfl, hS.drop.drop, ?_⟩
        simp only [Act.put, List.getElem_toArray, List.getElem_cons_succ, List.getElem_cons_zero, List.setIfInBounds_toArray, List.set_cons_zero, List.set_cons_succ]
        refine wpAnyH_take (i := 6) rfl (by kernel_rfl) (by kernel_rfl) (by kernel_rfl) (fun _ _ _ h => h) (y_move rfl _ (.inl rfl) rfl) hS.drop.drop ?_; simp only [Act.put, List.getElem_toArray, List.getElem_cons_succ, List.getElem_cons_zero, List.setIfInBounds_toArray, List.set_cons_zero, List.set_cons_succ]
        refine wpAnyH_take (i := 7) rfl (by kernel_rfl) (by kernel_rfl) (by kernel_rfl) (fun _ _ _ h => h) (y_extract rfl _ 0 rfl rfl rfl) hS.drop.drop ?_; simp only [Act.put, List.getElem_toArray, List.getElem_cons_succ, List.getElem_cons_zero, List.setIfInBounds_toArray, List.set_cons_zero, List.set_cons_succ]
        refine wpAnyH_take (i := 8) rfl (by kernel_rfl) (by kernel_rfl) (by kernel_rfl) (fun _ _ _ h => h) (y_extract rfl _ 1 rfl rfl rfl) hS.drop.drop ?_; simp only [Act.put, List.getElem_toArray, List.getElem_cons_succ, List.getElem_cons_zero, List.setIfInBounds_toArray, List.set_cons_zero, List.set_cons_succ]
        replace hS := hS.swap
        refine wpAnyH_all (rs := [11]) (by kernel_rfl) (by simp) ?_
        intro i hi
        obtain rfl : i = 11 := by simpa using hi
        refine o_store (c' := dig 8 ((x + 0 * 2 ^ 256) / y)) rfl rfl hS 53 _ _ rfl rfl rfl (by repeat (first | exact Upd.head | apply Upd.tail)) wide_size (dig_size _ _) (dig_size _ _) (dig_one _ _) fun w1 hS => ⟨hS.drop.drop, ?_⟩
        simp only [Act.put, List.getElem_toArray, List.getElem_cons_succ, List.getElem_cons_zero, List.setIfInBounds_toArray, List.set_cons_zero, List.set_cons_succ]
        refine wpAnyH_all (rs := [12]) (by kernel_rfl) (by simp) ?_
        intro i hi
        obtain rfl : i = 12 := by simpa using hi
        refine o_store (c' := dig 4 (restN (x + 0 * 2 ^ 256) y)) rfl rfl hS 42 _ _ rfl rfl rfl (by repeat (first | exact Upd.head | apply Upd.tail)) limbs_size (dig_size _ _) (dig_size _ _) (dig_one _ _) fun w1 hS => ⟨hS.drop.drop, ?_⟩
        simp only [Act.put, List.getElem_toArray, List.getElem_cons_succ, List.getElem_cons_zero, List.setIfInBounds_toArray, List.set_cons_zero, List.set_cons_succ]
        refine wpAnyH_done (by kernel_rfl) ?_ _
        go_wp2_with (fail)
        go_meet
        exact ⟨_, _, rfl, rfl, hS⟩
  case rest =>
    clear hS
    obtain ⟨c5, c6, rfl, rfl, hS⟩ := hcut
    rw [Nat.zero_mul, Nat.add_zero] at hS
    go_wp2_with (first | (refine st_load hS rfl 53 _ rfl rfl (by repeat (first | exact At.head | apply At.tail)) wide_type rfl wide_size (dig_size _ _) ?_) | (refine st_store hS rfl 23 _ _ rfl rfl rfl (by repeat (first | exact Upd.head | apply Upd.tail)) word_size (wf_size _) (wf_size _) (wf_one _) ?_; clear hS; intro w1 hS) | (go_at_call 75; with_reducible refine (low_any _ _).mono ?_; rintro e w1 ⟨rfl, hb⟩; replace hS := hS.call hb; clear hb) | (go_at_call 68; with_reducible refine (word_any _ _).mono ?_; rintro e w1 ⟨rfl, hb⟩; replace hS := hS.call hb; clear hb))
    exact st_post hS 4 23 rfl rfl rfl (by repeat (first | exact At.head | apply At.tail)) word_type rfl word_size (wf_size _) (fun hb => ⟨rfl, hb⟩)
set_option maxHeartbeats 8000000 in
set_option maxRecDepth 100000 in
theorem mod_any (x y : Nat) (hx : x < M256) (hy : y < M256) (w : World) :
    Calls Try.prog 26 #[.agg (wcells x), .agg (wcells y)] w fun e w' => e = .returned (.agg (wcells (wrest x y))) ∧ Below w.heap.size w w' := by
  have HX := Lib.hid (And.intro hx (And.intro hy (show x + 0 * 2 ^ 256 < 2 ^ (64 * 8) from (by have := Nat.lt_of_lt_of_le (show x < 2 ^ 256 from hx) (Nat.pow_le_pow_right (by decide) (show 256 ≤ 64 * 8 by decide)); rw [Nat.zero_mul, Nat.add_zero]; exact this))))
  clear hx hy
  have hS := St.start w
  go_enter Try.func26, Try.ntmps26
  go_wp2_with (first | (have _t := b3; clear _t; refine st_new hS rfl 23 rfl word_zero ?_; clear hS; intro w1 b4 hS) | (have _t := b2; clear _t; refine st_box hS rfl _ _ rfl rfl ?_; clear hS; intro w1 b3 hS) | (refine st_box hS rfl _ _ rfl rfl ?_; clear hS; intro w1 b2 hS))
  try simp only [Act.put, List.setIfInBounds_toArray, List.set_cons_zero, List.set_cons_succ]
  go_cut [5, 6] (fun s5 s6 wx => ∃ c5 c6 : Nat, s5 = .pointer (some ⟨c5, 0, none⟩) ∧ s6 = .pointer (some ⟨c6, 0, none⟩) ∧ St w wx [(c6, 42, dig 4 (restN (x + 0 * 2 ^ 256) y)), (c5, 53, dig 8 ((x + 0 * 2 ^ 256) / y)), (b4, 23, wcells 0), (b3, 23, wcells y), (b2, 23, wcells x)])
  case first =>
    refine wp_region_held_drew (S := fun w' => St w w' _) (by kernel_rfl) hS.drew fun _ => ?_
    replace hS := hS.drew
    simp only [List.size_toArray, List.length_cons, List.length_nil, Nat.reduceAdd, Array.replicate_succ, Array.replicate_zero, List.push_toArray, List.nil_append, List.cons_append]
    refine wpAnyH_take (i := 0) rfl (by kernel_rfl) (by kernel_rfl) (by kernel_rfl) (fun _ _ _ h => h) (y_load rfl 23 _ rfl rfl (by repeat (first | exact At.head | apply At.tail)) word_type rfl word_size (wf_size _)) hS ?_; simp only [Act.put, List.getElem_toArray, List.getElem_cons_succ, List.getElem_cons_zero, List.setIfInBounds_toArray, List.set_cons_zero, List.set_cons_succ]
    refine wpAnyH_take (i := 3) rfl (by kernel_rfl) (by kernel_rfl) (by kernel_rfl) (fun _ _ _ h => h) (y_load rfl 23 _ rfl rfl (by repeat (first | exact At.head | apply At.tail)) word_type rfl word_size (wf_size _)) hS ?_; simp only [Act.put, List.getElem_toArray, List.getElem_cons_succ, List.getElem_cons_zero, List.setIfInBounds_toArray, List.set_cons_zero, List.set_cons_succ]
    refine wpAnyH_all (rs := [1, 9, 10]) (by kernel_rfl) (by simp) ?_
    intro i hi
    have hi2 : i = 1 ∨ i = 9 ∨ i = 10 := by simpa using hi
    rcases hi2 with rfl | rfl | rfl
    ·
      refine o_callR rfl rfl (by kernel_rfl) (load_any x _) ?_
      rintro e w1 ⟨rfl, hb⟩
      replace hS := hS.call hb
      clear hb
      refine ⟨_, rfl, hS, ?_⟩
      simp only [Act.put, List.getElem_toArray, List.getElem_cons_succ, List.getElem_cons_zero, List.setIfInBounds_toArray, List.set_cons_zero, List.set_cons_succ]
      refine wpAnyH_all (rs := [2, 9, 10]) (by kernel_rfl) (by simp) ?_
      intro i hi
      have hi2 : i = 2 ∨ i = 9 ∨ i = 10 := by simpa using hi
      rcases hi2 with rfl | rfl | rfl
      ·
        refine o_callR rfl rfl (by kernel_rfl) (wide_any x 0 _ HX.out.1 (by decide)) ?_
        rintro e w1 ⟨rfl, hb⟩
        replace hS := hS.call hb
        clear hb
        refine ⟨_, rfl, hS, ?_⟩
        simp only [Act.put, List.getElem_toArray, List.getElem_cons_succ, List.getElem_cons_zero, List.setIfInBounds_toArray, List.set_cons_zero, List.set_cons_succ]
        refine wpAnyH_all (rs := [4, 9, 10]) (by kernel_rfl) (by simp) ?_
        intro i hi
        have hi2 : i = 4 ∨ i = 9 ∨ i = 10 := by simpa using hi
        rcases hi2 with rfl | rfl | rfl
        ·
          refine o_callR rfl rfl (by kernel_rfl) (load_any y _) ?_
          rintro e w1 ⟨rfl, hb⟩
          replace hS := hS.call hb
          clear hb
          refine ⟨_, rfl, hS, ?_⟩
          simp only [Act.put, List.getElem_toArray, List.getElem_cons_succ, List.getElem_cons_zero, List.setIfInBounds_toArray, List.set_cons_zero, List.set_cons_succ]
          refine wpAnyH_all (rs := [5, 9, 10]) (by kernel_rfl) (by simp) ?_
          intro i hi
          have hi2 : i = 5 ∨ i = 9 ∨ i = 10 := by simpa using hi
          rcases hi2 with rfl | rfl | rfl
          ·
            refine o_callR rfl rfl (by kernel_rfl) (divide_r (x + 0 * 2 ^ 256) y _ HX.out.2.2 HX.out.2.1) ?_
            rintro e w1 ⟨rfl, hb⟩
            replace hS := hS.call hb
            clear hb
            refine ⟨_, rfl, hS, ?_⟩
            simp only [Act.put, List.getElem_toArray, List.getElem_cons_succ, List.getElem_cons_zero, List.setIfInBounds_toArray, List.set_cons_zero, List.set_cons_succ]
            refine wpAnyH_take (i := 6) rfl (by kernel_rfl) (by kernel_rfl) (by kernel_rfl) (fun _ _ _ h => h) (y_move rfl _ (.inl rfl) rfl) hS ?_; simp only [Act.put, List.getElem_toArray, List.getElem_cons_succ, List.getElem_cons_zero, List.setIfInBounds_toArray, List.set_cons_zero, List.set_cons_succ]
            refine wpAnyH_take (i := 7) rfl (by kernel_rfl) (by kernel_rfl) (by kernel_rfl) (fun _ _ _ h => h) (y_extract rfl _ 0 rfl rfl rfl) hS ?_; simp only [Act.put, List.getElem_toArray, List.getElem_cons_succ, List.getElem_cons_zero, List.setIfInBounds_toArray, List.set_cons_zero, List.set_cons_succ]
            refine wpAnyH_take (i := 8) rfl (by kernel_rfl) (by kernel_rfl) (by kernel_rfl) (fun _ _ _ h => h) (y_extract rfl _ 1 rfl rfl rfl) hS ?_; simp only [Act.put, List.getElem_toArray, List.getElem_cons_succ, List.getElem_cons_zero, List.setIfInBounds_toArray, List.set_cons_zero, List.set_cons_succ]
            refine wpAnyH_all (rs := [9, 10]) (by kernel_rfl) (by simp) ?_
            intro i hi
            have hi2 : i = 9 ∨ i = 10 := by simpa using hi
            rcases hi2 with rfl | rfl
            ·
              refine o_new rfl rfl 53 rfl wide_zero hS fun w1 c9 hS => ⟨hS.drop, ?_⟩
              simp only [Act.put, List.getElem_toArray, List.getElem_cons_succ, List.getElem_cons_zero, List.setIfInBounds_toArray, List.set_cons_zero, List.set_cons_succ]
              refine wpAnyH_all (rs := [10]) (by kernel_rfl) (by simp) ?_
              intro i hi
              obtain rfl : i = 10 := by simpa using hi
              refine o_new rfl rfl 42 rfl limbs_zero hS fun w1 c10 hS => ⟨hS.drop.drop, ?_⟩
              simp only [Act.put, List.getElem_toArray, List.getElem_cons_succ, List.getElem_cons_zero, List.setIfInBounds_toArray, List.set_cons_zero, List.set_cons_succ]
              refine wpAnyH_all (rs := [11]) (by kernel_rfl) (by simp) ?_
              intro i hi
              obtain rfl : i = 11 := by simpa using hi
              refine o_store (c' := dig 8 ((x + 0 * 2 ^ 256) / y)) rfl rfl hS 53 _ _ rfl rfl rfl (by repeat (first | exact Upd.head | apply Upd.tail)) wide_size (dig_size _ _) (dig_size _ _) (dig_one _ _) fun w1 hS => ⟨hS.drop.drop, ?_⟩
              simp only [Act.put, List.getElem_toArray, List.getElem_cons_succ, List.getElem_cons_zero, List.setIfInBounds_toArray, List.set_cons_zero, List.set_cons_succ]
              refine wpAnyH_all (rs := [12]) (by kernel_rfl) (by simp) ?_
              intro i hi
              obtain rfl : i = 12 := by simpa using hi
              refine o_store (c' := dig 4 (restN (x + 0 * 2 ^ 256) y)) rfl rfl hS 42 _ _ rfl rfl rfl (by repeat (first | exact Upd.head | apply Upd.tail)) limbs_size (dig_size _ _) (dig_size _ _) (dig_one _ _) fun w1 hS => ⟨hS.drop.drop, ?_⟩
              simp only [Act.put, List.getElem_toArray, List.getElem_cons_succ, List.getElem_cons_zero, List.setIfInBounds_toArray, List.set_cons_zero, List.set_cons_succ]
              refine wpAnyH_done (by kernel_rfl) ?_ _
              go_wp2_with (fail)
              go_meet
              exact ⟨_, _, rfl, rfl, hS⟩
            ·
              refine o_new rfl rfl 42 rfl limbs_zero hS fun w1 c10 hS => ⟨hS.drop, ?_⟩
              simp only [Act.put, List.getElem_toArray, List.getElem_cons_succ, List.getElem_cons_zero, List.setIfInBounds_toArray, List.set_cons_zero, List.set_cons_succ]
              refine wpAnyH_all (rs := [9]) (by kernel_rfl) (by simp) ?_
              intro i hi
              obtain rfl : i = 9 := by simpa using hi
              refine o_new rfl rfl 53 rfl wide_zero hS fun w1 c9 hS => ⟨hS.drop.drop, ?_⟩
              simp only [Act.put, List.getElem_toArray, List.getElem_cons_succ, List.getElem_cons_zero, List.setIfInBounds_toArray, List.set_cons_zero, List.set_cons_succ]
              replace hS := hS.swap
              refine wpAnyH_all (rs := [11]) (by kernel_rfl) (by simp) ?_
              intro i hi
              obtain rfl : i = 11 := by simpa using hi
              refine o_store (c' := dig 8 ((x + 0 * 2 ^ 256) / y)) rfl rfl hS 53 _ _ rfl rfl rfl (by repeat (first | exact Upd.head | apply Upd.tail)) wide_size (dig_size _ _) (dig_size _ _) (dig_one _ _) fun w1 hS => ⟨hS.drop.drop, ?_⟩
              simp only [Act.put, List.getElem_toArray, List.getElem_cons_succ, List.getElem_cons_zero, List.setIfInBounds_toArray, List.set_cons_zero, List.set_cons_succ]
              refine wpAnyH_all (rs := [12]) (by kernel_rfl) (by simp) ?_
              intro i hi
              obtain rfl : i = 12 := by simpa using hi
              refine o_store (c' := dig 4 (restN (x + 0 * 2 ^ 256) y)) rfl rfl hS 42 _ _ rfl rfl rfl (by repeat (first | exact Upd.head | apply Upd.tail)) limbs_size (dig_size _ _) (dig_size _ _) (dig_one _ _) fun w1 hS => ⟨hS.drop.drop, ?_⟩
              simp only [Act.put, List.getElem_toArray, List.getElem_cons_succ, List.getElem_cons_zero, List.setIfInBounds_toArray, List.set_cons_zero, List.set_cons_succ]
              refine wpAnyH_done (by kernel_rfl) ?_ _
              go_wp2_with (fail)
              go_meet
              exact ⟨_, _, rfl, rfl, hS⟩
          ·
            refine o_new rfl rfl 53 rfl wide_zero hS fun w1 c9 hS => ⟨hS.drop, ?_⟩
            simp only [Act.put, List.getElem_toArray, List.getElem_cons_succ, List.getElem_cons_zero, List.setIfInBounds_toArray, List.set_cons_zero, List.set_cons_succ]
            refine wpAnyH_all (rs := [5, 10]) (by kernel_rfl) (by simp) ?_
            intro i hi
            have hi2 : i = 5 ∨ i = 10 := by simpa using hi
            rcases hi2 with rfl | rfl
            ·
              refine o_callR rfl rfl (by kernel_rfl) (divide_r (x + 0 * 2 ^ 256) y _ HX.out.2.2 HX.out.2.1) ?_
              rintro e w1 ⟨rfl, hb⟩
              replace hS := hS.call hb
              clear hb
              refine ⟨_, rfl, hS.drop, ?_⟩
              simp only [Act.put, List.getElem_toArray, List.getElem_cons_succ, List.getElem_cons_zero, List.setIfInBounds_toArray, List.set_cons_zero, List.set_cons_succ]
              refine wpAnyH_take (i := 6) rfl (by kernel_rfl) (by kernel_rfl) (by kernel_rfl) (fun _ _ _ h => h) (y_move rfl _ (.inl rfl) rfl) hS.drop ?_; simp only [Act.put, List.getElem_toArray, List.getElem_cons_succ, List.getElem_cons_zero, List.setIfInBounds_toArray, List.set_cons_zero, List.set_cons_succ]
              refine wpAnyH_take (i := 7) rfl (by kernel_rfl) (by kernel_rfl) (by kernel_rfl) (fun _ _ _ h => h) (y_extract rfl _ 0 rfl rfl rfl) hS.drop ?_; simp only [Act.put, List.getElem_toArray, List.getElem_cons_succ, List.getElem_cons_zero, List.setIfInBounds_toArray, List.set_cons_zero, List.set_cons_succ]
              refine wpAnyH_take (i := 8) rfl (by kernel_rfl) (by kernel_rfl) (by kernel_rfl) (fun _ _ _ h => h) (y_extract rfl _ 1 rfl rfl rfl) hS.drop ?_; simp only [Act.put, List.getElem_toArray, List.getElem_cons_succ, List.getElem_cons_zero, List.setIfInBounds_toArray, List.set_cons_zero, List.set_cons_succ]
              refine wpAnyH_all (rs := [10]) (by kernel_rfl) (by simp) ?_
              intro i hi
              obtain rfl : i = 10 := by simpa using hi
              refine o_new rfl rfl 42 rfl limbs_zero hS fun w1 c10 hS => ⟨hS.drop.drop, ?_⟩
              simp only [Act.put, List.getElem_toArray, List.getElem_cons_succ, List.getElem_cons_zero, List.setIfInBounds_toArray, List.set_cons_zero, List.set_cons_succ]
              refine wpAnyH_all (rs := [11]) (by kernel_rfl) (by simp) ?_
              intro i hi
              obtain rfl : i = 11 := by simpa using hi
              refine o_store (c' := dig 8 ((x + 0 * 2 ^ 256) / y)) rfl rfl hS 53 _ _ rfl rfl rfl (by repeat (first | exact Upd.head | apply Upd.tail)) wide_size (dig_size _ _) (dig_size _ _) (dig_one _ _) fun w1 hS => ⟨hS.drop.drop, ?_⟩
              simp only [Act.put, List.getElem_toArray, List.getElem_cons_succ, List.getElem_cons_zero, List.setIfInBounds_toArray, List.set_cons_zero, List.set_cons_succ]
              refine wpAnyH_all (rs := [12]) (by kernel_rfl) (by simp) ?_
              intro i hi
              obtain rfl : i = 12 := by simpa using hi
              refine o_store (c' := dig 4 (restN (x + 0 * 2 ^ 256) y)) rfl rfl hS 42 _ _ rfl rfl rfl (by repeat (first | exact Upd.head | apply Upd.tail)) limbs_size (dig_size _ _) (dig_size _ _) (dig_one _ _) fun w1 hS => ⟨hS.drop.drop, ?_⟩
              simp only [Act.put, List.getElem_toArray, List.getElem_cons_succ, List.getElem_cons_zero, List.setIfInBounds_toArray, List.set_cons_zero, List.set_cons_succ]
              refine wpAnyH_done (by kernel_rfl) ?_ _
              go_wp2_with (fail)
              go_meet
              exact ⟨_, _, rfl, rfl, hS⟩
            ·
              refine o_new rfl rfl 42 rfl limbs_zero hS fun w1 c10 hS => ⟨hS.drop.drop, ?_⟩
              simp only [Act.put, List.getElem_toArray, List.getElem_cons_succ, List.getElem_cons_zero, List.setIfInBounds_toArray, List.set_cons_zero, List.set_cons_succ]
              refine wpAnyH_all (rs := [5]) (by kernel_rfl) (by simp) ?_
              intro i hi
              obtain rfl : i = 5 := by simpa using hi
              refine o_callR rfl rfl (by kernel_rfl) (divide_r (x + 0 * 2 ^ 256) y _ HX.out.2.2 HX.out.2.1) ?_
              rintro e w1 ⟨rfl, hb⟩
              replace hS := hS.call hb
              clear hb
              refine ⟨_, rfl, hS.drop.drop, ?_⟩
              simp only [Act.put, List.getElem_toArray, List.getElem_cons_succ, List.getElem_cons_zero, List.setIfInBounds_toArray, List.set_cons_zero, List.set_cons_succ]
              refine wpAnyH_take (i := 6) rfl (by kernel_rfl) (by kernel_rfl) (by kernel_rfl) (fun _ _ _ h => h) (y_move rfl _ (.inl rfl) rfl) hS.drop.drop ?_; simp only [Act.put, List.getElem_toArray, List.getElem_cons_succ, List.getElem_cons_zero, List.setIfInBounds_toArray, List.set_cons_zero, List.set_cons_succ]
              refine wpAnyH_take (i := 7) rfl (by kernel_rfl) (by kernel_rfl) (by kernel_rfl) (fun _ _ _ h => h) (y_extract rfl _ 0 rfl rfl rfl) hS.drop.drop ?_; simp only [Act.put, List.getElem_toArray, List.getElem_cons_succ, List.getElem_cons_zero, List.setIfInBounds_toArray, List.set_cons_zero, List.set_cons_succ]
              refine wpAnyH_take (i := 8) rfl (by kernel_rfl) (by kernel_rfl) (by kernel_rfl) (fun _ _ _ h => h) (y_extract rfl _ 1 rfl rfl rfl) hS.drop.drop ?_; simp only [Act.put, List.getElem_toArray, List.getElem_cons_succ, List.getElem_cons_zero, List.setIfInBounds_toArray, List.set_cons_zero, List.set_cons_succ]
              refine wpAnyH_all (rs := [11]) (by kernel_rfl) (by simp) ?_
              intro i hi
              obtain rfl : i = 11 := by simpa using hi
              refine o_store (c' := dig 8 ((x + 0 * 2 ^ 256) / y)) rfl rfl hS 53 _ _ rfl rfl rfl (by repeat (first | exact Upd.head | apply Upd.tail)) wide_size (dig_size _ _) (dig_size _ _) (dig_one _ _) fun w1 hS => ⟨hS.drop.drop, ?_⟩
              simp only [Act.put, List.getElem_toArray, List.getElem_cons_succ, List.getElem_cons_zero, List.setIfInBounds_toArray, List.set_cons_zero, List.set_cons_succ]
              refine wpAnyH_all (rs := [12]) (by kernel_rfl) (by simp) ?_
              intro i hi
              obtain rfl : i = 12 := by simpa using hi
              refine o_store (c' := dig 4 (restN (x + 0 * 2 ^ 256) y)) rfl rfl hS 42 _ _ rfl rfl rfl (by repeat (first | exact Upd.head | apply Upd.tail)) limbs_size (dig_size _ _) (dig_size _ _) (dig_one _ _) fun w1 hS => ⟨hS.drop.drop, ?_⟩
              simp only [Act.put, List.getElem_toArray, List.getElem_cons_succ, List.getElem_cons_zero, List.setIfInBounds_toArray, List.set_cons_zero, List.set_cons_succ]
              refine wpAnyH_done (by kernel_rfl) ?_ _
              go_wp2_with (fail)
              go_meet
              exact ⟨_, _, rfl, rfl, hS⟩
          ·
            refine o_new rfl rfl 42 rfl limbs_zero hS fun w1 c10 hS => ⟨hS.drop, ?_⟩
            simp only [Act.put, List.getElem_toArray, List.getElem_cons_succ, List.getElem_cons_zero, List.setIfInBounds_toArray, List.set_cons_zero, List.set_cons_succ]
            refine wpAnyH_all (rs := [5, 9]) (by kernel_rfl) (by simp) ?_
            intro i hi
            have hi2 : i = 5 ∨ i = 9 := by simpa using hi
            rcases hi2 with rfl | rfl
            ·
              refine o_callR rfl rfl (by kernel_rfl) (divide_r (x + 0 * 2 ^ 256) y _ HX.out.2.2 HX.out.2.1) ?_
              rintro e w1 ⟨rfl, hb⟩
              replace hS := hS.call hb
              clear hb
              refine ⟨_, rfl, hS.drop, ?_⟩
              simp only [Act.put, List.getElem_toArray, List.getElem_cons_succ, List.getElem_cons_zero, List.setIfInBounds_toArray, List.set_cons_zero, List.set_cons_succ]
              refine wpAnyH_take (i := 6) rfl (by kernel_rfl) (by kernel_rfl) (by kernel_rfl) (fun _ _ _ h => h) (y_move rfl _ (.inl rfl) rfl) hS.drop ?_; simp only [Act.put, List.getElem_toArray, List.getElem_cons_succ, List.getElem_cons_zero, List.setIfInBounds_toArray, List.set_cons_zero, List.set_cons_succ]
              refine wpAnyH_take (i := 7) rfl (by kernel_rfl) (by kernel_rfl) (by kernel_rfl) (fun _ _ _ h => h) (y_extract rfl _ 0 rfl rfl rfl) hS.drop ?_; simp only [Act.put, List.getElem_toArray, List.getElem_cons_succ, List.getElem_cons_zero, List.setIfInBounds_toArray, List.set_cons_zero, List.set_cons_succ]
              refine wpAnyH_take (i := 8) rfl (by kernel_rfl) (by kernel_rfl) (by kernel_rfl) (fun _ _ _ h => h) (y_extract rfl _ 1 rfl rfl rfl) hS.drop ?_; simp only [Act.put, List.getElem_toArray, List.getElem_cons_succ, List.getElem_cons_zero, List.setIfInBounds_toArray, List.set_cons_zero, List.set_cons_succ]
              refine wpAnyH_all (rs := [9]) (by kernel_rfl) (by simp) ?_
              intro i hi
              obtain rfl : i = 9 := by simpa using hi
              refine o_new rfl rfl 53 rfl wide_zero hS fun w1 c9 hS => ⟨hS.drop.drop, ?_⟩
              simp only [Act.put, List.getElem_toArray, List.getElem_cons_succ, List.getElem_cons_zero, List.setIfInBounds_toArray, List.set_cons_zero, List.set_cons_succ]
              replace hS := hS.swap
              refine wpAnyH_all (rs := [11]) (by kernel_rfl) (by simp) ?_
              intro i hi
              obtain rfl : i = 11 := by simpa using hi
              refine o_store (c' := dig 8 ((x + 0 * 2 ^ 256) / y)) rfl rfl hS 53 _ _ rfl rfl rfl (by repeat (first | exact Upd.head | apply Upd.tail)) wide_size (dig_size _ _) (dig_size _ _) (dig_one _ _) fun w1 hS => ⟨hS.drop.drop, ?_⟩
              simp only [Act.put, List.getElem_toArray, List.getElem_cons_succ, List.getElem_cons_zero, List.setIfInBounds_toArray, List.set_cons_zero, List.set_cons_succ]
              refine wpAnyH_all (rs := [12]) (by kernel_rfl) (by simp) ?_
              intro i hi
              obtain rfl : i = 12 := by simpa using hi
              refine o_store (c' := dig 4 (restN (x + 0 * 2 ^ 256) y)) rfl rfl hS 42 _ _ rfl rfl rfl (by repeat (first | exact Upd.head | apply Upd.tail)) limbs_size (dig_size _ _) (dig_size _ _) (dig_one _ _) fun w1 hS => ⟨hS.drop.drop, ?_⟩
              simp only [Act.put, List.getElem_toArray, List.getElem_cons_succ, List.getElem_cons_zero, List.setIfInBounds_toArray, List.set_cons_zero, List.set_cons_succ]
              refine wpAnyH_done (by kernel_rfl) ?_ _
              go_wp2_with (fail)
              go_meet
              exact ⟨_, _, rfl, rfl, hS⟩
            ·
              refine o_new rfl rfl 53 rfl wide_zero hS fun w1 c9 hS => ⟨hS.drop.drop, ?_⟩
              simp only [Act.put, List.getElem_toArray, List.getElem_cons_succ, List.getElem_cons_zero, List.setIfInBounds_toArray, List.set_cons_zero, List.set_cons_succ]
              refine wpAnyH_all (rs := [5]) (by kernel_rfl) (by simp) ?_
              intro i hi
              obtain rfl : i = 5 := by simpa using hi
              refine o_callR rfl rfl (by kernel_rfl) (divide_r (x + 0 * 2 ^ 256) y _ HX.out.2.2 HX.out.2.1) ?_
              rintro e w1 ⟨rfl, hb⟩
              replace hS := hS.call hb
              clear hb
              refine ⟨_, rfl, hS.drop.drop, ?_⟩
              simp only [Act.put, List.getElem_toArray, List.getElem_cons_succ, List.getElem_cons_zero, List.setIfInBounds_toArray, List.set_cons_zero, List.set_cons_succ]
              refine wpAnyH_take (i := 6) rfl (by kernel_rfl) (by kernel_rfl) (by kernel_rfl) (fun _ _ _ h => h) (y_move rfl _ (.inl rfl) rfl) hS.drop.drop ?_; simp only [Act.put, List.getElem_toArray, List.getElem_cons_succ, List.getElem_cons_zero, List.setIfInBounds_toArray, List.set_cons_zero, List.set_cons_succ]
              refine wpAnyH_take (i := 7) rfl (by kernel_rfl) (by kernel_rfl) (by kernel_rfl) (fun _ _ _ h => h) (y_extract rfl _ 0 rfl rfl rfl) hS.drop.drop ?_; simp only [Act.put, List.getElem_toArray, List.getElem_cons_succ, List.getElem_cons_zero, List.setIfInBounds_toArray, List.set_cons_zero, List.set_cons_succ]
              refine wpAnyH_take (i := 8) rfl (by kernel_rfl) (by kernel_rfl) (by kernel_rfl) (fun _ _ _ h => h) (y_extract rfl _ 1 rfl rfl rfl) hS.drop.drop ?_; simp only [Act.put, List.getElem_toArray, List.getElem_cons_succ, List.getElem_cons_zero, List.setIfInBounds_toArray, List.set_cons_zero, List.set_cons_succ]
              replace hS := hS.swap
              refine wpAnyH_all (rs := [11]) (by kernel_rfl) (by simp) ?_
              intro i hi
              obtain rfl : i = 11 := by simpa using hi
              refine o_store (c' := dig 8 ((x + 0 * 2 ^ 256) / y)) rfl rfl hS 53 _ _ rfl rfl rfl (by repeat (first | exact Upd.head | apply Upd.tail)) wide_size (dig_size _ _) (dig_size _ _) (dig_one _ _) fun w1 hS => ⟨hS.drop.drop, ?_⟩
              simp only [Act.put, List.getElem_toArray, List.getElem_cons_succ, List.getElem_cons_zero, List.setIfInBounds_toArray, List.set_cons_zero, List.set_cons_succ]
              refine wpAnyH_all (rs := [12]) (by kernel_rfl) (by simp) ?_
              intro i hi
              obtain rfl : i = 12 := by simpa using hi
              refine o_store (c' := dig 4 (restN (x + 0 * 2 ^ 256) y)) rfl rfl hS 42 _ _ rfl rfl rfl (by repeat (first | exact Upd.head | apply Upd.tail)) limbs_size (dig_size _ _) (dig_size _ _) (dig_one _ _) fun w1 hS => ⟨hS.drop.drop, ?_⟩
              simp only [Act.put, List.getElem_toArray, List.getElem_cons_succ, List.getElem_cons_zero, List.setIfInBounds_toArray, List.set_cons_zero, List.set_cons_succ]
              refine wpAnyH_done (by kernel_rfl) ?_ _
              go_wp2_with (fail)
              go_meet
              exact ⟨_, _, rfl, rfl, hS⟩
        ·
          refine o_new rfl rfl 53 rfl wide_zero hS fun w1 c9 hS => ⟨hS.drop, ?_⟩
          simp only [Act.put, List.getElem_toArray, List.getElem_cons_succ, List.getElem_cons_zero, List.setIfInBounds_toArray, List.set_cons_zero, List.set_cons_succ]
          refine wpAnyH_all (rs := [4, 10]) (by kernel_rfl) (by simp) ?_
          intro i hi
          have hi2 : i = 4 ∨ i = 10 := by simpa using hi
          rcases hi2 with rfl | rfl
          ·
            refine o_callR rfl rfl (by kernel_rfl) (load_any y _) ?_
            rintro e w1 ⟨rfl, hb⟩
            replace hS := hS.call hb
            clear hb
            refine ⟨_, rfl, hS.drop, ?_⟩
            simp only [Act.put, List.getElem_toArray, List.getElem_cons_succ, List.getElem_cons_zero, List.setIfInBounds_toArray, List.set_cons_zero, List.set_cons_succ]
            refine wpAnyH_all (rs := [5, 10]) (by kernel_rfl) (by simp) ?_
            intro i hi
            have hi2 : i = 5 ∨ i = 10 := by simpa using hi
            rcases hi2 with rfl | rfl
            ·
              refine o_callR rfl rfl (by kernel_rfl) (divide_r (x + 0 * 2 ^ 256) y _ HX.out.2.2 HX.out.2.1) ?_
              rintro e w1 ⟨rfl, hb⟩
              replace hS := hS.call hb
              clear hb
              refine ⟨_, rfl, hS.drop, ?_⟩
              simp only [Act.put, List.getElem_toArray, List.getElem_cons_succ, List.getElem_cons_zero, List.setIfInBounds_toArray, List.set_cons_zero, List.set_cons_succ]
              refine wpAnyH_take (i := 6) rfl (by kernel_rfl) (by kernel_rfl) (by kernel_rfl) (fun _ _ _ h => h) (y_move rfl _ (.inl rfl) rfl) hS.drop ?_; simp only [Act.put, List.getElem_toArray, List.getElem_cons_succ, List.getElem_cons_zero, List.setIfInBounds_toArray, List.set_cons_zero, List.set_cons_succ]
              refine wpAnyH_take (i := 7) rfl (by kernel_rfl) (by kernel_rfl) (by kernel_rfl) (fun _ _ _ h => h) (y_extract rfl _ 0 rfl rfl rfl) hS.drop ?_; simp only [Act.put, List.getElem_toArray, List.getElem_cons_succ, List.getElem_cons_zero, List.setIfInBounds_toArray, List.set_cons_zero, List.set_cons_succ]
              refine wpAnyH_take (i := 8) rfl (by kernel_rfl) (by kernel_rfl) (by kernel_rfl) (fun _ _ _ h => h) (y_extract rfl _ 1 rfl rfl rfl) hS.drop ?_; simp only [Act.put, List.getElem_toArray, List.getElem_cons_succ, List.getElem_cons_zero, List.setIfInBounds_toArray, List.set_cons_zero, List.set_cons_succ]
              refine wpAnyH_all (rs := [10]) (by kernel_rfl) (by simp) ?_
              intro i hi
              obtain rfl : i = 10 := by simpa using hi
              refine o_new rfl rfl 42 rfl limbs_zero hS fun w1 c10 hS => ⟨hS.drop.drop, ?_⟩
              simp only [Act.put, List.getElem_toArray, List.getElem_cons_succ, List.getElem_cons_zero, List.setIfInBounds_toArray, List.set_cons_zero, List.set_cons_succ]
              refine wpAnyH_all (rs := [11]) (by kernel_rfl) (by simp) ?_
              intro i hi
              obtain rfl : i = 11 := by simpa using hi
              refine o_store (c' := dig 8 ((x + 0 * 2 ^ 256) / y)) rfl rfl hS 53 _ _ rfl rfl rfl (by repeat (first | exact Upd.head | apply Upd.tail)) wide_size (dig_size _ _) (dig_size _ _) (dig_one _ _) fun w1 hS => ⟨hS.drop.drop, ?_⟩
              simp only [Act.put, List.getElem_toArray, List.getElem_cons_succ, List.getElem_cons_zero, List.setIfInBounds_toArray, List.set_cons_zero, List.set_cons_succ]
              refine wpAnyH_all (rs := [12]) (by kernel_rfl) (by simp) ?_
              intro i hi
              obtain rfl : i = 12 := by simpa using hi
              refine o_store (c' := dig 4 (restN (x + 0 * 2 ^ 256) y)) rfl rfl hS 42 _ _ rfl rfl rfl (by repeat (first | exact Upd.head | apply Upd.tail)) limbs_size (dig_size _ _) (dig_size _ _) (dig_one _ _) fun w1 hS => ⟨hS.drop.drop, ?_⟩
              simp only [Act.put, List.getElem_toArray, List.getElem_cons_succ, List.getElem_cons_zero, List.setIfInBounds_toArray, List.set_cons_zero, List.set_cons_succ]
              refine wpAnyH_done (by kernel_rfl) ?_ _
              go_wp2_with (fail)
              go_meet
              exact ⟨_, _, rfl, rfl, hS⟩
            ·
              refine o_new rfl rfl 42 rfl limbs_zero hS fun w1 c10 hS => ⟨hS.drop.drop, ?_⟩
              simp only [Act.put, List.getElem_toArray, List.getElem_cons_succ, List.getElem_cons_zero, List.setIfInBounds_toArray, List.set_cons_zero, List.set_cons_succ]
              refine wpAnyH_all (rs := [5]) (by kernel_rfl) (by simp) ?_
              intro i hi
              obtain rfl : i = 5 := by simpa using hi
              refine o_callR rfl rfl (by kernel_rfl) (divide_r (x + 0 * 2 ^ 256) y _ HX.out.2.2 HX.out.2.1) ?_
              rintro e w1 ⟨rfl, hb⟩
              replace hS := hS.call hb
              clear hb
              refine ⟨_, rfl, hS.drop.drop, ?_⟩
              simp only [Act.put, List.getElem_toArray, List.getElem_cons_succ, List.getElem_cons_zero, List.setIfInBounds_toArray, List.set_cons_zero, List.set_cons_succ]
              refine wpAnyH_take (i := 6) rfl (by kernel_rfl) (by kernel_rfl) (by kernel_rfl) (fun _ _ _ h => h) (y_move rfl _ (.inl rfl) rfl) hS.drop.drop ?_; simp only [Act.put, List.getElem_toArray, List.getElem_cons_succ, List.getElem_cons_zero, List.setIfInBounds_toArray, List.set_cons_zero, List.set_cons_succ]
              refine wpAnyH_take (i := 7) rfl (by kernel_rfl) (by kernel_rfl) (by kernel_rfl) (fun _ _ _ h => h) (y_extract rfl _ 0 rfl rfl rfl) hS.drop.drop ?_; simp only [Act.put, List.getElem_toArray, List.getElem_cons_succ, List.getElem_cons_zero, List.setIfInBounds_toArray, List.set_cons_zero, List.set_cons_succ]
              refine wpAnyH_take (i := 8) rfl (by kernel_rfl) (by kernel_rfl) (by kernel_rfl) (fun _ _ _ h => h) (y_extract rfl _ 1 rfl rfl rfl) hS.drop.drop ?_; simp only [Act.put, List.getElem_toArray, List.getElem_cons_succ, List.getElem_cons_zero, List.setIfInBounds_toArray, List.set_cons_zero, List.set_cons_succ]
              refine wpAnyH_all (rs := [11]) (by kernel_rfl) (by simp) ?_
              intro i hi
              obtain rfl : i = 11 := by simpa using hi
              refine o_store (c' := dig 8 ((x + 0 * 2 ^ 256) / y)) rfl rfl hS 53 _ _ rfl rfl rfl (by repeat (first | exact Upd.head | apply Upd.tail)) wide_size (dig_size _ _) (dig_size _ _) (dig_one _ _) fun w1 hS => ⟨hS.drop.drop, ?_⟩
              simp only [Act.put, List.getElem_toArray, List.getElem_cons_succ, List.getElem_cons_zero, List.setIfInBounds_toArray, List.set_cons_zero, List.set_cons_succ]
              refine wpAnyH_all (rs := [12]) (by kernel_rfl) (by simp) ?_
              intro i hi
              obtain rfl : i = 12 := by simpa using hi
              refine o_store (c' := dig 4 (restN (x + 0 * 2 ^ 256) y)) rfl rfl hS 42 _ _ rfl rfl rfl (by repeat (first | exact Upd.head | apply Upd.tail)) limbs_size (dig_size _ _) (dig_size _ _) (dig_one _ _) fun w1 hS => ⟨hS.drop.drop, ?_⟩
              simp only [Act.put, List.getElem_toArray, List.getElem_cons_succ, List.getElem_cons_zero, List.setIfInBounds_toArray, List.set_cons_zero, List.set_cons_succ]
              refine wpAnyH_done (by kernel_rfl) ?_ _
              go_wp2_with (fail)
              go_meet
              exact ⟨_, _, rfl, rfl, hS⟩
          ·
            refine o_new rfl rfl 42 rfl limbs_zero hS fun w1 c10 hS => ⟨hS.drop.drop, ?_⟩
            simp only [Act.put, List.getElem_toArray, List.getElem_cons_succ, List.getElem_cons_zero, List.setIfInBounds_toArray, List.set_cons_zero, List.set_cons_succ]
            refine wpAnyH_all (rs := [4]) (by kernel_rfl) (by simp) ?_
            intro i hi
            obtain rfl : i = 4 := by simpa using hi
            refine o_callR rfl rfl (by kernel_rfl) (load_any y _) ?_
            rintro e w1 ⟨rfl, hb⟩
            replace hS := hS.call hb
            clear hb
            refine ⟨_, rfl, hS.drop.drop, ?_⟩
            simp only [Act.put, List.getElem_toArray, List.getElem_cons_succ, List.getElem_cons_zero, List.setIfInBounds_toArray, List.set_cons_zero, List.set_cons_succ]
            refine wpAnyH_all (rs := [5]) (by kernel_rfl) (by simp) ?_
            intro i hi
            obtain rfl : i = 5 := by simpa using hi
            refine o_callR rfl rfl (by kernel_rfl) (divide_r (x + 0 * 2 ^ 256) y _ HX.out.2.2 HX.out.2.1) ?_
            rintro e w1 ⟨rfl, hb⟩
            replace hS := hS.call hb
            clear hb
            refine ⟨_, rfl, hS.drop.drop, ?_⟩
            simp only [Act.put, List.getElem_toArray, List.getElem_cons_succ, List.getElem_cons_zero, List.setIfInBounds_toArray, List.set_cons_zero, List.set_cons_succ]
            refine wpAnyH_take (i := 6) rfl (by kernel_rfl) (by kernel_rfl) (by kernel_rfl) (fun _ _ _ h => h) (y_move rfl _ (.inl rfl) rfl) hS.drop.drop ?_; simp only [Act.put, List.getElem_toArray, List.getElem_cons_succ, List.getElem_cons_zero, List.setIfInBounds_toArray, List.set_cons_zero, List.set_cons_succ]
            refine wpAnyH_take (i := 7) rfl (by kernel_rfl) (by kernel_rfl) (by kernel_rfl) (fun _ _ _ h => h) (y_extract rfl _ 0 rfl rfl rfl) hS.drop.drop ?_; simp only [Act.put, List.getElem_toArray, List.getElem_cons_succ, List.getElem_cons_zero, List.setIfInBounds_toArray, List.set_cons_zero, List.set_cons_succ]
            refine wpAnyH_take (i := 8) rfl (by kernel_rfl) (by kernel_rfl) (by kernel_rfl) (fun _ _ _ h => h) (y_extract rfl _ 1 rfl rfl rfl) hS.drop.drop ?_; simp only [Act.put, List.getElem_toArray, List.getElem_cons_succ, List.getElem_cons_zero, List.setIfInBounds_toArray, List.set_cons_zero, List.set_cons_succ]
            refine wpAnyH_all (rs := [11]) (by kernel_rfl) (by simp) ?_
            intro i hi
            obtain rfl : i = 11 := by simpa using hi
            refine o_store (c' := dig 8 ((x + 0 * 2 ^ 256) / y)) rfl rfl hS 53 _ _ rfl rfl rfl (by repeat (first | exact Upd.head | apply Upd.tail)) wide_size (dig_size _ _) (dig_size _ _) (dig_one _ _) fun w1 hS => ⟨hS.drop.drop, ?_⟩
            simp only [Act.put, List.getElem_toArray, List.getElem_cons_succ, List.getElem_cons_zero, List.setIfInBounds_toArray, List.set_cons_zero, List.set_cons_succ]
            refine wpAnyH_all (rs := [12]) (by kernel_rfl) (by simp) ?_
            intro i hi
            obtain rfl : i = 12 := by simpa using hi
            refine o_store (c' := dig 4 (restN (x + 0 * 2 ^ 256) y)) rfl rfl hS 42 _ _ rfl rfl rfl (by repeat (first | exact Upd.head | apply Upd.tail)) limbs_size (dig_size _ _) (dig_size _ _) (dig_one _ _) fun w1 hS => ⟨hS.drop.drop, ?_⟩
            simp only [Act.put, List.getElem_toArray, List.getElem_cons_succ, List.getElem_cons_zero, List.setIfInBounds_toArray, List.set_cons_zero, List.set_cons_succ]
            refine wpAnyH_done (by kernel_rfl) ?_ _
            go_wp2_with (fail)
            go_meet
            exact ⟨_, _, rfl, rfl, hS⟩
        ·
          refine o_new rfl rfl 42 rfl limbs_zero hS fun w1 c10 hS => ⟨hS.drop, ?_⟩
          simp only [Act.put, List.getElem_toArray, List.getElem_cons_succ, List.getElem_cons_zero, List.setIfInBounds_toArray, List.set_cons_zero, List.set_cons_succ]
          refine wpAnyH_all (rs := [4, 9]) (by kernel_rfl) (by simp) ?_
          intro i hi
          have hi2 : i = 4 ∨ i = 9 := by simpa using hi
          rcases hi2 with rfl | rfl
          ·
            refine o_callR rfl rfl (by kernel_rfl) (load_any y _) ?_
            rintro e w1 ⟨rfl, hb⟩
            replace hS := hS.call hb
            clear hb
            refine ⟨_, rfl, hS.drop, ?_⟩
            simp only [Act.put, List.getElem_toArray, List.getElem_cons_succ, List.getElem_cons_zero, List.setIfInBounds_toArray, List.set_cons_zero, List.set_cons_succ]
            refine wpAnyH_all (rs := [5, 9]) (by kernel_rfl) (by simp) ?_
            intro i hi
            have hi2 : i = 5 ∨ i = 9 := by simpa using hi
            rcases hi2 with rfl | rfl
            ·
              refine o_callR rfl rfl (by kernel_rfl) (divide_r (x + 0 * 2 ^ 256) y _ HX.out.2.2 HX.out.2.1) ?_
              rintro e w1 ⟨rfl, hb⟩
              replace hS := hS.call hb
              clear hb
              refine ⟨_, rfl, hS.drop, ?_⟩
              simp only [Act.put, List.getElem_toArray, List.getElem_cons_succ, List.getElem_cons_zero, List.setIfInBounds_toArray, List.set_cons_zero, List.set_cons_succ]
              refine wpAnyH_take (i := 6) rfl (by kernel_rfl) (by kernel_rfl) (by kernel_rfl) (fun _ _ _ h => h) (y_move rfl _ (.inl rfl) rfl) hS.drop ?_; simp only [Act.put, List.getElem_toArray, List.getElem_cons_succ, List.getElem_cons_zero, List.setIfInBounds_toArray, List.set_cons_zero, List.set_cons_succ]
              refine wpAnyH_take (i := 7) rfl (by kernel_rfl) (by kernel_rfl) (by kernel_rfl) (fun _ _ _ h => h) (y_extract rfl _ 0 rfl rfl rfl) hS.drop ?_; simp only [Act.put, List.getElem_toArray, List.getElem_cons_succ, List.getElem_cons_zero, List.setIfInBounds_toArray, List.set_cons_zero, List.set_cons_succ]
              refine wpAnyH_take (i := 8) rfl (by kernel_rfl) (by kernel_rfl) (by kernel_rfl) (fun _ _ _ h => h) (y_extract rfl _ 1 rfl rfl rfl) hS.drop ?_; simp only [Act.put, List.getElem_toArray, List.getElem_cons_succ, List.getElem_cons_zero, List.setIfInBounds_toArray, List.set_cons_zero, List.set_cons_succ]
              refine wpAnyH_all (rs := [9]) (by kernel_rfl) (by simp) ?_
              intro i hi
              obtain rfl : i = 9 := by simpa using hi
              refine o_new rfl rfl 53 rfl wide_zero hS fun w1 c9 hS => ⟨hS.drop.drop, ?_⟩
              simp only [Act.put, List.getElem_toArray, List.getElem_cons_succ, List.getElem_cons_zero, List.setIfInBounds_toArray, List.set_cons_zero, List.set_cons_succ]
              replace hS := hS.swap
              refine wpAnyH_all (rs := [11]) (by kernel_rfl) (by simp) ?_
              intro i hi
              obtain rfl : i = 11 := by simpa using hi
              refine o_store (c' := dig 8 ((x + 0 * 2 ^ 256) / y)) rfl rfl hS 53 _ _ rfl rfl rfl (by repeat (first | exact Upd.head | apply Upd.tail)) wide_size (dig_size _ _) (dig_size _ _) (dig_one _ _) fun w1 hS => ⟨hS.drop.drop, ?_⟩
              simp only [Act.put, List.getElem_toArray, List.getElem_cons_succ, List.getElem_cons_zero, List.setIfInBounds_toArray, List.set_cons_zero, List.set_cons_succ]
              refine wpAnyH_all (rs := [12]) (by kernel_rfl) (by simp) ?_
              intro i hi
              obtain rfl : i = 12 := by simpa using hi
              refine o_store (c' := dig 4 (restN (x + 0 * 2 ^ 256) y)) rfl rfl hS 42 _ _ rfl rfl rfl (by repeat (first | exact Upd.head | apply Upd.tail)) limbs_size (dig_size _ _) (dig_size _ _) (dig_one _ _) fun w1 hS => ⟨hS.drop.drop, ?_⟩
              simp only [Act.put, List.getElem_toArray, List.getElem_cons_succ, List.getElem_cons_zero, List.setIfInBounds_toArray, List.set_cons_zero, List.set_cons_succ]
              refine wpAnyH_done (by kernel_rfl) ?_ _
              go_wp2_with (fail)
              go_meet
              exact ⟨_, _, rfl, rfl, hS⟩
            ·
              refine o_new rfl rfl 53 rfl wide_zero hS fun w1 c9 hS => ⟨hS.drop.drop, ?_⟩
              simp only [Act.put, List.getElem_toArray, List.getElem_cons_succ, List.getElem_cons_zero, List.setIfInBounds_toArray, List.set_cons_zero, List.set_cons_succ]
              refine wpAnyH_all (rs := [5]) (by kernel_rfl) (by simp) ?_
              intro i hi
              obtain rfl : i = 5 := by simpa using hi
              refine o_callR rfl rfl (by kernel_rfl) (divide_r (x + 0 * 2 ^ 256) y _ HX.out.2.2 HX.out.2.1) ?_
              rintro e w1 ⟨rfl, hb⟩
              replace hS := hS.call hb
              clear hb
              refine ⟨_, rfl, hS.drop.drop, ?_⟩
              simp only [Act.put, List.getElem_toArray, List.getElem_cons_succ, List.getElem_cons_zero, List.setIfInBounds_toArray, List.set_cons_zero, List.set_cons_succ]
              refine wpAnyH_take (i := 6) rfl (by kernel_rfl) (by kernel_rfl) (by kernel_rfl) (fun _ _ _ h => h) (y_move rfl _ (.inl rfl) rfl) hS.drop.drop ?_; simp only [Act.put, List.getElem_toArray, List.getElem_cons_succ, List.getElem_cons_zero, List.setIfInBounds_toArray, List.set_cons_zero, List.set_cons_succ]
              refine wpAnyH_take (i := 7) rfl (by kernel_rfl) (by kernel_rfl) (by kernel_rfl) (fun _ _ _ h => h) (y_extract rfl _ 0 rfl rfl rfl) hS.drop.drop ?_; simp only [Act.put, List.getElem_toArray, List.getElem_cons_succ, List.getElem_cons_zero, List.setIfInBounds_toArray, List.set_cons_zero, List.set_cons_succ]
              refine wpAnyH_take (i := 8) rfl (by kernel_rfl) (by kernel_rfl) (by kernel_rfl) (fun _ _ _ h => h) (y_extract rfl _ 1 rfl rfl rfl) hS.drop.drop ?_; simp only [Act.put, List.getElem_toArray, List.getElem_cons_succ, List.getElem_cons_zero, List.setIfInBounds_toArray, List.set_cons_zero, List.set_cons_succ]
              replace hS := hS.swap
              refine wpAnyH_all (rs := [11]) (by kernel_rfl) (by simp) ?_
              intro i hi
              obtain rfl : i = 11 := by simpa using hi
              refine o_store (c' := dig 8 ((x + 0 * 2 ^ 256) / y)) rfl rfl hS 53 _ _ rfl rfl rfl (by repeat (first | exact Upd.head | apply Upd.tail)) wide_size (dig_size _ _) (dig_size _ _) (dig_one _ _) fun w1 hS => ⟨hS.drop.drop, ?_⟩
              simp only [Act.put, List.getElem_toArray, List.getElem_cons_succ, List.getElem_cons_zero, List.setIfInBounds_toArray, List.set_cons_zero, List.set_cons_succ]
              refine wpAnyH_all (rs := [12]) (by kernel_rfl) (by simp) ?_
              intro i hi
              obtain rfl : i = 12 := by simpa using hi
              refine o_store (c' := dig 4 (restN (x + 0 * 2 ^ 256) y)) rfl rfl hS 42 _ _ rfl rfl rfl (by repeat (first | exact Upd.head | apply Upd.tail)) limbs_size (dig_size _ _) (dig_size _ _) (dig_one _ _) fun w1 hS => ⟨hS.drop.drop, ?_⟩
              simp only [Act.put, List.getElem_toArray, List.getElem_cons_succ, List.getElem_cons_zero, List.setIfInBounds_toArray, List.set_cons_zero, List.set_cons_succ]
              refine wpAnyH_done (by kernel_rfl) ?_ _
              go_wp2_with (fail)
              go_meet
              exact ⟨_, _, rfl, rfl, hS⟩
          ·
            refine o_new rfl rfl 53 rfl wide_zero hS fun w1 c9 hS => ⟨hS.drop.drop, ?_⟩
            simp only [Act.put, List.getElem_toArray, List.getElem_cons_succ, List.getElem_cons_zero, List.setIfInBounds_toArray, List.set_cons_zero, List.set_cons_succ]
            refine wpAnyH_all (rs := [4]) (by kernel_rfl) (by simp) ?_
            intro i hi
            obtain rfl : i = 4 := by simpa using hi
            refine o_callR rfl rfl (by kernel_rfl) (load_any y _) ?_
            rintro e w1 ⟨rfl, hb⟩
            replace hS := hS.call hb
            clear hb
            refine ⟨_, rfl, hS.drop.drop, ?_⟩
            simp only [Act.put, List.getElem_toArray, List.getElem_cons_succ, List.getElem_cons_zero, List.setIfInBounds_toArray, List.set_cons_zero, List.set_cons_succ]
            refine wpAnyH_all (rs := [5]) (by kernel_rfl) (by simp) ?_
            intro i hi
            obtain rfl : i = 5 := by simpa using hi
            refine o_callR rfl rfl (by kernel_rfl) (divide_r (x + 0 * 2 ^ 256) y _ HX.out.2.2 HX.out.2.1) ?_
            rintro e w1 ⟨rfl, hb⟩
            replace hS := hS.call hb
            clear hb
            refine ⟨_, rfl, hS.drop.drop, ?_⟩
            simp only [Act.put, List.getElem_toArray, List.getElem_cons_succ, List.getElem_cons_zero, List.setIfInBounds_toArray, List.set_cons_zero, List.set_cons_succ]
            refine wpAnyH_take (i := 6) rfl (by kernel_rfl) (by kernel_rfl) (by kernel_rfl) (fun _ _ _ h => h) (y_move rfl _ (.inl rfl) rfl) hS.drop.drop ?_; simp only [Act.put, List.getElem_toArray, List.getElem_cons_succ, List.getElem_cons_zero, List.setIfInBounds_toArray, List.set_cons_zero, List.set_cons_succ]
            refine wpAnyH_take (i := 7) rfl (by kernel_rfl) (by kernel_rfl) (by kernel_rfl) (fun _ _ _ h => h) (y_extract rfl _ 0 rfl rfl rfl) hS.drop.drop ?_; simp only [Act.put, List.getElem_toArray, List.getElem_cons_succ, List.getElem_cons_zero, List.setIfInBounds_toArray, List.set_cons_zero, List.set_cons_succ]
            refine wpAnyH_take (i := 8) rfl (by kernel_rfl) (by kernel_rfl) (by kernel_rfl) (fun _ _ _ h => h) (y_extract rfl _ 1 rfl rfl rfl) hS.drop.drop ?_; simp only [Act.put, List.getElem_toArray, List.getElem_cons_succ, List.getElem_cons_zero, List.setIfInBounds_toArray, List.set_cons_zero, List.set_cons_succ]
            replace hS := hS.swap
            refine wpAnyH_all (rs := [11]) (by kernel_rfl) (by simp) ?_
            intro i hi
            obtain rfl : i = 11 := by simpa using hi
            refine o_store (c' := dig 8 ((x + 0 * 2 ^ 256) / y)) rfl rfl hS 53 _ _ rfl rfl rfl (by repeat (first | exact Upd.head | apply Upd.tail)) wide_size (dig_size _ _) (dig_size _ _) (dig_one _ _) fun w1 hS => ⟨hS.drop.drop, ?_⟩
            simp only [Act.put, List.getElem_toArray, List.getElem_cons_succ, List.getElem_cons_zero, List.setIfInBounds_toArray, List.set_cons_zero, List.set_cons_succ]
            refine wpAnyH_all (rs := [12]) (by kernel_rfl) (by simp) ?_
            intro i hi
            obtain rfl : i = 12 := by simpa using hi
            refine o_store (c' := dig 4 (restN (x + 0 * 2 ^ 256) y)) rfl rfl hS 42 _ _ rfl rfl rfl (by repeat (first | exact Upd.head | apply Upd.tail)) limbs_size (dig_size _ _) (dig_size _ _) (dig_one _ _) fun w1 hS => ⟨hS.drop.drop, ?_⟩
            simp only [Act.put, List.getElem_toArray, List.getElem_cons_succ, List.getElem_cons_zero, List.setIfInBounds_toArray, List.set_cons_zero, List.set_cons_succ]
            refine wpAnyH_done (by kernel_rfl) ?_ _
            go_wp2_with (fail)
            go_meet
            exact ⟨_, _, rfl, rfl, hS⟩
      ·
        refine o_new rfl rfl 53 rfl wide_zero hS fun w1 c9 hS => ⟨hS.drop, ?_⟩
        simp only [Act.put, List.getElem_toArray, List.getElem_cons_succ, List.getElem_cons_zero, List.setIfInBounds_toArray, List.set_cons_zero, List.set_cons_succ]
        refine wpAnyH_all (rs := [2, 10]) (by kernel_rfl) (by simp) ?_
        intro i hi
        have hi2 : i = 2 ∨ i = 10 := by simpa using hi
        rcases hi2 with rfl | rfl
        ·
          refine o_callR rfl rfl (by kernel_rfl) (wide_any x 0 _ HX.out.1 (by decide)) ?_
          rintro e w1 ⟨rfl, hb⟩
          replace hS := hS.call hb
          clear hb
          refine ⟨_, rfl, hS.drop, ?_⟩
          simp only [Act.put, List.getElem_toArray, List.getElem_cons_succ, List.getElem_cons_zero, List.setIfInBounds_toArray, List.set_cons_zero, List.set_cons_succ]
          refine wpAnyH_all (rs := [4, 10]) (by kernel_rfl) (by simp) ?_
          intro i hi
          have hi2 : i = 4 ∨ i = 10 := by simpa using hi
          rcases hi2 with rfl | rfl
          ·
            refine o_callR rfl rfl (by kernel_rfl) (load_any y _) ?_
            rintro e w1 ⟨rfl, hb⟩
            replace hS := hS.call hb
            clear hb
            refine ⟨_, rfl, hS.drop, ?_⟩
            simp only [Act.put, List.getElem_toArray, List.getElem_cons_succ, List.getElem_cons_zero, List.setIfInBounds_toArray, List.set_cons_zero, List.set_cons_succ]
            refine wpAnyH_all (rs := [5, 10]) (by kernel_rfl) (by simp) ?_
            intro i hi
            have hi2 : i = 5 ∨ i = 10 := by simpa using hi
            rcases hi2 with rfl | rfl
            ·
              refine o_callR rfl rfl (by kernel_rfl) (divide_r (x + 0 * 2 ^ 256) y _ HX.out.2.2 HX.out.2.1) ?_
              rintro e w1 ⟨rfl, hb⟩
              replace hS := hS.call hb
              clear hb
              refine ⟨_, rfl, hS.drop, ?_⟩
              simp only [Act.put, List.getElem_toArray, List.getElem_cons_succ, List.getElem_cons_zero, List.setIfInBounds_toArray, List.set_cons_zero, List.set_cons_succ]
              refine wpAnyH_take (i := 6) rfl (by kernel_rfl) (by kernel_rfl) (by kernel_rfl) (fun _ _ _ h => h) (y_move rfl _ (.inl rfl) rfl) hS.drop ?_; simp only [Act.put, List.getElem_toArray, List.getElem_cons_succ, List.getElem_cons_zero, List.setIfInBounds_toArray, List.set_cons_zero, List.set_cons_succ]
              refine wpAnyH_take (i := 7) rfl (by kernel_rfl) (by kernel_rfl) (by kernel_rfl) (fun _ _ _ h => h) (y_extract rfl _ 0 rfl rfl rfl) hS.drop ?_; simp only [Act.put, List.getElem_toArray, List.getElem_cons_succ, List.getElem_cons_zero, List.setIfInBounds_toArray, List.set_cons_zero, List.set_cons_succ]
              refine wpAnyH_take (i := 8) rfl (by kernel_rfl) (by kernel_rfl) (by kernel_rfl) (fun _ _ _ h => h) (y_extract rfl _ 1 rfl rfl rfl) hS.drop ?_; simp only [Act.put, List.getElem_toArray, List.getElem_cons_succ, List.getElem_cons_zero, List.setIfInBounds_toArray, List.set_cons_zero, List.set_cons_succ]
              refine wpAnyH_all (rs := [10]) (by kernel_rfl) (by simp) ?_
              intro i hi
              obtain rfl : i = 10 := by simpa using hi
              refine o_new rfl rfl 42 rfl limbs_zero hS fun w1 c10 hS => ⟨hS.drop.drop, ?_⟩
              simp only [Act.put, List.getElem_toArray, List.getElem_cons_succ, List.getElem_cons_zero, List.setIfInBounds_toArray, List.set_cons_zero, List.set_cons_succ]
              refine wpAnyH_all (rs := [11]) (by kernel_rfl) (by simp) ?_
              intro i hi
              obtain rfl : i = 11 := by simpa using hi
              refine o_store (c' := dig 8 ((x + 0 * 2 ^ 256) / y)) rfl rfl hS 53 _ _ rfl rfl rfl (by repeat (first | exact Upd.head | apply Upd.tail)) wide_size (dig_size _ _) (dig_size _ _) (dig_one _ _) fun w1 hS => ⟨hS.drop.drop, ?_⟩
              simp only [Act.put, List.getElem_toArray, List.getElem_cons_succ, List.getElem_cons_zero, List.setIfInBounds_toArray, List.set_cons_zero, List.set_cons_succ]
              refine wpAnyH_all (rs := [12]) (by kernel_rfl) (by simp) ?_
              intro i hi
              obtain rfl : i = 12 := by simpa using hi
              refine o_store (c' := dig 4 (restN (x + 0 * 2 ^ 256) y)) rfl rfl hS 42 _ _ rfl rfl rfl (by repeat (first | exact Upd.head | apply Upd.tail)) limbs_size (dig_size _ _) (dig_size _ _) (dig_one _ _) fun w1 hS => ⟨hS.drop.drop, ?_⟩
              simp only [Act.put, List.getElem_toArray, List.getElem_cons_succ, List.getElem_cons_zero, List.setIfInBounds_toArray, List.set_cons_zero, List.set_cons_succ]
              refine wpAnyH_done (by kernel_rfl) ?_ _
              go_wp2_with (fail)
              go_meet
              exact ⟨_, _, rfl, rfl, hS⟩
            ·
              refine o_new rfl rfl 42 rfl limbs_zero hS fun w1 c10 hS => ⟨hS.drop.drop, ?_⟩
              simp only [Act.put, List.getElem_toArray, List.getElem_cons_succ, List.getElem_cons_zero, List.setIfInBounds_toArray, List.set_cons_zero, List.set_cons_succ]
              refine wpAnyH_all (rs := [5]) (by kernel_rfl) (by simp) ?_
              intro i hi
              obtain rfl : i = 5 := by simpa using hi
              refine o_callR rfl rfl (by kernel_rfl) (divide_r (x + 0 * 2 ^ 256) y _ HX.out.2.2 HX.out.2.1) ?_
              rintro e w1 ⟨rfl, hb⟩
              replace hS := hS.call hb
              clear hb
              refine ⟨_, rfl, hS.drop.drop, ?_⟩
              simp only [Act.put, List.getElem_toArray, List.getElem_cons_succ, List.getElem_cons_zero, List.setIfInBounds_toArray, List.set_cons_zero, List.set_cons_succ]
              refine wpAnyH_take (i := 6) rfl (by kernel_rfl) (by kernel_rfl) (by kernel_rfl) (fun _ _ _ h => h) (y_move rfl _ (.inl rfl) rfl) hS.drop.drop ?_; simp only [Act.put, List.getElem_toArray, List.getElem_cons_succ, List.getElem_cons_zero, List.setIfInBounds_toArray, List.set_cons_zero, List.set_cons_succ]
              refine wpAnyH_take (i := 7) rfl (by kernel_rfl) (by kernel_rfl) (by kernel_rfl) (fun _ _ _ h => h) (y_extract rfl _ 0 rfl rfl rfl) hS.drop.drop ?_; simp only [Act.put, List.getElem_toArray, List.getElem_cons_succ, List.getElem_cons_zero, List.setIfInBounds_toArray, List.set_cons_zero, List.set_cons_succ]
              refine wpAnyH_take (i := 8) rfl (by kernel_rfl) (by kernel_rfl) (by kernel_rfl) (fun _ _ _ h => h) (y_extract rfl _ 1 rfl rfl rfl) hS.drop.drop ?_; simp only [Act.put, List.getElem_toArray, List.getElem_cons_succ, List.getElem_cons_zero, List.setIfInBounds_toArray, List.set_cons_zero, List.set_cons_succ]
              refine wpAnyH_all (rs := [11]) (by kernel_rfl) (by simp) ?_
              intro i hi
              obtain rfl : i = 11 := by simpa using hi
              refine o_store (c' := dig 8 ((x + 0 * 2 ^ 256) / y)) rfl rfl hS 53 _ _ rfl rfl rfl (by repeat (first | exact Upd.head | apply Upd.tail)) wide_size (dig_size _ _) (dig_size _ _) (dig_one _ _) fun w1 hS => ⟨hS.drop.drop, ?_⟩
              simp only [Act.put, List.getElem_toArray, List.getElem_cons_succ, List.getElem_cons_zero, List.setIfInBounds_toArray, List.set_cons_zero, List.set_cons_succ]
              refine wpAnyH_all (rs := [12]) (by kernel_rfl) (by simp) ?_
              intro i hi
              obtain rfl : i = 12 := by simpa using hi
              refine o_store (c' := dig 4 (restN (x + 0 * 2 ^ 256) y)) rfl rfl hS 42 _ _ rfl rfl rfl (by repeat (first | exact Upd.head | apply Upd.tail)) limbs_size (dig_size _ _) (dig_size _ _) (dig_one _ _) fun w1 hS => ⟨hS.drop.drop, ?_⟩
              simp only [Act.put, List.getElem_toArray, List.getElem_cons_succ, List.getElem_cons_zero, List.setIfInBounds_toArray, List.set_cons_zero, List.set_cons_succ]
              refine wpAnyH_done (by kernel_rfl) ?_ _
              go_wp2_with (fail)
              go_meet
              exact ⟨_, _, rfl, rfl, hS⟩
          ·
            refine o_new rfl rfl 42 rfl limbs_zero hS fun w1 c10 hS => ⟨hS.drop.drop, ?_⟩
            simp only [Act.put, List.getElem_toArray, List.getElem_cons_succ, List.getElem_cons_zero, List.setIfInBounds_toArray, List.set_cons_zero, List.set_cons_succ]
            refine wpAnyH_all (rs := [4]) (by kernel_rfl) (by simp) ?_
            intro i hi
            obtain rfl : i = 4 := by simpa using hi
            refine o_callR rfl rfl (by kernel_rfl) (load_any y _) ?_
            rintro e w1 ⟨rfl, hb⟩
            replace hS := hS.call hb
            clear hb
            refine ⟨_, rfl, hS.drop.drop, ?_⟩
            simp only [Act.put, List.getElem_toArray, List.getElem_cons_succ, List.getElem_cons_zero, List.setIfInBounds_toArray, List.set_cons_zero, List.set_cons_succ]
            refine wpAnyH_all (rs := [5]) (by kernel_rfl) (by simp) ?_
            intro i hi
            obtain rfl : i = 5 := by simpa using hi
            refine o_callR rfl rfl (by kernel_rfl) (divide_r (x + 0 * 2 ^ 256) y _ HX.out.2.2 HX.out.2.1) ?_
            rintro e w1 ⟨rfl, hb⟩
            replace hS := hS.call hb
            clear hb
            refine ⟨_, rfl, hS.drop.drop, ?_⟩
            simp only [Act.put, List.getElem_toArray, List.getElem_cons_succ, List.getElem_cons_zero, List.setIfInBounds_toArray, List.set_cons_zero, List.set_cons_succ]
            refine wpAnyH_take (i := 6) rfl (by kernel_rfl) (by kernel_rfl) (by kernel_rfl) (fun _ _ _ h => h) (y_move rfl _ (.inl rfl) rfl) hS.drop.drop ?_; simp only [Act.put, List.getElem_toArray, List.getElem_cons_succ, List.getElem_cons_zero, List.setIfInBounds_toArray, List.set_cons_zero, List.set_cons_succ]
            refine wpAnyH_take (i := 7) rfl (by kernel_rfl) (by kernel_rfl) (by kernel_rfl) (fun _ _ _ h => h) (y_extract rfl _ 0 rfl rfl rfl) hS.drop.drop ?_; simp only [Act.put, List.getElem_toArray, List.getElem_cons_succ, List.getElem_cons_zero, List.setIfInBounds_toArray, List.set_cons_zero, List.set_cons_succ]
            refine wpAnyH_take (i := 8) rfl (by kernel_rfl) (by kernel_rfl) (by kernel_rfl) (fun _ _ _ h => h) (y_extract rfl _ 1 rfl rfl rfl) hS.drop.drop ?_; simp only [Act.put, List.getElem_toArray, List.getElem_cons_succ, List.getElem_cons_zero, List.setIfInBounds_toArray, List.set_cons_zero, List.set_cons_succ]
            refine wpAnyH_all (rs := [11]) (by kernel_rfl) (by simp) ?_
            intro i hi
            obtain rfl : i = 11 := by simpa using hi
            refine o_store (c' := dig 8 ((x + 0 * 2 ^ 256) / y)) rfl rfl hS 53 _ _ rfl rfl rfl (by repeat (first | exact Upd.head | apply Upd.tail)) wide_size (dig_size _ _) (dig_size _ _) (dig_one _ _) fun w1 hS => ⟨hS.drop.drop, ?_⟩
            simp only [Act.put, List.getElem_toArray, List.getElem_cons_succ, List.getElem_cons_zero, List.setIfInBounds_toArray, List.set_cons_zero, List.set_cons_succ]
            refine wpAnyH_all (rs := [12]) (by kernel_rfl) (by simp) ?_
            intro i hi
            obtain rfl : i = 12 := by simpa using hi
            refine o_store (c' := dig 4 (restN (x + 0 * 2 ^ 256) y)) rfl rfl hS 42 _ _ rfl rfl rfl (by repeat (first | exact Upd.head | apply Upd.tail)) limbs_size (dig_size _ _) (dig_size _ _) (dig_one _ _) fun w1 hS => ⟨hS.drop.drop, ?_⟩
            simp only [Act.put, List.getElem_toArray, List.getElem_cons_succ, List.getElem_cons_zero, List.setIfInBounds_toArray, List.set_cons_zero, List.set_cons_succ]
            refine wpAnyH_done (by kernel_rfl) ?_ _
            go_wp2_with (fail)
            go_meet
            exact ⟨_, _, rfl, rfl, hS⟩
        ·
          refine o_new rfl rfl 42 rfl limbs_zero hS fun w1 c10 hS => ⟨hS.drop.drop, ?_⟩
          simp only [Act.put, List.getElem_toArray, List.getElem_cons_succ, List.getElem_cons_zero, List.setIfInBounds_toArray, List.set_cons_zero, List.set_cons_succ]
          refine wpAnyH_all (rs := [2]) (by kernel_rfl) (by simp) ?_
          intro i hi
          obtain rfl : i = 2 := by simpa using hi
          refine o_callR rfl rfl (by kernel_rfl) (wide_any x 0 _ HX.out.1 (by decide)) ?_
          rintro e w1 ⟨rfl, hb⟩
          replace hS := hS.call hb
          clear hb
          refine ⟨_, rfl, hS.drop.drop, ?_⟩
          simp only [Act.put, List.getElem_toArray, List.getElem_cons_succ, List.getElem_cons_zero, List.setIfInBounds_toArray, List.set_cons_zero, List.set_cons_succ]
          refine wpAnyH_all (rs := [4]) (by kernel_rfl) (by simp) ?_
          intro i hi
          obtain rfl : i = 4 := by simpa using hi
          refine o_callR rfl rfl (by kernel_rfl) (load_any y _) ?_
          rintro e w1 ⟨rfl, hb⟩
          replace hS := hS.call hb
          clear hb
          refine ⟨_, rfl, hS.drop.drop, ?_⟩
          simp only [Act.put, List.getElem_toArray, List.getElem_cons_succ, List.getElem_cons_zero, List.setIfInBounds_toArray, List.set_cons_zero, List.set_cons_succ]
          refine wpAnyH_all (rs := [5]) (by kernel_rfl) (by simp) ?_
          intro i hi
          obtain rfl : i = 5 := by simpa using hi
          refine o_callR rfl rfl (by kernel_rfl) (divide_r (x + 0 * 2 ^ 256) y _ HX.out.2.2 HX.out.2.1) ?_
          rintro e w1 ⟨rfl, hb⟩
          replace hS := hS.call hb
          clear hb
          refine ⟨_, rfl, hS.drop.drop, ?_⟩
          simp only [Act.put, List.getElem_toArray, List.getElem_cons_succ, List.getElem_cons_zero, List.setIfInBounds_toArray, List.set_cons_zero, List.set_cons_succ]
          refine wpAnyH_take (i := 6) rfl (by kernel_rfl) (by kernel_rfl) (by kernel_rfl) (fun _ _ _ h => h) (y_move rfl _ (.inl rfl) rfl) hS.drop.drop ?_; simp only [Act.put, List.getElem_toArray, List.getElem_cons_succ, List.getElem_cons_zero, List.setIfInBounds_toArray, List.set_cons_zero, List.set_cons_succ]
          refine wpAnyH_take (i := 7) rfl (by kernel_rfl) (by kernel_rfl) (by kernel_rfl) (fun _ _ _ h => h) (y_extract rfl _ 0 rfl rfl rfl) hS.drop.drop ?_; simp only [Act.put, List.getElem_toArray, List.getElem_cons_succ, List.getElem_cons_zero, List.setIfInBounds_toArray, List.set_cons_zero, List.set_cons_succ]
          refine wpAnyH_take (i := 8) rfl (by kernel_rfl) (by kernel_rfl) (by kernel_rfl) (fun _ _ _ h => h) (y_extract rfl _ 1 rfl rfl rfl) hS.drop.drop ?_; simp only [Act.put, List.getElem_toArray, List.getElem_cons_succ, List.getElem_cons_zero, List.setIfInBounds_toArray, List.set_cons_zero, List.set_cons_succ]
          refine wpAnyH_all (rs := [11]) (by kernel_rfl) (by simp) ?_
          intro i hi
          obtain rfl : i = 11 := by simpa using hi
          refine o_store (c' := dig 8 ((x + 0 * 2 ^ 256) / y)) rfl rfl hS 53 _ _ rfl rfl rfl (by repeat (first | exact Upd.head | apply Upd.tail)) wide_size (dig_size _ _) (dig_size _ _) (dig_one _ _) fun w1 hS => ⟨hS.drop.drop, ?_⟩
          simp only [Act.put, List.getElem_toArray, List.getElem_cons_succ, List.getElem_cons_zero, List.setIfInBounds_toArray, List.set_cons_zero, List.set_cons_succ]
          refine wpAnyH_all (rs := [12]) (by kernel_rfl) (by simp) ?_
          intro i hi
          obtain rfl : i = 12 := by simpa using hi
          refine o_store (c' := dig 4 (restN (x + 0 * 2 ^ 256) y)) rfl rfl hS 42 _ _ rfl rfl rfl (by repeat (first | exact Upd.head | apply Upd.tail)) limbs_size (dig_size _ _) (dig_size _ _) (dig_one _ _) fun w1 hS => ⟨hS.drop.drop, ?_⟩
          simp only [Act.put, List.getElem_toArray, List.getElem_cons_succ, List.getElem_cons_zero, List.setIfInBounds_toArray, List.set_cons_zero, List.set_cons_succ]
          refine wpAnyH_done (by kernel_rfl) ?_ _
          go_wp2_with (fail)
          go_meet
          exact ⟨_, _, rfl, rfl, hS⟩
      ·
        refine o_new rfl rfl 42 rfl limbs_zero hS fun w1 c10 hS => ⟨hS.drop, ?_⟩
        simp only [Act.put, List.getElem_toArray, List.getElem_cons_succ, List.getElem_cons_zero, List.setIfInBounds_toArray, List.set_cons_zero, List.set_cons_succ]
        refine wpAnyH_all (rs := [2, 9]) (by kernel_rfl) (by simp) ?_
        intro i hi
        have hi2 : i = 2 ∨ i = 9 := by simpa using hi
        rcases hi2 with rfl | rfl
        ·
          refine o_callR rfl rfl (by kernel_rfl) (wide_any x 0 _ HX.out.1 (by decide)) ?_
          rintro e w1 ⟨rfl, hb⟩
          replace hS := hS.call hb
          clear hb
          refine ⟨_, rfl, hS.drop, ?_⟩
          simp only [Act.put, List.getElem_toArray, List.getElem_cons_succ, List.getElem_cons_zero, List.setIfInBounds_toArray, List.set_cons_zero, List.set_cons_succ]
          refine wpAnyH_all (rs := [4, 9]) (by kernel_rfl) (by simp) ?_
          intro i hi
          have hi2 : i = 4 ∨ i = 9 := by simpa using hi
          rcases hi2 with rfl | rfl
          ·
            refine o_callR rfl rfl (by kernel_rfl) (load_any y _) ?_
            rintro e w1 ⟨rfl, hb⟩
            replace hS := hS.call hb
            clear hb
            refine ⟨_, rfl, hS.drop, ?_⟩
            simp only [Act.put, List.getElem_toArray, List.getElem_cons_succ, List.getElem_cons_zero, List.setIfInBounds_toArray, List.set_cons_zero, List.set_cons_succ]
            refine wpAnyH_all (rs := [5, 9]) (by kernel_rfl) (by simp) ?_
            intro i hi
            have hi2 : i = 5 ∨ i = 9 := by simpa using hi
            rcases hi2 with rfl | rfl
            ·
              refine o_callR rfl rfl (by kernel_rfl) (divide_r (x + 0 * 2 ^ 256) y _ HX.out.2.2 HX.out.2.1) ?_
              rintro e w1 ⟨rfl, hb⟩
              replace hS := hS.call hb
              clear hb
              refine ⟨_, rfl, hS.drop, ?_⟩
              simp only [Act.put, List.getElem_toArray, List.getElem_cons_succ, List.getElem_cons_zero, List.setIfInBounds_toArray, List.set_cons_zero, List.set_cons_succ]
              refine wpAnyH_take (i := 6) rfl (by kernel_rfl) (by kernel_rfl) (by kernel_rfl) (fun _ _ _ h => h) (y_move rfl _ (.inl rfl) rfl) hS.drop ?_; simp only [Act.put, List.getElem_toArray, List.getElem_cons_succ, List.getElem_cons_zero, List.setIfInBounds_toArray, List.set_cons_zero, List.set_cons_succ]
              refine wpAnyH_take (i := 7) rfl (by kernel_rfl) (by kernel_rfl) (by kernel_rfl) (fun _ _ _ h => h) (y_extract rfl _ 0 rfl rfl rfl) hS.drop ?_; simp only [Act.put, List.getElem_toArray, List.getElem_cons_succ, List.getElem_cons_zero, List.setIfInBounds_toArray, List.set_cons_zero, List.set_cons_succ]
              refine wpAnyH_take (i := 8) rfl (by kernel_rfl) (by kernel_rfl) (by kernel_rfl) (fun _ _ _ h => h) (y_extract rfl _ 1 rfl rfl rfl) hS.drop ?_; simp only [Act.put, List.getElem_toArray, List.getElem_cons_succ, List.getElem_cons_zero, List.setIfInBounds_toArray, List.set_cons_zero, List.set_cons_succ]
              refine wpAnyH_all (rs := [9]) (by kernel_rfl) (by simp) ?_
              intro i hi
              obtain rfl : i = 9 := by simpa using hi
              refine o_new rfl rfl 53 rfl wide_zero hS fun w1 c9 hS => ⟨hS.drop.drop, ?_⟩
              simp only [Act.put, List.getElem_toArray, List.getElem_cons_succ, List.getElem_cons_zero, List.setIfInBounds_toArray, List.set_cons_zero, List.set_cons_succ]
              replace hS := hS.swap
              refine wpAnyH_all (rs := [11]) (by kernel_rfl) (by simp) ?_
              intro i hi
              obtain rfl : i = 11 := by simpa using hi
              refine o_store (c' := dig 8 ((x + 0 * 2 ^ 256) / y)) rfl rfl hS 53 _ _ rfl rfl rfl (by repeat (first | exact Upd.head | apply Upd.tail)) wide_size (dig_size _ _) (dig_size _ _) (dig_one _ _) fun w1 hS => ⟨hS.drop.drop, ?_⟩
              simp only [Act.put, List.getElem_toArray, List.getElem_cons_succ, List.getElem_cons_zero, List.setIfInBounds_toArray, List.set_cons_zero, List.set_cons_succ]
              refine wpAnyH_all (rs := [12]) (by kernel_rfl) (by simp) ?_
              intro i hi
              obtain rfl : i = 12 := by simpa using hi
              refine o_store (c' := dig 4 (restN (x + 0 * 2 ^ 256) y)) rfl rfl hS 42 _ _ rfl rfl rfl (by repeat (first | exact Upd.head | apply Upd.tail)) limbs_size (dig_size _ _) (dig_size _ _) (dig_one _ _) fun w1 hS => ⟨hS.drop.drop, ?_⟩
              simp only [Act.put, List.getElem_toArray, List.getElem_cons_succ, List.getElem_cons_zero, List.setIfInBounds_toArray, List.set_cons_zero, List.set_cons_succ]
              refine wpAnyH_done (by kernel_rfl) ?_ _
              go_wp2_with (fail)
              go_meet
              exact ⟨_, _, rfl, rfl, hS⟩
            ·
              refine o_new rfl rfl 53 rfl wide_zero hS fun w1 c9 hS => ⟨hS.drop.drop, ?_⟩
              simp only [Act.put, List.getElem_toArray, List.getElem_cons_succ, List.getElem_cons_zero, List.setIfInBounds_toArray, List.set_cons_zero, List.set_cons_succ]
              refine wpAnyH_all (rs := [5]) (by kernel_rfl) (by simp) ?_
              intro i hi
              obtain rfl : i = 5 := by simpa using hi
              refine o_callR rfl rfl (by kernel_rfl) (divide_r (x + 0 * 2 ^ 256) y _ HX.out.2.2 HX.out.2.1) ?_
              rintro e w1 ⟨rfl, hb⟩
              replace hS := hS.call hb
              clear hb
              refine ⟨_, rfl, hS.drop.drop, ?_⟩
              simp only [Act.put, List.getElem_toArray, List.getElem_cons_succ, List.getElem_cons_zero, List.setIfInBounds_toArray, List.set_cons_zero, List.set_cons_succ]
              refine wpAnyH_take (i := 6) rfl (by kernel_rfl) (by kernel_rfl) (by kernel_rfl) (fun _ _ _ h => h) (y_move rfl _ (.inl rfl) rfl) hS.drop.drop ?_; simp only [Act.put, List.getElem_toArray, List.getElem_cons_succ, List.getElem_cons_zero, List.setIfInBounds_toArray, List.set_cons_zero, List.set_cons_succ]
              refine wpAnyH_take (i := 7) rfl (by kernel_rfl) (by kernel_rfl) (by kernel_rfl) (fun _ _ _ h => h) (y_extract rfl _ 0 rfl rfl rfl) hS.drop.drop ?_; simp only [Act.put, List.getElem_toArray, List.getElem_cons_succ, List.getElem_cons_zero, List.setIfInBounds_toArray, List.set_cons_zero, List.set_cons_succ]
              refine wpAnyH_take (i := 8) rfl (by kernel_rfl) (by kernel_rfl) (by kernel_rfl) (fun _ _ _ h => h) (y_extract rfl _ 1 rfl rfl rfl) hS.drop.drop ?_; simp only [Act.put, List.getElem_toArray, List.getElem_cons_succ, List.getElem_cons_zero, List.setIfInBounds_toArray, List.set_cons_zero, List.set_cons_succ]
              replace hS := hS.swap
              refine wpAnyH_all (rs := [11]) (by kernel_rfl) (by simp) ?_
              intro i hi
              obtain rfl : i = 11 := by simpa using hi
              refine o_store (c' := dig 8 ((x + 0 * 2 ^ 256) / y)) rfl rfl hS 53 _ _ rfl rfl rfl (by repeat (first | exact Upd.head | apply Upd.tail)) wide_size (dig_size _ _) (dig_size _ _) (dig_one _ _) fun w1 hS => ⟨hS.drop.drop, ?_⟩
              simp only [Act.put, List.getElem_toArray, List.getElem_cons_succ, List.getElem_cons_zero, List.setIfInBounds_toArray, List.set_cons_zero, List.set_cons_succ]
              refine wpAnyH_all (rs := [12]) (by kernel_rfl) (by simp) ?_
              intro i hi
              obtain rfl : i = 12 := by simpa using hi
              refine o_store (c' := dig 4 (restN (x + 0 * 2 ^ 256) y)) rfl rfl hS 42 _ _ rfl rfl rfl (by repeat (first | exact Upd.head | apply Upd.tail)) limbs_size (dig_size _ _) (dig_size _ _) (dig_one _ _) fun w1 hS => ⟨hS.drop.drop, ?_⟩
              simp only [Act.put, List.getElem_toArray, List.getElem_cons_succ, List.getElem_cons_zero, List.setIfInBounds_toArray, List.set_cons_zero, List.set_cons_succ]
              refine wpAnyH_done (by kernel_rfl) ?_ _
              go_wp2_with (fail)
              go_meet
              exact ⟨_, _, rfl, rfl, hS⟩
          ·
            refine o_new rfl rfl 53 rfl wide_zero hS fun w1 c9 hS => ⟨hS.drop.drop, ?_⟩
            simp only [Act.put, List.getElem_toArray, List.getElem_cons_succ, List.getElem_cons_zero, List.setIfInBounds_toArray, List.set_cons_zero, List.set_cons_succ]
            refine wpAnyH_all (rs := [4]) (by kernel_rfl) (by simp) ?_
            intro i hi
            obtain rfl : i = 4 := by simpa using hi
            refine o_callR rfl rfl (by kernel_rfl) (load_any y _) ?_
            rintro e w1 ⟨rfl, hb⟩
            replace hS := hS.call hb
            clear hb
            refine ⟨_, rfl, hS.drop.drop, ?_⟩
            simp only [Act.put, List.getElem_toArray, List.getElem_cons_succ, List.getElem_cons_zero, List.setIfInBounds_toArray, List.set_cons_zero, List.set_cons_succ]
            refine wpAnyH_all (rs := [5]) (by kernel_rfl) (by simp) ?_
            intro i hi
            obtain rfl : i = 5 := by simpa using hi
            refine o_callR rfl rfl (by kernel_rfl) (divide_r (x + 0 * 2 ^ 256) y _ HX.out.2.2 HX.out.2.1) ?_
            rintro e w1 ⟨rfl, hb⟩
            replace hS := hS.call hb
            clear hb
            refine ⟨_, rfl, hS.drop.drop, ?_⟩
            simp only [Act.put, List.getElem_toArray, List.getElem_cons_succ, List.getElem_cons_zero, List.setIfInBounds_toArray, List.set_cons_zero, List.set_cons_succ]
            refine wpAnyH_take (i := 6) rfl (by kernel_rfl) (by kernel_rfl) (by kernel_rfl) (fun _ _ _ h => h) (y_move rfl _ (.inl rfl) rfl) hS.drop.drop ?_; simp only [Act.put, List.getElem_toArray, List.getElem_cons_succ, List.getElem_cons_zero, List.setIfInBounds_toArray, List.set_cons_zero, List.set_cons_succ]
            refine wpAnyH_take (i := 7) rfl (by kernel_rfl) (by kernel_rfl) (by kernel_rfl) (fun _ _ _ h => h) (y_extract rfl _ 0 rfl rfl rfl) hS.drop.drop ?_; simp only [Act.put, List.getElem_toArray, List.getElem_cons_succ, List.getElem_cons_zero, List.setIfInBounds_toArray, List.set_cons_zero, List.set_cons_succ]
            refine wpAnyH_take (i := 8) rfl (by kernel_rfl) (by kernel_rfl) (by kernel_rfl) (fun _ _ _ h => h) (y_extract rfl _ 1 rfl rfl rfl) hS.drop.drop ?_; simp only [Act.put, List.getElem_toArray, List.getElem_cons_succ, List.getElem_cons_zero, List.setIfInBounds_toArray, List.set_cons_zero, List.set_cons_succ]
            replace hS := hS.swap
            refine wpAnyH_all (rs := [11]) (by kernel_rfl) (by simp) ?_
            intro i hi
            obtain rfl : i = 11 := by simpa using hi
            refine o_store (c' := dig 8 ((x + 0 * 2 ^ 256) / y)) rfl rfl hS 53 _ _ rfl rfl rfl (by repeat (first | exact Upd.head | apply Upd.tail)) wide_size (dig_size _ _) (dig_size _ _) (dig_one _ _) fun w1 hS => ⟨hS.drop.drop, ?_⟩
            simp only [Act.put, List.getElem_toArray, List.getElem_cons_succ, List.getElem_cons_zero, List.setIfInBounds_toArray, List.set_cons_zero, List.set_cons_succ]
            refine wpAnyH_all (rs := [12]) (by kernel_rfl) (by simp) ?_
            intro i hi
            obtain rfl : i = 12 := by simpa using hi
            refine o_store (c' := dig 4 (restN (x + 0 * 2 ^ 256) y)) rfl rfl hS 42 _ _ rfl rfl rfl (by repeat (first | exact Upd.head | apply Upd.tail)) limbs_size (dig_size _ _) (dig_size _ _) (dig_one _ _) fun w1 hS => ⟨hS.drop.drop, ?_⟩
            simp only [Act.put, List.getElem_toArray, List.getElem_cons_succ, List.getElem_cons_zero, List.setIfInBounds_toArray, List.set_cons_zero, List.set_cons_succ]
            refine wpAnyH_done (by kernel_rfl) ?_ _
            go_wp2_with (fail)
            go_meet
            exact ⟨_, _, rfl, rfl, hS⟩
        ·
          refine o_new rfl rfl 53 rfl wide_zero hS fun w1 c9 hS => ⟨hS.drop.drop, ?_⟩
          simp only [Act.put, List.getElem_toArray, List.getElem_cons_succ, List.getElem_cons_zero, List.setIfInBounds_toArray, List.set_cons_zero, List.set_cons_succ]
          refine wpAnyH_all (rs := [2]) (by kernel_rfl) (by simp) ?_
          intro i hi
          obtain rfl : i = 2 := by simpa using hi
          refine o_callR rfl rfl (by kernel_rfl) (wide_any x 0 _ HX.out.1 (by decide)) ?_
          rintro e w1 ⟨rfl, hb⟩
          replace hS := hS.call hb
          clear hb
          refine ⟨_, rfl, hS.drop.drop, ?_⟩
          simp only [Act.put, List.getElem_toArray, List.getElem_cons_succ, List.getElem_cons_zero, List.setIfInBounds_toArray, List.set_cons_zero, List.set_cons_succ]
          refine wpAnyH_all (rs := [4]) (by kernel_rfl) (by simp) ?_
          intro i hi
          obtain rfl : i = 4 := by simpa using hi
          refine o_callR rfl rfl (by kernel_rfl) (load_any y _) ?_
          rintro e w1 ⟨rfl, hb⟩
          replace hS := hS.call hb
          clear hb
          refine ⟨_, rfl, hS.drop.drop, ?_⟩
          simp only [Act.put, List.getElem_toArray, List.getElem_cons_succ, List.getElem_cons_zero, List.setIfInBounds_toArray, List.set_cons_zero, List.set_cons_succ]
          refine wpAnyH_all (rs := [5]) (by kernel_rfl) (by simp) ?_
          intro i hi
          obtain rfl : i = 5 := by simpa using hi
          refine o_callR rfl rfl (by kernel_rfl) (divide_r (x + 0 * 2 ^ 256) y _ HX.out.2.2 HX.out.2.1) ?_
          rintro e w1 ⟨rfl, hb⟩
          replace hS := hS.call hb
          clear hb
          refine ⟨_, rfl, hS.drop.drop, ?_⟩
          simp only [Act.put, List.getElem_toArray, List.getElem_cons_succ, List.getElem_cons_zero, List.setIfInBounds_toArray, List.set_cons_zero, List.set_cons_succ]
          refine wpAnyH_take (i := 6) rfl (by kernel_rfl) (by kernel_rfl) (by kernel_rfl) (fun _ _ _ h => h) (y_move rfl _ (.inl rfl) rfl) hS.drop.drop ?_; simp only [Act.put, List.getElem_toArray, List.getElem_cons_succ, List.getElem_cons_zero, List.setIfInBounds_toArray, List.set_cons_zero, List.set_cons_succ]
          refine wpAnyH_take (i := 7) rfl (by kernel_rfl) (by kernel_rfl) (by kernel_rfl) (fun _ _ _ h => h) (y_extract rfl _ 0 rfl rfl rfl) hS.drop.drop ?_; simp only [Act.put, List.getElem_toArray, List.getElem_cons_succ, List.getElem_cons_zero, List.setIfInBounds_toArray, List.set_cons_zero, List.set_cons_succ]
          refine wpAnyH_take (i := 8) rfl (by kernel_rfl) (by kernel_rfl) (by kernel_rfl) (fun _ _ _ h => h) (y_extract rfl _ 1 rfl rfl rfl) hS.drop.drop ?_; simp only [Act.put, List.getElem_toArray, List.getElem_cons_succ, List.getElem_cons_zero, List.setIfInBounds_toArray, List.set_cons_zero, List.set_cons_succ]
          replace hS := hS.swap
          refine wpAnyH_all (rs := [11]) (by kernel_rfl) (by simp) ?_
          intro i hi
          obtain rfl : i = 11 := by simpa using hi
          refine o_store (c' := dig 8 ((x + 0 * 2 ^ 256) / y)) rfl rfl hS 53 _ _ rfl rfl rfl (by repeat (first | exact Upd.head | apply Upd.tail)) wide_size (dig_size _ _) (dig_size _ _) (dig_one _ _) fun w1 hS => ⟨hS.drop.drop, ?_⟩
          simp only [Act.put, List.getElem_toArray, List.getElem_cons_succ, List.getElem_cons_zero, List.setIfInBounds_toArray, List.set_cons_zero, List.set_cons_succ]
          refine wpAnyH_all (rs := [12]) (by kernel_rfl) (by simp) ?_
          intro i hi
          obtain rfl : i = 12 := by simpa using hi
          refine o_store (c' := dig 4 (restN (x + 0 * 2 ^ 256) y)) rfl rfl hS 42 _ _ rfl rfl rfl (by repeat (first | exact Upd.head | apply Upd.tail)) limbs_size (dig_size _ _) (dig_size _ _) (dig_one _ _) fun w1 hS => ⟨hS.drop.drop, ?_⟩
          simp only [Act.put, List.getElem_toArray, List.getElem_cons_succ, List.getElem_cons_zero, List.setIfInBounds_toArray, List.set_cons_zero, List.set_cons_succ]
          refine wpAnyH_done (by kernel_rfl) ?_ _
          go_wp2_with (fail)
          go_meet
          exact ⟨_, _, rfl, rfl, hS⟩
    ·
      refine o_new rfl rfl 53 rfl wide_zero hS fun w1 c9 hS => ⟨hS.drop, ?_⟩
      simp only [Act.put, List.getElem_toArray, List.getElem_cons_succ, List.getElem_cons_zero, List.setIfInBounds_toArray, List.set_cons_zero, List.set_cons_succ]
      refine wpAnyH_all (rs := [1, 10]) (by kernel_rfl) (by simp) ?_
      intro i hi
      have hi2 : i = 1 ∨ i = 10 := by simpa using hi
      rcases hi2 with rfl | rfl
      ·
        refine o_callR rfl rfl (by kernel_rfl) (load_any x _) ?_
        rintro e w1 ⟨rfl, hb⟩
        replace hS := hS.call hb
        clear hb
        refine ⟨_, rfl, hS.drop, ?_⟩
        simp only [Act.put, List.getElem_toArray, List.getElem_cons_succ, List.getElem_cons_zero, List.setIfInBounds_toArray, List.set_cons_zero, List.set_cons_succ]
        refine wpAnyH_all (rs := [2, 10]) (by kernel_rfl) (by simp) ?_
        intro i hi
        have hi2 : i = 2 ∨ i = 10 := by simpa using hi
        rcases hi2 with rfl | rfl
        ·
          refine o_callR rfl rfl (by kernel_rfl) (wide_any x 0 _ HX.out.1 (by decide)) ?_
          rintro e w1 ⟨rfl, hb⟩
          replace hS := hS.call hb
          clear hb
          refine ⟨_, rfl, hS.drop, ?_⟩
          simp only [Act.put, List.getElem_toArray, List.getElem_cons_succ, List.getElem_cons_zero, List.setIfInBounds_toArray, List.set_cons_zero, List.set_cons_succ]
          refine wpAnyH_all (rs := [4, 10]) (by kernel_rfl) (by simp) ?_
          intro i hi
          have hi2 : i = 4 ∨ i = 10 := by simpa using hi
          rcases hi2 with rfl | rfl
          ·
            refine o_callR rfl rfl (by kernel_rfl) (load_any y _) ?_
            rintro e w1 ⟨rfl, hb⟩
            replace hS := hS.call hb
            clear hb
            refine ⟨_, rfl, hS.drop, ?_⟩
            simp only [Act.put, List.getElem_toArray, List.getElem_cons_succ, List.getElem_cons_zero, List.setIfInBounds_toArray, List.set_cons_zero, List.set_cons_succ]
            refine wpAnyH_all (rs := [5, 10]) (by kernel_rfl) (by simp) ?_
            intro i hi
            have hi2 : i = 5 ∨ i = 10 := by simpa using hi
            rcases hi2 with rfl | rfl
            ·
              refine o_callR rfl rfl (by kernel_rfl) (divide_r (x + 0 * 2 ^ 256) y _ HX.out.2.2 HX.out.2.1) ?_
              rintro e w1 ⟨rfl, hb⟩
              replace hS := hS.call hb
              clear hb
              refine ⟨_, rfl, hS.drop, ?_⟩
              simp only [Act.put, List.getElem_toArray, List.getElem_cons_succ, List.getElem_cons_zero, List.setIfInBounds_toArray, List.set_cons_zero, List.set_cons_succ]
              refine wpAnyH_take (i := 6) rfl (by kernel_rfl) (by kernel_rfl) (by kernel_rfl) (fun _ _ _ h => h) (y_move rfl _ (.inl rfl) rfl) hS.drop ?_; simp only [Act.put, List.getElem_toArray, List.getElem_cons_succ, List.getElem_cons_zero, List.setIfInBounds_toArray, List.set_cons_zero, List.set_cons_succ]
              refine wpAnyH_take (i := 7) rfl (by kernel_rfl) (by kernel_rfl) (by kernel_rfl) (fun _ _ _ h => h) (y_extract rfl _ 0 rfl rfl rfl) hS.drop ?_; simp only [Act.put, List.getElem_toArray, List.getElem_cons_succ, List.getElem_cons_zero, List.setIfInBounds_toArray, List.set_cons_zero, List.set_cons_succ]
              refine wpAnyH_take (i := 8) rfl (by kernel_rfl) (by kernel_rfl) (by kernel_rfl) (fun _ _ _ h => h) (y_extract rfl _ 1 rfl rfl rfl) hS.drop ?_; simp only [Act.put, List.getElem_toArray, List.getElem_cons_succ, List.getElem_cons_zero, List.setIfInBounds_toArray, List.set_cons_zero, List.set_cons_succ]
              refine wpAnyH_all (rs := [10]) (by kernel_rfl) (by simp) ?_
              intro i hi
              obtain rfl : i = 10 := by simpa using hi
              refine o_new rfl rfl 42 rfl limbs_zero hS fun w1 c10 hS => ⟨hS.drop.drop, ?_⟩
              simp only [Act.put, List.getElem_toArray, List.getElem_cons_succ, List.getElem_cons_zero, List.setIfInBounds_toArray, List.set_cons_zero, List.set_cons_succ]
              refine wpAnyH_all (rs := [11]) (by kernel_rfl) (by simp) ?_
              intro i hi
              obtain rfl : i = 11 := by simpa using hi
              refine o_store (c' := dig 8 ((x + 0 * 2 ^ 256) / y)) rfl rfl hS 53 _ _ rfl rfl rfl (by repeat (first | exact Upd.head | apply Upd.tail)) wide_size (dig_size _ _) (dig_size _ _) (dig_one _ _) fun w1 hS => ⟨hS.drop.drop, ?_⟩
              simp only [Act.put, List.getElem_toArray, List.getElem_cons_succ, List.getElem_cons_zero, List.setIfInBounds_toArray, List.set_cons_zero, List.set_cons_succ]
              refine wpAnyH_all (rs := [12]) (by kernel_rfl) (by simp) ?_
              intro i hi
              obtain rfl : i = 12 := by simpa using hi
              refine o_store (c' := dig 4 (restN (x + 0 * 2 ^ 256) y)) rfl rfl hS 42 _ _ rfl rfl rfl (by repeat (first | exact Upd.head | apply Upd.tail)) limbs_size (dig_size _ _) (dig_size _ _) (dig_one _ _) fun w1 hS => ⟨hS.drop.drop, ?_⟩
              simp only [Act.put, List.getElem_toArray, List.getElem_cons_succ, List.getElem_cons_zero, List.setIfInBounds_toArray, List.set_cons_zero, List.set_cons_succ]
              refine wpAnyH_done (by kernel_rfl) ?_ _
              go_wp2_with (fail)
              go_meet
              exact ⟨_, _, rfl, rfl, hS⟩
            ·
              refine o_new rfl rfl 42 rfl limbs_zero hS fun w1 c10 hS => ⟨hS.drop.drop, ?_⟩
              simp only [Act.put, List.getElem_toArray, List.getElem_cons_succ, List.getElem_cons_zero, List.setIfInBounds_toArray, List.set_cons_zero, List.set_cons_succ]
              refine wpAnyH_all (rs := [5]) (by kernel_rfl) (by simp) ?_
              intro i hi
              obtain rfl : i = 5 := by simpa using hi
              refine o_callR rfl rfl (by kernel_rfl) (divide_r (x + 0 * 2 ^ 256) y _ HX.out.2.2 HX.out.2.1) ?_
              rintro e w1 ⟨rfl, hb⟩
              replace hS := hS.call hb
              clear hb
              refine ⟨_, rfl, hS.drop.drop, ?_⟩
              simp only [Act.put, List.getElem_toArray, List.getElem_cons_succ, List.getElem_cons_zero, List.setIfInBounds_toArray, List.set_cons_zero, List.set_cons_succ]
              refine wpAnyH_take (i := 6) rfl (by kernel_rfl) (by kernel_rfl) (by kernel_rfl) (fun _ _ _ h => h) (y_move rfl _ (.inl rfl) rfl) hS.drop.drop ?_; simp only [Act.put, List.getElem_toArray, List.getElem_cons_succ, List.getElem_cons_zero, List.setIfInBounds_toArray, List.set_cons_zero, List.set_cons_succ]
              refine wpAnyH_take (i := 7) rfl (by kernel_rfl) (by kernel_rfl) (by kernel_rfl) (fun _ _ _ h => h) (y_extract rfl _ 0 rfl rfl rfl) hS.drop.drop ?_; simp only [Act.put, List.getElem_toArray, List.getElem_cons_succ, List.getElem_cons_zero, List.setIfInBounds_toArray, List.set_cons_zero, List.set_cons_succ]
              refine wpAnyH_take (i := 8) rfl (by kernel_rfl) (by kernel_rfl) (by kernel_rfl) (fun _ _ _ h => h) (y_extract rfl _ 1 rfl rfl rfl) hS.drop.drop ?_; simp only [Act.put, List.getElem_toArray, List.getElem_cons_succ, List.getElem_cons_zero, List.setIfInBounds_toArray, List.set_cons_zero, List.set_cons_succ]
              refine wpAnyH_all (rs := [11]) (by kernel_rfl) (by simp) ?_
              intro i hi
              obtain rfl : i = 11 := by simpa using hi
              refine o_store (c' := dig 8 ((x + 0 * 2 ^ 256) / y)) rfl rfl hS 53 _ _ rfl rfl rfl (by repeat (first | exact Upd.head | apply Upd.tail)) wide_size (dig_size _ _) (dig_size _ _) (dig_one _ _) fun w1 hS => ⟨hS.drop.drop, ?_⟩
              simp only [Act.put, List.getElem_toArray, List.getElem_cons_succ, List.getElem_cons_zero, List.setIfInBounds_toArray, List.set_cons_zero, List.set_cons_succ]
              refine wpAnyH_all (rs := [12]) (by kernel_rfl) (by simp) ?_
              intro i hi
              obtain rfl : i = 12 := by simpa using hi
              refine o_store (c' := dig 4 (restN (x + 0 * 2 ^ 256) y)) rfl rfl hS 42 _ _ rfl rfl rfl (by repeat (first | exact Upd.head | apply Upd.tail)) limbs_size (dig_size _ _) (dig_size _ _) (dig_one _ _) fun w1 hS => ⟨hS.drop.drop, ?_⟩
              simp only [Act.put, List.getElem_toArray, List.getElem_cons_succ, List.getElem_cons_zero, List.setIfInBounds_toArray, List.set_cons_zero, List.set_cons_succ]
              refine wpAnyH_done (by kernel_rfl) ?_ _
              go_wp2_with (fail)
              go_meet
              exact ⟨_, _, rfl, rfl, hS⟩
          ·
            refine o_new rfl rfl 42 rfl limbs_zero hS fun w1 c10 hS => ⟨hS.drop.drop, ?_⟩
            simp only [Act.put, List.getElem_toArray, List.getElem_cons_succ, List.getElem_cons_zero, List.setIfInBounds_toArray, List.set_cons_zero, List.set_cons_succ]
            refine wpAnyH_all (rs := [4]) (by kernel_rfl) (by simp) ?_
            intro i hi
            obtain rfl : i = 4 := by simpa using hi
            refine o_callR rfl rfl (by kernel_rfl) (load_any y _) ?_
            rintro e w1 ⟨rfl, hb⟩
            replace hS := hS.call hb
            clear hb
            refine ⟨_, rfl, hS.drop.drop, ?_⟩
            simp only [Act.put, List.getElem_toArray, List.getElem_cons_succ, List.getElem_cons_zero, List.setIfInBounds_toArray, List.set_cons_zero, List.set_cons_succ]
            refine wpAnyH_all (rs := [5]) (by kernel_rfl) (by simp) ?_
            intro i hi
            obtain rfl : i = 5 := by simpa using hi
            refine o_callR rfl rfl (by kernel_rfl) (divide_r (x + 0 * 2 ^ 256) y _ HX.out.2.2 HX.out.2.1) ?_
            rintro e w1 ⟨rfl, hb⟩
            replace hS := hS.call hb
            clear hb
            refine ⟨_, rfl, hS.drop.drop, ?_⟩
            simp only [Act.put, List.getElem_toArray, List.getElem_cons_succ, List.getElem_cons_zero, List.setIfInBounds_toArray, List.set_cons_zero, List.set_cons_succ]
            refine wpAnyH_take (i := 6) rfl (by kernel_rfl) (by kernel_rfl) (by kernel_rfl) (fun _ _ _ h => h) (y_move rfl _ (.inl rfl) rfl) hS.drop.drop ?_; simp only [Act.put, List.getElem_toArray, List.getElem_cons_succ, List.getElem_cons_zero, List.setIfInBounds_toArray, List.set_cons_zero, List.set_cons_succ]
            refine wpAnyH_take (i := 7) rfl (by kernel_rfl) (by kernel_rfl) (by kernel_rfl) (fun _ _ _ h => h) (y_extract rfl _ 0 rfl rfl rfl) hS.drop.drop ?_; simp only [Act.put, List.getElem_toArray, List.getElem_cons_succ, List.getElem_cons_zero, List.setIfInBounds_toArray, List.set_cons_zero, List.set_cons_succ]
            refine wpAnyH_take (i := 8) rfl (by kernel_rfl) (by kernel_rfl) (by kernel_rfl) (fun _ _ _ h => h) (y_extract rfl _ 1 rfl rfl rfl) hS.drop.drop ?_; simp only [Act.put, List.getElem_toArray, List.getElem_cons_succ, List.getElem_cons_zero, List.setIfInBounds_toArray, List.set_cons_zero, List.set_cons_succ]
            refine wpAnyH_all (rs := [11]) (by kernel_rfl) (by simp) ?_
            intro i hi
            obtain rfl : i = 11 := by simpa using hi
            refine o_store (c' := dig 8 ((x + 0 * 2 ^ 256) / y)) rfl rfl hS 53 _ _ rfl rfl rfl (by repeat (first | exact Upd.head | apply Upd.tail)) wide_size (dig_size _ _) (dig_size _ _) (dig_one _ _) fun w1 hS => ⟨hS.drop.drop, ?_⟩
            simp only [Act.put, List.getElem_toArray, List.getElem_cons_succ, List.getElem_cons_zero, List.setIfInBounds_toArray, List.set_cons_zero, List.set_cons_succ]
            refine wpAnyH_all (rs := [12]) (by kernel_rfl) (by simp) ?_
            intro i hi
            obtain rfl : i = 12 := by simpa using hi
            refine o_store (c' := dig 4 (restN (x + 0 * 2 ^ 256) y)) rfl rfl hS 42 _ _ rfl rfl rfl (by repeat (first | exact Upd.head | apply Upd.tail)) limbs_size (dig_size _ _) (dig_size _ _) (dig_one _ _) fun w1 hS => ⟨hS.drop.drop, ?_⟩
            simp only [Act.put, List.getElem_toArray, List.getElem_cons_succ, List.getElem_cons_zero, List.setIfInBounds_toArray, List.set_cons_zero, List.set_cons_succ]
            refine wpAnyH_done (by kernel_rfl) ?_ _
            go_wp2_with (fail)
            go_meet
            exact ⟨_, _, rfl, rfl, hS⟩
        ·
          refine o_new rfl rfl 42 rfl limbs_zero hS fun w1 c10 hS => ⟨hS.drop.drop, ?_⟩
          simp only [Act.put, List.getElem_toArray, List.getElem_cons_succ, List.getElem_cons_zero, List.setIfInBounds_toArray, List.set_cons_zero, List.set_cons_succ]
          refine wpAnyH_all (rs := [2]) (by kernel_rfl) (by simp) ?_
          intro i hi
          obtain rfl : i = 2 := by simpa using hi
          refine o_callR rfl rfl (by kernel_rfl) (wide_any x 0 _ HX.out.1 (by decide)) ?_
          rintro e w1 ⟨rfl, hb⟩
          replace hS := hS.call hb
          clear hb
          refine ⟨_, rfl, hS.drop.drop, ?_⟩
          simp only [Act.put, List.getElem_toArray, List.getElem_cons_succ, List.getElem_cons_zero, List.setIfInBounds_toArray, List.set_cons_zero, List.set_cons_succ]
          refine wpAnyH_all (rs := [4]) (by kernel_rfl) (by simp) ?_
          intro i hi
          obtain rfl : i = 4 := by simpa using hi
          refine o_callR rfl rfl (by kernel_rfl) (load_any y _) ?_
          rintro e w1 ⟨rfl, hb⟩
          replace hS := hS.call hb
          clear hb
          refine ⟨_, rfl, hS.drop.drop, ?_⟩
          simp only [Act.put, List.getElem_toArray, List.getElem_cons_succ, List.getElem_cons_zero, List.setIfInBounds_toArray, List.set_cons_zero, List.set_cons_succ]
          refine wpAnyH_all (rs := [5]) (by kernel_rfl) (by simp) ?_
          intro i hi
          obtain rfl : i = 5 := by simpa using hi
          refine o_callR rfl rfl (by kernel_rfl) (divide_r (x + 0 * 2 ^ 256) y _ HX.out.2.2 HX.out.2.1) ?_
          rintro e w1 ⟨rfl, hb⟩
          replace hS := hS.call hb
          clear hb
          refine ⟨_, rfl, hS.drop.drop, ?_⟩
          simp only [Act.put, List.getElem_toArray, List.getElem_cons_succ, List.getElem_cons_zero, List.setIfInBounds_toArray, List.set_cons_zero, List.set_cons_succ]
          refine wpAnyH_take (i := 6) rfl (by kernel_rfl) (by kernel_rfl) (by kernel_rfl) (fun _ _ _ h => h) (y_move rfl _ (.inl rfl) rfl) hS.drop.drop ?_; simp only [Act.put, List.getElem_toArray, List.getElem_cons_succ, List.getElem_cons_zero, List.setIfInBounds_toArray, List.set_cons_zero, List.set_cons_succ]
          refine wpAnyH_take (i := 7) rfl (by kernel_rfl) (by kernel_rfl) (by kernel_rfl) (fun _ _ _ h => h) (y_extract rfl _ 0 rfl rfl rfl) hS.drop.drop ?_; simp only [Act.put, List.getElem_toArray, List.getElem_cons_succ, List.getElem_cons_zero, List.setIfInBounds_toArray, List.set_cons_zero, List.set_cons_succ]
          refine wpAnyH_take (i := 8) rfl (by kernel_rfl) (by kernel_rfl) (by kernel_rfl) (fun _ _ _ h => h) (y_extract rfl _ 1 rfl rfl rfl) hS.drop.drop ?_; simp only [Act.put, List.getElem_toArray, List.getElem_cons_succ, List.getElem_cons_zero, List.setIfInBounds_toArray, List.set_cons_zero, List.set_cons_succ]
          refine wpAnyH_all (rs := [11]) (by kernel_rfl) (by simp) ?_
          intro i hi
          obtain rfl : i = 11 := by simpa using hi
          refine o_store (c' := dig 8 ((x + 0 * 2 ^ 256) / y)) rfl rfl hS 53 _ _ rfl rfl rfl (by repeat (first | exact Upd.head | apply Upd.tail)) wide_size (dig_size _ _) (dig_size _ _) (dig_one _ _) fun w1 hS => ⟨hS.drop.drop, ?_⟩
          simp only [Act.put, List.getElem_toArray, List.getElem_cons_succ, List.getElem_cons_zero, List.setIfInBounds_toArray, List.set_cons_zero, List.set_cons_succ]
          refine wpAnyH_all (rs := [12]) (by kernel_rfl) (by simp) ?_
          intro i hi
          obtain rfl : i = 12 := by simpa using hi
          refine o_store (c' := dig 4 (restN (x + 0 * 2 ^ 256) y)) rfl rfl hS 42 _ _ rfl rfl rfl (by repeat (first | exact Upd.head | apply Upd.tail)) limbs_size (dig_size _ _) (dig_size _ _) (dig_one _ _) fun w1 hS => ⟨hS.drop.drop, ?_⟩
          simp only [Act.put, List.getElem_toArray, List.getElem_cons_succ, List.getElem_cons_zero, List.setIfInBounds_toArray, List.set_cons_zero, List.set_cons_succ]
          refine wpAnyH_done (by kernel_rfl) ?_ _
          go_wp2_with (fail)
          go_meet
          exact ⟨_, _, rfl, rfl, hS⟩
      ·
        refine o_new rfl rfl 42 rfl limbs_zero hS fun w1 c10 hS => ⟨hS.drop.drop, ?_⟩
        simp only [Act.put, List.getElem_toArray, List.getElem_cons_succ, List.getElem_cons_zero, List.setIfInBounds_toArray, List.set_cons_zero, List.set_cons_succ]
        refine wpAnyH_all (rs := [1]) (by kernel_rfl) (by simp) ?_
        intro i hi
        obtain rfl : i = 1 := by simpa using hi
        refine o_callR rfl rfl (by kernel_rfl) (load_any x _) ?_
        rintro e w1 ⟨rfl, hb⟩
        replace hS := hS.call hb
        clear hb
        refine ⟨_, rfl, hS.drop.drop, ?_⟩
        simp only [Act.put, List.getElem_toArray, List.getElem_cons_succ, List.getElem_cons_zero, List.setIfInBounds_toArray, List.set_cons_zero, List.set_cons_succ]
        refine wpAnyH_all (rs := [2]) (by kernel_rfl) (by simp) ?_
        intro i hi
        obtain rfl : i = 2 := by simpa using hi
        refine o_callR rfl rfl (by kernel_rfl) (wide_any x 0 _ HX.out.1 (by decide)) ?_
        rintro e w1 ⟨rfl, hb⟩
        replace hS := hS.call hb
        clear hb
        refine ⟨_, rfl, hS.drop.drop, ?_⟩
        simp only [Act.put, List.getElem_toArray, List.getElem_cons_succ, List.getElem_cons_zero, List.setIfInBounds_toArray, List.set_cons_zero, List.set_cons_succ]
        refine wpAnyH_all (rs := [4]) (by kernel_rfl) (by simp) ?_
        intro i hi
        obtain rfl : i = 4 := by simpa using hi
        refine o_callR rfl rfl (by kernel_rfl) (load_any y _) ?_
        rintro e w1 ⟨rfl, hb⟩
        replace hS := hS.call hb
        clear hb
        refine ⟨_, rfl, hS.drop.drop, ?_⟩
        simp only [Act.put, List.getElem_toArray, List.getElem_cons_succ, List.getElem_cons_zero, List.setIfInBounds_toArray, List.set_cons_zero, List.set_cons_succ]
        refine wpAnyH_all (rs := [5]) (by kernel_rfl) (by simp) ?_
        intro i hi
        obtain rfl : i = 5 := by simpa using hi
        refine o_callR rfl rfl (by kernel_rfl) (divide_r (x + 0 * 2 ^ 256) y _ HX.out.2.2 HX.out.2.1) ?_
        rintro e w1 ⟨rfl, hb⟩
        replace hS := hS.call hb
        clear hb
        refine ⟨_, rfl, hS.drop.drop, ?_⟩
        simp only [Act.put, List.getElem_toArray, List.getElem_cons_succ, List.getElem_cons_zero, List.setIfInBounds_toArray, List.set_cons_zero, List.set_cons_succ]
        refine wpAnyH_take (i := 6) rfl (by kernel_rfl) (by kernel_rfl) (by kernel_rfl) (fun _ _ _ h => h) (y_move rfl _ (.inl rfl) rfl) hS.drop.drop ?_; simp only [Act.put, List.getElem_toArray, List.getElem_cons_succ, List.getElem_cons_zero, List.setIfInBounds_toArray, List.set_cons_zero, List.set_cons_succ]
        refine wpAnyH_take (i := 7) rfl (by kernel_rfl) (by kernel_rfl) (by kernel_rfl) (fun _ _ _ h => h) (y_extract rfl _ 0 rfl rfl rfl) hS.drop.drop ?_; simp only [Act.put, List.getElem_toArray, List.getElem_cons_succ, List.getElem_cons_zero, List.setIfInBounds_toArray, List.set_cons_zero, List.set_cons_succ]
        refine wpAnyH_take (i := 8) rfl (by kernel_rfl) (by kernel_rfl) (by kernel_rfl) (fun _ _ _ h => h) (y_extract rfl _ 1 rfl rfl rfl) hS.drop.drop ?_; simp only [Act.put, List.getElem_toArray, List.getElem_cons_succ, List.getElem_cons_zero, List.setIfInBounds_toArray, List.set_cons_zero, List.set_cons_succ]
        refine wpAnyH_all (rs := [11]) (by kernel_rfl) (by simp) ?_
        intro i hi
        obtain rfl : i = 11 := by simpa using hi
        refine o_store (c' := dig 8 ((x + 0 * 2 ^ 256) / y)) rfl rfl hS 53 _ _ rfl rfl rfl (by repeat (first | exact Upd.head | apply Upd.tail)) wide_size (dig_size _ _) (dig_size _ _) (dig_one _ _) fun w1 hS => ⟨hS.drop.drop, ?_⟩
        simp only [Act.put, List.getElem_toArray, List.getElem_cons_succ, List.getElem_cons_zero, List.setIfInBounds_toArray, List.set_cons_zero, List.set_cons_succ]
        refine wpAnyH_all (rs := [12]) (by kernel_rfl) (by simp) ?_
        intro i hi
        obtain rfl : i = 12 := by simpa using hi
        refine o_store (c' := dig 4 (restN (x + 0 * 2 ^ 256) y)) rfl rfl hS 42 _ _ rfl rfl rfl (by repeat (first | exact Upd.head | apply Upd.tail)) limbs_size (dig_size _ _) (dig_size _ _) (dig_one _ _) fun w1 hS => ⟨hS.drop.drop, ?_⟩
        simp only [Act.put, List.getElem_toArray, List.getElem_cons_succ, List.getElem_cons_zero, List.setIfInBounds_toArray, List.set_cons_zero, List.set_cons_succ]
        refine wpAnyH_done (by kernel_rfl) ?_ _
        go_wp2_with (fail)
        go_meet
        exact ⟨_, _, rfl, rfl, hS⟩
    ·
      refine o_new rfl rfl 42 rfl limbs_zero hS fun w1 c10 hS => ⟨hS.drop, ?_⟩
      simp only [Act.put, List.getElem_toArray, List.getElem_cons_succ, List.getElem_cons_zero, List.setIfInBounds_toArray, List.set_cons_zero, List.set_cons_succ]
      refine wpAnyH_all (rs := [1, 9]) (by kernel_rfl) (by simp) ?_
      intro i hi
      have hi2 : i = 1 ∨ i = 9 := by simpa using hi
      rcases hi2 with rfl | rfl
      ·
        refine o_callR rfl rfl (by kernel_rfl) (load_any x _) ?_
        rintro e w1 ⟨rfl, hb⟩
        replace hS := hS.call hb
        clear hb
        refine ⟨_, rfl, hS.drop, ?_⟩
        simp only [Act.put, List.getElem_toArray, List.getElem_cons_succ, List.getElem_cons_zero, List.setIfInBounds_toArray, List.set_cons_zero, List.set_cons_succ]
        refine wpAnyH_all (rs := [2, 9]) (by kernel_rfl) (by simp) ?_
        intro i hi
        have hi2 : i = 2 ∨ i = 9 := by simpa using hi
        rcases hi2 with rfl | rfl
        ·
          refine o_callR rfl rfl (by kernel_rfl) (wide_any x 0 _ HX.out.1 (by decide)) ?_
          rintro e w1 ⟨rfl, hb⟩
          replace hS := hS.call hb
          clear hb
          refine ⟨_, rfl, hS.drop, ?_⟩
          simp only [Act.put, List.getElem_toArray, List.getElem_cons_succ, List.getElem_cons_zero, List.setIfInBounds_toArray, List.set_cons_zero, List.set_cons_succ]
          refine wpAnyH_all (rs := [4, 9]) (by kernel_rfl) (by simp) ?_
          intro i hi
          have hi2 : i = 4 ∨ i = 9 := by simpa using hi
          rcases hi2 with rfl | rfl
          ·
            refine o_callR rfl rfl (by kernel_rfl) (load_any y _) ?_
            rintro e w1 ⟨rfl, hb⟩
            replace hS := hS.call hb
            clear hb
            refine ⟨_, rfl, hS.drop, ?_⟩
            simp only [Act.put, List.getElem_toArray, List.getElem_cons_succ, List.getElem_cons_zero, List.setIfInBounds_toArray, List.set_cons_zero, List.set_cons_succ]
            refine wpAnyH_all (rs := [5, 9]) (by kernel_rfl) (by simp) ?_
            intro i hi
            have hi2 : i = 5 ∨ i = 9 := by simpa using hi
            rcases hi2 with rfl | rfl
            ·
              refine o_callR rfl rfl (by kernel_rfl) (divide_r (x + 0 * 2 ^ 256) y _ HX.out.2.2 HX.out.2.1) ?_
              rintro e w1 ⟨rfl, hb⟩
              replace hS := hS.call hb
              clear hb
              refine ⟨_, rfl, hS.drop, ?_⟩
              simp only [Act.put, List.getElem_toArray, List.getElem_cons_succ, List.getElem_cons_zero, List.setIfInBounds_toArray, List.set_cons_zero, List.set_cons_succ]
              refine wpAnyH_take (i := 6) rfl (by kernel_rfl) (by kernel_rfl) (by kernel_rfl) (fun _ _ _ h => h) (y_move rfl _ (.inl rfl) rfl) hS.drop ?_; simp only [Act.put, List.getElem_toArray, List.getElem_cons_succ, List.getElem_cons_zero, List.setIfInBounds_toArray, List.set_cons_zero, List.set_cons_succ]
              refine wpAnyH_take (i := 7) rfl (by kernel_rfl) (by kernel_rfl) (by kernel_rfl) (fun _ _ _ h => h) (y_extract rfl _ 0 rfl rfl rfl) hS.drop ?_; simp only [Act.put, List.getElem_toArray, List.getElem_cons_succ, List.getElem_cons_zero, List.setIfInBounds_toArray, List.set_cons_zero, List.set_cons_succ]
              refine wpAnyH_take (i := 8) rfl (by kernel_rfl) (by kernel_rfl) (by kernel_rfl) (fun _ _ _ h => h) (y_extract rfl _ 1 rfl rfl rfl) hS.drop ?_; simp only [Act.put, List.getElem_toArray, List.getElem_cons_succ, List.getElem_cons_zero, List.setIfInBounds_toArray, List.set_cons_zero, List.set_cons_succ]
              refine wpAnyH_all (rs := [9]) (by kernel_rfl) (by simp) ?_
              intro i hi
              obtain rfl : i = 9 := by simpa using hi
              refine o_new rfl rfl 53 rfl wide_zero hS fun w1 c9 hS => ⟨hS.drop.drop, ?_⟩
              simp only [Act.put, List.getElem_toArray, List.getElem_cons_succ, List.getElem_cons_zero, List.setIfInBounds_toArray, List.set_cons_zero, List.set_cons_succ]
              replace hS := hS.swap
              refine wpAnyH_all (rs := [11]) (by kernel_rfl) (by simp) ?_
              intro i hi
              obtain rfl : i = 11 := by simpa using hi
              refine o_store (c' := dig 8 ((x + 0 * 2 ^ 256) / y)) rfl rfl hS 53 _ _ rfl rfl rfl (by repeat (first | exact Upd.head | apply Upd.tail)) wide_size (dig_size _ _) (dig_size _ _) (dig_one _ _) fun w1 hS => ⟨hS.drop.drop, ?_⟩
              simp only [Act.put, List.getElem_toArray, List.getElem_cons_succ, List.getElem_cons_zero, List.setIfInBounds_toArray, List.set_cons_zero, List.set_cons_succ]
              refine wpAnyH_all (rs := [12]) (by kernel_rfl) (by simp) ?_
              intro i hi
              obtain rfl : i = 12 := by simpa using hi
              refine o_store (c' := dig 4 (restN (x + 0 * 2 ^ 256) y)) rfl rfl hS 42 _ _ rfl rfl rfl (by repeat (first | exact Upd.head | apply Upd.tail)) limbs_size (dig_size _ _) (dig_size _ _) (dig_one _ _) fun w1 hS => ⟨hS.drop.drop, ?_⟩
              simp only [Act.put, List.getElem_toArray, List.getElem_cons_succ, List.getElem_cons_zero, List.setIfInBounds_toArray, List.set_cons_zero, List.set_cons_succ]
              refine wpAnyH_done (by kernel_rfl) ?_ _
              go_wp2_with (fail)
              go_meet
              exact ⟨_, _, rfl, rfl, hS⟩
            ·
              refine o_new rfl rfl 53 rfl wide_zero hS fun w1 c9 hS => ⟨hS.drop.drop, ?_⟩
              simp only [Act.put, List.getElem_toArray, List.getElem_cons_succ, List.getElem_cons_zero, List.setIfInBounds_toArray, List.set_cons_zero, List.set_cons_succ]
              refine wpAnyH_all (rs := [5]) (by kernel_rfl) (by simp) ?_
              intro i hi
              obtain rfl : i = 5 := by simpa using hi
              refine o_callR rfl rfl (by kernel_rfl) (divide_r (x + 0 * 2 ^ 256) y _ HX.out.2.2 HX.out.2.1) ?_
              rintro e w1 ⟨rfl, hb⟩
              replace hS := hS.call hb
              clear hb
              refine ⟨_, rfl, hS.drop.drop, ?_⟩
              simp only [Act.put, List.getElem_toArray, List.getElem_cons_succ, List.getElem_cons_zero, List.setIfInBounds_toArray, List.set_cons_zero, List.set_cons_succ]
              refine wpAnyH_take (i := 6) rfl (by kernel_rfl) (by kernel_rfl) (by kernel_rfl) (fun _ _ _ h => h) (y_move rfl _ (.inl rfl) rfl) hS.drop.drop ?_; simp only [Act.put, List.getElem_toArray, List.getElem_cons_succ, List.getElem_cons_zero, List.setIfInBounds_toArray, List.set_cons_zero, List.set_cons_succ]
              refine wpAnyH_take (i := 7) rfl (by kernel_rfl) (by kernel_rfl) (by kernel_rfl) (fun _ _ _ h => h) (y_extract rfl _ 0 rfl rfl rfl) hS.drop.drop ?_; simp only [Act.put, List.getElem_toArray, List.getElem_cons_succ, List.getElem_cons_zero, List.setIfInBounds_toArray, List.set_cons_zero, List.set_cons_succ]
              refine wpAnyH_take (i := 8) rfl (by kernel_rfl) (by kernel_rfl) (by kernel_rfl) (fun _ _ _ h => h) (y_extract rfl _ 1 rfl rfl rfl) hS.drop.drop ?_; simp only [Act.put, List.getElem_toArray, List.getElem_cons_succ, List.getElem_cons_zero, List.setIfInBounds_toArray, List.set_cons_zero, List.set_cons_succ]
              replace hS := hS.swap
              refine wpAnyH_all (rs := [11]) (by kernel_rfl) (by simp) ?_
              intro i hi
              obtain rfl : i = 11 := by simpa using hi
              refine o_store (c' := dig 8 ((x + 0 * 2 ^ 256) / y)) rfl rfl hS 53 _ _ rfl rfl rfl (by repeat (first | exact Upd.head | apply Upd.tail)) wide_size (dig_size _ _) (dig_size _ _) (dig_one _ _) fun w1 hS => ⟨hS.drop.drop, ?_⟩
              simp only [Act.put, List.getElem_toArray, List.getElem_cons_succ, List.getElem_cons_zero, List.setIfInBounds_toArray, List.set_cons_zero, List.set_cons_succ]
              refine wpAnyH_all (rs := [12]) (by kernel_rfl) (by simp) ?_
              intro i hi
              obtain rfl : i = 12 := by simpa using hi
              refine o_store (c' := dig 4 (restN (x + 0 * 2 ^ 256) y)) rfl rfl hS 42 _ _ rfl rfl rfl (by repeat (first | exact Upd.head | apply Upd.tail)) limbs_size (dig_size _ _) (dig_size _ _) (dig_one _ _) fun w1 hS => ⟨hS.drop.drop, ?_⟩
              simp only [Act.put, List.getElem_toArray, List.getElem_cons_succ, List.getElem_cons_zero, List.setIfInBounds_toArray, List.set_cons_zero, List.set_cons_succ]
              refine wpAnyH_done (by kernel_rfl) ?_ _
              go_wp2_with (fail)
              go_meet
              exact ⟨_, _, rfl, rfl, hS⟩
          ·
            refine o_new rfl rfl 53 rfl wide_zero hS fun w1 c9 hS => ⟨hS.drop.drop, ?_⟩
            simp only [Act.put, List.getElem_toArray, List.getElem_cons_succ, List.getElem_cons_zero, List.setIfInBounds_toArray, List.set_cons_zero, List.set_cons_succ]
            refine wpAnyH_all (rs := [4]) (by kernel_rfl) (by simp) ?_
            intro i hi
            obtain rfl : i = 4 := by simpa using hi
            refine o_callR rfl rfl (by kernel_rfl) (load_any y _) ?_
            rintro e w1 ⟨rfl, hb⟩
            replace hS := hS.call hb
            clear hb
            refine ⟨_, rfl, hS.drop.drop, ?_⟩
            simp only [Act.put, List.getElem_toArray, List.getElem_cons_succ, List.getElem_cons_zero, List.setIfInBounds_toArray, List.set_cons_zero, List.set_cons_succ]
            refine wpAnyH_all (rs := [5]) (by kernel_rfl) (by simp) ?_
            intro i hi
            obtain rfl : i = 5 := by simpa using hi
            refine o_callR rfl rfl (by kernel_rfl) (divide_r (x + 0 * 2 ^ 256) y _ HX.out.2.2 HX.out.2.1) ?_
            rintro e w1 ⟨rfl, hb⟩
            replace hS := hS.call hb
            clear hb
            refine ⟨_, rfl, hS.drop.drop, ?_⟩
            simp only [Act.put, List.getElem_toArray, List.getElem_cons_succ, List.getElem_cons_zero, List.setIfInBounds_toArray, List.set_cons_zero, List.set_cons_succ]
            refine wpAnyH_take (i := 6) rfl (by kernel_rfl) (by kernel_rfl) (by kernel_rfl) (fun _ _ _ h => h) (y_move rfl _ (.inl rfl) rfl) hS.drop.drop ?_; simp only [Act.put, List.getElem_toArray, List.getElem_cons_succ, List.getElem_cons_zero, List.setIfInBounds_toArray, List.set_cons_zero, List.set_cons_succ]
            refine wpAnyH_take (i := 7) rfl (by kernel_rfl) (by kernel_rfl) (by kernel_rfl) (fun _ _ _ h => h) (y_extract rfl _ 0 rfl rfl rfl) hS.drop.drop ?_; simp only [Act.put, List.getElem_toArray, List.getElem_cons_succ, List.getElem_cons_zero, List.setIfInBounds_toArray, List.set_cons_zero, List.set_cons_succ]
            refine wpAnyH_take (i := 8) rfl (by kernel_rfl) (by kernel_rfl) (by kernel_rfl) (fun _ _ _ h => h) (y_extract rfl _ 1 rfl rfl rfl) hS.drop.drop ?_; simp only [Act.put, List.getElem_toArray, List.getElem_cons_succ, List.getElem_cons_zero, List.setIfInBounds_toArray, List.set_cons_zero, List.set_cons_succ]
            replace hS := hS.swap
            refine wpAnyH_all (rs := [11]) (by kernel_rfl) (by simp) ?_
            intro i hi
            obtain rfl : i = 11 := by simpa using hi
            refine o_store (c' := dig 8 ((x + 0 * 2 ^ 256) / y)) rfl rfl hS 53 _ _ rfl rfl rfl (by repeat (first | exact Upd.head | apply Upd.tail)) wide_size (dig_size _ _) (dig_size _ _) (dig_one _ _) fun w1 hS => ⟨hS.drop.drop, ?_⟩
            simp only [Act.put, List.getElem_toArray, List.getElem_cons_succ, List.getElem_cons_zero, List.setIfInBounds_toArray, List.set_cons_zero, List.set_cons_succ]
            refine wpAnyH_all (rs := [12]) (by kernel_rfl) (by simp) ?_
            intro i hi
            obtain rfl : i = 12 := by simpa using hi
            refine o_store (c' := dig 4 (restN (x + 0 * 2 ^ 256) y)) rfl rfl hS 42 _ _ rfl rfl rfl (by repeat (first | exact Upd.head | apply Upd.tail)) limbs_size (dig_size _ _) (dig_size _ _) (dig_one _ _) fun w1 hS => ⟨hS.drop.drop, ?_⟩
            simp only [Act.put, List.getElem_toArray, List.getElem_cons_succ, List.getElem_cons_zero, List.setIfInBounds_toArray, List.set_cons_zero, List.set_cons_succ]
            refine wpAnyH_done (by kernel_rfl) ?_ _
            go_wp2_with (fail)
            go_meet
            exact ⟨_, _, rfl, rfl, hS⟩
        ·
          refine o_new rfl rfl 53 rfl wide_zero hS fun w1 c9 hS => ⟨hS.drop.drop, ?_⟩
          simp only [Act.put, List.getElem_toArray, List.getElem_cons_succ, List.getElem_cons_zero, List.setIfInBounds_toArray, List.set_cons_zero, List.set_cons_succ]
          refine wpAnyH_all (rs := [2]) (by kernel_rfl) (by simp) ?_
          intro i hi
          obtain rfl : i = 2 := by simpa using hi
          refine o_callR rfl rfl (by kernel_rfl) (wide_any x 0 _ HX.out.1 (by decide)) ?_
          rintro e w1 ⟨rfl, hb⟩
          replace hS := hS.call hb
          clear hb
          refine ⟨_, rfl, hS.drop.drop, ?_⟩
          simp only [Act.put, List.getElem_toArray, List.getElem_cons_succ, List.getElem_cons_zero, List.setIfInBounds_toArray, List.set_cons_zero, List.set_cons_succ]
          refine wpAnyH_all (rs := [4]) (by kernel_rfl) (by simp) ?_
          intro i hi
          obtain rfl : i = 4 := by simpa using hi
          refine o_callR rfl rfl (by kernel_rfl) (load_any y _) ?_
          rintro e w1 ⟨rfl, hb⟩
          replace hS := hS.call hb
          clear hb
          refine ⟨_, rfl, hS.drop.drop, ?_⟩
          simp only [Act.put, List.getElem_toArray, List.getElem_cons_succ, List.getElem_cons_zero, List.setIfInBounds_toArray, List.set_cons_zero, List.set_cons_succ]
          refine wpAnyH_all (rs := [5]) (by kernel_rfl) (by simp) ?_
          intro i hi
          obtain rfl : i = 5 := by simpa using hi
          refine o_callR rfl rfl (by kernel_rfl) (divide_r (x + 0 * 2 ^ 256) y _ HX.out.2.2 HX.out.2.1) ?_
          rintro e w1 ⟨rfl, hb⟩
          replace hS := hS.call hb
          clear hb
          refine ⟨_, rfl, hS.drop.drop, ?_⟩
          simp only [Act.put, List.getElem_toArray, List.getElem_cons_succ, List.getElem_cons_zero, List.setIfInBounds_toArray, List.set_cons_zero, List.set_cons_succ]
          refine wpAnyH_take (i := 6) rfl (by kernel_rfl) (by kernel_rfl) (by kernel_rfl) (fun _ _ _ h => h) (y_move rfl _ (.inl rfl) rfl) hS.drop.drop ?_; simp only [Act.put, List.getElem_toArray, List.getElem_cons_succ, List.getElem_cons_zero, List.setIfInBounds_toArray, List.set_cons_zero, List.set_cons_succ]
          refine wpAnyH_take (i := 7) rfl (by kernel_rfl) (by kernel_rfl) (by kernel_rfl) (fun _ _ _ h => h) (y_extract rfl _ 0 rfl rfl rfl) hS.drop.drop ?_; simp only [Act.put, List.getElem_toArray, List.getElem_cons_succ, List.getElem_cons_zero, List.setIfInBounds_toArray, List.set_cons_zero, List.set_cons_succ]
          refine wpAnyH_take (i := 8) rfl (by kernel_rfl) (by kernel_rfl) (by kernel_rfl) (fun _ _ _ h => h) (y_extract rfl _ 1 rfl rfl rfl) hS.drop.drop ?_; simp only [Act.put, List.getElem_toArray, List.getElem_cons_succ, List.getElem_cons_zero, List.setIfInBounds_toArray, List.set_cons_zero, List.set_cons_succ]
          replace hS := hS.swap
          refine wpAnyH_all (rs := [11]) (by kernel_rfl) (by simp) ?_
          intro i hi
          obtain rfl : i = 11 := by simpa using hi
          refine o_store (c' := dig 8 ((x + 0 * 2 ^ 256) / y)) rfl rfl hS 53 _ _ rfl rfl rfl (by repeat (first | exact Upd.head | apply Upd.tail)) wide_size (dig_size _ _) (dig_size _ _) (dig_one _ _) fun w1 hS => ⟨hS.drop.drop, ?_⟩
          simp only [Act.put, List.getElem_toArray, List.getElem_cons_succ, List.getElem_cons_zero, List.setIfInBounds_toArray, List.set_cons_zero, List.set_cons_succ]
          refine wpAnyH_all (rs := [12]) (by kernel_rfl) (by simp) ?_
          intro i hi
          obtain rfl : i = 12 := by simpa using hi
          refine o_store (c' := dig 4 (restN (x + 0 * 2 ^ 256) y)) rfl rfl hS 42 _ _ rfl rfl rfl (by repeat (first | exact Upd.head | apply Upd.tail)) limbs_size (dig_size _ _) (dig_size _ _) (dig_one _ _) fun w1 hS => ⟨hS.drop.drop, ?_⟩
          simp only [Act.put, List.getElem_toArray, List.getElem_cons_succ, List.getElem_cons_zero, List.setIfInBounds_toArray, List.set_cons_zero, List.set_cons_succ]
          refine wpAnyH_done (by kernel_rfl) ?_ _
          go_wp2_with (fail)
          go_meet
          exact ⟨_, _, rfl, rfl, hS⟩
      ·
        refine o_new rfl rfl 53 rfl wide_zero hS fun w1 c9 hS => ⟨hS.drop.drop, ?_⟩
        simp only [Act.put, List.getElem_toArray, List.getElem_cons_succ, List.getElem_cons_zero, List.setIfInBounds_toArray, List.set_cons_zero, List.set_cons_succ]
        refine wpAnyH_all (rs := [1]) (by kernel_rfl) (by simp) ?_
        intro i hi
        obtain rfl : i = 1 := by simpa using hi
        refine o_callR rfl rfl (by kernel_rfl) (load_any x _) ?_
        rintro e w1 ⟨rfl, hb⟩
        replace hS := hS.call hb
        clear hb
        refine ⟨_, rfl, hS.drop.drop, ?_⟩
        simp only [Act.put, List.getElem_toArray, List.getElem_cons_succ, List.getElem_cons_zero, List.setIfInBounds_toArray, List.set_cons_zero, List.set_cons_succ]
        refine wpAnyH_all (rs := [2]) (by kernel_rfl) (by simp) ?_
        intro i hi
        obtain rfl : i = 2 := by simpa using hi
        refine o_callR rfl rfl (by kernel_rfl) (wide_any x 0 _ HX.out.1 (by decide)) ?_
        rintro e w1 ⟨rfl, hb⟩
        replace hS := hS.call hb
        clear hb
        refine ⟨_, rfl, hS.drop.drop, ?_⟩
        simp only [Act.put, List.getElem_toArray, List.getElem_cons_succ, List.getElem_cons_zero, List.setIfInBounds_toArray, List.set_cons_zero, List.set_cons_succ]
        refine wpAnyH_all (rs := [4]) (by kernel_rfl) (by simp) ?_
        intro i hi
        obtain rfl : i = 4 := by simpa using hi
        refine o_callR rfl rfl (by kernel_rfl) (load_any y _) ?_
        rintro e w1 ⟨rfl, hb⟩
        replace hS := hS.call hb
        clear hb
        refine ⟨_, rfl, hS.drop.drop, ?_⟩
        simp only [Act.put, List.getElem_toArray, List.getElem_cons_succ, List.getElem_cons_zero, List.setIfInBounds_toArray, List.set_cons_zero, List.set_cons_succ]
        refine wpAnyH_all (rs := [5]) (by kernel_rfl) (by simp) ?_
        intro i hi
        obtain rfl : i = 5 := by simpa using hi
        refine o_callR rfl rfl (by kernel_rfl) (divide_r (x + 0 * 2 ^ 256) y _ HX.out.2.2 HX.out.2.1) ?_
        rintro e w1 ⟨rfl, hb⟩
        replace hS := hS.call hb
        clear hb
        refine ⟨_, rfl, hS.drop.drop, ?_⟩
        simp only [Act.put, List.getElem_toArray, List.getElem_cons_succ, List.getElem_cons_zero, List.setIfInBounds_toArray, List.set_cons_zero, List.set_cons_succ]
        refine wpAnyH_take (i := 6) rfl (by kernel_rfl) (by kernel_rfl) (by kernel_rfl) (fun _ _ _ h => h) (y_move rfl _ (.inl rfl) rfl) hS.drop.drop ?_; simp only [Act.put, List.getElem_toArray, List.getElem_cons_succ, List.getElem_cons_zero, List.setIfInBounds_toArray, List.set_cons_zero, List.set_cons_succ]
        refine wpAnyH_take (i := 7) rfl (by kernel_rfl) (by kernel_rfl) (by kernel_rfl) (fun _ _ _ h => h) (y_extract rfl _ 0 rfl rfl rfl) hS.drop.drop ?_; simp only [Act.put, List.getElem_toArray, List.getElem_cons_succ, List.getElem_cons_zero, List.setIfInBounds_toArray, List.set_cons_zero, List.set_cons_succ]
        refine wpAnyH_take (i := 8) rfl (by kernel_rfl) (by kernel_rfl) (by kernel_rfl) (fun _ _ _ h => h) (y_extract rfl _ 1 rfl rfl rfl) hS.drop.drop ?_; simp only [Act.put, List.getElem_toArray, List.getElem_cons_succ, List.getElem_cons_zero, List.setIfInBounds_toArray, List.set_cons_zero, List.set_cons_succ]
        replace hS := hS.swap
        refine wpAnyH_all (rs := [11]) (by kernel_rfl) (by simp) ?_
        intro i hi
        obtain rfl : i = 11 := by simpa using hi
        refine o_store (c' := dig 8 ((x + 0 * 2 ^ 256) / y)) rfl rfl hS 53 _ _ rfl rfl rfl (by repeat (first | exact Upd.head | apply Upd.tail)) wide_size (dig_size _ _) (dig_size _ _) (dig_one _ _) fun w1 hS => ⟨hS.drop.drop, ?_⟩
        simp only [Act.put, List.getElem_toArray, List.getElem_cons_succ, List.getElem_cons_zero, List.setIfInBounds_toArray, List.set_cons_zero, List.set_cons_succ]
        refine wpAnyH_all (rs := [12]) (by kernel_rfl) (by simp) ?_
        intro i hi
        obtain rfl : i = 12 := by simpa using hi
        refine o_store (c' := dig 4 (restN (x + 0 * 2 ^ 256) y)) rfl rfl hS 42 _ _ rfl rfl rfl (by repeat (first | exact Upd.head | apply Upd.tail)) limbs_size (dig_size _ _) (dig_size _ _) (dig_one _ _) fun w1 hS => ⟨hS.drop.drop, ?_⟩
        simp only [Act.put, List.getElem_toArray, List.getElem_cons_succ, List.getElem_cons_zero, List.setIfInBounds_toArray, List.set_cons_zero, List.set_cons_succ]
        refine wpAnyH_done (by kernel_rfl) ?_ _
        go_wp2_with (fail)
        go_meet
        exact ⟨_, _, rfl, rfl, hS⟩
  case rest =>
    clear hS
    obtain ⟨c5, c6, rfl, rfl, hS⟩ := hcut
    rw [Nat.zero_mul, Nat.add_zero] at hS
    rw [show restN x y = wrest x y from rfl] at hS
    go_wp2_with (first | (refine st_load hS rfl 42 _ rfl rfl (by repeat (first | exact At.head | apply At.tail)) limbs_type rfl limbs_size (dig_size _ _) ?_) | (refine st_store hS rfl 23 _ _ rfl rfl rfl (by repeat (first | exact Upd.head | apply Upd.tail)) word_size (wf_size _) (wf_size _) (wf_one _) ?_; clear hS; intro w1 hS) | (go_at_call 68; with_reducible refine (word_any _ _).mono ?_; rintro e w1 ⟨rfl, hb⟩; replace hS := hS.call hb; clear hb))
    exact st_post hS 4 23 rfl rfl rfl (by repeat (first | exact At.head | apply At.tail)) word_type rfl word_size (wf_size _) (fun hb => ⟨rfl, hb⟩)
end Go.Proofs.Ytcdjinjeogodfaa
