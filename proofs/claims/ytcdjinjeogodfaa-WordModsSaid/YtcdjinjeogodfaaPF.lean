/- Products modulo a word. -/
import Derived.Test.YtcdjinjeogodfaaE1
import Derived.StillTailTactics
/-! Products modulo a word. -/
namespace Go.Proofs.Ytcdjinjeogodfaa
open Go.RowKit

theorem prod_pow {x y m e : Nat} (hx : x < 2 ^ m) (hy : y < 2 ^ m) (he : m + m = e) : x * y < 2 ^ e := by
  rw [← he, Nat.pow_add]; exact Nat.mul_lt_mul'' hx hy
theorem prod_lt {x y : Nat} (hx : x < M256) (hy : y < M256) : x * y < 2 ^ (64 * 8) := by
  have h := @prod_pow x y 256 (64 * 8) hx hy (by decide)
  exact h
set_option maxHeartbeats 8000000 in
set_option maxRecDepth 100000 in
theorem mulmod_any (x y n : Nat) (hx : x < M256) (hy : y < M256) (hn : n < M256) (w : World) :
    Calls Try.prog 34 #[.agg (wcells x), .agg (wcells y), .agg (wcells n)] w fun e w' => e = .returned (.agg (wcells (restN (x * y) n))) ∧ Below w.heap.size w w' := by
  have HX := Lib.hid (And.intro hx (And.intro hy (And.intro hn (prod_lt hx hy))))
  clear hx hy hn
  have hS := St.start w
  go_enter Try.func34, Try.ntmps34
  go_wp2_with (first | (have _t := b4; clear _t; refine st_new hS rfl 23 rfl word_zero ?_; clear hS; intro w1 b5 hS) | (have _t := b3; clear _t; refine st_box hS rfl _ _ rfl rfl ?_; clear hS; intro w1 b4 hS) | (have _t := b2; clear _t; refine st_box hS rfl _ _ rfl rfl ?_; clear hS; intro w1 b3 hS) | (refine st_box hS rfl _ _ rfl rfl ?_; clear hS; intro w1 b2 hS))
  try simp only [Act.put, List.setIfInBounds_toArray, List.set_cons_zero, List.set_cons_succ]
  go_cut [7, 8] (fun s7 s8 wx => ∃ c7 c8 : Nat, s7 = .pointer (some ⟨c7, 0, none⟩) ∧ s8 = .pointer (some ⟨c8, 0, none⟩) ∧ St w wx [(c8, 42, dig 4 (restN (x * y) n)), (c7, 53, dig 8 (x * y / n)), (b5, 23, wcells 0), (b4, 23, wcells n), (b3, 23, wcells y), (b2, 23, wcells x)])
  case first =>
    refine wp_region_held_drew (S := fun w' => St w w' _) (by kernel_rfl) hS.drew fun _ => ?_
    replace hS := hS.drew
    simp only [List.size_toArray, List.length_cons, List.length_nil, Nat.reduceAdd, Array.replicate_succ, Array.replicate_zero, List.push_toArray, List.nil_append, List.cons_append]
    refine wpAnyH_take (i := 0) rfl (by kernel_rfl) (by kernel_rfl) (by kernel_rfl) (fun _ _ _ h => h) (y_load rfl 23 _ rfl rfl (by repeat (first | exact At.head | apply At.tail)) word_type rfl word_size (wf_size _)) hS ?_; simp only [Act.put, List.getElem_toArray, List.getElem_cons_succ, List.getElem_cons_zero, List.setIfInBounds_toArray, List.set_cons_zero, List.set_cons_succ]
    refine wpAnyH_take (i := 2) rfl (by kernel_rfl) (by kernel_rfl) (by kernel_rfl) (fun _ _ _ h => h) (y_load rfl 23 _ rfl rfl (by repeat (first | exact At.head | apply At.tail)) word_type rfl word_size (wf_size _)) hS ?_; simp only [Act.put, List.getElem_toArray, List.getElem_cons_succ, List.getElem_cons_zero, List.setIfInBounds_toArray, List.set_cons_zero, List.set_cons_succ]
    refine wpAnyH_take (i := 5) rfl (by kernel_rfl) (by kernel_rfl) (by kernel_rfl) (fun _ _ _ h => h) (y_load rfl 23 _ rfl rfl (by repeat (first | exact At.head | apply At.tail)) word_type rfl word_size (wf_size _)) hS ?_; simp only [Act.put, List.getElem_toArray, List.getElem_cons_succ, List.getElem_cons_zero, List.setIfInBounds_toArray, List.set_cons_zero, List.set_cons_succ]
    refine wpAnyH_all (rs := [1, 11, 12]) (by kernel_rfl) (by simp) ?_
    intro i hi
    have hi2 : i = 1 ∨ i = 11 ∨ i = 12 := by simpa using hi
    rcases hi2 with rfl | rfl | rfl
    ·
      refine o_callR rfl rfl (by kernel_rfl) (load_any x _) ?_
      rintro e w1 ⟨rfl, hb⟩
      replace hS := hS.call hb
      clear hb
      refine ⟨_, rfl, hS, ?_⟩
      simp only [Act.put, List.getElem_toArray, List.getElem_cons_succ, List.getElem_cons_zero, List.setIfInBounds_toArray, List.set_cons_zero, List.set_cons_succ]
      refine wpAnyH_all (rs := [3, 11, 12]) (by kernel_rfl) (by simp) ?_
      intro i hi
      have hi2 : i = 3 ∨ i = 11 ∨ i = 12 := by simpa using hi
      rcases hi2 with rfl | rfl | rfl
      ·
        refine o_callR rfl rfl (by kernel_rfl) (load_any y _) ?_
        rintro e w1 ⟨rfl, hb⟩
        replace hS := hS.call hb
        clear hb
        refine ⟨_, rfl, hS, ?_⟩
        simp only [Act.put, List.getElem_toArray, List.getElem_cons_succ, List.getElem_cons_zero, List.setIfInBounds_toArray, List.set_cons_zero, List.set_cons_succ]
        refine wpAnyH_all (rs := [4, 11, 12]) (by kernel_rfl) (by simp) ?_
        intro i hi
        have hi2 : i = 4 ∨ i = 11 ∨ i = 12 := by simpa using hi
        rcases hi2 with rfl | rfl | rfl
        ·
          refine o_callR rfl rfl (by kernel_rfl) (times_any x y HX.out.1 HX.out.2.1 _) ?_
          rintro e w1 ⟨rfl, hb⟩
          replace hS := hS.call hb
          clear hb
          refine ⟨_, rfl, hS, ?_⟩
          simp only [Act.put, List.getElem_toArray, List.getElem_cons_succ, List.getElem_cons_zero, List.setIfInBounds_toArray, List.set_cons_zero, List.set_cons_succ]
          refine wpAnyH_all (rs := [6, 11, 12]) (by kernel_rfl) (by simp) ?_
          intro i hi
          have hi2 : i = 6 ∨ i = 11 ∨ i = 12 := by simpa using hi
          rcases hi2 with rfl | rfl | rfl
          ·
            refine o_callR rfl rfl (by kernel_rfl) (load_any n _) ?_
            rintro e w1 ⟨rfl, hb⟩
            replace hS := hS.call hb
            clear hb
            refine ⟨_, rfl, hS, ?_⟩
            simp only [Act.put, List.getElem_toArray, List.getElem_cons_succ, List.getElem_cons_zero, List.setIfInBounds_toArray, List.set_cons_zero, List.set_cons_succ]
            refine wpAnyH_all (rs := [7, 11, 12]) (by kernel_rfl) (by simp) ?_
            intro i hi
            have hi2 : i = 7 ∨ i = 11 ∨ i = 12 := by simpa using hi
            rcases hi2 with rfl | rfl | rfl
            ·
              refine o_callR rfl rfl (by kernel_rfl) (divide_r (x * y) n _ HX.out.2.2.2 HX.out.2.2.1) ?_
              rintro e w1 ⟨rfl, hb⟩
              replace hS := hS.call hb
              clear hb
              refine ⟨_, rfl, hS, ?_⟩
              simp only [Act.put, List.getElem_toArray, List.getElem_cons_succ, List.getElem_cons_zero, List.setIfInBounds_toArray, List.set_cons_zero, List.set_cons_succ]
              refine wpAnyH_take (i := 8) rfl (by kernel_rfl) (by kernel_rfl) (by kernel_rfl) (fun _ _ _ h => h) (y_move rfl _ (.inl rfl) rfl) hS ?_; simp only [Act.put, List.getElem_toArray, List.getElem_cons_succ, List.getElem_cons_zero, List.setIfInBounds_toArray, List.set_cons_zero, List.set_cons_succ]
              refine wpAnyH_take (i := 9) rfl (by kernel_rfl) (by kernel_rfl) (by kernel_rfl) (fun _ _ _ h => h) (y_extract rfl _ 0 rfl rfl rfl) hS ?_; simp only [Act.put, List.getElem_toArray, List.getElem_cons_succ, List.getElem_cons_zero, List.setIfInBounds_toArray, List.set_cons_zero, List.set_cons_succ]
              refine wpAnyH_take (i := 10) rfl (by kernel_rfl) (by kernel_rfl) (by kernel_rfl) (fun _ _ _ h => h) (y_extract rfl _ 1 rfl rfl rfl) hS ?_; simp only [Act.put, List.getElem_toArray, List.getElem_cons_succ, List.getElem_cons_zero, List.setIfInBounds_toArray, List.set_cons_zero, List.set_cons_succ]
              refine wpAnyH_all (rs := [11, 12]) (by kernel_rfl) (by simp) ?_
              intro i hi
              have hi2 : i = 11 ∨ i = 12 := by simpa using hi
              rcases hi2 with rfl | rfl
              ·
                refine o_new rfl rfl 53 rfl wide_zero hS fun w1 c11 hS => ⟨hS.drop, ?_⟩
                simp only [Act.put, List.getElem_toArray, List.getElem_cons_succ, List.getElem_cons_zero, List.setIfInBounds_toArray, List.set_cons_zero, List.set_cons_succ]
                refine wpAnyH_all (rs := [12]) (by kernel_rfl) (by simp) ?_
                intro i hi
                obtain rfl : i = 12 := by simpa using hi
                refine o_new rfl rfl 42 rfl limbs_zero hS fun w1 c12 hS => ⟨hS.drop.drop, ?_⟩
                simp only [Act.put, List.getElem_toArray, List.getElem_cons_succ, List.getElem_cons_zero, List.setIfInBounds_toArray, List.set_cons_zero, List.set_cons_succ]
                refine wpAnyH_all (rs := [13]) (by kernel_rfl) (by simp) ?_
                intro i hi
                obtain rfl : i = 13 := by simpa using hi
                refine o_store (c' := dig 8 (x * y / n)) rfl rfl hS 53 _ _ rfl rfl rfl (by repeat (first | exact Upd.head | apply Upd.tail)) wide_size (dig_size _ _) (dig_size _ _) (dig_one _ _) fun w1 hS => ⟨hS.drop.drop, ?_⟩
                simp only [Act.put, List.getElem_toArray, List.getElem_cons_succ, List.getElem_cons_zero, List.setIfInBounds_toArray, List.set_cons_zero, List.set_cons_succ]
                refine wpAnyH_all (rs := [14]) (by kernel_rfl) (by simp) ?_
                intro i hi
                obtain rfl : i = 14 := by simpa using hi
                refine o_store (c' := dig 4 (restN (x * y) n)) rfl rfl hS 42 _ _ rfl rfl rfl (by repeat (first | exact Upd.head | apply Upd.tail)) limbs_size (dig_size _ _) (dig_size _ _) (dig_one _ _) fun w1 hS => ⟨hS.drop.drop, ?_⟩
                simp only [Act.put, List.getElem_toArray, List.getElem_cons_succ, List.getElem_cons_zero, List.setIfInBounds_toArray, List.set_cons_zero, List.set_cons_succ]
                refine wpAnyH_done (by kernel_rfl) ?_ _
                go_wp2_with (fail)
                go_meet
                exact ⟨_, _, rfl, rfl, hS⟩
              ·
                refine o_new rfl rfl 42 rfl limbs_zero hS fun w1 c12 hS => ⟨hS.drop, ?_⟩
                simp only [Act.put, List.getElem_toArray, List.getElem_cons_succ, List.getElem_cons_zero, List.setIfInBounds_toArray, List.set_cons_zero, List.set_cons_succ]
                refine wpAnyH_all (rs := [11]) (by kernel_rfl) (by simp) ?_
                intro i hi
                obtain rfl : i = 11 := by simpa using hi
                refine o_new rfl rfl 53 rfl wide_zero hS fun w1 c11 hS => ⟨hS.drop.drop, ?_⟩
                simp only [Act.put, List.getElem_toArray, List.getElem_cons_succ, List.getElem_cons_zero, List.setIfInBounds_toArray, List.set_cons_zero, List.set_cons_succ]
                replace hS := hS.swap
                refine wpAnyH_all (rs := [13]) (by kernel_rfl) (by simp) ?_
                intro i hi
                obtain rfl : i = 13 := by simpa using hi
                refine o_store (c' := dig 8 (x * y / n)) rfl rfl hS 53 _ _ rfl rfl rfl (by repeat (first | exact Upd.head | apply Upd.tail)) wide_size (dig_size _ _) (dig_size _ _) (dig_one _ _) fun w1 hS => ⟨hS.drop.drop, ?_⟩
                simp only [Act.put, List.getElem_toArray, List.getElem_cons_succ, List.getElem_cons_zero, List.setIfInBounds_toArray, List.set_cons_zero, List.set_cons_succ]
                refine wpAnyH_all (rs := [14]) (by kernel_rfl) (by simp) ?_
                intro i hi
                obtain rfl : i = 14 := by simpa using hi
                refine o_store (c' := dig 4 (restN (x * y) n)) rfl rfl hS 42 _ _ rfl rfl rfl (by repeat (first | exact Upd.head | apply Upd.tail)) limbs_size (dig_size _ _) (dig_size _ _) (dig_one _ _) fun w1 hS => ⟨hS.drop.drop, ?_⟩
                simp only [Act.put, List.getElem_toArray, List.getElem_cons_succ, List.getElem_cons_zero, List.setIfInBounds_toArray, List.set_cons_zero, List.set_cons_succ]
                refine wpAnyH_done (by kernel_rfl) ?_ _
                go_wp2_with (fail)
                go_meet
                exact ⟨_, _, rfl, rfl, hS⟩
            ·
              refine o_new rfl rfl 53 rfl wide_zero hS fun w1 c11 hS => ⟨hS.drop, ?_⟩
              simp only [Act.put, List.getElem_toArray, List.getElem_cons_succ, List.getElem_cons_zero, List.setIfInBounds_toArray, List.set_cons_zero, List.set_cons_succ]
              refine wpAnyH_all (rs := [7, 12]) (by kernel_rfl) (by simp) ?_
              intro i hi
              have hi2 : i = 7 ∨ i = 12 := by simpa using hi
              rcases hi2 with rfl | rfl
              ·
                refine o_callR rfl rfl (by kernel_rfl) (divide_r (x * y) n _ HX.out.2.2.2 HX.out.2.2.1) ?_
                rintro e w1 ⟨rfl, hb⟩
                replace hS := hS.call hb
                clear hb
                refine ⟨_, rfl, hS.drop, ?_⟩
                simp only [Act.put, List.getElem_toArray, List.getElem_cons_succ, List.getElem_cons_zero, List.setIfInBounds_toArray, List.set_cons_zero, List.set_cons_succ]
                refine wpAnyH_take (i := 8) rfl (by kernel_rfl) (by kernel_rfl) (by kernel_rfl) (fun _ _ _ h => h) (y_move rfl _ (.inl rfl) rfl) hS.drop ?_; simp only [Act.put, List.getElem_toArray, List.getElem_cons_succ, List.getElem_cons_zero, List.setIfInBounds_toArray, List.set_cons_zero, List.set_cons_succ]
                refine wpAnyH_take (i := 9) rfl (by kernel_rfl) (by kernel_rfl) (by kernel_rfl) (fun _ _ _ h => h) (y_extract rfl _ 0 rfl rfl rfl) hS.drop ?_; simp only [Act.put, List.getElem_toArray, List.getElem_cons_succ, List.getElem_cons_zero, List.setIfInBounds_toArray, List.set_cons_zero, List.set_cons_succ]
                refine wpAnyH_take (i := 10) rfl (by kernel_rfl) (by kernel_rfl) (by kernel_rfl) (fun _ _ _ h => h) (y_extract rfl _ 1 rfl rfl rfl) hS.drop ?_; simp only [Act.put, List.getElem_toArray, List.getElem_cons_succ, List.getElem_cons_zero, List.setIfInBounds_toArray, List.set_cons_zero, List.set_cons_succ]
                refine wpAnyH_all (rs := [12]) (by kernel_rfl) (by simp) ?_
                intro i hi
                obtain rfl : i = 12 := by simpa using hi
                refine o_new rfl rfl 42 rfl limbs_zero hS fun w1 c12 hS => ⟨hS.drop.drop, ?_⟩
                simp only [Act.put, List.getElem_toArray, List.getElem_cons_succ, List.getElem_cons_zero, List.setIfInBounds_toArray, List.set_cons_zero, List.set_cons_succ]
                refine wpAnyH_all (rs := [13]) (by kernel_rfl) (by simp) ?_
                intro i hi
                obtain rfl : i = 13 := by simpa using hi
                refine o_store (c' := dig 8 (x * y / n)) rfl rfl hS 53 _ _ rfl rfl rfl (by repeat (first | exact Upd.head | apply Upd.tail)) wide_size (dig_size _ _) (dig_size _ _) (dig_one _ _) fun w1 hS => ⟨hS.drop.drop, ?_⟩
                simp only [Act.put, List.getElem_toArray, List.getElem_cons_succ, List.getElem_cons_zero, List.setIfInBounds_toArray, List.set_cons_zero, List.set_cons_succ]
                refine wpAnyH_all (rs := [14]) (by kernel_rfl) (by simp) ?_
                intro i hi
                obtain rfl : i = 14 := by simpa using hi
                refine o_store (c' := dig 4 (restN (x * y) n)) rfl rfl hS 42 _ _ rfl rfl rfl (by repeat (first | exact Upd.head | apply Upd.tail)) limbs_size (dig_size _ _) (dig_size _ _) (dig_one _ _) fun w1 hS => ⟨hS.drop.drop, ?_⟩
                simp only [Act.put, List.getElem_toArray, List.getElem_cons_succ, List.getElem_cons_zero, List.setIfInBounds_toArray, List.set_cons_zero, List.set_cons_succ]
                refine wpAnyH_done (by kernel_rfl) ?_ _
                go_wp2_with (fail)
                go_meet
                exact ⟨_, _, rfl, rfl, hS⟩
              ·
                refine o_new rfl rfl 42 rfl limbs_zero hS fun w1 c12 hS => ⟨hS.drop.drop, ?_⟩
                simp only [Act.put, List.getElem_toArray, List.getElem_cons_succ, List.getElem_cons_zero, List.setIfInBounds_toArray, List.set_cons_zero, List.set_cons_succ]
                refine wpAnyH_all (rs := [7]) (by kernel_rfl) (by simp) ?_
                intro i hi
                obtain rfl : i = 7 := by simpa using hi
                refine o_callR rfl rfl (by kernel_rfl) (divide_r (x * y) n _ HX.out.2.2.2 HX.out.2.2.1) ?_
                rintro e w1 ⟨rfl, hb⟩
                replace hS := hS.call hb
                clear hb
                refine ⟨_, rfl, hS.drop.drop, ?_⟩
                simp only [Act.put, List.getElem_toArray, List.getElem_cons_succ, List.getElem_cons_zero, List.setIfInBounds_toArray, List.set_cons_zero, List.set_cons_succ]
                refine wpAnyH_take (i := 8) rfl (by kernel_rfl) (by kernel_rfl) (by kernel_rfl) (fun _ _ _ h => h) (y_move rfl _ (.inl rfl) rfl) hS.drop.drop ?_; simp only [Act.put, List.getElem_toArray, List.getElem_cons_succ, List.getElem_cons_zero, List.setIfInBounds_toArray, List.set_cons_zero, List.set_cons_succ]
                refine wpAnyH_take (i := 9) rfl (by kernel_rfl) (by kernel_rfl) (by kernel_rfl) (fun _ _ _ h => h) (y_extract rfl _ 0 rfl rfl rfl) hS.drop.drop ?_; simp only [Act.put, List.getElem_toArray, List.getElem_cons_succ, List.getElem_cons_zero, List.setIfInBounds_toArray, List.set_cons_zero, List.set_cons_succ]
                refine wpAnyH_take (i := 10) rfl (by kernel_rfl) (by kernel_rfl) (by kernel_rfl) (fun _ _ _ h => h) (y_extract rfl _ 1 rfl rfl rfl) hS.drop.drop ?_; simp only [Act.put, List.getElem_toArray, List.getElem_cons_succ, List.getElem_cons_zero, List.setIfInBounds_toArray, List.set_cons_zero, List.set_cons_succ]
                refine wpAnyH_all (rs := [13]) (by kernel_rfl) (by simp) ?_
                intro i hi
                obtain rfl : i = 13 := by simpa using hi
                refine o_store (c' := dig 8 (x * y / n)) rfl rfl hS 53 _ _ rfl rfl rfl (by repeat (first | exact Upd.head | apply Upd.tail)) wide_size (dig_size _ _) (dig_size _ _) (dig_one _ _) fun w1 hS => ⟨hS.drop.drop, ?_⟩
                simp only [Act.put, List.getElem_toArray, List.getElem_cons_succ, List.getElem_cons_zero, List.setIfInBounds_toArray, List.set_cons_zero, List.set_cons_succ]
                refine wpAnyH_all (rs := [14]) (by kernel_rfl) (by simp) ?_
                intro i hi
                obtain rfl : i = 14 := by simpa using hi
                refine o_store (c' := dig 4 (restN (x * y) n)) rfl rfl hS 42 _ _ rfl rfl rfl (by repeat (first | exact Upd.head | apply Upd.tail)) limbs_size (dig_size _ _) (dig_size _ _) (dig_one _ _) fun w1 hS => ⟨hS.drop.drop, ?_⟩
                simp only [Act.put, List.getElem_toArray, List.getElem_cons_succ, List.getElem_cons_zero, List.setIfInBounds_toArray, List.set_cons_zero, List.set_cons_succ]
                refine wpAnyH_done (by kernel_rfl) ?_ _
                go_wp2_with (fail)
                go_meet
                exact ⟨_, _, rfl, rfl, hS⟩
            ·
              refine o_new rfl rfl 42 rfl limbs_zero hS fun w1 c12 hS => ⟨hS.drop, ?_⟩
              simp only [Act.put, List.getElem_toArray, List.getElem_cons_succ, List.getElem_cons_zero, List.setIfInBounds_toArray, List.set_cons_zero, List.set_cons_succ]
              refine wpAnyH_all (rs := [7, 11]) (by kernel_rfl) (by simp) ?_
              intro i hi
              have hi2 : i = 7 ∨ i = 11 := by simpa using hi
              rcases hi2 with rfl | rfl
              ·
                refine o_callR rfl rfl (by kernel_rfl) (divide_r (x * y) n _ HX.out.2.2.2 HX.out.2.2.1) ?_
                rintro e w1 ⟨rfl, hb⟩
                replace hS := hS.call hb
                clear hb
                refine ⟨_, rfl, hS.drop, ?_⟩
                simp only [Act.put, List.getElem_toArray, List.getElem_cons_succ, List.getElem_cons_zero, List.setIfInBounds_toArray, List.set_cons_zero, List.set_cons_succ]
                refine wpAnyH_take (i := 8) rfl (by kernel_rfl) (by kernel_rfl) (by kernel_rfl) (fun _ _ _ h => h) (y_move rfl _ (.inl rfl) rfl) hS.drop ?_; simp only [Act.put, List.getElem_toArray, List.getElem_cons_succ, List.getElem_cons_zero, List.setIfInBounds_toArray, List.set_cons_zero, List.set_cons_succ]
                refine wpAnyH_take (i := 9) rfl (by kernel_rfl) (by kernel_rfl) (by kernel_rfl) (fun _ _ _ h => h) (y_extract rfl _ 0 rfl rfl rfl) hS.drop ?_; simp only [Act.put, List.getElem_toArray, List.getElem_cons_succ, List.getElem_cons_zero, List.setIfInBounds_toArray, List.set_cons_zero, List.set_cons_succ]
                refine wpAnyH_take (i := 10) rfl (by kernel_rfl) (by kernel_rfl) (by kernel_rfl) (fun _ _ _ h => h) (y_extract rfl _ 1 rfl rfl rfl) hS.drop ?_; simp only [Act.put, List.getElem_toArray, List.getElem_cons_succ, List.getElem_cons_zero, List.setIfInBounds_toArray, List.set_cons_zero, List.set_cons_succ]
                refine wpAnyH_all (rs := [11]) (by kernel_rfl) (by simp) ?_
                intro i hi
                obtain rfl : i = 11 := by simpa using hi
                refine o_new rfl rfl 53 rfl wide_zero hS fun w1 c11 hS => ⟨hS.drop.drop, ?_⟩
                simp only [Act.put, List.getElem_toArray, List.getElem_cons_succ, List.getElem_cons_zero, List.setIfInBounds_toArray, List.set_cons_zero, List.set_cons_succ]
                replace hS := hS.swap
                refine wpAnyH_all (rs := [13]) (by kernel_rfl) (by simp) ?_
                intro i hi
                obtain rfl : i = 13 := by simpa using hi
                refine o_store (c' := dig 8 (x * y / n)) rfl rfl hS 53 _ _ rfl rfl rfl (by repeat (first | exact Upd.head | apply Upd.tail)) wide_size (dig_size _ _) (dig_size _ _) (dig_one _ _) fun w1 hS => ⟨hS.drop.drop, ?_⟩
                simp only [Act.put, List.getElem_toArray, List.getElem_cons_succ, List.getElem_cons_zero, List.setIfInBounds_toArray, List.set_cons_zero, List.set_cons_succ]
                refine wpAnyH_all (rs := [14]) (by kernel_rfl) (by simp) ?_
                intro i hi
                obtain rfl : i = 14 := by simpa using hi
                refine o_store (c' := dig 4 (restN (x * y) n)) rfl rfl hS 42 _ _ rfl rfl rfl (by repeat (first | exact Upd.head | apply Upd.tail)) limbs_size (dig_size _ _) (dig_size _ _) (dig_one _ _) fun w1 hS => ⟨hS.drop.drop, ?_⟩
                simp only [Act.put, List.getElem_toArray, List.getElem_cons_succ, List.getElem_cons_zero, List.setIfInBounds_toArray, List.set_cons_zero, List.set_cons_succ]
                refine wpAnyH_done (by kernel_rfl) ?_ _
                go_wp2_with (fail)
                go_meet
                exact ⟨_, _, rfl, rfl, hS⟩
              ·
                refine o_new rfl rfl 53 rfl wide_zero hS fun w1 c11 hS => ⟨hS.drop.drop, ?_⟩
                simp only [Act.put, List.getElem_toArray, List.getElem_cons_succ, List.getElem_cons_zero, List.setIfInBounds_toArray, List.set_cons_zero, List.set_cons_succ]
                refine wpAnyH_all (rs := [7]) (by kernel_rfl) (by simp) ?_
                intro i hi
                obtain rfl : i = 7 := by simpa using hi
                refine o_callR rfl rfl (by kernel_rfl) (divide_r (x * y) n _ HX.out.2.2.2 HX.out.2.2.1) ?_
                rintro e w1 ⟨rfl, hb⟩
                replace hS := hS.call hb
                clear hb
                refine ⟨_, rfl, hS.drop.drop, ?_⟩
                simp only [Act.put, List.getElem_toArray, List.getElem_cons_succ, List.getElem_cons_zero, List.setIfInBounds_toArray, List.set_cons_zero, List.set_cons_succ]
                refine wpAnyH_take (i := 8) rfl (by kernel_rfl) (by kernel_rfl) (by kernel_rfl) (fun _ _ _ h => h) (y_move rfl _ (.inl rfl) rfl) hS.drop.drop ?_; simp only [Act.put, List.getElem_toArray, List.getElem_cons_succ, List.getElem_cons_zero, List.setIfInBounds_toArray, List.set_cons_zero, List.set_cons_succ]
                refine wpAnyH_take (i := 9) rfl (by kernel_rfl) (by kernel_rfl) (by kernel_rfl) (fun _ _ _ h => h) (y_extract rfl _ 0 rfl rfl rfl) hS.drop.drop ?_; simp only [Act.put, List.getElem_toArray, List.getElem_cons_succ, List.getElem_cons_zero, List.setIfInBounds_toArray, List.set_cons_zero, List.set_cons_succ]
                refine wpAnyH_take (i := 10) rfl (by kernel_rfl) (by kernel_rfl) (by kernel_rfl) (fun _ _ _ h => h) (y_extract rfl _ 1 rfl rfl rfl) hS.drop.drop ?_; simp only [Act.put, List.getElem_toArray, List.getElem_cons_succ, List.getElem_cons_zero, List.setIfInBounds_toArray, List.set_cons_zero, List.set_cons_succ]
                replace hS := hS.swap
                refine wpAnyH_all (rs := [13]) (by kernel_rfl) (by simp) ?_
                intro i hi
                obtain rfl : i = 13 := by simpa using hi
                refine o_store (c' := dig 8 (x * y / n)) rfl rfl hS 53 _ _ rfl rfl rfl (by repeat (first | exact Upd.head | apply Upd.tail)) wide_size (dig_size _ _) (dig_size _ _) (dig_one _ _) fun w1 hS => ⟨hS.drop.drop, ?_⟩
                simp only [Act.put, List.getElem_toArray, List.getElem_cons_succ, List.getElem_cons_zero, List.setIfInBounds_toArray, List.set_cons_zero, List.set_cons_succ]
                refine wpAnyH_all (rs := [14]) (by kernel_rfl) (by simp) ?_
                intro i hi
                obtain rfl : i = 14 := by simpa using hi
                refine o_store (c' := dig 4 (restN (x * y) n)) rfl rfl hS 42 _ _ rfl rfl rfl (by repeat (first | exact Upd.head | apply Upd.tail)) limbs_size (dig_size _ _) (dig_size _ _) (dig_one _ _) fun w1 hS => ⟨hS.drop.drop, ?_⟩
                simp only [Act.put, List.getElem_toArray, List.getElem_cons_succ, List.getElem_cons_zero, List.setIfInBounds_toArray, List.set_cons_zero, List.set_cons_succ]
                refine wpAnyH_done (by kernel_rfl) ?_ _
                go_wp2_with (fail)
                go_meet
                exact ⟨_, _, rfl, rfl, hS⟩
          ·
            refine o_new rfl rfl 53 rfl wide_zero hS fun w1 c11 hS => ⟨hS.drop, ?_⟩
            simp only [Act.put, List.getElem_toArray, List.getElem_cons_succ, List.getElem_cons_zero, List.setIfInBounds_toArray, List.set_cons_zero, List.set_cons_succ]
            refine wpAnyH_all (rs := [6, 12]) (by kernel_rfl) (by simp) ?_
            intro i hi
            have hi2 : i = 6 ∨ i = 12 := by simpa using hi
            rcases hi2 with rfl | rfl
            ·
              refine o_callR rfl rfl (by kernel_rfl) (load_any n _) ?_
              rintro e w1 ⟨rfl, hb⟩
              replace hS := hS.call hb
              clear hb
              refine ⟨_, rfl, hS.drop, ?_⟩
              simp only [Act.put, List.getElem_toArray, List.getElem_cons_succ, List.getElem_cons_zero, List.setIfInBounds_toArray, List.set_cons_zero, List.set_cons_succ]
              refine wpAnyH_all (rs := [7, 12]) (by kernel_rfl) (by simp) ?_
              intro i hi
              have hi2 : i = 7 ∨ i = 12 := by simpa using hi
              rcases hi2 with rfl | rfl
              ·
                refine o_callR rfl rfl (by kernel_rfl) (divide_r (x * y) n _ HX.out.2.2.2 HX.out.2.2.1) ?_
                rintro e w1 ⟨rfl, hb⟩
                replace hS := hS.call hb
                clear hb
                refine ⟨_, rfl, hS.drop, ?_⟩
                simp only [Act.put, List.getElem_toArray, List.getElem_cons_succ, List.getElem_cons_zero, List.setIfInBounds_toArray, List.set_cons_zero, List.set_cons_succ]
                refine wpAnyH_take (i := 8) rfl (by kernel_rfl) (by kernel_rfl) (by kernel_rfl) (fun _ _ _ h => h) (y_move rfl _ (.inl rfl) rfl) hS.drop ?_; simp only [Act.put, List.getElem_toArray, List.getElem_cons_succ, List.getElem_cons_zero, List.setIfInBounds_toArray, List.set_cons_zero, List.set_cons_succ]
                refine wpAnyH_take (i := 9) rfl (by kernel_rfl) (by kernel_rfl) (by kernel_rfl) (fun _ _ _ h => h) (y_extract rfl _ 0 rfl rfl rfl) hS.drop ?_; simp only [Act.put, List.getElem_toArray, List.getElem_cons_succ, List.getElem_cons_zero, List.setIfInBounds_toArray, List.set_cons_zero, List.set_cons_succ]
                refine wpAnyH_take (i := 10) rfl (by kernel_rfl) (by kernel_rfl) (by kernel_rfl) (fun _ _ _ h => h) (y_extract rfl _ 1 rfl rfl rfl) hS.drop ?_; simp only [Act.put, List.getElem_toArray, List.getElem_cons_succ, List.getElem_cons_zero, List.setIfInBounds_toArray, List.set_cons_zero, List.set_cons_succ]
                refine wpAnyH_all (rs := [12]) (by kernel_rfl) (by simp) ?_
                intro i hi
                obtain rfl : i = 12 := by simpa using hi
                refine o_new rfl rfl 42 rfl limbs_zero hS fun w1 c12 hS => ⟨hS.drop.drop, ?_⟩
                simp only [Act.put, List.getElem_toArray, List.getElem_cons_succ, List.getElem_cons_zero, List.setIfInBounds_toArray, List.set_cons_zero, List.set_cons_succ]
                refine wpAnyH_all (rs := [13]) (by kernel_rfl) (by simp) ?_
                intro i hi
                obtain rfl : i = 13 := by simpa using hi
                refine o_store (c' := dig 8 (x * y / n)) rfl rfl hS 53 _ _ rfl rfl rfl (by repeat (first | exact Upd.head | apply Upd.tail)) wide_size (dig_size _ _) (dig_size _ _) (dig_one _ _) fun w1 hS => ⟨hS.drop.drop, ?_⟩
                simp only [Act.put, List.getElem_toArray, List.getElem_cons_succ, List.getElem_cons_zero, List.setIfInBounds_toArray, List.set_cons_zero, List.set_cons_succ]
                refine wpAnyH_all (rs := [14]) (by kernel_rfl) (by simp) ?_
                intro i hi
                obtain rfl : i = 14 := by simpa using hi
                refine o_store (c' := dig 4 (restN (x * y) n)) rfl rfl hS 42 _ _ rfl rfl rfl (by repeat (first | exact Upd.head | apply Upd.tail)) limbs_size (dig_size _ _) (dig_size _ _) (dig_one _ _) fun w1 hS => ⟨hS.drop.drop, ?_⟩
                simp only [Act.put, List.getElem_toArray, List.getElem_cons_succ, List.getElem_cons_zero, List.setIfInBounds_toArray, List.set_cons_zero, List.set_cons_succ]
                refine wpAnyH_done (by kernel_rfl) ?_ _
                go_wp2_with (fail)
                go_meet
                exact ⟨_, _, rfl, rfl, hS⟩
              ·
                refine o_new rfl rfl 42 rfl limbs_zero hS fun w1 c12 hS => ⟨hS.drop.drop, ?_⟩
                simp only [Act.put, List.getElem_toArray, List.getElem_cons_succ, List.getElem_cons_zero, List.setIfInBounds_toArray, List.set_cons_zero, List.set_cons_succ]
                refine wpAnyH_all (rs := [7]) (by kernel_rfl) (by simp) ?_
                intro i hi
                obtain rfl : i = 7 := by simpa using hi
                refine o_callR rfl rfl (by kernel_rfl) (divide_r (x * y) n _ HX.out.2.2.2 HX.out.2.2.1) ?_
                rintro e w1 ⟨rfl, hb⟩
                replace hS := hS.call hb
                clear hb
                refine ⟨_, rfl, hS.drop.drop, ?_⟩
                simp only [Act.put, List.getElem_toArray, List.getElem_cons_succ, List.getElem_cons_zero, List.setIfInBounds_toArray, List.set_cons_zero, List.set_cons_succ]
                refine wpAnyH_take (i := 8) rfl (by kernel_rfl) (by kernel_rfl) (by kernel_rfl) (fun _ _ _ h => h) (y_move rfl _ (.inl rfl) rfl) hS.drop.drop ?_; simp only [Act.put, List.getElem_toArray, List.getElem_cons_succ, List.getElem_cons_zero, List.setIfInBounds_toArray, List.set_cons_zero, List.set_cons_succ]
                refine wpAnyH_take (i := 9) rfl (by kernel_rfl) (by kernel_rfl) (by kernel_rfl) (fun _ _ _ h => h) (y_extract rfl _ 0 rfl rfl rfl) hS.drop.drop ?_; simp only [Act.put, List.getElem_toArray, List.getElem_cons_succ, List.getElem_cons_zero, List.setIfInBounds_toArray, List.set_cons_zero, List.set_cons_succ]
                refine wpAnyH_take (i := 10) rfl (by kernel_rfl) (by kernel_rfl) (by kernel_rfl) (fun _ _ _ h => h) (y_extract rfl _ 1 rfl rfl rfl) hS.drop.drop ?_; simp only [Act.put, List.getElem_toArray, List.getElem_cons_succ, List.getElem_cons_zero, List.setIfInBounds_toArray, List.set_cons_zero, List.set_cons_succ]
                refine wpAnyH_all (rs := [13]) (by kernel_rfl) (by simp) ?_
                intro i hi
                obtain rfl : i = 13 := by simpa using hi
                refine o_store (c' := dig 8 (x * y / n)) rfl rfl hS 53 _ _ rfl rfl rfl (by repeat (first | exact Upd.head | apply Upd.tail)) wide_size (dig_size _ _) (dig_size _ _) (dig_one _ _) fun w1 hS => ⟨hS.drop.drop, ?_⟩
                simp only [Act.put, List.getElem_toArray, List.getElem_cons_succ, List.getElem_cons_zero, List.setIfInBounds_toArray, List.set_cons_zero, List.set_cons_succ]
                refine wpAnyH_all (rs := [14]) (by kernel_rfl) (by simp) ?_
                intro i hi
                obtain rfl : i = 14 := by simpa using hi
                refine o_store (c' := dig 4 (restN (x * y) n)) rfl rfl hS 42 _ _ rfl rfl rfl (by repeat (first | exact Upd.head | apply Upd.tail)) limbs_size (dig_size _ _) (dig_size _ _) (dig_one _ _) fun w1 hS => ⟨hS.drop.drop, ?_⟩
                simp only [Act.put, List.getElem_toArray, List.getElem_cons_succ, List.getElem_cons_zero, List.setIfInBounds_toArray, List.set_cons_zero, List.set_cons_succ]
                refine wpAnyH_done (by kernel_rfl) ?_ _
                go_wp2_with (fail)
                go_meet
                exact ⟨_, _, rfl, rfl, hS⟩
            ·
              refine o_new rfl rfl 42 rfl limbs_zero hS fun w1 c12 hS => ⟨hS.drop.drop, ?_⟩
              simp only [Act.put, List.getElem_toArray, List.getElem_cons_succ, List.getElem_cons_zero, List.setIfInBounds_toArray, List.set_cons_zero, List.set_cons_succ]
              refine wpAnyH_all (rs := [6]) (by kernel_rfl) (by simp) ?_
              intro i hi
              obtain rfl : i = 6 := by simpa using hi
              refine o_callR rfl rfl (by kernel_rfl) (load_any n _) ?_
              rintro e w1 ⟨rfl, hb⟩
              replace hS := hS.call hb
              clear hb
              refine ⟨_, rfl, hS.drop.drop, ?_⟩
              simp only [Act.put, List.getElem_toArray, List.getElem_cons_succ, List.getElem_cons_zero, List.setIfInBounds_toArray, List.set_cons_zero, List.set_cons_succ]
              refine wpAnyH_all (rs := [7]) (by kernel_rfl) (by simp) ?_
              intro i hi
              obtain rfl : i = 7 := by simpa using hi
              refine o_callR rfl rfl (by kernel_rfl) (divide_r (x * y) n _ HX.out.2.2.2 HX.out.2.2.1) ?_
              rintro e w1 ⟨rfl, hb⟩
              replace hS := hS.call hb
              clear hb
              refine ⟨_, rfl, hS.drop.drop, ?_⟩
              simp only [Act.put, List.getElem_toArray, List.getElem_cons_succ, List.getElem_cons_zero, List.setIfInBounds_toArray, List.set_cons_zero, List.set_cons_succ]
              refine wpAnyH_take (i := 8) rfl (by kernel_rfl) (by kernel_rfl) (by kernel_rfl) (fun _ _ _ h => h) (y_move rfl _ (.inl rfl) rfl) hS.drop.drop ?_; simp only [Act.put, List.getElem_toArray, List.getElem_cons_succ, List.getElem_cons_zero, List.setIfInBounds_toArray, List.set_cons_zero, List.set_cons_succ]
              refine wpAnyH_take (i := 9) rfl (by kernel_rfl) (by kernel_rfl) (by kernel_rfl) (fun _ _ _ h => h) (y_extract rfl _ 0 rfl rfl rfl) hS.drop.drop ?_; simp only [Act.put, List.getElem_toArray, List.getElem_cons_succ, List.getElem_cons_zero, List.setIfInBounds_toArray, List.set_cons_zero, List.set_cons_succ]
              refine wpAnyH_take (i := 10) rfl (by kernel_rfl) (by kernel_rfl) (by kernel_rfl) (fun _ _ _ h => h) (y_extract rfl _ 1 rfl rfl rfl) hS.drop.drop ?_; simp only [Act.put, List.getElem_toArray, List.getElem_cons_succ, List.getElem_cons_zero, List.setIfInBounds_toArray, List.set_cons_zero, List.set_cons_succ]
              refine wpAnyH_all (rs := [13]) (by kernel_rfl) (by simp) ?_
              intro i hi
              obtain rfl : i = 13 := by simpa using hi
              refine o_store (c' := dig 8 (x * y / n)) rfl rfl hS 53 _ _ rfl rfl rfl (by repeat (first | exact Upd.head | apply Upd.tail)) wide_size (dig_size _ _) (dig_size _ _) (dig_one _ _) fun w1 hS => ⟨hS.drop.drop, ?_⟩
              simp only [Act.put, List.getElem_toArray, List.getElem_cons_succ, List.getElem_cons_zero, List.setIfInBounds_toArray, List.set_cons_zero, List.set_cons_succ]
              refine wpAnyH_all (rs := [14]) (by kernel_rfl) (by simp) ?_
              intro i hi
              obtain rfl : i = 14 := by simpa using hi
              refine o_store (c' := dig 4 (restN (x * y) n)) rfl rfl hS 42 _ _ rfl rfl rfl (by repeat (first | exact Upd.head | apply Upd.tail)) limbs_size (dig_size _ _) (dig_size _ _) (dig_one _ _) fun w1 hS => ⟨hS.drop.drop, ?_⟩
              simp only [Act.put, List.getElem_toArray, List.getElem_cons_succ, List.getElem_cons_zero, List.setIfInBounds_toArray, List.set_cons_zero, List.set_cons_succ]
              refine wpAnyH_done (by kernel_rfl) ?_ _
              go_wp2_with (fail)
              go_meet
              exact ⟨_, _, rfl, rfl, hS⟩
          ·
            refine o_new rfl rfl 42 rfl limbs_zero hS fun w1 c12 hS => ⟨hS.drop, ?_⟩
            simp only [Act.put, List.getElem_toArray, List.getElem_cons_succ, List.getElem_cons_zero, List.setIfInBounds_toArray, List.set_cons_zero, List.set_cons_succ]
            refine wpAnyH_all (rs := [6, 11]) (by kernel_rfl) (by simp) ?_
            intro i hi
            have hi2 : i = 6 ∨ i = 11 := by simpa using hi
            rcases hi2 with rfl | rfl
            ·
              refine o_callR rfl rfl (by kernel_rfl) (load_any n _) ?_
              rintro e w1 ⟨rfl, hb⟩
              replace hS := hS.call hb
              clear hb
              refine ⟨_, rfl, hS.drop, ?_⟩
              simp only [Act.put, List.getElem_toArray, List.getElem_cons_succ, List.getElem_cons_zero, List.setIfInBounds_toArray, List.set_cons_zero, List.set_cons_succ]
              refine wpAnyH_all (rs := [7, 11]) (by kernel_rfl) (by simp) ?_
              intro i hi
              have hi2 : i = 7 ∨ i = 11 := by simpa using hi
              rcases hi2 with rfl | rfl
              ·
                refine o_callR rfl rfl (by kernel_rfl) (divide_r (x * y) n _ HX.out.2.2.2 HX.out.2.2.1) ?_
                rintro e w1 ⟨rfl, hb⟩
                replace hS := hS.call hb
                clear hb
                refine ⟨_, rfl, hS.drop, ?_⟩
                simp only [Act.put, List.getElem_toArray, List.getElem_cons_succ, List.getElem_cons_zero, List.setIfInBounds_toArray, List.set_cons_zero, List.set_cons_succ]
                refine wpAnyH_take (i := 8) rfl (by kernel_rfl) (by kernel_rfl) (by kernel_rfl) (fun _ _ _ h => h) (y_move rfl _ (.inl rfl) rfl) hS.drop ?_; simp only [Act.put, List.getElem_toArray, List.getElem_cons_succ, List.getElem_cons_zero, List.setIfInBounds_toArray, List.set_cons_zero, List.set_cons_succ]
                refine wpAnyH_take (i := 9) rfl (by kernel_rfl) (by kernel_rfl) (by kernel_rfl) (fun _ _ _ h => h) (y_extract rfl _ 0 rfl rfl rfl) hS.drop ?_; simp only [Act.put, List.getElem_toArray, List.getElem_cons_succ, List.getElem_cons_zero, List.setIfInBounds_toArray, List.set_cons_zero, List.set_cons_succ]
                refine wpAnyH_take (i := 10) rfl (by kernel_rfl) (by kernel_rfl) (by kernel_rfl) (fun _ _ _ h => h) (y_extract rfl _ 1 rfl rfl rfl) hS.drop ?_; simp only [Act.put, List.getElem_toArray, List.getElem_cons_succ, List.getElem_cons_zero, List.setIfInBounds_toArray, List.set_cons_zero, List.set_cons_succ]
                refine wpAnyH_all (rs := [11]) (by kernel_rfl) (by simp) ?_
                intro i hi
                obtain rfl : i = 11 := by simpa using hi
                refine o_new rfl rfl 53 rfl wide_zero hS fun w1 c11 hS => ⟨hS.drop.drop, ?_⟩
                simp only [Act.put, List.getElem_toArray, List.getElem_cons_succ, List.getElem_cons_zero, List.setIfInBounds_toArray, List.set_cons_zero, List.set_cons_succ]
                replace hS := hS.swap
                refine wpAnyH_all (rs := [13]) (by kernel_rfl) (by simp) ?_
                intro i hi
                obtain rfl : i = 13 := by simpa using hi
                refine o_store (c' := dig 8 (x * y / n)) rfl rfl hS 53 _ _ rfl rfl rfl (by repeat (first | exact Upd.head | apply Upd.tail)) wide_size (dig_size _ _) (dig_size _ _) (dig_one _ _) fun w1 hS => ⟨hS.drop.drop, ?_⟩
                simp only [Act.put, List.getElem_toArray, List.getElem_cons_succ, List.getElem_cons_zero, List.setIfInBounds_toArray, List.set_cons_zero, List.set_cons_succ]
                refine wpAnyH_all (rs := [14]) (by kernel_rfl) (by simp) ?_
                intro i hi
                obtain rfl : i = 14 := by simpa using hi
                refine o_store (c' := dig 4 (restN (x * y) n)) rfl rfl hS 42 _ _ rfl rfl rfl (by repeat (first | exact Upd.head | apply Upd.tail)) limbs_size (dig_size _ _) (dig_size _ _) (dig_one _ _) fun w1 hS => ⟨hS.drop.drop, ?_⟩
                simp only [Act.put, List.getElem_toArray, List.getElem_cons_succ, List.getElem_cons_zero, List.setIfInBounds_toArray, List.set_cons_zero, List.set_cons_succ]
                refine wpAnyH_done (by kernel_rfl) ?_ _
                go_wp2_with (fail)
                go_meet
                exact ⟨_, _, rfl, rfl, hS⟩
              ·
                refine o_new rfl rfl 53 rfl wide_zero hS fun w1 c11 hS => ⟨hS.drop.drop, ?_⟩
                simp only [Act.put, List.getElem_toArray, List.getElem_cons_succ, List.getElem_cons_zero, List.setIfInBounds_toArray, List.set_cons_zero, List.set_cons_succ]
                refine wpAnyH_all (rs := [7]) (by kernel_rfl) (by simp) ?_
                intro i hi
                obtain rfl : i = 7 := by simpa using hi
                refine o_callR rfl rfl (by kernel_rfl) (divide_r (x * y) n _ HX.out.2.2.2 HX.out.2.2.1) ?_
                rintro e w1 ⟨rfl, hb⟩
                replace hS := hS.call hb
                clear hb
                refine ⟨_, rfl, hS.drop.drop, ?_⟩
                simp only [Act.put, List.getElem_toArray, List.getElem_cons_succ, List.getElem_cons_zero, List.setIfInBounds_toArray, List.set_cons_zero, List.set_cons_succ]
                refine wpAnyH_take (i := 8) rfl (by kernel_rfl) (by kernel_rfl) (by kernel_rfl) (fun _ _ _ h => h) (y_move rfl _ (.inl rfl) rfl) hS.drop.drop ?_; simp only [Act.put, List.getElem_toArray, List.getElem_cons_succ, List.getElem_cons_zero, List.setIfInBounds_toArray, List.set_cons_zero, List.set_cons_succ]
                refine wpAnyH_take (i := 9) rfl (by kernel_rfl) (by kernel_rfl) (by kernel_rfl) (fun _ _ _ h => h) (y_extract rfl _ 0 rfl rfl rfl) hS.drop.drop ?_; simp only [Act.put, List.getElem_toArray, List.getElem_cons_succ, List.getElem_cons_zero, List.setIfInBounds_toArray, List.set_cons_zero, List.set_cons_succ]
                refine wpAnyH_take (i := 10) rfl (by kernel_rfl) (by kernel_rfl) (by kernel_rfl) (fun _ _ _ h => h) (y_extract rfl _ 1 rfl rfl rfl) hS.drop.drop ?_; simp only [Act.put, List.getElem_toArray, List.getElem_cons_succ, List.getElem_cons_zero, List.setIfInBounds_toArray, List.set_cons_zero, List.set_cons_succ]
                replace hS := hS.swap
                refine wpAnyH_all (rs := [13]) (by kernel_rfl) (by simp) ?_
                intro i hi
                obtain rfl : i = 13 := by simpa using hi
                refine o_store (c' := dig 8 (x * y / n)) rfl rfl hS 53 _ _ rfl rfl rfl (by repeat (first | exact Upd.head | apply Upd.tail)) wide_size (dig_size _ _) (dig_size _ _) (dig_one _ _) fun w1 hS => ⟨hS.drop.drop, ?_⟩
                simp only [Act.put, List.getElem_toArray, List.getElem_cons_succ, List.getElem_cons_zero, List.setIfInBounds_toArray, List.set_cons_zero, List.set_cons_succ]
                refine wpAnyH_all (rs := [14]) (by kernel_rfl) (by simp) ?_
                intro i hi
                obtain rfl : i = 14 := by simpa using hi
                refine o_store (c' := dig 4 (restN (x * y) n)) rfl rfl hS 42 _ _ rfl rfl rfl (by repeat (first | exact Upd.head | apply Upd.tail)) limbs_size (dig_size _ _) (dig_size _ _) (dig_one _ _) fun w1 hS => ⟨hS.drop.drop, ?_⟩
                simp only [Act.put, List.getElem_toArray, List.getElem_cons_succ, List.getElem_cons_zero, List.setIfInBounds_toArray, List.set_cons_zero, List.set_cons_succ]
                refine wpAnyH_done (by kernel_rfl) ?_ _
                go_wp2_with (fail)
                go_meet
                exact ⟨_, _, rfl, rfl, hS⟩
            ·
              refine o_new rfl rfl 53 rfl wide_zero hS fun w1 c11 hS => ⟨hS.drop.drop, ?_⟩
              simp only [Act.put, List.getElem_toArray, List.getElem_cons_succ, List.getElem_cons_zero, List.setIfInBounds_toArray, List.set_cons_zero, List.set_cons_succ]
              refine wpAnyH_all (rs := [6]) (by kernel_rfl) (by simp) ?_
              intro i hi
              obtain rfl : i = 6 := by simpa using hi
              refine o_callR rfl rfl (by kernel_rfl) (load_any n _) ?_
              rintro e w1 ⟨rfl, hb⟩
              replace hS := hS.call hb
              clear hb
              refine ⟨_, rfl, hS.drop.drop, ?_⟩
              simp only [Act.put, List.getElem_toArray, List.getElem_cons_succ, List.getElem_cons_zero, List.setIfInBounds_toArray, List.set_cons_zero, List.set_cons_succ]
              refine wpAnyH_all (rs := [7]) (by kernel_rfl) (by simp) ?_
              intro i hi
              obtain rfl : i = 7 := by simpa using hi
              refine o_callR rfl rfl (by kernel_rfl) (divide_r (x * y) n _ HX.out.2.2.2 HX.out.2.2.1) ?_
              rintro e w1 ⟨rfl, hb⟩
              replace hS := hS.call hb
              clear hb
              refine ⟨_, rfl, hS.drop.drop, ?_⟩
              simp only [Act.put, List.getElem_toArray, List.getElem_cons_succ, List.getElem_cons_zero, List.setIfInBounds_toArray, List.set_cons_zero, List.set_cons_succ]
              refine wpAnyH_take (i := 8) rfl (by kernel_rfl) (by kernel_rfl) (by kernel_rfl) (fun _ _ _ h => h) (y_move rfl _ (.inl rfl) rfl) hS.drop.drop ?_; simp only [Act.put, List.getElem_toArray, List.getElem_cons_succ, List.getElem_cons_zero, List.setIfInBounds_toArray, List.set_cons_zero, List.set_cons_succ]
              refine wpAnyH_take (i := 9) rfl (by kernel_rfl) (by kernel_rfl) (by kernel_rfl) (fun _ _ _ h => h) (y_extract rfl _ 0 rfl rfl rfl) hS.drop.drop ?_; simp only [Act.put, List.getElem_toArray, List.getElem_cons_succ, List.getElem_cons_zero, List.setIfInBounds_toArray, List.set_cons_zero, List.set_cons_succ]
              refine wpAnyH_take (i := 10) rfl (by kernel_rfl) (by kernel_rfl) (by kernel_rfl) (fun _ _ _ h => h) (y_extract rfl _ 1 rfl rfl rfl) hS.drop.drop ?_; simp only [Act.put, List.getElem_toArray, List.getElem_cons_succ, List.getElem_cons_zero, List.setIfInBounds_toArray, List.set_cons_zero, List.set_cons_succ]
              replace hS := hS.swap
              refine wpAnyH_all (rs := [13]) (by kernel_rfl) (by simp) ?_
              intro i hi
              obtain rfl : i = 13 := by simpa using hi
              refine o_store (c' := dig 8 (x * y / n)) rfl rfl hS 53 _ _ rfl rfl rfl (by repeat (first | exact Upd.head | apply Upd.tail)) wide_size (dig_size _ _) (dig_size _ _) (dig_one _ _) fun w1 hS => ⟨hS.drop.drop, ?_⟩
              simp only [Act.put, List.getElem_toArray, List.getElem_cons_succ, List.getElem_cons_zero, List.setIfInBounds_toArray, List.set_cons_zero, List.set_cons_succ]
              refine wpAnyH_all (rs := [14]) (by kernel_rfl) (by simp) ?_
              intro i hi
              obtain rfl : i = 14 := by simpa using hi
              refine o_store (c' := dig 4 (restN (x * y) n)) rfl rfl hS 42 _ _ rfl rfl rfl (by repeat (first | exact Upd.head | apply Upd.tail)) limbs_size (dig_size _ _) (dig_size _ _) (dig_one _ _) fun w1 hS => ⟨hS.drop.drop, ?_⟩
              simp only [Act.put, List.getElem_toArray, List.getElem_cons_succ, List.getElem_cons_zero, List.setIfInBounds_toArray, List.set_cons_zero, List.set_cons_succ]
              refine wpAnyH_done (by kernel_rfl) ?_ _
              go_wp2_with (fail)
              go_meet
              exact ⟨_, _, rfl, rfl, hS⟩
        ·
          refine o_new rfl rfl 53 rfl wide_zero hS fun w1 c11 hS => ⟨hS.drop, ?_⟩
          simp only [Act.put, List.getElem_toArray, List.getElem_cons_succ, List.getElem_cons_zero, List.setIfInBounds_toArray, List.set_cons_zero, List.set_cons_succ]
          refine wpAnyH_all (rs := [4, 12]) (by kernel_rfl) (by simp) ?_
          intro i hi
          have hi2 : i = 4 ∨ i = 12 := by simpa using hi
          rcases hi2 with rfl | rfl
          ·
            refine o_callR rfl rfl (by kernel_rfl) (times_any x y HX.out.1 HX.out.2.1 _) ?_
            rintro e w1 ⟨rfl, hb⟩
            replace hS := hS.call hb
            clear hb
            refine ⟨_, rfl, hS.drop, ?_⟩
            simp only [Act.put, List.getElem_toArray, List.getElem_cons_succ, List.getElem_cons_zero, List.setIfInBounds_toArray, List.set_cons_zero, List.set_cons_succ]
            refine wpAnyH_all (rs := [6, 12]) (by kernel_rfl) (by simp) ?_
            intro i hi
            have hi2 : i = 6 ∨ i = 12 := by simpa using hi
            rcases hi2 with rfl | rfl
            ·
              refine o_callR rfl rfl (by kernel_rfl) (load_any n _) ?_
              rintro e w1 ⟨rfl, hb⟩
              replace hS := hS.call hb
              clear hb
              refine ⟨_, rfl, hS.drop, ?_⟩
              simp only [Act.put, List.getElem_toArray, List.getElem_cons_succ, List.getElem_cons_zero, List.setIfInBounds_toArray, List.set_cons_zero, List.set_cons_succ]
              refine wpAnyH_all (rs := [7, 12]) (by kernel_rfl) (by simp) ?_
              intro i hi
              have hi2 : i = 7 ∨ i = 12 := by simpa using hi
              rcases hi2 with rfl | rfl
              ·
                refine o_callR rfl rfl (by kernel_rfl) (divide_r (x * y) n _ HX.out.2.2.2 HX.out.2.2.1) ?_
                rintro e w1 ⟨rfl, hb⟩
                replace hS := hS.call hb
                clear hb
                refine ⟨_, rfl, hS.drop, ?_⟩
                simp only [Act.put, List.getElem_toArray, List.getElem_cons_succ, List.getElem_cons_zero, List.setIfInBounds_toArray, List.set_cons_zero, List.set_cons_succ]
                refine wpAnyH_take (i := 8) rfl (by kernel_rfl) (by kernel_rfl) (by kernel_rfl) (fun _ _ _ h => h) (y_move rfl _ (.inl rfl) rfl) hS.drop ?_; simp only [Act.put, List.getElem_toArray, List.getElem_cons_succ, List.getElem_cons_zero, List.setIfInBounds_toArray, List.set_cons_zero, List.set_cons_succ]
                refine wpAnyH_take (i := 9) rfl (by kernel_rfl) (by kernel_rfl) (by kernel_rfl) (fun _ _ _ h => h) (y_extract rfl _ 0 rfl rfl rfl) hS.drop ?_; simp only [Act.put, List.getElem_toArray, List.getElem_cons_succ, List.getElem_cons_zero, List.setIfInBounds_toArray, List.set_cons_zero, List.set_cons_succ]
                refine wpAnyH_take (i := 10) rfl (by kernel_rfl) (by kernel_rfl) (by kernel_rfl) (fun _ _ _ h => h) (y_extract rfl _ 1 rfl rfl rfl) hS.drop ?_; simp only [Act.put, List.getElem_toArray, List.getElem_cons_succ, List.getElem_cons_zero, List.setIfInBounds_toArray, List.set_cons_zero, List.set_cons_succ]
                refine wpAnyH_all (rs := [12]) (by kernel_rfl) (by simp) ?_
                intro i hi
                obtain rfl : i = 12 := by simpa using hi
                refine o_new rfl rfl 42 rfl limbs_zero hS fun w1 c12 hS => ⟨hS.drop.drop, ?_⟩
                simp only [Act.put, List.getElem_toArray, List.getElem_cons_succ, List.getElem_cons_zero, List.setIfInBounds_toArray, List.set_cons_zero, List.set_cons_succ]
                refine wpAnyH_all (rs := [13]) (by kernel_rfl) (by simp) ?_
                intro i hi
                obtain rfl : i = 13 := by simpa using hi
                refine o_store (c' := dig 8 (x * y / n)) rfl rfl hS 53 _ _ rfl rfl rfl (by repeat (first | exact Upd.head | apply Upd.tail)) wide_size (dig_size _ _) (dig_size _ _) (dig_one _ _) fun w1 hS => ⟨hS.drop.drop, ?_⟩
                simp only [Act.put, List.getElem_toArray, List.getElem_cons_succ, List.getElem_cons_zero, List.setIfInBounds_toArray, List.set_cons_zero, List.set_cons_succ]
                refine wpAnyH_all (rs := [14]) (by kernel_rfl) (by simp) ?_
                intro i hi
                obtain rfl : i = 14 := by simpa using hi
                refine o_store (c' := dig 4 (restN (x * y) n)) rfl rfl hS 42 _ _ rfl rfl rfl (by repeat (first | exact Upd.head | apply Upd.tail)) limbs_size (dig_size _ _) (dig_size _ _) (dig_one _ _) fun w1 hS => ⟨hS.drop.drop, ?_⟩
                simp only [Act.put, List.getElem_toArray, List.getElem_cons_succ, List.getElem_cons_zero, List.setIfInBounds_toArray, List.set_cons_zero, List.set_cons_succ]
                refine wpAnyH_done (by kernel_rfl) ?_ _
                go_wp2_with (fail)
                go_meet
                exact ⟨_, _, rfl, rfl, hS⟩
              ·
                refine o_new rfl rfl 42 rfl limbs_zero hS fun w1 c12 hS => ⟨hS.drop.drop, ?_⟩
                simp only [Act.put, List.getElem_toArray, List.getElem_cons_succ, List.getElem_cons_zero, List.setIfInBounds_toArray, List.set_cons_zero, List.set_cons_succ]
                refine wpAnyH_all (rs := [7]) (by kernel_rfl) (by simp) ?_
                intro i hi
                obtain rfl : i = 7 := by simpa using hi
                refine o_callR rfl rfl (by kernel_rfl) (divide_r (x * y) n _ HX.out.2.2.2 HX.out.2.2.1) ?_
                rintro e w1 ⟨rfl, hb⟩
                replace hS := hS.call hb
                clear hb
                refine ⟨_, rfl, hS.drop.drop, ?_⟩
                simp only [Act.put, List.getElem_toArray, List.getElem_cons_succ, List.getElem_cons_zero, List.setIfInBounds_toArray, List.set_cons_zero, List.set_cons_succ]
                refine wpAnyH_take (i := 8) rfl (by kernel_rfl) (by kernel_rfl) (by kernel_rfl) (fun _ _ _ h => h) (y_move rfl _ (.inl rfl) rfl) hS.drop.drop ?_; simp only [Act.put, List.getElem_toArray, List.getElem_cons_succ, List.getElem_cons_zero, List.setIfInBounds_toArray, List.set_cons_zero, List.set_cons_succ]
                refine wpAnyH_take (i := 9) rfl (by kernel_rfl) (by kernel_rfl) (by kernel_rfl) (fun _ _ _ h => h) (y_extract rfl _ 0 rfl rfl rfl) hS.drop.drop ?_; simp only [Act.put, List.getElem_toArray, List.getElem_cons_succ, List.getElem_cons_zero, List.setIfInBounds_toArray, List.set_cons_zero, List.set_cons_succ]
                refine wpAnyH_take (i := 10) rfl (by kernel_rfl) (by kernel_rfl) (by kernel_rfl) (fun _ _ _ h => h) (y_extract rfl _ 1 rfl rfl rfl) hS.drop.drop ?_; simp only [Act.put, List.getElem_toArray, List.getElem_cons_succ, List.getElem_cons_zero, List.setIfInBounds_toArray, List.set_cons_zero, List.set_cons_succ]
                refine wpAnyH_all (rs := [13]) (by kernel_rfl) (by simp) ?_
                intro i hi
                obtain rfl : i = 13 := by simpa using hi
                refine o_store (c' := dig 8 (x * y / n)) rfl rfl hS 53 _ _ rfl rfl rfl (by repeat (first | exact Upd.head | apply Upd.tail)) wide_size (dig_size _ _) (dig_size _ _) (dig_one _ _) fun w1 hS => ⟨hS.drop.drop, ?_⟩
                simp only [Act.put, List.getElem_toArray, List.getElem_cons_succ, List.getElem_cons_zero, List.setIfInBounds_toArray, List.set_cons_zero, List.set_cons_succ]
                refine wpAnyH_all (rs := [14]) (by kernel_rfl) (by simp) ?_
                intro i hi
                obtain rfl : i = 14 := by simpa using hi
                refine o_store (c' := dig 4 (restN (x * y) n)) rfl rfl hS 42 _ _ rfl rfl rfl (by repeat (first | exact Upd.head | apply Upd.tail)) limbs_size (dig_size _ _) (dig_size _ _) (dig_one _ _) fun w1 hS => ⟨hS.drop.drop, ?_⟩
                simp only [Act.put, List.getElem_toArray, List.getElem_cons_succ, List.getElem_cons_zero, List.setIfInBounds_toArray, List.set_cons_zero, List.set_cons_succ]
                refine wpAnyH_done (by kernel_rfl) ?_ _
                go_wp2_with (fail)
                go_meet
                exact ⟨_, _, rfl, rfl, hS⟩
            ·
              refine o_new rfl rfl 42 rfl limbs_zero hS fun w1 c12 hS => ⟨hS.drop.drop, ?_⟩
              simp only [Act.put, List.getElem_toArray, List.getElem_cons_succ, List.getElem_cons_zero, List.setIfInBounds_toArray, List.set_cons_zero, List.set_cons_succ]
              refine wpAnyH_all (rs := [6]) (by kernel_rfl) (by simp) ?_
              intro i hi
              obtain rfl : i = 6 := by simpa using hi
              refine o_callR rfl rfl (by kernel_rfl) (load_any n _) ?_
              rintro e w1 ⟨rfl, hb⟩
              replace hS := hS.call hb
              clear hb
              refine ⟨_, rfl, hS.drop.drop, ?_⟩
              simp only [Act.put, List.getElem_toArray, List.getElem_cons_succ, List.getElem_cons_zero, List.setIfInBounds_toArray, List.set_cons_zero, List.set_cons_succ]
              refine wpAnyH_all (rs := [7]) (by kernel_rfl) (by simp) ?_
              intro i hi
              obtain rfl : i = 7 := by simpa using hi
              refine o_callR rfl rfl (by kernel_rfl) (divide_r (x * y) n _ HX.out.2.2.2 HX.out.2.2.1) ?_
              rintro e w1 ⟨rfl, hb⟩
              replace hS := hS.call hb
              clear hb
              refine ⟨_, rfl, hS.drop.drop, ?_⟩
              simp only [Act.put, List.getElem_toArray, List.getElem_cons_succ, List.getElem_cons_zero, List.setIfInBounds_toArray, List.set_cons_zero, List.set_cons_succ]
              refine wpAnyH_take (i := 8) rfl (by kernel_rfl) (by kernel_rfl) (by kernel_rfl) (fun _ _ _ h => h) (y_move rfl _ (.inl rfl) rfl) hS.drop.drop ?_; simp only [Act.put, List.getElem_toArray, List.getElem_cons_succ, List.getElem_cons_zero, List.setIfInBounds_toArray, List.set_cons_zero, List.set_cons_succ]
              refine wpAnyH_take (i := 9) rfl (by kernel_rfl) (by kernel_rfl) (by kernel_rfl) (fun _ _ _ h => h) (y_extract rfl _ 0 rfl rfl rfl) hS.drop.drop ?_; simp only [Act.put, List.getElem_toArray, List.getElem_cons_succ, List.getElem_cons_zero, List.setIfInBounds_toArray, List.set_cons_zero, List.set_cons_succ]
              refine wpAnyH_take (i := 10) rfl (by kernel_rfl) (by kernel_rfl) (by kernel_rfl) (fun _ _ _ h => h) (y_extract rfl _ 1 rfl rfl rfl) hS.drop.drop ?_; simp only [Act.put, List.getElem_toArray, List.getElem_cons_succ, List.getElem_cons_zero, List.setIfInBounds_toArray, List.set_cons_zero, List.set_cons_succ]
              refine wpAnyH_all (rs := [13]) (by kernel_rfl) (by simp) ?_
              intro i hi
              obtain rfl : i = 13 := by simpa using hi
              refine o_store (c' := dig 8 (x * y / n)) rfl rfl hS 53 _ _ rfl rfl rfl (by repeat (first | exact Upd.head | apply Upd.tail)) wide_size (dig_size _ _) (dig_size _ _) (dig_one _ _) fun w1 hS => ⟨hS.drop.drop, ?_⟩
              simp only [Act.put, List.getElem_toArray, List.getElem_cons_succ, List.getElem_cons_zero, List.setIfInBounds_toArray, List.set_cons_zero, List.set_cons_succ]
              refine wpAnyH_all (rs := [14]) (by kernel_rfl) (by simp) ?_
              intro i hi
              obtain rfl : i = 14 := by simpa using hi
              refine o_store (c' := dig 4 (restN (x * y) n)) rfl rfl hS 42 _ _ rfl rfl rfl (by repeat (first | exact Upd.head | apply Upd.tail)) limbs_size (dig_size _ _) (dig_size _ _) (dig_one _ _) fun w1 hS => ⟨hS.drop.drop, ?_⟩
              simp only [Act.put, List.getElem_toArray, List.getElem_cons_succ, List.getElem_cons_zero, List.setIfInBounds_toArray, List.set_cons_zero, List.set_cons_succ]
              refine wpAnyH_done (by kernel_rfl) ?_ _
              go_wp2_with (fail)
              go_meet
              exact ⟨_, _, rfl, rfl, hS⟩
          ·
            refine o_new rfl rfl 42 rfl limbs_zero hS fun w1 c12 hS => ⟨hS.drop.drop, ?_⟩
            simp only [Act.put, List.getElem_toArray, List.getElem_cons_succ, List.getElem_cons_zero, List.setIfInBounds_toArray, List.set_cons_zero, List.set_cons_succ]
            refine wpAnyH_all (rs := [4]) (by kernel_rfl) (by simp) ?_
            intro i hi
            obtain rfl : i = 4 := by simpa using hi
            refine o_callR rfl rfl (by kernel_rfl) (times_any x y HX.out.1 HX.out.2.1 _) ?_
            rintro e w1 ⟨rfl, hb⟩
            replace hS := hS.call hb
            clear hb
            refine ⟨_, rfl, hS.drop.drop, ?_⟩
            simp only [Act.put, List.getElem_toArray, List.getElem_cons_succ, List.getElem_cons_zero, List.setIfInBounds_toArray, List.set_cons_zero, List.set_cons_succ]
            refine wpAnyH_all (rs := [6]) (by kernel_rfl) (by simp) ?_
            intro i hi
            obtain rfl : i = 6 := by simpa using hi
            refine o_callR rfl rfl (by kernel_rfl) (load_any n _) ?_
            rintro e w1 ⟨rfl, hb⟩
            replace hS := hS.call hb
            clear hb
            refine ⟨_, rfl, hS.drop.drop, ?_⟩
            simp only [Act.put, List.getElem_toArray, List.getElem_cons_succ, List.getElem_cons_zero, List.setIfInBounds_toArray, List.set_cons_zero, List.set_cons_succ]
            refine wpAnyH_all (rs := [7]) (by kernel_rfl) (by simp) ?_
            intro i hi
            obtain rfl : i = 7 := by simpa using hi
            refine o_callR rfl rfl (by kernel_rfl) (divide_r (x * y) n _ HX.out.2.2.2 HX.out.2.2.1) ?_
            rintro e w1 ⟨rfl, hb⟩
            replace hS := hS.call hb
            clear hb
            refine ⟨_, rfl, hS.drop.drop, ?_⟩
            simp only [Act.put, List.getElem_toArray, List.getElem_cons_succ, List.getElem_cons_zero, List.setIfInBounds_toArray, List.set_cons_zero, List.set_cons_succ]
            refine wpAnyH_take (i := 8) rfl (by kernel_rfl) (by kernel_rfl) (by kernel_rfl) (fun _ _ _ h => h) (y_move rfl _ (.inl rfl) rfl) hS.drop.drop ?_; simp only [Act.put, List.getElem_toArray, List.getElem_cons_succ, List.getElem_cons_zero, List.setIfInBounds_toArray, List.set_cons_zero, List.set_cons_succ]
            refine wpAnyH_take (i := 9) rfl (by kernel_rfl) (by kernel_rfl) (by kernel_rfl) (fun _ _ _ h => h) (y_extract rfl _ 0 rfl rfl rfl) hS.drop.drop ?_; simp only [Act.put, List.getElem_toArray, List.getElem_cons_succ, List.getElem_cons_zero, List.setIfInBounds_toArray, List.set_cons_zero, List.set_cons_succ]
            refine wpAnyH_take (i := 10) rfl (by kernel_rfl) (by kernel_rfl) (by kernel_rfl) (fun _ _ _ h => h) (y_extract rfl _ 1 rfl rfl rfl) hS.drop.drop ?_; simp only [Act.put, List.getElem_toArray, List.getElem_cons_succ, List.getElem_cons_zero, List.setIfInBounds_toArray, List.set_cons_zero, List.set_cons_succ]
            refine wpAnyH_all (rs := [13]) (by kernel_rfl) (by simp) ?_
            intro i hi
            obtain rfl : i = 13 := by simpa using hi
            refine o_store (c' := dig 8 (x * y / n)) rfl rfl hS 53 _ _ rfl rfl rfl (by repeat (first | exact Upd.head | apply Upd.tail)) wide_size (dig_size _ _) (dig_size _ _) (dig_one _ _) fun w1 hS => ⟨hS.drop.drop, ?_⟩
            simp only [Act.put, List.getElem_toArray, List.getElem_cons_succ, List.getElem_cons_zero, List.setIfInBounds_toArray, List.set_cons_zero, List.set_cons_succ]
            refine wpAnyH_all (rs := [14]) (by kernel_rfl) (by simp) ?_
            intro i hi
            obtain rfl : i = 14 := by simpa using hi
            refine o_store (c' := dig 4 (restN (x * y) n)) rfl rfl hS 42 _ _ rfl rfl rfl (by repeat (first | exact Upd.head | apply Upd.tail)) limbs_size (dig_size _ _) (dig_size _ _) (dig_one _ _) fun w1 hS => ⟨hS.drop.drop, ?_⟩
            simp only [Act.put, List.getElem_toArray, List.getElem_cons_succ, List.getElem_cons_zero, List.setIfInBounds_toArray, List.set_cons_zero, List.set_cons_succ]
            refine wpAnyH_done (by kernel_rfl) ?_ _
            go_wp2_with (fail)
            go_meet
            exact ⟨_, _, rfl, rfl, hS⟩
        ·
          refine o_new rfl rfl 42 rfl limbs_zero hS fun w1 c12 hS => ⟨hS.drop, ?_⟩
          simp only [Act.put, List.getElem_toArray, List.getElem_cons_succ, List.getElem_cons_zero, List.setIfInBounds_toArray, List.set_cons_zero, List.set_cons_succ]
          refine wpAnyH_all (rs := [4, 11]) (by kernel_rfl) (by simp) ?_
          intro i hi
          have hi2 : i = 4 ∨ i = 11 := by simpa using hi
          rcases hi2 with rfl | rfl
          ·
            refine o_callR rfl rfl (by kernel_rfl) (times_any x y HX.out.1 HX.out.2.1 _) ?_
            rintro e w1 ⟨rfl, hb⟩
            replace hS := hS.call hb
            clear hb
            refine ⟨_, rfl, hS.drop, ?_⟩
            simp only [Act.put, List.getElem_toArray, List.getElem_cons_succ, List.getElem_cons_zero, List.setIfInBounds_toArray, List.set_cons_zero, List.set_cons_succ]
            refine wpAnyH_all (rs := [6, 11]) (by kernel_rfl) (by simp) ?_
            intro i hi
            have hi2 : i = 6 ∨ i = 11 := by simpa using hi
            rcases hi2 with rfl | rfl
            ·
              refine o_callR rfl rfl (by kernel_rfl) (load_any n _) ?_
              rintro e w1 ⟨rfl, hb⟩
              replace hS := hS.call hb
              clear hb
              refine ⟨_, rfl, hS.drop, ?_⟩
              simp only [Act.put, List.getElem_toArray, List.getElem_cons_succ, List.getElem_cons_zero, List.setIfInBounds_toArray, List.set_cons_zero, List.set_cons_succ]
              refine wpAnyH_all (rs := [7, 11]) (by kernel_rfl) (by simp) ?_
              intro i hi
              have hi2 : i = 7 ∨ i = 11 := by simpa using hi
              rcases hi2 with rfl | rfl
              ·
                refine o_callR rfl rfl (by kernel_rfl) (divide_r (x * y) n _ HX.out.2.2.2 HX.out.2.2.1) ?_
                rintro e w1 ⟨rfl, hb⟩
                replace hS := hS.call hb
                clear hb
                refine ⟨_, rfl, hS.drop, ?_⟩
                simp only [Act.put, List.getElem_toArray, List.getElem_cons_succ, List.getElem_cons_zero, List.setIfInBounds_toArray, List.set_cons_zero, List.set_cons_succ]
                refine wpAnyH_take (i := 8) rfl (by kernel_rfl) (by kernel_rfl) (by kernel_rfl) (fun _ _ _ h => h) (y_move rfl _ (.inl rfl) rfl) hS.drop ?_; simp only [Act.put, List.getElem_toArray, List.getElem_cons_succ, List.getElem_cons_zero, List.setIfInBounds_toArray, List.set_cons_zero, List.set_cons_succ]
                refine wpAnyH_take (i := 9) rfl (by kernel_rfl) (by kernel_rfl) (by kernel_rfl) (fun _ _ _ h => h) (y_extract rfl _ 0 rfl rfl rfl) hS.drop ?_; simp only [Act.put, List.getElem_toArray, List.getElem_cons_succ, List.getElem_cons_zero, List.setIfInBounds_toArray, List.set_cons_zero, List.set_cons_succ]
                refine wpAnyH_take (i := 10) rfl (by kernel_rfl) (by kernel_rfl) (by kernel_rfl) (fun _ _ _ h => h) (y_extract rfl _ 1 rfl rfl rfl) hS.drop ?_; simp only [Act.put, List.getElem_toArray, List.getElem_cons_succ, List.getElem_cons_zero, List.setIfInBounds_toArray, List.set_cons_zero, List.set_cons_succ]
                refine wpAnyH_all (rs := [11]) (by kernel_rfl) (by simp) ?_
                intro i hi
                obtain rfl : i = 11 := by simpa using hi
                refine o_new rfl rfl 53 rfl wide_zero hS fun w1 c11 hS => ⟨hS.drop.drop, ?_⟩
                simp only [Act.put, List.getElem_toArray, List.getElem_cons_succ, List.getElem_cons_zero, List.setIfInBounds_toArray, List.set_cons_zero, List.set_cons_succ]
                replace hS := hS.swap
                refine wpAnyH_all (rs := [13]) (by kernel_rfl) (by simp) ?_
                intro i hi
                obtain rfl : i = 13 := by simpa using hi
                refine o_store (c' := dig 8 (x * y / n)) rfl rfl hS 53 _ _ rfl rfl rfl (by repeat (first | exact Upd.head | apply Upd.tail)) wide_size (dig_size _ _) (dig_size _ _) (dig_one _ _) fun w1 hS => ⟨hS.drop.drop, ?_⟩
                simp only [Act.put, List.getElem_toArray, List.getElem_cons_succ, List.getElem_cons_zero, List.setIfInBounds_toArray, List.set_cons_zero, List.set_cons_succ]
                refine wpAnyH_all (rs := [14]) (by kernel_rfl) (by simp) ?_
                intro i hi
                obtain rfl : i = 14 := by simpa using hi
                refine o_store (c' := dig 4 (restN (x * y) n)) rfl rfl hS 42 _ _ rfl rfl rfl (by repeat (first | exact Upd.head | apply Upd.tail)) limbs_size (dig_size _ _) (dig_size _ _) (dig_one _ _) fun w1 hS => ⟨hS.drop.drop, ?_⟩
                simp only [Act.put, List.getElem_toArray, List.getElem_cons_succ, List.getElem_cons_zero, List.setIfInBounds_toArray, List.set_cons_zero, List.set_cons_succ]
                refine wpAnyH_done (by kernel_rfl) ?_ _
                go_wp2_with (fail)
                go_meet
                exact ⟨_, _, rfl, rfl, hS⟩
              ·
                refine o_new rfl rfl 53 rfl wide_zero hS fun w1 c11 hS => ⟨hS.drop.drop, ?_⟩
                simp only [Act.put, List.getElem_toArray, List.getElem_cons_succ, List.getElem_cons_zero, List.setIfInBounds_toArray, List.set_cons_zero, List.set_cons_succ]
                refine wpAnyH_all (rs := [7]) (by kernel_rfl) (by simp) ?_
                intro i hi
                obtain rfl : i = 7 := by simpa using hi
                refine o_callR rfl rfl (by kernel_rfl) (divide_r (x * y) n _ HX.out.2.2.2 HX.out.2.2.1) ?_
                rintro e w1 ⟨rfl, hb⟩
                replace hS := hS.call hb
                clear hb
                refine ⟨_, rfl, hS.drop.drop, ?_⟩
                simp only [Act.put, List.getElem_toArray, List.getElem_cons_succ, List.getElem_cons_zero, List.setIfInBounds_toArray, List.set_cons_zero, List.set_cons_succ]
                refine wpAnyH_take (i := 8) rfl (by kernel_rfl) (by kernel_rfl) (by kernel_rfl) (fun _ _ _ h => h) (y_move rfl _ (.inl rfl) rfl) hS.drop.drop ?_; simp only [Act.put, List.getElem_toArray, List.getElem_cons_succ, List.getElem_cons_zero, List.setIfInBounds_toArray, List.set_cons_zero, List.set_cons_succ]
                refine wpAnyH_take (i := 9) rfl (by kernel_rfl) (by kernel_rfl) (by kernel_rfl) (fun _ _ _ h => h) (y_extract rfl _ 0 rfl rfl rfl) hS.drop.drop ?_; simp only [Act.put, List.getElem_toArray, List.getElem_cons_succ, List.getElem_cons_zero, List.setIfInBounds_toArray, List.set_cons_zero, List.set_cons_succ]
                refine wpAnyH_take (i := 10) rfl (by kernel_rfl) (by kernel_rfl) (by kernel_rfl) (fun _ _ _ h => h) (y_extract rfl _ 1 rfl rfl rfl) hS.drop.drop ?_; simp only [Act.put, List.getElem_toArray, List.getElem_cons_succ, List.getElem_cons_zero, List.setIfInBounds_toArray, List.set_cons_zero, List.set_cons_succ]
                replace hS := hS.swap
                refine wpAnyH_all (rs := [13]) (by kernel_rfl) (by simp) ?_
                intro i hi
                obtain rfl : i = 13 := by simpa using hi
                refine o_store (c' := dig 8 (x * y / n)) rfl rfl hS 53 _ _ rfl rfl rfl (by repeat (first | exact Upd.head | apply Upd.tail)) wide_size (dig_size _ _) (dig_size _ _) (dig_one _ _) fun w1 hS => ⟨hS.drop.drop, ?_⟩
                simp only [Act.put, List.getElem_toArray, List.getElem_cons_succ, List.getElem_cons_zero, List.setIfInBounds_toArray, List.set_cons_zero, List.set_cons_succ]
                refine wpAnyH_all (rs := [14]) (by kernel_rfl) (by simp) ?_
                intro i hi
                obtain rfl : i = 14 := by simpa using hi
                refine o_store (c' := dig 4 (restN (x * y) n)) rfl rfl hS 42 _ _ rfl rfl rfl (by repeat (first | exact Upd.head | apply Upd.tail)) limbs_size (dig_size _ _) (dig_size _ _) (dig_one _ _) fun w1 hS => ⟨hS.drop.drop, ?_⟩
                simp only [Act.put, List.getElem_toArray, List.getElem_cons_succ, List.getElem_cons_zero, List.setIfInBounds_toArray, List.set_cons_zero, List.set_cons_succ]
                refine wpAnyH_done (by kernel_rfl) ?_ _
                go_wp2_with (fail)
                go_meet
                exact ⟨_, _, rfl, rfl, hS⟩
            ·
              refine o_new rfl rfl 53 rfl wide_zero hS fun w1 c11 hS => ⟨hS.drop.drop, ?_⟩
              simp only [Act.put, List.getElem_toArray, List.getElem_cons_succ, List.getElem_cons_zero, List.setIfInBounds_toArray, List.set_cons_zero, List.set_cons_succ]
              refine wpAnyH_all (rs := [6]) (by kernel_rfl) (by simp) ?_
              intro i hi
              obtain rfl : i = 6 := by simpa using hi
              refine o_callR rfl rfl (by kernel_rfl) (load_any n _) ?_
              rintro e w1 ⟨rfl, hb⟩
              replace hS := hS.call hb
              clear hb
              refine ⟨_, rfl, hS.drop.drop, ?_⟩
              simp only [Act.put, List.getElem_toArray, List.getElem_cons_succ, List.getElem_cons_zero, List.setIfInBounds_toArray, List.set_cons_zero, List.set_cons_succ]
              refine wpAnyH_all (rs := [7]) (by kernel_rfl) (by simp) ?_
              intro i hi
              obtain rfl : i = 7 := by simpa using hi
              refine o_callR rfl rfl (by kernel_rfl) (divide_r (x * y) n _ HX.out.2.2.2 HX.out.2.2.1) ?_
              rintro e w1 ⟨rfl, hb⟩
              replace hS := hS.call hb
              clear hb
              refine ⟨_, rfl, hS.drop.drop, ?_⟩
              simp only [Act.put, List.getElem_toArray, List.getElem_cons_succ, List.getElem_cons_zero, List.setIfInBounds_toArray, List.set_cons_zero, List.set_cons_succ]
              refine wpAnyH_take (i := 8) rfl (by kernel_rfl) (by kernel_rfl) (by kernel_rfl) (fun _ _ _ h => h) (y_move rfl _ (.inl rfl) rfl) hS.drop.drop ?_; simp only [Act.put, List.getElem_toArray, List.getElem_cons_succ, List.getElem_cons_zero, List.setIfInBounds_toArray, List.set_cons_zero, List.set_cons_succ]
              refine wpAnyH_take (i := 9) rfl (by kernel_rfl) (by kernel_rfl) (by kernel_rfl) (fun _ _ _ h => h) (y_extract rfl _ 0 rfl rfl rfl) hS.drop.drop ?_; simp only [Act.put, List.getElem_toArray, List.getElem_cons_succ, List.getElem_cons_zero, List.setIfInBounds_toArray, List.set_cons_zero, List.set_cons_succ]
              refine wpAnyH_take (i := 10) rfl (by kernel_rfl) (by kernel_rfl) (by kernel_rfl) (fun _ _ _ h => h) (y_extract rfl _ 1 rfl rfl rfl) hS.drop.drop ?_; simp only [Act.put, List.getElem_toArray, List.getElem_cons_succ, List.getElem_cons_zero, List.setIfInBounds_toArray, List.set_cons_zero, List.set_cons_succ]
              replace hS := hS.swap
              refine wpAnyH_all (rs := [13]) (by kernel_rfl) (by simp) ?_
              intro i hi
              obtain rfl : i = 13 := by simpa using hi
              refine o_store (c' := dig 8 (x * y / n)) rfl rfl hS 53 _ _ rfl rfl rfl (by repeat (first | exact Upd.head | apply Upd.tail)) wide_size (dig_size _ _) (dig_size _ _) (dig_one _ _) fun w1 hS => ⟨hS.drop.drop, ?_⟩
              simp only [Act.put, List.getElem_toArray, List.getElem_cons_succ, List.getElem_cons_zero, List.setIfInBounds_toArray, List.set_cons_zero, List.set_cons_succ]
              refine wpAnyH_all (rs := [14]) (by kernel_rfl) (by simp) ?_
              intro i hi
              obtain rfl : i = 14 := by simpa using hi
              refine o_store (c' := dig 4 (restN (x * y) n)) rfl rfl hS 42 _ _ rfl rfl rfl (by repeat (first | exact Upd.head | apply Upd.tail)) limbs_size (dig_size _ _) (dig_size _ _) (dig_one _ _) fun w1 hS => ⟨hS.drop.drop, ?_⟩
              simp only [Act.put, List.getElem_toArray, List.getElem_cons_succ, List.getElem_cons_zero, List.setIfInBounds_toArray, List.set_cons_zero, List.set_cons_succ]
              refine wpAnyH_done (by kernel_rfl) ?_ _
              go_wp2_with (fail)
              go_meet
              exact ⟨_, _, rfl, rfl, hS⟩
          ·
            refine o_new rfl rfl 53 rfl wide_zero hS fun w1 c11 hS => ⟨hS.drop.drop, ?_⟩
            simp only [Act.put, List.getElem_toArray, List.getElem_cons_succ, List.getElem_cons_zero, List.setIfInBounds_toArray, List.set_cons_zero, List.set_cons_succ]
            refine wpAnyH_all (rs := [4]) (by kernel_rfl) (by simp) ?_
            intro i hi
            obtain rfl : i = 4 := by simpa using hi
            refine o_callR rfl rfl (by kernel_rfl) (times_any x y HX.out.1 HX.out.2.1 _) ?_
            rintro e w1 ⟨rfl, hb⟩
            replace hS := hS.call hb
            clear hb
            refine ⟨_, rfl, hS.drop.drop, ?_⟩
            simp only [Act.put, List.getElem_toArray, List.getElem_cons_succ, List.getElem_cons_zero, List.setIfInBounds_toArray, List.set_cons_zero, List.set_cons_succ]
            refine wpAnyH_all (rs := [6]) (by kernel_rfl) (by simp) ?_
            intro i hi
            obtain rfl : i = 6 := by simpa using hi
            refine o_callR rfl rfl (by kernel_rfl) (load_any n _) ?_
            rintro e w1 ⟨rfl, hb⟩
            replace hS := hS.call hb
            clear hb
            refine ⟨_, rfl, hS.drop.drop, ?_⟩
            simp only [Act.put, List.getElem_toArray, List.getElem_cons_succ, List.getElem_cons_zero, List.setIfInBounds_toArray, List.set_cons_zero, List.set_cons_succ]
            refine wpAnyH_all (rs := [7]) (by kernel_rfl) (by simp) ?_
            intro i hi
            obtain rfl : i = 7 := by simpa using hi
            refine o_callR rfl rfl (by kernel_rfl) (divide_r (x * y) n _ HX.out.2.2.2 HX.out.2.2.1) ?_
            rintro e w1 ⟨rfl, hb⟩
            replace hS := hS.call hb
            clear hb
            refine ⟨_, rfl, hS.drop.drop, ?_⟩
            simp only [Act.put, List.getElem_toArray, List.getElem_cons_succ, List.getElem_cons_zero, List.setIfInBounds_toArray, List.set_cons_zero, List.set_cons_succ]
            refine wpAnyH_take (i := 8) rfl (by kernel_rfl) (by kernel_rfl) (by kernel_rfl) (fun _ _ _ h => h) (y_move rfl _ (.inl rfl) rfl) hS.drop.drop ?_; simp only [Act.put, List.getElem_toArray, List.getElem_cons_succ, List.getElem_cons_zero, List.setIfInBounds_toArray, List.set_cons_zero, List.set_cons_succ]
            refine wpAnyH_take (i := 9) rfl (by kernel_rfl) (by kernel_rfl) (by kernel_rfl) (fun _ _ _ h => h) (y_extract rfl _ 0 rfl rfl rfl) hS.drop.drop ?_; simp only [Act.put, List.getElem_toArray, List.getElem_cons_succ, List.getElem_cons_zero, List.setIfInBounds_toArray, List.set_cons_zero, List.set_cons_succ]
            refine wpAnyH_take (i := 10) rfl (by kernel_rfl) (by kernel_rfl) (by kernel_rfl) (fun _ _ _ h => h) (y_extract rfl _ 1 rfl rfl rfl) hS.drop.drop ?_; simp only [Act.put, List.getElem_toArray, List.getElem_cons_succ, List.getElem_cons_zero, List.setIfInBounds_toArray, List.set_cons_zero, List.set_cons_succ]
            replace hS := hS.swap
            refine wpAnyH_all (rs := [13]) (by kernel_rfl) (by simp) ?_
            intro i hi
            obtain rfl : i = 13 := by simpa using hi
            refine o_store (c' := dig 8 (x * y / n)) rfl rfl hS 53 _ _ rfl rfl rfl (by repeat (first | exact Upd.head | apply Upd.tail)) wide_size (dig_size _ _) (dig_size _ _) (dig_one _ _) fun w1 hS => ⟨hS.drop.drop, ?_⟩
            simp only [Act.put, List.getElem_toArray, List.getElem_cons_succ, List.getElem_cons_zero, List.setIfInBounds_toArray, List.set_cons_zero, List.set_cons_succ]
            refine wpAnyH_all (rs := [14]) (by kernel_rfl) (by simp) ?_
            intro i hi
            obtain rfl : i = 14 := by simpa using hi
            refine o_store (c' := dig 4 (restN (x * y) n)) rfl rfl hS 42 _ _ rfl rfl rfl (by repeat (first | exact Upd.head | apply Upd.tail)) limbs_size (dig_size _ _) (dig_size _ _) (dig_one _ _) fun w1 hS => ⟨hS.drop.drop, ?_⟩
            simp only [Act.put, List.getElem_toArray, List.getElem_cons_succ, List.getElem_cons_zero, List.setIfInBounds_toArray, List.set_cons_zero, List.set_cons_succ]
            refine wpAnyH_done (by kernel_rfl) ?_ _
            go_wp2_with (fail)
            go_meet
            exact ⟨_, _, rfl, rfl, hS⟩
      ·
        refine o_new rfl rfl 53 rfl wide_zero hS fun w1 c11 hS => ⟨hS.drop, ?_⟩
        simp only [Act.put, List.getElem_toArray, List.getElem_cons_succ, List.getElem_cons_zero, List.setIfInBounds_toArray, List.set_cons_zero, List.set_cons_succ]
        refine wpAnyH_all (rs := [3, 12]) (by kernel_rfl) (by simp) ?_
        intro i hi
        have hi2 : i = 3 ∨ i = 12 := by simpa using hi
        rcases hi2 with rfl | rfl
        ·
          refine o_callR rfl rfl (by kernel_rfl) (load_any y _) ?_
          rintro e w1 ⟨rfl, hb⟩
          replace hS := hS.call hb
          clear hb
          refine ⟨_, rfl, hS.drop, ?_⟩
          simp only [Act.put, List.getElem_toArray, List.getElem_cons_succ, List.getElem_cons_zero, List.setIfInBounds_toArray, List.set_cons_zero, List.set_cons_succ]
          refine wpAnyH_all (rs := [4, 12]) (by kernel_rfl) (by simp) ?_
          intro i hi
          have hi2 : i = 4 ∨ i = 12 := by simpa using hi
          rcases hi2 with rfl | rfl
          ·
            refine o_callR rfl rfl (by kernel_rfl) (times_any x y HX.out.1 HX.out.2.1 _) ?_
            rintro e w1 ⟨rfl, hb⟩
            replace hS := hS.call hb
            clear hb
            refine ⟨_, rfl, hS.drop, ?_⟩
            simp only [Act.put, List.getElem_toArray, List.getElem_cons_succ, List.getElem_cons_zero, List.setIfInBounds_toArray, List.set_cons_zero, List.set_cons_succ]
            refine wpAnyH_all (rs := [6, 12]) (by kernel_rfl) (by simp) ?_
            intro i hi
            have hi2 : i = 6 ∨ i = 12 := by simpa using hi
            rcases hi2 with rfl | rfl
            ·
              refine o_callR rfl rfl (by kernel_rfl) (load_any n _) ?_
              rintro e w1 ⟨rfl, hb⟩
              replace hS := hS.call hb
              clear hb
              refine ⟨_, rfl, hS.drop, ?_⟩
              simp only [Act.put, List.getElem_toArray, List.getElem_cons_succ, List.getElem_cons_zero, List.setIfInBounds_toArray, List.set_cons_zero, List.set_cons_succ]
              refine wpAnyH_all (rs := [7, 12]) (by kernel_rfl) (by simp) ?_
              intro i hi
              have hi2 : i = 7 ∨ i = 12 := by simpa using hi
              rcases hi2 with rfl | rfl
              ·
                refine o_callR rfl rfl (by kernel_rfl) (divide_r (x * y) n _ HX.out.2.2.2 HX.out.2.2.1) ?_
                rintro e w1 ⟨rfl, hb⟩
                replace hS := hS.call hb
                clear hb
                refine ⟨_, rfl, hS.drop, ?_⟩
                simp only [Act.put, List.getElem_toArray, List.getElem_cons_succ, List.getElem_cons_zero, List.setIfInBounds_toArray, List.set_cons_zero, List.set_cons_succ]
                refine wpAnyH_take (i := 8) rfl (by kernel_rfl) (by kernel_rfl) (by kernel_rfl) (fun _ _ _ h => h) (y_move rfl _ (.inl rfl) rfl) hS.drop ?_; simp only [Act.put, List.getElem_toArray, List.getElem_cons_succ, List.getElem_cons_zero, List.setIfInBounds_toArray, List.set_cons_zero, List.set_cons_succ]
                refine wpAnyH_take (i := 9) rfl (by kernel_rfl) (by kernel_rfl) (by kernel_rfl) (fun _ _ _ h => h) (y_extract rfl _ 0 rfl rfl rfl) hS.drop ?_; simp only [Act.put, List.getElem_toArray, List.getElem_cons_succ, List.getElem_cons_zero, List.setIfInBounds_toArray, List.set_cons_zero, List.set_cons_succ]
                refine wpAnyH_take (i := 10) rfl (by kernel_rfl) (by kernel_rfl) (by kernel_rfl) (fun _ _ _ h => h) (y_extract rfl _ 1 rfl rfl rfl) hS.drop ?_; simp only [Act.put, List.getElem_toArray, List.getElem_cons_succ, List.getElem_cons_zero, List.setIfInBounds_toArray, List.set_cons_zero, List.set_cons_succ]
                refine wpAnyH_all (rs := [12]) (by kernel_rfl) (by simp) ?_
                intro i hi
                obtain rfl : i = 12 := by simpa using hi
                refine o_new rfl rfl 42 rfl limbs_zero hS fun w1 c12 hS => ⟨hS.drop.drop, ?_⟩
                simp only [Act.put, List.getElem_toArray, List.getElem_cons_succ, List.getElem_cons_zero, List.setIfInBounds_toArray, List.set_cons_zero, List.set_cons_succ]
                refine wpAnyH_all (rs := [13]) (by kernel_rfl) (by simp) ?_
                intro i hi
                obtain rfl : i = 13 := by simpa using hi
                refine o_store (c' := dig 8 (x * y / n)) rfl rfl hS 53 _ _ rfl rfl rfl (by repeat (first | exact Upd.head | apply Upd.tail)) wide_size (dig_size _ _) (dig_size _ _) (dig_one _ _) fun w1 hS => ⟨hS.drop.drop, ?_⟩
                simp only [Act.put, List.getElem_toArray, List.getElem_cons_succ, List.getElem_cons_zero, List.setIfInBounds_toArray, List.set_cons_zero, List.set_cons_succ]
                refine wpAnyH_all (rs := [14]) (by kernel_rfl) (by simp) ?_
                intro i hi
                obtain rfl : i = 14 := by simpa using hi
                refine o_store (c' := dig 4 (restN (x * y) n)) rfl rfl hS 42 _ _ rfl rfl rfl (by repeat (first | exact Upd.head | apply Upd.tail)) limbs_size (dig_size _ _) (dig_size _ _) (dig_one _ _) fun w1 hS => ⟨hS.drop.drop, ?_⟩
                simp only [Act.put, List.getElem_toArray, List.getElem_cons_succ, List.getElem_cons_zero, List.setIfInBounds_toArray, List.set_cons_zero, List.set_cons_succ]
                refine wpAnyH_done (by kernel_rfl) ?_ _
                go_wp2_with (fail)
                go_meet
                exact ⟨_, _, rfl, rfl, hS⟩
              ·
                refine o_new rfl rfl 42 rfl limbs_zero hS fun w1 c12 hS => ⟨hS.drop.drop, ?_⟩
                simp only [Act.put, List.getElem_toArray, List.getElem_cons_succ, List.getElem_cons_zero, List.setIfInBounds_toArray, List.set_cons_zero, List.set_cons_succ]
                refine wpAnyH_all (rs := [7]) (by kernel_rfl) (by simp) ?_
                intro i hi
                obtain rfl : i = 7 := by simpa using hi
                refine o_callR rfl rfl (by kernel_rfl) (divide_r (x * y) n _ HX.out.2.2.2 HX.out.2.2.1) ?_
                rintro e w1 ⟨rfl, hb⟩
                replace hS := hS.call hb
                clear hb
                refine ⟨_, rfl, hS.drop.drop, ?_⟩
                simp only [Act.put, List.getElem_toArray, List.getElem_cons_succ, List.getElem_cons_zero, List.setIfInBounds_toArray, List.set_cons_zero, List.set_cons_succ]
                refine wpAnyH_take (i := 8) rfl (by kernel_rfl) (by kernel_rfl) (by kernel_rfl) (fun _ _ _ h => h) (y_move rfl _ (.inl rfl) rfl) hS.drop.drop ?_; simp only [Act.put, List.getElem_toArray, List.getElem_cons_succ, List.getElem_cons_zero, List.setIfInBounds_toArray, List.set_cons_zero, List.set_cons_succ]
                refine wpAnyH_take (i := 9) rfl (by kernel_rfl) (by kernel_rfl) (by kernel_rfl) (fun _ _ _ h => h) (y_extract rfl _ 0 rfl rfl rfl) hS.drop.drop ?_; simp only [Act.put, List.getElem_toArray, List.getElem_cons_succ, List.getElem_cons_zero, List.setIfInBounds_toArray, List.set_cons_zero, List.set_cons_succ]
                refine wpAnyH_take (i := 10) rfl (by kernel_rfl) (by kernel_rfl) (by kernel_rfl) (fun _ _ _ h => h) (y_extract rfl _ 1 rfl rfl rfl) hS.drop.drop ?_; simp only [Act.put, List.getElem_toArray, List.getElem_cons_succ, List.getElem_cons_zero, List.setIfInBounds_toArray, List.set_cons_zero, List.set_cons_succ]
                refine wpAnyH_all (rs := [13]) (by kernel_rfl) (by simp) ?_
                intro i hi
                obtain rfl : i = 13 := by simpa using hi
                refine o_store (c' := dig 8 (x * y / n)) rfl rfl hS 53 _ _ rfl rfl rfl (by repeat (first | exact Upd.head | apply Upd.tail)) wide_size (dig_size _ _) (dig_size _ _) (dig_one _ _) fun w1 hS => ⟨hS.drop.drop, ?_⟩
                simp only [Act.put, List.getElem_toArray, List.getElem_cons_succ, List.getElem_cons_zero, List.setIfInBounds_toArray, List.set_cons_zero, List.set_cons_succ]
                refine wpAnyH_all (rs := [14]) (by kernel_rfl) (by simp) ?_
                intro i hi
                obtain rfl : i = 14 := by simpa using hi
                refine o_store (c' := dig 4 (restN (x * y) n)) rfl rfl hS 42 _ _ rfl rfl rfl (by repeat (first | exact Upd.head | apply Upd.tail)) limbs_size (dig_size _ _) (dig_size _ _) (dig_one _ _) fun w1 hS => ⟨hS.drop.drop, ?_⟩
                simp only [Act.put, List.getElem_toArray, List.getElem_cons_succ, List.getElem_cons_zero, List.setIfInBounds_toArray, List.set_cons_zero, List.set_cons_succ]
                refine wpAnyH_done (by kernel_rfl) ?_ _
                go_wp2_with (fail)
                go_meet
                exact ⟨_, _, rfl, rfl, hS⟩
            ·
              refine o_new rfl rfl 42 rfl limbs_zero hS fun w1 c12 hS => ⟨hS.drop.drop, ?_⟩
              simp only [Act.put, List.getElem_toArray, List.getElem_cons_succ, List.getElem_cons_zero, List.setIfInBounds_toArray, List.set_cons_zero, List.set_cons_succ]
              refine wpAnyH_all (rs := [6]) (by kernel_rfl) (by simp) ?_
              intro i hi
              obtain rfl : i = 6 := by simpa using hi
              refine o_callR rfl rfl (by kernel_rfl) (load_any n _) ?_
              rintro e w1 ⟨rfl, hb⟩
              replace hS := hS.call hb
              clear hb
              refine ⟨_, rfl, hS.drop.drop, ?_⟩
              simp only [Act.put, List.getElem_toArray, List.getElem_cons_succ, List.getElem_cons_zero, List.setIfInBounds_toArray, List.set_cons_zero, List.set_cons_succ]
              refine wpAnyH_all (rs := [7]) (by kernel_rfl) (by simp) ?_
              intro i hi
              obtain rfl : i = 7 := by simpa using hi
              refine o_callR rfl rfl (by kernel_rfl) (divide_r (x * y) n _ HX.out.2.2.2 HX.out.2.2.1) ?_
              rintro e w1 ⟨rfl, hb⟩
              replace hS := hS.call hb
              clear hb
              refine ⟨_, rfl, hS.drop.drop, ?_⟩
              simp only [Act.put, List.getElem_toArray, List.getElem_cons_succ, List.getElem_cons_zero, List.setIfInBounds_toArray, List.set_cons_zero, List.set_cons_succ]
              refine wpAnyH_take (i := 8) rfl (by kernel_rfl) (by kernel_rfl) (by kernel_rfl) (fun _ _ _ h => h) (y_move rfl _ (.inl rfl) rfl) hS.drop.drop ?_; simp only [Act.put, List.getElem_toArray, List.getElem_cons_succ, List.getElem_cons_zero, List.setIfInBounds_toArray, List.set_cons_zero, List.set_cons_succ]
              refine wpAnyH_take (i := 9) rfl (by kernel_rfl) (by kernel_rfl) (by kernel_rfl) (fun _ _ _ h => h) (y_extract rfl _ 0 rfl rfl rfl) hS.drop.drop ?_; simp only [Act.put, List.getElem_toArray, List.getElem_cons_succ, List.getElem_cons_zero, List.setIfInBounds_toArray, List.set_cons_zero, List.set_cons_succ]
              refine wpAnyH_take (i := 10) rfl (by kernel_rfl) (by kernel_rfl) (by kernel_rfl) (fun _ _ _ h => h) (y_extract rfl _ 1 rfl rfl rfl) hS.drop.drop ?_; simp only [Act.put, List.getElem_toArray, List.getElem_cons_succ, List.getElem_cons_zero, List.setIfInBounds_toArray, List.set_cons_zero, List.set_cons_succ]
              refine wpAnyH_all (rs := [13]) (by kernel_rfl) (by simp) ?_
              intro i hi
              obtain rfl : i = 13 := by simpa using hi
              refine o_store (c' := dig 8 (x * y / n)) rfl rfl hS 53 _ _ rfl rfl rfl (by repeat (first | exact Upd.head | apply Upd.tail)) wide_size (dig_size _ _) (dig_size _ _) (dig_one _ _) fun w1 hS => ⟨hS.drop.drop, ?_⟩
              simp only [Act.put, List.getElem_toArray, List.getElem_cons_succ, List.getElem_cons_zero, List.setIfInBounds_toArray, List.set_cons_zero, List.set_cons_succ]
              refine wpAnyH_all (rs := [14]) (by kernel_rfl) (by simp) ?_
              intro i hi
              obtain rfl : i = 14 := by simpa using hi
              refine o_store (c' := dig 4 (restN (x * y) n)) rfl rfl hS 42 _ _ rfl rfl rfl (by repeat (first | exact Upd.head | apply Upd.tail)) limbs_size (dig_size _ _) (dig_size _ _) (dig_one _ _) fun w1 hS => ⟨hS.drop.drop, ?_⟩
              simp only [Act.put, List.getElem_toArray, List.getElem_cons_succ, List.getElem_cons_zero, List.setIfInBounds_toArray, List.set_cons_zero, List.set_cons_succ]
              refine wpAnyH_done (by kernel_rfl) ?_ _
              go_wp2_with (fail)
              go_meet
              exact ⟨_, _, rfl, rfl, hS⟩
          ·
            refine o_new rfl rfl 42 rfl limbs_zero hS fun w1 c12 hS => ⟨hS.drop.drop, ?_⟩
            simp only [Act.put, List.getElem_toArray, List.getElem_cons_succ, List.getElem_cons_zero, List.setIfInBounds_toArray, List.set_cons_zero, List.set_cons_succ]
            refine wpAnyH_all (rs := [4]) (by kernel_rfl) (by simp) ?_
            intro i hi
            obtain rfl : i = 4 := by simpa using hi
            refine o_callR rfl rfl (by kernel_rfl) (times_any x y HX.out.1 HX.out.2.1 _) ?_
            rintro e w1 ⟨rfl, hb⟩
            replace hS := hS.call hb
            clear hb
            refine ⟨_, rfl, hS.drop.drop, ?_⟩
            simp only [Act.put, List.getElem_toArray, List.getElem_cons_succ, List.getElem_cons_zero, List.setIfInBounds_toArray, List.set_cons_zero, List.set_cons_succ]
            refine wpAnyH_all (rs := [6]) (by kernel_rfl) (by simp) ?_
            intro i hi
            obtain rfl : i = 6 := by simpa using hi
            refine o_callR rfl rfl (by kernel_rfl) (load_any n _) ?_
            rintro e w1 ⟨rfl, hb⟩
            replace hS := hS.call hb
            clear hb
            refine ⟨_, rfl, hS.drop.drop, ?_⟩
            simp only [Act.put, List.getElem_toArray, List.getElem_cons_succ, List.getElem_cons_zero, List.setIfInBounds_toArray, List.set_cons_zero, List.set_cons_succ]
            refine wpAnyH_all (rs := [7]) (by kernel_rfl) (by simp) ?_
            intro i hi
            obtain rfl : i = 7 := by simpa using hi
            refine o_callR rfl rfl (by kernel_rfl) (divide_r (x * y) n _ HX.out.2.2.2 HX.out.2.2.1) ?_
            rintro e w1 ⟨rfl, hb⟩
            replace hS := hS.call hb
            clear hb
            refine ⟨_, rfl, hS.drop.drop, ?_⟩
            simp only [Act.put, List.getElem_toArray, List.getElem_cons_succ, List.getElem_cons_zero, List.setIfInBounds_toArray, List.set_cons_zero, List.set_cons_succ]
            refine wpAnyH_take (i := 8) rfl (by kernel_rfl) (by kernel_rfl) (by kernel_rfl) (fun _ _ _ h => h) (y_move rfl _ (.inl rfl) rfl) hS.drop.drop ?_; simp only [Act.put, List.getElem_toArray, List.getElem_cons_succ, List.getElem_cons_zero, List.setIfInBounds_toArray, List.set_cons_zero, List.set_cons_succ]
            refine wpAnyH_take (i := 9) rfl (by kernel_rfl) (by kernel_rfl) (by kernel_rfl) (fun _ _ _ h => h) (y_extract rfl _ 0 rfl rfl rfl) hS.drop.drop ?_; simp only [Act.put, List.getElem_toArray, List.getElem_cons_succ, List.getElem_cons_zero, List.setIfInBounds_toArray, List.set_cons_zero, List.set_cons_succ]
            refine wpAnyH_take (i := 10) rfl (by kernel_rfl) (by kernel_rfl) (by kernel_rfl) (fun _ _ _ h => h) (y_extract rfl _ 1 rfl rfl rfl) hS.drop.drop ?_; simp only [Act.put, List.getElem_toArray, List.getElem_cons_succ, List.getElem_cons_zero, List.setIfInBounds_toArray, List.set_cons_zero, List.set_cons_succ]
            refine wpAnyH_all (rs := [13]) (by kernel_rfl) (by simp) ?_
            intro i hi
            obtain rfl : i = 13 := by simpa using hi
            refine o_store (c' := dig 8 (x * y / n)) rfl rfl hS 53 _ _ rfl rfl rfl (by repeat (first | exact Upd.head | apply Upd.tail)) wide_size (dig_size _ _) (dig_size _ _) (dig_one _ _) fun w1 hS => ⟨hS.drop.drop, ?_⟩
            simp only [Act.put, List.getElem_toArray, List.getElem_cons_succ, List.getElem_cons_zero, List.setIfInBounds_toArray, List.set_cons_zero, List.set_cons_succ]
            refine wpAnyH_all (rs := [14]) (by kernel_rfl) (by simp) ?_
            intro i hi
            obtain rfl : i = 14 := by simpa using hi
            refine o_store (c' := dig 4 (restN (x * y) n)) rfl rfl hS 42 _ _ rfl rfl rfl (by repeat (first | exact Upd.head | apply Upd.tail)) limbs_size (dig_size _ _) (dig_size _ _) (dig_one _ _) fun w1 hS => ⟨hS.drop.drop, ?_⟩
            simp only [Act.put, List.getElem_toArray, List.getElem_cons_succ, List.getElem_cons_zero, List.setIfInBounds_toArray, List.set_cons_zero, List.set_cons_succ]
            refine wpAnyH_done (by kernel_rfl) ?_ _
            go_wp2_with (fail)
            go_meet
            exact ⟨_, _, rfl, rfl, hS⟩
        ·
          refine o_new rfl rfl 42 rfl limbs_zero hS fun w1 c12 hS => ⟨hS.drop.drop, ?_⟩
          simp only [Act.put, List.getElem_toArray, List.getElem_cons_succ, List.getElem_cons_zero, List.setIfInBounds_toArray, List.set_cons_zero, List.set_cons_succ]
          refine wpAnyH_all (rs := [3]) (by kernel_rfl) (by simp) ?_
          intro i hi
          obtain rfl : i = 3 := by simpa using hi
          refine o_callR rfl rfl (by kernel_rfl) (load_any y _) ?_
          rintro e w1 ⟨rfl, hb⟩
          replace hS := hS.call hb
          clear hb
          refine ⟨_, rfl, hS.drop.drop, ?_⟩
          simp only [Act.put, List.getElem_toArray, List.getElem_cons_succ, List.getElem_cons_zero, List.setIfInBounds_toArray, List.set_cons_zero, List.set_cons_succ]
          refine wpAnyH_all (rs := [4]) (by kernel_rfl) (by simp) ?_
          intro i hi
          obtain rfl : i = 4 := by simpa using hi
          refine o_callR rfl rfl (by kernel_rfl) (times_any x y HX.out.1 HX.out.2.1 _) ?_
          rintro e w1 ⟨rfl, hb⟩
          replace hS := hS.call hb
          clear hb
          refine ⟨_, rfl, hS.drop.drop, ?_⟩
          simp only [Act.put, List.getElem_toArray, List.getElem_cons_succ, List.getElem_cons_zero, List.setIfInBounds_toArray, List.set_cons_zero, List.set_cons_succ]
          refine wpAnyH_all (rs := [6]) (by kernel_rfl) (by simp) ?_
          intro i hi
          obtain rfl : i = 6 := by simpa using hi
          refine o_callR rfl rfl (by kernel_rfl) (load_any n _) ?_
          rintro e w1 ⟨rfl, hb⟩
          replace hS := hS.call hb
          clear hb
          refine ⟨_, rfl, hS.drop.drop, ?_⟩
          simp only [Act.put, List.getElem_toArray, List.getElem_cons_succ, List.getElem_cons_zero, List.setIfInBounds_toArray, List.set_cons_zero, List.set_cons_succ]
          refine wpAnyH_all (rs := [7]) (by kernel_rfl) (by simp) ?_
          intro i hi
          obtain rfl : i = 7 := by simpa using hi
          refine o_callR rfl rfl (by kernel_rfl) (divide_r (x * y) n _ HX.out.2.2.2 HX.out.2.2.1) ?_
          rintro e w1 ⟨rfl, hb⟩
          replace hS := hS.call hb
          clear hb
          refine ⟨_, rfl, hS.drop.drop, ?_⟩
          simp only [Act.put, List.getElem_toArray, List.getElem_cons_succ, List.getElem_cons_zero, List.setIfInBounds_toArray, List.set_cons_zero, List.set_cons_succ]
          refine wpAnyH_take (i := 8) rfl (by kernel_rfl) (by kernel_rfl) (by kernel_rfl) (fun _ _ _ h => h) (y_move rfl _ (.inl rfl) rfl) hS.drop.drop ?_; simp only [Act.put, List.getElem_toArray, List.getElem_cons_succ, List.getElem_cons_zero, List.setIfInBounds_toArray, List.set_cons_zero, List.set_cons_succ]
          refine wpAnyH_take (i := 9) rfl (by kernel_rfl) (by kernel_rfl) (by kernel_rfl) (fun _ _ _ h => h) (y_extract rfl _ 0 rfl rfl rfl) hS.drop.drop ?_; simp only [Act.put, List.getElem_toArray, List.getElem_cons_succ, List.getElem_cons_zero, List.setIfInBounds_toArray, List.set_cons_zero, List.set_cons_succ]
          refine wpAnyH_take (i := 10) rfl (by kernel_rfl) (by kernel_rfl) (by kernel_rfl) (fun _ _ _ h => h) (y_extract rfl _ 1 rfl rfl rfl) hS.drop.drop ?_; simp only [Act.put, List.getElem_toArray, List.getElem_cons_succ, List.getElem_cons_zero, List.setIfInBounds_toArray, List.set_cons_zero, List.set_cons_succ]
          refine wpAnyH_all (rs := [13]) (by kernel_rfl) (by simp) ?_
          intro i hi
          obtain rfl : i = 13 := by simpa using hi
          refine o_store (c' := dig 8 (x * y / n)) rfl rfl hS 53 _ _ rfl rfl rfl (by repeat (first | exact Upd.head | apply Upd.tail)) wide_size (dig_size _ _) (dig_size _ _) (dig_one _ _) fun w1 hS => ⟨hS.drop.drop, ?_⟩
          simp only [Act.put, List.getElem_toArray, List.getElem_cons_succ, List.getElem_cons_zero, List.setIfInBounds_toArray, List.set_cons_zero, List.set_cons_succ]
          refine wpAnyH_all (rs := [14]) (by kernel_rfl) (by simp) ?_
          intro i hi
          obtain rfl : i = 14 := by simpa using hi
          refine o_store (c' := dig 4 (restN (x * y) n)) rfl rfl hS 42 _ _ rfl rfl rfl (by repeat (first | exact Upd.head | apply Upd.tail)) limbs_size (dig_size _ _) (dig_size _ _) (dig_one _ _) fun w1 hS => ⟨hS.drop.drop, ?_⟩
          simp only [Act.put, List.getElem_toArray, List.getElem_cons_succ, List.getElem_cons_zero, List.setIfInBounds_toArray, List.set_cons_zero, List.set_cons_succ]
          refine wpAnyH_done (by kernel_rfl) ?_ _
          go_wp2_with (fail)
          go_meet
          exact ⟨_, _, rfl, rfl, hS⟩
      ·
        refine o_new rfl rfl 42 rfl limbs_zero hS fun w1 c12 hS => ⟨hS.drop, ?_⟩
        simp only [Act.put, List.getElem_toArray, List.getElem_cons_succ, List.getElem_cons_zero, List.setIfInBounds_toArray, List.set_cons_zero, List.set_cons_succ]
        refine wpAnyH_all (rs := [3, 11]) (by kernel_rfl) (by simp) ?_
        intro i hi
        have hi2 : i = 3 ∨ i = 11 := by simpa using hi
        rcases hi2 with rfl | rfl
        ·
          refine o_callR rfl rfl (by kernel_rfl) (load_any y _) ?_
          rintro e w1 ⟨rfl, hb⟩
          replace hS := hS.call hb
          clear hb
          refine ⟨_, rfl, hS.drop, ?_⟩
          simp only [Act.put, List.getElem_toArray, List.getElem_cons_succ, List.getElem_cons_zero, List.setIfInBounds_toArray, List.set_cons_zero, List.set_cons_succ]
          refine wpAnyH_all (rs := [4, 11]) (by kernel_rfl) (by simp) ?_
          intro i hi
          have hi2 : i = 4 ∨ i = 11 := by simpa using hi
          rcases hi2 with rfl | rfl
          ·
            refine o_callR rfl rfl (by kernel_rfl) (times_any x y HX.out.1 HX.out.2.1 _) ?_
            rintro e w1 ⟨rfl, hb⟩
            replace hS := hS.call hb
            clear hb
            refine ⟨_, rfl, hS.drop, ?_⟩
            simp only [Act.put, List.getElem_toArray, List.getElem_cons_succ, List.getElem_cons_zero, List.setIfInBounds_toArray, List.set_cons_zero, List.set_cons_succ]
            refine wpAnyH_all (rs := [6, 11]) (by kernel_rfl) (by simp) ?_
            intro i hi
            have hi2 : i = 6 ∨ i = 11 := by simpa using hi
            rcases hi2 with rfl | rfl
            ·
              refine o_callR rfl rfl (by kernel_rfl) (load_any n _) ?_
              rintro e w1 ⟨rfl, hb⟩
              replace hS := hS.call hb
              clear hb
              refine ⟨_, rfl, hS.drop, ?_⟩
              simp only [Act.put, List.getElem_toArray, List.getElem_cons_succ, List.getElem_cons_zero, List.setIfInBounds_toArray, List.set_cons_zero, List.set_cons_succ]
              refine wpAnyH_all (rs := [7, 11]) (by kernel_rfl) (by simp) ?_
              intro i hi
              have hi2 : i = 7 ∨ i = 11 := by simpa using hi
              rcases hi2 with rfl | rfl
              ·
                refine o_callR rfl rfl (by kernel_rfl) (divide_r (x * y) n _ HX.out.2.2.2 HX.out.2.2.1) ?_
                rintro e w1 ⟨rfl, hb⟩
                replace hS := hS.call hb
                clear hb
                refine ⟨_, rfl, hS.drop, ?_⟩
                simp only [Act.put, List.getElem_toArray, List.getElem_cons_succ, List.getElem_cons_zero, List.setIfInBounds_toArray, List.set_cons_zero, List.set_cons_succ]
                refine wpAnyH_take (i := 8) rfl (by kernel_rfl) (by kernel_rfl) (by kernel_rfl) (fun _ _ _ h => h) (y_move rfl _ (.inl rfl) rfl) hS.drop ?_; simp only [Act.put, List.getElem_toArray, List.getElem_cons_succ, List.getElem_cons_zero, List.setIfInBounds_toArray, List.set_cons_zero, List.set_cons_succ]
                refine wpAnyH_take (i := 9) rfl (by kernel_rfl) (by kernel_rfl) (by kernel_rfl) (fun _ _ _ h => h) (y_extract rfl _ 0 rfl rfl rfl) hS.drop ?_; simp only [Act.put, List.getElem_toArray, List.getElem_cons_succ, List.getElem_cons_zero, List.setIfInBounds_toArray, List.set_cons_zero, List.set_cons_succ]
                refine wpAnyH_take (i := 10) rfl (by kernel_rfl) (by kernel_rfl) (by kernel_rfl) (fun _ _ _ h => h) (y_extract rfl _ 1 rfl rfl rfl) hS.drop ?_; simp only [Act.put, List.getElem_toArray, List.getElem_cons_succ, List.getElem_cons_zero, List.setIfInBounds_toArray, List.set_cons_zero, List.set_cons_succ]
                refine wpAnyH_all (rs := [11]) (by kernel_rfl) (by simp) ?_
                intro i hi
                obtain rfl : i = 11 := by simpa using hi
                refine o_new rfl rfl 53 rfl wide_zero hS fun w1 c11 hS => ⟨hS.drop.drop, ?_⟩
                simp only [Act.put, List.getElem_toArray, List.getElem_cons_succ, List.getElem_cons_zero, List.setIfInBounds_toArray, List.set_cons_zero, List.set_cons_succ]
                replace hS := hS.swap
                refine wpAnyH_all (rs := [13]) (by kernel_rfl) (by simp) ?_
                intro i hi
                obtain rfl : i = 13 := by simpa using hi
                refine o_store (c' := dig 8 (x * y / n)) rfl rfl hS 53 _ _ rfl rfl rfl (by repeat (first | exact Upd.head | apply Upd.tail)) wide_size (dig_size _ _) (dig_size _ _) (dig_one _ _) fun w1 hS => ⟨hS.drop.drop, ?_⟩
                simp only [Act.put, List.getElem_toArray, List.getElem_cons_succ, List.getElem_cons_zero, List.setIfInBounds_toArray, List.set_cons_zero, List.set_cons_succ]
                refine wpAnyH_all (rs := [14]) (by kernel_rfl) (by simp) ?_
                intro i hi
                obtain rfl : i = 14 := by simpa using hi
                refine o_store (c' := dig 4 (restN (x * y) n)) rfl rfl hS 42 _ _ rfl rfl rfl (by repeat (first | exact Upd.head | apply Upd.tail)) limbs_size (dig_size _ _) (dig_size _ _) (dig_one _ _) fun w1 hS => ⟨hS.drop.drop, ?_⟩
                simp only [Act.put, List.getElem_toArray, List.getElem_cons_succ, List.getElem_cons_zero, List.setIfInBounds_toArray, List.set_cons_zero, List.set_cons_succ]
                refine wpAnyH_done (by kernel_rfl) ?_ _
                go_wp2_with (fail)
                go_meet
                exact ⟨_, _, rfl, rfl, hS⟩
              ·
                refine o_new rfl rfl 53 rfl wide_zero hS fun w1 c11 hS => ⟨hS.drop.drop, ?_⟩
                simp only [Act.put, List.getElem_toArray, List.getElem_cons_succ, List.getElem_cons_zero, List.setIfInBounds_toArray, List.set_cons_zero, List.set_cons_succ]
                refine wpAnyH_all (rs := [7]) (by kernel_rfl) (by simp) ?_
                intro i hi
                obtain rfl : i = 7 := by simpa using hi
                refine o_callR rfl rfl (by kernel_rfl) (divide_r (x * y) n _ HX.out.2.2.2 HX.out.2.2.1) ?_
                rintro e w1 ⟨rfl, hb⟩
                replace hS := hS.call hb
                clear hb
                refine ⟨_, rfl, hS.drop.drop, ?_⟩
                simp only [Act.put, List.getElem_toArray, List.getElem_cons_succ, List.getElem_cons_zero, List.setIfInBounds_toArray, List.set_cons_zero, List.set_cons_succ]
                refine wpAnyH_take (i := 8) rfl (by kernel_rfl) (by kernel_rfl) (by kernel_rfl) (fun _ _ _ h => h) (y_move rfl _ (.inl rfl) rfl) hS.drop.drop ?_; simp only [Act.put, List.getElem_toArray, List.getElem_cons_succ, List.getElem_cons_zero, List.setIfInBounds_toArray, List.set_cons_zero, List.set_cons_succ]
                refine wpAnyH_take (i := 9) rfl (by kernel_rfl) (by kernel_rfl) (by kernel_rfl) (fun _ _ _ h => h) (y_extract rfl _ 0 rfl rfl rfl) hS.drop.drop ?_; simp only [Act.put, List.getElem_toArray, List.getElem_cons_succ, List.getElem_cons_zero, List.setIfInBounds_toArray, List.set_cons_zero, List.set_cons_succ]
                refine wpAnyH_take (i := 10) rfl (by kernel_rfl) (by kernel_rfl) (by kernel_rfl) (fun _ _ _ h => h) (y_extract rfl _ 1 rfl rfl rfl) hS.drop.drop ?_; simp only [Act.put, List.getElem_toArray, List.getElem_cons_succ, List.getElem_cons_zero, List.setIfInBounds_toArray, List.set_cons_zero, List.set_cons_succ]
                replace hS := hS.swap
                refine wpAnyH_all (rs := [13]) (by kernel_rfl) (by simp) ?_
                intro i hi
                obtain rfl : i = 13 := by simpa using hi
                refine o_store (c' := dig 8 (x * y / n)) rfl rfl hS 53 _ _ rfl rfl rfl (by repeat (first | exact Upd.head | apply Upd.tail)) wide_size (dig_size _ _) (dig_size _ _) (dig_one _ _) fun w1 hS => ⟨hS.drop.drop, ?_⟩
                simp only [Act.put, List.getElem_toArray, List.getElem_cons_succ, List.getElem_cons_zero, List.setIfInBounds_toArray, List.set_cons_zero, List.set_cons_succ]
                refine wpAnyH_all (rs := [14]) (by kernel_rfl) (by simp) ?_
                intro i hi
                obtain rfl : i = 14 := by simpa using hi
                refine o_store (c' := dig 4 (restN (x * y) n)) rfl rfl hS 42 _ _ rfl rfl rfl (by repeat (first | exact Upd.head | apply Upd.tail)) limbs_size (dig_size _ _) (dig_size _ _) (dig_one _ _) fun w1 hS => ⟨hS.drop.drop, ?_⟩
                simp only [Act.put, List.getElem_toArray, List.getElem_cons_succ, List.getElem_cons_zero, List.setIfInBounds_toArray, List.set_cons_zero, List.set_cons_succ]
                refine wpAnyH_done (by kernel_rfl) ?_ _
                go_wp2_with (fail)
                go_meet
                exact ⟨_, _, rfl, rfl, hS⟩
            ·
              refine o_new rfl rfl 53 rfl wide_zero hS fun w1 c11 hS => ⟨hS.drop.drop, ?_⟩
              simp only [Act.put, List.getElem_toArray, List.getElem_cons_succ, List.getElem_cons_zero, List.setIfInBounds_toArray, List.set_cons_zero, List.set_cons_succ]
              refine wpAnyH_all (rs := [6]) (by kernel_rfl) (by simp) ?_
              intro i hi
              obtain rfl : i = 6 := by simpa using hi
              refine o_callR rfl rfl (by kernel_rfl) (load_any n _) ?_
              rintro e w1 ⟨rfl, hb⟩
              replace hS := hS.call hb
              clear hb
              refine ⟨_, rfl, hS.drop.drop, ?_⟩
              simp only [Act.put, List.getElem_toArray, List.getElem_cons_succ, List.getElem_cons_zero, List.setIfInBounds_toArray, List.set_cons_zero, List.set_cons_succ]
              refine wpAnyH_all (rs := [7]) (by kernel_rfl) (by simp) ?_
              intro i hi
              obtain rfl : i = 7 := by simpa using hi
              refine o_callR rfl rfl (by kernel_rfl) (divide_r (x * y) n _ HX.out.2.2.2 HX.out.2.2.1) ?_
              rintro e w1 ⟨rfl, hb⟩
              replace hS := hS.call hb
              clear hb
              refine ⟨_, rfl, hS.drop.drop, ?_⟩
              simp only [Act.put, List.getElem_toArray, List.getElem_cons_succ, List.getElem_cons_zero, List.setIfInBounds_toArray, List.set_cons_zero, List.set_cons_succ]
              refine wpAnyH_take (i := 8) rfl (by kernel_rfl) (by kernel_rfl) (by kernel_rfl) (fun _ _ _ h => h) (y_move rfl _ (.inl rfl) rfl) hS.drop.drop ?_; simp only [Act.put, List.getElem_toArray, List.getElem_cons_succ, List.getElem_cons_zero, List.setIfInBounds_toArray, List.set_cons_zero, List.set_cons_succ]
              refine wpAnyH_take (i := 9) rfl (by kernel_rfl) (by kernel_rfl) (by kernel_rfl) (fun _ _ _ h => h) (y_extract rfl _ 0 rfl rfl rfl) hS.drop.drop ?_; simp only [Act.put, List.getElem_toArray, List.getElem_cons_succ, List.getElem_cons_zero, List.setIfInBounds_toArray, List.set_cons_zero, List.set_cons_succ]
              refine wpAnyH_take (i := 10) rfl (by kernel_rfl) (by kernel_rfl) (by kernel_rfl) (fun _ _ _ h => h) (y_extract rfl _ 1 rfl rfl rfl) hS.drop.drop ?_; simp only [Act.put, List.getElem_toArray, List.getElem_cons_succ, List.getElem_cons_zero, List.setIfInBounds_toArray, List.set_cons_zero, List.set_cons_succ]
              replace hS := hS.swap
              refine wpAnyH_all (rs := [13]) (by kernel_rfl) (by simp) ?_
              intro i hi
              obtain rfl : i = 13 := by simpa using hi
              refine o_store (c' := dig 8 (x * y / n)) rfl rfl hS 53 _ _ rfl rfl rfl (by repeat (first | exact Upd.head | apply Upd.tail)) wide_size (dig_size _ _) (dig_size _ _) (dig_one _ _) fun w1 hS => ⟨hS.drop.drop, ?_⟩
              simp only [Act.put, List.getElem_toArray, List.getElem_cons_succ, List.getElem_cons_zero, List.setIfInBounds_toArray, List.set_cons_zero, List.set_cons_succ]
              refine wpAnyH_all (rs := [14]) (by kernel_rfl) (by simp) ?_
              intro i hi
              obtain rfl : i = 14 := by simpa using hi
              refine o_store (c' := dig 4 (restN (x * y) n)) rfl rfl hS 42 _ _ rfl rfl rfl (by repeat (first | exact Upd.head | apply Upd.tail)) limbs_size (dig_size _ _) (dig_size _ _) (dig_one _ _) fun w1 hS => ⟨hS.drop.drop, ?_⟩
              simp only [Act.put, List.getElem_toArray, List.getElem_cons_succ, List.getElem_cons_zero, List.setIfInBounds_toArray, List.set_cons_zero, List.set_cons_succ]
              refine wpAnyH_done (by kernel_rfl) ?_ _
              go_wp2_with (fail)
              go_meet
              exact ⟨_, _, rfl, rfl, hS⟩
          ·
            refine o_new rfl rfl 53 rfl wide_zero hS fun w1 c11 hS => ⟨hS.drop.drop, ?_⟩
            simp only [Act.put, List.getElem_toArray, List.getElem_cons_succ, List.getElem_cons_zero, List.setIfInBounds_toArray, List.set_cons_zero, List.set_cons_succ]
            refine wpAnyH_all (rs := [4]) (by kernel_rfl) (by simp) ?_
            intro i hi
            obtain rfl : i = 4 := by simpa using hi
            refine o_callR rfl rfl (by kernel_rfl) (times_any x y HX.out.1 HX.out.2.1 _) ?_
            rintro e w1 ⟨rfl, hb⟩
            replace hS := hS.call hb
            clear hb
            refine ⟨_, rfl, hS.drop.drop, ?_⟩
            simp only [Act.put, List.getElem_toArray, List.getElem_cons_succ, List.getElem_cons_zero, List.setIfInBounds_toArray, List.set_cons_zero, List.set_cons_succ]
            refine wpAnyH_all (rs := [6]) (by kernel_rfl) (by simp) ?_
            intro i hi
            obtain rfl : i = 6 := by simpa using hi
            refine o_callR rfl rfl (by kernel_rfl) (load_any n _) ?_
            rintro e w1 ⟨rfl, hb⟩
            replace hS := hS.call hb
            clear hb
            refine ⟨_, rfl, hS.drop.drop, ?_⟩
            simp only [Act.put, List.getElem_toArray, List.getElem_cons_succ, List.getElem_cons_zero, List.setIfInBounds_toArray, List.set_cons_zero, List.set_cons_succ]
            refine wpAnyH_all (rs := [7]) (by kernel_rfl) (by simp) ?_
            intro i hi
            obtain rfl : i = 7 := by simpa using hi
            refine o_callR rfl rfl (by kernel_rfl) (divide_r (x * y) n _ HX.out.2.2.2 HX.out.2.2.1) ?_
            rintro e w1 ⟨rfl, hb⟩
            replace hS := hS.call hb
            clear hb
            refine ⟨_, rfl, hS.drop.drop, ?_⟩
            simp only [Act.put, List.getElem_toArray, List.getElem_cons_succ, List.getElem_cons_zero, List.setIfInBounds_toArray, List.set_cons_zero, List.set_cons_succ]
            refine wpAnyH_take (i := 8) rfl (by kernel_rfl) (by kernel_rfl) (by kernel_rfl) (fun _ _ _ h => h) (y_move rfl _ (.inl rfl) rfl) hS.drop.drop ?_; simp only [Act.put, List.getElem_toArray, List.getElem_cons_succ, List.getElem_cons_zero, List.setIfInBounds_toArray, List.set_cons_zero, List.set_cons_succ]
            refine wpAnyH_take (i := 9) rfl (by kernel_rfl) (by kernel_rfl) (by kernel_rfl) (fun _ _ _ h => h) (y_extract rfl _ 0 rfl rfl rfl) hS.drop.drop ?_; simp only [Act.put, List.getElem_toArray, List.getElem_cons_succ, List.getElem_cons_zero, List.setIfInBounds_toArray, List.set_cons_zero, List.set_cons_succ]
            refine wpAnyH_take (i := 10) rfl (by kernel_rfl) (by kernel_rfl) (by kernel_rfl) (fun _ _ _ h => h) (y_extract rfl _ 1 rfl rfl rfl) hS.drop.drop ?_; simp only [Act.put, List.getElem_toArray, List.getElem_cons_succ, List.getElem_cons_zero, List.setIfInBounds_toArray, List.set_cons_zero, List.set_cons_succ]
            replace hS := hS.swap
            refine wpAnyH_all (rs := [13]) (by kernel_rfl) (by simp) ?_
            intro i hi
            obtain rfl : i = 13 := by simpa using hi
            refine o_store (c' := dig 8 (x * y / n)) rfl rfl hS 53 _ _ rfl rfl rfl (by repeat (first | exact Upd.head | apply Upd.tail)) wide_size (dig_size _ _) (dig_size _ _) (dig_one _ _) fun w1 hS => ⟨hS.drop.drop, ?_⟩
            simp only [Act.put, List.getElem_toArray, List.getElem_cons_succ, List.getElem_cons_zero, List.setIfInBounds_toArray, List.set_cons_zero, List.set_cons_succ]
            refine wpAnyH_all (rs := [14]) (by kernel_rfl) (by simp) ?_
            intro i hi
            obtain rfl : i = 14 := by simpa using hi
            refine o_store (c' := dig 4 (restN (x * y) n)) rfl rfl hS 42 _ _ rfl rfl rfl (by repeat (first | exact Upd.head | apply Upd.tail)) limbs_size (dig_size _ _) (dig_size _ _) (dig_one _ _) fun w1 hS => ⟨hS.drop.drop, ?_⟩
            simp only [Act.put, List.getElem_toArray, List.getElem_cons_succ, List.getElem_cons_zero, List.setIfInBounds_toArray, List.set_cons_zero, List.set_cons_succ]
            refine wpAnyH_done (by kernel_rfl) ?_ _
            go_wp2_with (fail)
            go_meet
            exact ⟨_, _, rfl, rfl, hS⟩
        ·
          refine o_new rfl rfl 53 rfl wide_zero hS fun w1 c11 hS => ⟨hS.drop.drop, ?_⟩
          simp only [Act.put, List.getElem_toArray, List.getElem_cons_succ, List.getElem_cons_zero, List.setIfInBounds_toArray, List.set_cons_zero, List.set_cons_succ]
          refine wpAnyH_all (rs := [3]) (by kernel_rfl) (by simp) ?_
          intro i hi
          obtain rfl : i = 3 := by simpa using hi
          refine o_callR rfl rfl (by kernel_rfl) (load_any y _) ?_
          rintro e w1 ⟨rfl, hb⟩
          replace hS := hS.call hb
          clear hb
          refine ⟨_, rfl, hS.drop.drop, ?_⟩
          simp only [Act.put, List.getElem_toArray, List.getElem_cons_succ, List.getElem_cons_zero, List.setIfInBounds_toArray, List.set_cons_zero, List.set_cons_succ]
          refine wpAnyH_all (rs := [4]) (by kernel_rfl) (by simp) ?_
          intro i hi
          obtain rfl : i = 4 := by simpa using hi
          refine o_callR rfl rfl (by kernel_rfl) (times_any x y HX.out.1 HX.out.2.1 _) ?_
          rintro e w1 ⟨rfl, hb⟩
          replace hS := hS.call hb
          clear hb
          refine ⟨_, rfl, hS.drop.drop, ?_⟩
          simp only [Act.put, List.getElem_toArray, List.getElem_cons_succ, List.getElem_cons_zero, List.setIfInBounds_toArray, List.set_cons_zero, List.set_cons_succ]
          refine wpAnyH_all (rs := [6]) (by kernel_rfl) (by simp) ?_
          intro i hi
          obtain rfl : i = 6 := by simpa using hi
          refine o_callR rfl rfl (by kernel_rfl) (load_any n _) ?_
          rintro e w1 ⟨rfl, hb⟩
          replace hS := hS.call hb
          clear hb
          refine ⟨_, rfl, hS.drop.drop, ?_⟩
          simp only [Act.put, List.getElem_toArray, List.getElem_cons_succ, List.getElem_cons_zero, List.setIfInBounds_toArray, List.set_cons_zero, List.set_cons_succ]
          refine wpAnyH_all (rs := [7]) (by kernel_rfl) (by simp) ?_
          intro i hi
          obtain rfl : i = 7 := by simpa using hi
          refine o_callR rfl rfl (by kernel_rfl) (divide_r (x * y) n _ HX.out.2.2.2 HX.out.2.2.1) ?_
          rintro e w1 ⟨rfl, hb⟩
          replace hS := hS.call hb
          clear hb
          refine ⟨_, rfl, hS.drop.drop, ?_⟩
          simp only [Act.put, List.getElem_toArray, List.getElem_cons_succ, List.getElem_cons_zero, List.setIfInBounds_toArray, List.set_cons_zero, List.set_cons_succ]
          refine wpAnyH_take (i := 8) rfl (by kernel_rfl) (by kernel_rfl) (by kernel_rfl) (fun _ _ _ h => h) (y_move rfl _ (.inl rfl) rfl) hS.drop.drop ?_; simp only [Act.put, List.getElem_toArray, List.getElem_cons_succ, List.getElem_cons_zero, List.setIfInBounds_toArray, List.set_cons_zero, List.set_cons_succ]
          refine wpAnyH_take (i := 9) rfl (by kernel_rfl) (by kernel_rfl) (by kernel_rfl) (fun _ _ _ h => h) (y_extract rfl _ 0 rfl rfl rfl) hS.drop.drop ?_; simp only [Act.put, List.getElem_toArray, List.getElem_cons_succ, List.getElem_cons_zero, List.setIfInBounds_toArray, List.set_cons_zero, List.set_cons_succ]
          refine wpAnyH_take (i := 10) rfl (by kernel_rfl) (by kernel_rfl) (by kernel_rfl) (fun _ _ _ h => h) (y_extract rfl _ 1 rfl rfl rfl) hS.drop.drop ?_; simp only [Act.put, List.getElem_toArray, List.getElem_cons_succ, List.getElem_cons_zero, List.setIfInBounds_toArray, List.set_cons_zero, List.set_cons_succ]
          replace hS := hS.swap
          refine wpAnyH_all (rs := [13]) (by kernel_rfl) (by simp) ?_
          intro i hi
          obtain rfl : i = 13 := by simpa using hi
          refine o_store (c' := dig 8 (x * y / n)) rfl rfl hS 53 _ _ rfl rfl rfl (by repeat (first | exact Upd.head | apply Upd.tail)) wide_size (dig_size _ _) (dig_size _ _) (dig_one _ _) fun w1 hS => ⟨hS.drop.drop, ?_⟩
          simp only [Act.put, List.getElem_toArray, List.getElem_cons_succ, List.getElem_cons_zero, List.setIfInBounds_toArray, List.set_cons_zero, List.set_cons_succ]
          refine wpAnyH_all (rs := [14]) (by kernel_rfl) (by simp) ?_
          intro i hi
          obtain rfl : i = 14 := by simpa using hi
          refine o_store (c' := dig 4 (restN (x * y) n)) rfl rfl hS 42 _ _ rfl rfl rfl (by repeat (first | exact Upd.head | apply Upd.tail)) limbs_size (dig_size _ _) (dig_size _ _) (dig_one _ _) fun w1 hS => ⟨hS.drop.drop, ?_⟩
          simp only [Act.put, List.getElem_toArray, List.getElem_cons_succ, List.getElem_cons_zero, List.setIfInBounds_toArray, List.set_cons_zero, List.set_cons_succ]
          refine wpAnyH_done (by kernel_rfl) ?_ _
          go_wp2_with (fail)
          go_meet
          exact ⟨_, _, rfl, rfl, hS⟩
    ·
      refine o_new rfl rfl 53 rfl wide_zero hS fun w1 c11 hS => ⟨hS.drop, ?_⟩
      simp only [Act.put, List.getElem_toArray, List.getElem_cons_succ, List.getElem_cons_zero, List.setIfInBounds_toArray, List.set_cons_zero, List.set_cons_succ]
      refine wpAnyH_all (rs := [1, 12]) (by kernel_rfl) (by simp) ?_
      intro i hi
      have hi2 : i = 1 ∨ i = 12 := by simpa using hi
      rcases hi2 with rfl | rfl
      ·
        refine o_callR rfl rfl (by kernel_rfl) (load_any x _) ?_
        rintro e w1 ⟨rfl, hb⟩
        replace hS := hS.call hb
        clear hb
        refine ⟨_, rfl, hS.drop, ?_⟩
        simp only [Act.put, List.getElem_toArray, List.getElem_cons_succ, List.getElem_cons_zero, List.setIfInBounds_toArray, List.set_cons_zero, List.set_cons_succ]
        refine wpAnyH_all (rs := [3, 12]) (by kernel_rfl) (by simp) ?_
        intro i hi
        have hi2 : i = 3 ∨ i = 12 := by simpa using hi
        rcases hi2 with rfl | rfl
        ·
          refine o_callR rfl rfl (by kernel_rfl) (load_any y _) ?_
          rintro e w1 ⟨rfl, hb⟩
          replace hS := hS.call hb
          clear hb
          refine ⟨_, rfl, hS.drop, ?_⟩
          simp only [Act.put, List.getElem_toArray, List.getElem_cons_succ, List.getElem_cons_zero, List.setIfInBounds_toArray, List.set_cons_zero, List.set_cons_succ]
          refine wpAnyH_all (rs := [4, 12]) (by kernel_rfl) (by simp) ?_
          intro i hi
          have hi2 : i = 4 ∨ i = 12 := by simpa using hi
          rcases hi2 with rfl | rfl
          ·
            refine o_callR rfl rfl (by kernel_rfl) (times_any x y HX.out.1 HX.out.2.1 _) ?_
            rintro e w1 ⟨rfl, hb⟩
            replace hS := hS.call hb
            clear hb
            refine ⟨_, rfl, hS.drop, ?_⟩
            simp only [Act.put, List.getElem_toArray, List.getElem_cons_succ, List.getElem_cons_zero, List.setIfInBounds_toArray, List.set_cons_zero, List.set_cons_succ]
            refine wpAnyH_all (rs := [6, 12]) (by kernel_rfl) (by simp) ?_
            intro i hi
            have hi2 : i = 6 ∨ i = 12 := by simpa using hi
            rcases hi2 with rfl | rfl
            ·
              refine o_callR rfl rfl (by kernel_rfl) (load_any n _) ?_
              rintro e w1 ⟨rfl, hb⟩
              replace hS := hS.call hb
              clear hb
              refine ⟨_, rfl, hS.drop, ?_⟩
              simp only [Act.put, List.getElem_toArray, List.getElem_cons_succ, List.getElem_cons_zero, List.setIfInBounds_toArray, List.set_cons_zero, List.set_cons_succ]
              refine wpAnyH_all (rs := [7, 12]) (by kernel_rfl) (by simp) ?_
              intro i hi
              have hi2 : i = 7 ∨ i = 12 := by simpa using hi
              rcases hi2 with rfl | rfl
              ·
                refine o_callR rfl rfl (by kernel_rfl) (divide_r (x * y) n _ HX.out.2.2.2 HX.out.2.2.1) ?_
                rintro e w1 ⟨rfl, hb⟩
                replace hS := hS.call hb
                clear hb
                refine ⟨_, rfl, hS.drop, ?_⟩
                simp only [Act.put, List.getElem_toArray, List.getElem_cons_succ, List.getElem_cons_zero, List.setIfInBounds_toArray, List.set_cons_zero, List.set_cons_succ]
                refine wpAnyH_take (i := 8) rfl (by kernel_rfl) (by kernel_rfl) (by kernel_rfl) (fun _ _ _ h => h) (y_move rfl _ (.inl rfl) rfl) hS.drop ?_; simp only [Act.put, List.getElem_toArray, List.getElem_cons_succ, List.getElem_cons_zero, List.setIfInBounds_toArray, List.set_cons_zero, List.set_cons_succ]
                refine wpAnyH_take (i := 9) rfl (by kernel_rfl) (by kernel_rfl) (by kernel_rfl) (fun _ _ _ h => h) (y_extract rfl _ 0 rfl rfl rfl) hS.drop ?_; simp only [Act.put, List.getElem_toArray, List.getElem_cons_succ, List.getElem_cons_zero, List.setIfInBounds_toArray, List.set_cons_zero, List.set_cons_succ]
                refine wpAnyH_take (i := 10) rfl (by kernel_rfl) (by kernel_rfl) (by kernel_rfl) (fun _ _ _ h => h) (y_extract rfl _ 1 rfl rfl rfl) hS.drop ?_; simp only [Act.put, List.getElem_toArray, List.getElem_cons_succ, List.getElem_cons_zero, List.setIfInBounds_toArray, List.set_cons_zero, List.set_cons_succ]
                refine wpAnyH_all (rs := [12]) (by kernel_rfl) (by simp) ?_
                intro i hi
                obtain rfl : i = 12 := by simpa using hi
                refine o_new rfl rfl 42 rfl limbs_zero hS fun w1 c12 hS => ⟨hS.drop.drop, ?_⟩
                simp only [Act.put, List.getElem_toArray, List.getElem_cons_succ, List.getElem_cons_zero, List.setIfInBounds_toArray, List.set_cons_zero, List.set_cons_succ]
                refine wpAnyH_all (rs := [13]) (by kernel_rfl) (by simp) ?_
                intro i hi
                obtain rfl : i = 13 := by simpa using hi
                refine o_store (c' := dig 8 (x * y / n)) rfl rfl hS 53 _ _ rfl rfl rfl (by repeat (first | exact Upd.head | apply Upd.tail)) wide_size (dig_size _ _) (dig_size _ _) (dig_one _ _) fun w1 hS => ⟨hS.drop.drop, ?_⟩
                simp only [Act.put, List.getElem_toArray, List.getElem_cons_succ, List.getElem_cons_zero, List.setIfInBounds_toArray, List.set_cons_zero, List.set_cons_succ]
                refine wpAnyH_all (rs := [14]) (by kernel_rfl) (by simp) ?_
                intro i hi
                obtain rfl : i = 14 := by simpa using hi
                refine o_store (c' := dig 4 (restN (x * y) n)) rfl rfl hS 42 _ _ rfl rfl rfl (by repeat (first | exact Upd.head | apply Upd.tail)) limbs_size (dig_size _ _) (dig_size _ _) (dig_one _ _) fun w1 hS => ⟨hS.drop.drop, ?_⟩
                simp only [Act.put, List.getElem_toArray, List.getElem_cons_succ, List.getElem_cons_zero, List.setIfInBounds_toArray, List.set_cons_zero, List.set_cons_succ]
                refine wpAnyH_done (by kernel_rfl) ?_ _
                go_wp2_with (fail)
                go_meet
                exact ⟨_, _, rfl, rfl, hS⟩
              ·
                refine o_new rfl rfl 42 rfl limbs_zero hS fun w1 c12 hS => ⟨hS.drop.drop, ?_⟩
                simp only [Act.put, List.getElem_toArray, List.getElem_cons_succ, List.getElem_cons_zero, List.setIfInBounds_toArray, List.set_cons_zero, List.set_cons_succ]
                refine wpAnyH_all (rs := [7]) (by kernel_rfl) (by simp) ?_
                intro i hi
                obtain rfl : i = 7 := by simpa using hi
                refine o_callR rfl rfl (by kernel_rfl) (divide_r (x * y) n _ HX.out.2.2.2 HX.out.2.2.1) ?_
                rintro e w1 ⟨rfl, hb⟩
                replace hS := hS.call hb
                clear hb
                refine ⟨_, rfl, hS.drop.drop, ?_⟩
                simp only [Act.put, List.getElem_toArray, List.getElem_cons_succ, List.getElem_cons_zero, List.setIfInBounds_toArray, List.set_cons_zero, List.set_cons_succ]
                refine wpAnyH_take (i := 8) rfl (by kernel_rfl) (by kernel_rfl) (by kernel_rfl) (fun _ _ _ h => h) (y_move rfl _ (.inl rfl) rfl) hS.drop.drop ?_; simp only [Act.put, List.getElem_toArray, List.getElem_cons_succ, List.getElem_cons_zero, List.setIfInBounds_toArray, List.set_cons_zero, List.set_cons_succ]
                refine wpAnyH_take (i := 9) rfl (by kernel_rfl) (by kernel_rfl) (by kernel_rfl) (fun _ _ _ h => h) (y_extract rfl _ 0 rfl rfl rfl) hS.drop.drop ?_; simp only [Act.put, List.getElem_toArray, List.getElem_cons_succ, List.getElem_cons_zero, List.setIfInBounds_toArray, List.set_cons_zero, List.set_cons_succ]
                refine wpAnyH_take (i := 10) rfl (by kernel_rfl) (by kernel_rfl) (by kernel_rfl) (fun _ _ _ h => h) (y_extract rfl _ 1 rfl rfl rfl) hS.drop.drop ?_; simp only [Act.put, List.getElem_toArray, List.getElem_cons_succ, List.getElem_cons_zero, List.setIfInBounds_toArray, List.set_cons_zero, List.set_cons_succ]
                refine wpAnyH_all (rs := [13]) (by kernel_rfl) (by simp) ?_
                intro i hi
                obtain rfl : i = 13 := by simpa using hi
                refine o_store (c' := dig 8 (x * y / n)) rfl rfl hS 53 _ _ rfl rfl rfl (by repeat (first | exact Upd.head | apply Upd.tail)) wide_size (dig_size _ _) (dig_size _ _) (dig_one _ _) fun w1 hS => ⟨hS.drop.drop, ?_⟩
                simp only [Act.put, List.getElem_toArray, List.getElem_cons_succ, List.getElem_cons_zero, List.setIfInBounds_toArray, List.set_cons_zero, List.set_cons_succ]
                refine wpAnyH_all (rs := [14]) (by kernel_rfl) (by simp) ?_
                intro i hi
                obtain rfl : i = 14 := by simpa using hi
                refine o_store (c' := dig 4 (restN (x * y) n)) rfl rfl hS 42 _ _ rfl rfl rfl (by repeat (first | exact Upd.head | apply Upd.tail)) limbs_size (dig_size _ _) (dig_size _ _) (dig_one _ _) fun w1 hS => ⟨hS.drop.drop, ?_⟩
                simp only [Act.put, List.getElem_toArray, List.getElem_cons_succ, List.getElem_cons_zero, List.setIfInBounds_toArray, List.set_cons_zero, List.set_cons_succ]
                refine wpAnyH_done (by kernel_rfl) ?_ _
                go_wp2_with (fail)
                go_meet
                exact ⟨_, _, rfl, rfl, hS⟩
            ·
              refine o_new rfl rfl 42 rfl limbs_zero hS fun w1 c12 hS => ⟨hS.drop.drop, ?_⟩
              simp only [Act.put, List.getElem_toArray, List.getElem_cons_succ, List.getElem_cons_zero, List.setIfInBounds_toArray, List.set_cons_zero, List.set_cons_succ]
              refine wpAnyH_all (rs := [6]) (by kernel_rfl) (by simp) ?_
              intro i hi
              obtain rfl : i = 6 := by simpa using hi
              refine o_callR rfl rfl (by kernel_rfl) (load_any n _) ?_
              rintro e w1 ⟨rfl, hb⟩
              replace hS := hS.call hb
              clear hb
              refine ⟨_, rfl, hS.drop.drop, ?_⟩
              simp only [Act.put, List.getElem_toArray, List.getElem_cons_succ, List.getElem_cons_zero, List.setIfInBounds_toArray, List.set_cons_zero, List.set_cons_succ]
              refine wpAnyH_all (rs := [7]) (by kernel_rfl) (by simp) ?_
              intro i hi
              obtain rfl : i = 7 := by simpa using hi
              refine o_callR rfl rfl (by kernel_rfl) (divide_r (x * y) n _ HX.out.2.2.2 HX.out.2.2.1) ?_
              rintro e w1 ⟨rfl, hb⟩
              replace hS := hS.call hb
              clear hb
              refine ⟨_, rfl, hS.drop.drop, ?_⟩
              simp only [Act.put, List.getElem_toArray, List.getElem_cons_succ, List.getElem_cons_zero, List.setIfInBounds_toArray, List.set_cons_zero, List.set_cons_succ]
              refine wpAnyH_take (i := 8) rfl (by kernel_rfl) (by kernel_rfl) (by kernel_rfl) (fun _ _ _ h => h) (y_move rfl _ (.inl rfl) rfl) hS.drop.drop ?_; simp only [Act.put, List.getElem_toArray, List.getElem_cons_succ, List.getElem_cons_zero, List.setIfInBounds_toArray, List.set_cons_zero, List.set_cons_succ]
              refine wpAnyH_take (i := 9) rfl (by kernel_rfl) (by kernel_rfl) (by kernel_rfl) (fun _ _ _ h => h) (y_extract rfl _ 0 rfl rfl rfl) hS.drop.drop ?_; simp only [Act.put, List.getElem_toArray, List.getElem_cons_succ, List.getElem_cons_zero, List.setIfInBounds_toArray, List.set_cons_zero, List.set_cons_succ]
              refine wpAnyH_take (i := 10) rfl (by kernel_rfl) (by kernel_rfl) (by kernel_rfl) (fun _ _ _ h => h) (y_extract rfl _ 1 rfl rfl rfl) hS.drop.drop ?_; simp only [Act.put, List.getElem_toArray, List.getElem_cons_succ, List.getElem_cons_zero, List.setIfInBounds_toArray, List.set_cons_zero, List.set_cons_succ]
              refine wpAnyH_all (rs := [13]) (by kernel_rfl) (by simp) ?_
              intro i hi
              obtain rfl : i = 13 := by simpa using hi
              refine o_store (c' := dig 8 (x * y / n)) rfl rfl hS 53 _ _ rfl rfl rfl (by repeat (first | exact Upd.head | apply Upd.tail)) wide_size (dig_size _ _) (dig_size _ _) (dig_one _ _) fun w1 hS => ⟨hS.drop.drop, ?_⟩
              simp only [Act.put, List.getElem_toArray, List.getElem_cons_succ, List.getElem_cons_zero, List.setIfInBounds_toArray, List.set_cons_zero, List.set_cons_succ]
              refine wpAnyH_all (rs := [14]) (by kernel_rfl) (by simp) ?_
              intro i hi
              obtain rfl : i = 14 := by simpa using hi
              refine o_store (c' := dig 4 (restN (x * y) n)) rfl rfl hS 42 _ _ rfl rfl rfl (by repeat (first | exact Upd.head | apply Upd.tail)) limbs_size (dig_size _ _) (dig_size _ _) (dig_one _ _) fun w1 hS => ⟨hS.drop.drop, ?_⟩
              simp only [Act.put, List.getElem_toArray, List.getElem_cons_succ, List.getElem_cons_zero, List.setIfInBounds_toArray, List.set_cons_zero, List.set_cons_succ]
              refine wpAnyH_done (by kernel_rfl) ?_ _
              go_wp2_with (fail)
              go_meet
              exact ⟨_, _, rfl, rfl, hS⟩
          ·
            refine o_new rfl rfl 42 rfl limbs_zero hS fun w1 c12 hS => ⟨hS.drop.drop, ?_⟩
            simp only [Act.put, List.getElem_toArray, List.getElem_cons_succ, List.getElem_cons_zero, List.setIfInBounds_toArray, List.set_cons_zero, List.set_cons_succ]
            refine wpAnyH_all (rs := [4]) (by kernel_rfl) (by simp) ?_
            intro i hi
            obtain rfl : i = 4 := by simpa using hi
            refine o_callR rfl rfl (by kernel_rfl) (times_any x y HX.out.1 HX.out.2.1 _) ?_
            rintro e w1 ⟨rfl, hb⟩
            replace hS := hS.call hb
            clear hb
            refine ⟨_, rfl, hS.drop.drop, ?_⟩
            simp only [Act.put, List.getElem_toArray, List.getElem_cons_succ, List.getElem_cons_zero, List.setIfInBounds_toArray, List.set_cons_zero, List.set_cons_succ]
            refine wpAnyH_all (rs := [6]) (by kernel_rfl) (by simp) ?_
            intro i hi
            obtain rfl : i = 6 := by simpa using hi
            refine o_callR rfl rfl (by kernel_rfl) (load_any n _) ?_
            rintro e w1 ⟨rfl, hb⟩
            replace hS := hS.call hb
            clear hb
            refine ⟨_, rfl, hS.drop.drop, ?_⟩
            simp only [Act.put, List.getElem_toArray, List.getElem_cons_succ, List.getElem_cons_zero, List.setIfInBounds_toArray, List.set_cons_zero, List.set_cons_succ]
            refine wpAnyH_all (rs := [7]) (by kernel_rfl) (by simp) ?_
            intro i hi
            obtain rfl : i = 7 := by simpa using hi
            refine o_callR rfl rfl (by kernel_rfl) (divide_r (x * y) n _ HX.out.2.2.2 HX.out.2.2.1) ?_
            rintro e w1 ⟨rfl, hb⟩
            replace hS := hS.call hb
            clear hb
            refine ⟨_, rfl, hS.drop.drop, ?_⟩
            simp only [Act.put, List.getElem_toArray, List.getElem_cons_succ, List.getElem_cons_zero, List.setIfInBounds_toArray, List.set_cons_zero, List.set_cons_succ]
            refine wpAnyH_take (i := 8) rfl (by kernel_rfl) (by kernel_rfl) (by kernel_rfl) (fun _ _ _ h => h) (y_move rfl _ (.inl rfl) rfl) hS.drop.drop ?_; simp only [Act.put, List.getElem_toArray, List.getElem_cons_succ, List.getElem_cons_zero, List.setIfInBounds_toArray, List.set_cons_zero, List.set_cons_succ]
            refine wpAnyH_take (i := 9) rfl (by kernel_rfl) (by kernel_rfl) (by kernel_rfl) (fun _ _ _ h => h) (y_extract rfl _ 0 rfl rfl rfl) hS.drop.drop ?_; simp only [Act.put, List.getElem_toArray, List.getElem_cons_succ, List.getElem_cons_zero, List.setIfInBounds_toArray, List.set_cons_zero, List.set_cons_succ]
            refine wpAnyH_take (i := 10) rfl (by kernel_rfl) (by kernel_rfl) (by kernel_rfl) (fun _ _ _ h => h) (y_extract rfl _ 1 rfl rfl rfl) hS.drop.drop ?_; simp only [Act.put, List.getElem_toArray, List.getElem_cons_succ, List.getElem_cons_zero, List.setIfInBounds_toArray, List.set_cons_zero, List.set_cons_succ]
            refine wpAnyH_all (rs := [13]) (by kernel_rfl) (by simp) ?_
            intro i hi
            obtain rfl : i = 13 := by simpa using hi
            refine o_store (c' := dig 8 (x * y / n)) rfl rfl hS 53 _ _ rfl rfl rfl (by repeat (first | exact Upd.head | apply Upd.tail)) wide_size (dig_size _ _) (dig_size _ _) (dig_one _ _) fun w1 hS => ⟨hS.drop.drop, ?_⟩
            simp only [Act.put, List.getElem_toArray, List.getElem_cons_succ, List.getElem_cons_zero, List.setIfInBounds_toArray, List.set_cons_zero, List.set_cons_succ]
            refine wpAnyH_all (rs := [14]) (by kernel_rfl) (by simp) ?_
            intro i hi
            obtain rfl : i = 14 := by simpa using hi
            refine o_store (c' := dig 4 (restN (x * y) n)) rfl rfl hS 42 _ _ rfl rfl rfl (by repeat (first | exact Upd.head | apply Upd.tail)) limbs_size (dig_size _ _) (dig_size _ _) (dig_one _ _) fun w1 hS => ⟨hS.drop.drop, ?_⟩
            simp only [Act.put, List.getElem_toArray, List.getElem_cons_succ, List.getElem_cons_zero, List.setIfInBounds_toArray, List.set_cons_zero, List.set_cons_succ]
            refine wpAnyH_done (by kernel_rfl) ?_ _
            go_wp2_with (fail)
            go_meet
            exact ⟨_, _, rfl, rfl, hS⟩
        ·
          refine o_new rfl rfl 42 rfl limbs_zero hS fun w1 c12 hS => ⟨hS.drop.drop, ?_⟩
          simp only [Act.put, List.getElem_toArray, List.getElem_cons_succ, List.getElem_cons_zero, List.setIfInBounds_toArray, List.set_cons_zero, List.set_cons_succ]
          refine wpAnyH_all (rs := [3]) (by kernel_rfl) (by simp) ?_
          intro i hi
          obtain rfl : i = 3 := by simpa using hi
          refine o_callR rfl rfl (by kernel_rfl) (load_any y _) ?_
          rintro e w1 ⟨rfl, hb⟩
          replace hS := hS.call hb
          clear hb
          refine ⟨_, rfl, hS.drop.drop, ?_⟩
          simp only [Act.put, List.getElem_toArray, List.getElem_cons_succ, List.getElem_cons_zero, List.setIfInBounds_toArray, List.set_cons_zero, List.set_cons_succ]
          refine wpAnyH_all (rs := [4]) (by kernel_rfl) (by simp) ?_
          intro i hi
          obtain rfl : i = 4 := by simpa using hi
          refine o_callR rfl rfl (by kernel_rfl) (times_any x y HX.out.1 HX.out.2.1 _) ?_
          rintro e w1 ⟨rfl, hb⟩
          replace hS := hS.call hb
          clear hb
          refine ⟨_, rfl, hS.drop.drop, ?_⟩
          simp only [Act.put, List.getElem_toArray, List.getElem_cons_succ, List.getElem_cons_zero, List.setIfInBounds_toArray, List.set_cons_zero, List.set_cons_succ]
          refine wpAnyH_all (rs := [6]) (by kernel_rfl) (by simp) ?_
          intro i hi
          obtain rfl : i = 6 := by simpa using hi
          refine o_callR rfl rfl (by kernel_rfl) (load_any n _) ?_
          rintro e w1 ⟨rfl, hb⟩
          replace hS := hS.call hb
          clear hb
          refine ⟨_, rfl, hS.drop.drop, ?_⟩
          simp only [Act.put, List.getElem_toArray, List.getElem_cons_succ, List.getElem_cons_zero, List.setIfInBounds_toArray, List.set_cons_zero, List.set_cons_succ]
          refine wpAnyH_all (rs := [7]) (by kernel_rfl) (by simp) ?_
          intro i hi
          obtain rfl : i = 7 := by simpa using hi
          refine o_callR rfl rfl (by kernel_rfl) (divide_r (x * y) n _ HX.out.2.2.2 HX.out.2.2.1) ?_
          rintro e w1 ⟨rfl, hb⟩
          replace hS := hS.call hb
          clear hb
          refine ⟨_, rfl, hS.drop.drop, ?_⟩
          simp only [Act.put, List.getElem_toArray, List.getElem_cons_succ, List.getElem_cons_zero, List.setIfInBounds_toArray, List.set_cons_zero, List.set_cons_succ]
          refine wpAnyH_take (i := 8) rfl (by kernel_rfl) (by kernel_rfl) (by kernel_rfl) (fun _ _ _ h => h) (y_move rfl _ (.inl rfl) rfl) hS.drop.drop ?_; simp only [Act.put, List.getElem_toArray, List.getElem_cons_succ, List.getElem_cons_zero, List.setIfInBounds_toArray, List.set_cons_zero, List.set_cons_succ]
          refine wpAnyH_take (i := 9) rfl (by kernel_rfl) (by kernel_rfl) (by kernel_rfl) (fun _ _ _ h => h) (y_extract rfl _ 0 rfl rfl rfl) hS.drop.drop ?_; simp only [Act.put, List.getElem_toArray, List.getElem_cons_succ, List.getElem_cons_zero, List.setIfInBounds_toArray, List.set_cons_zero, List.set_cons_succ]
          refine wpAnyH_take (i := 10) rfl (by kernel_rfl) (by kernel_rfl) (by kernel_rfl) (fun _ _ _ h => h) (y_extract rfl _ 1 rfl rfl rfl) hS.drop.drop ?_; simp only [Act.put, List.getElem_toArray, List.getElem_cons_succ, List.getElem_cons_zero, List.setIfInBounds_toArray, List.set_cons_zero, List.set_cons_succ]
          refine wpAnyH_all (rs := [13]) (by kernel_rfl) (by simp) ?_
          intro i hi
          obtain rfl : i = 13 := by simpa using hi
          refine o_store (c' := dig 8 (x * y / n)) rfl rfl hS 53 _ _ rfl rfl rfl (by repeat (first | exact Upd.head | apply Upd.tail)) wide_size (dig_size _ _) (dig_size _ _) (dig_one _ _) fun w1 hS => ⟨hS.drop.drop, ?_⟩
          simp only [Act.put, List.getElem_toArray, List.getElem_cons_succ, List.getElem_cons_zero, List.setIfInBounds_toArray, List.set_cons_zero, List.set_cons_succ]
          refine wpAnyH_all (rs := [14]) (by kernel_rfl) (by simp) ?_
          intro i hi
          obtain rfl : i = 14 := by simpa using hi
          refine o_store (c' := dig 4 (restN (x * y) n)) rfl rfl hS 42 _ _ rfl rfl rfl (by repeat (first | exact Upd.head | apply Upd.tail)) limbs_size (dig_size _ _) (dig_size _ _) (dig_one _ _) fun w1 hS => ⟨hS.drop.drop, ?_⟩
          simp only [Act.put, List.getElem_toArray, List.getElem_cons_succ, List.getElem_cons_zero, List.setIfInBounds_toArray, List.set_cons_zero, List.set_cons_succ]
          refine wpAnyH_done (by kernel_rfl) ?_ _
          go_wp2_with (fail)
          go_meet
          exact ⟨_, _, rfl, rfl, hS⟩
      ·
        refine o_new rfl rfl 42 rfl limbs_zero hS fun w1 c12 hS => ⟨hS.drop.drop, ?_⟩
        simp only [Act.put, List.getElem_toArray, List.getElem_cons_succ, List.getElem_cons_zero, List.setIfInBounds_toArray, List.set_cons_zero, List.set_cons_succ]
        refine wpAnyH_all (rs := [1]) (by kernel_rfl) (by simp) ?_
        intro i hi
        obtain rfl : i = 1 := by simpa using hi
        refine o_callR rfl rfl (by kernel_rfl) (load_any x _) ?_
        rintro e w1 ⟨rfl, hb⟩
        replace hS := hS.call hb
        clear hb
        refine ⟨_, rfl, hS.drop.drop, ?_⟩
        simp only [Act.put, List.getElem_toArray, List.getElem_cons_succ, List.getElem_cons_zero, List.setIfInBounds_toArray, List.set_cons_zero, List.set_cons_succ]
        refine wpAnyH_all (rs := [3]) (by kernel_rfl) (by simp) ?_
        intro i hi
        obtain rfl : i = 3 := by simpa using hi
        refine o_callR rfl rfl (by kernel_rfl) (load_any y _) ?_
        rintro e w1 ⟨rfl, hb⟩
        replace hS := hS.call hb
        clear hb
        refine ⟨_, rfl, hS.drop.drop, ?_⟩
        simp only [Act.put, List.getElem_toArray, List.getElem_cons_succ, List.getElem_cons_zero, List.setIfInBounds_toArray, List.set_cons_zero, List.set_cons_succ]
        refine wpAnyH_all (rs := [4]) (by kernel_rfl) (by simp) ?_
        intro i hi
        obtain rfl : i = 4 := by simpa using hi
        refine o_callR rfl rfl (by kernel_rfl) (times_any x y HX.out.1 HX.out.2.1 _) ?_
        rintro e w1 ⟨rfl, hb⟩
        replace hS := hS.call hb
        clear hb
        refine ⟨_, rfl, hS.drop.drop, ?_⟩
        simp only [Act.put, List.getElem_toArray, List.getElem_cons_succ, List.getElem_cons_zero, List.setIfInBounds_toArray, List.set_cons_zero, List.set_cons_succ]
        refine wpAnyH_all (rs := [6]) (by kernel_rfl) (by simp) ?_
        intro i hi
        obtain rfl : i = 6 := by simpa using hi
        refine o_callR rfl rfl (by kernel_rfl) (load_any n _) ?_
        rintro e w1 ⟨rfl, hb⟩
        replace hS := hS.call hb
        clear hb
        refine ⟨_, rfl, hS.drop.drop, ?_⟩
        simp only [Act.put, List.getElem_toArray, List.getElem_cons_succ, List.getElem_cons_zero, List.setIfInBounds_toArray, List.set_cons_zero, List.set_cons_succ]
        refine wpAnyH_all (rs := [7]) (by kernel_rfl) (by simp) ?_
        intro i hi
        obtain rfl : i = 7 := by simpa using hi
        refine o_callR rfl rfl (by kernel_rfl) (divide_r (x * y) n _ HX.out.2.2.2 HX.out.2.2.1) ?_
        rintro e w1 ⟨rfl, hb⟩
        replace hS := hS.call hb
        clear hb
        refine ⟨_, rfl, hS.drop.drop, ?_⟩
        simp only [Act.put, List.getElem_toArray, List.getElem_cons_succ, List.getElem_cons_zero, List.setIfInBounds_toArray, List.set_cons_zero, List.set_cons_succ]
        refine wpAnyH_take (i := 8) rfl (by kernel_rfl) (by kernel_rfl) (by kernel_rfl) (fun _ _ _ h => h) (y_move rfl _ (.inl rfl) rfl) hS.drop.drop ?_; simp only [Act.put, List.getElem_toArray, List.getElem_cons_succ, List.getElem_cons_zero, List.setIfInBounds_toArray, List.set_cons_zero, List.set_cons_succ]
        refine wpAnyH_take (i := 9) rfl (by kernel_rfl) (by kernel_rfl) (by kernel_rfl) (fun _ _ _ h => h) (y_extract rfl _ 0 rfl rfl rfl) hS.drop.drop ?_; simp only [Act.put, List.getElem_toArray, List.getElem_cons_succ, List.getElem_cons_zero, List.setIfInBounds_toArray, List.set_cons_zero, List.set_cons_succ]
        refine wpAnyH_take (i := 10) rfl (by kernel_rfl) (by kernel_rfl) (by kernel_rfl) (fun _ _ _ h => h) (y_extract rfl _ 1 rfl rfl rfl) hS.drop.drop ?_; simp only [Act.put, List.getElem_toArray, List.getElem_cons_succ, List.getElem_cons_zero, List.setIfInBounds_toArray, List.set_cons_zero, List.set_cons_succ]
        refine wpAnyH_all (rs := [13]) (by kernel_rfl) (by simp) ?_
        intro i hi
        obtain rfl : i = 13 := by simpa using hi
        refine o_store (c' := dig 8 (x * y / n)) rfl rfl hS 53 _ _ rfl rfl rfl (by repeat (first | exact Upd.head | apply Upd.tail)) wide_size (dig_size _ _) (dig_size _ _) (dig_one _ _) fun w1 hS => ⟨hS.drop.drop, ?_⟩
        simp only [Act.put, List.getElem_toArray, List.getElem_cons_succ, List.getElem_cons_zero, List.setIfInBounds_toArray, List.set_cons_zero, List.set_cons_succ]
        refine wpAnyH_all (rs := [14]) (by kernel_rfl) (by simp) ?_
        intro i hi
        obtain rfl : i = 14 := by simpa using hi
        refine o_store (c' := dig 4 (restN (x * y) n)) rfl rfl hS 42 _ _ rfl rfl rfl (by repeat (first | exact Upd.head | apply Upd.tail)) limbs_size (dig_size _ _) (dig_size _ _) (dig_one _ _) fun w1 hS => ⟨hS.drop.drop, ?_⟩
        simp only [Act.put, List.getElem_toArray, List.getElem_cons_succ, List.getElem_cons_zero, List.setIfInBounds_toArray, List.set_cons_zero, List.set_cons_succ]
        refine wpAnyH_done (by kernel_rfl) ?_ _
        go_wp2_with (fail)
        go_meet
        exact ⟨_, _, rfl, rfl, hS⟩
    ·
      refine o_new rfl rfl 42 rfl limbs_zero hS fun w1 c12 hS => ⟨hS.drop, ?_⟩
      simp only [Act.put, List.getElem_toArray, List.getElem_cons_succ, List.getElem_cons_zero, List.setIfInBounds_toArray, List.set_cons_zero, List.set_cons_succ]
      refine wpAnyH_all (rs := [1, 11]) (by kernel_rfl) (by simp) ?_
      intro i hi
      have hi2 : i = 1 ∨ i = 11 := by simpa using hi
      rcases hi2 with rfl | rfl
      ·
        refine o_callR rfl rfl (by kernel_rfl) (load_any x _) ?_
        rintro e w1 ⟨rfl, hb⟩
        replace hS := hS.call hb
        clear hb
        refine ⟨_, rfl, hS.drop, ?_⟩
        simp only [Act.put, List.getElem_toArray, List.getElem_cons_succ, List.getElem_cons_zero, List.setIfInBounds_toArray, List.set_cons_zero, List.set_cons_succ]
        refine wpAnyH_all (rs := [3, 11]) (by kernel_rfl) (by simp) ?_
        intro i hi
        have hi2 : i = 3 ∨ i = 11 := by simpa using hi
        rcases hi2 with rfl | rfl
        ·
          refine o_callR rfl rfl (by kernel_rfl) (load_any y _) ?_
          rintro e w1 ⟨rfl, hb⟩
          replace hS := hS.call hb
          clear hb
          refine ⟨_, rfl, hS.drop, ?_⟩
          simp only [Act.put, List.getElem_toArray, List.getElem_cons_succ, List.getElem_cons_zero, List.setIfInBounds_toArray, List.set_cons_zero, List.set_cons_succ]
          refine wpAnyH_all (rs := [4, 11]) (by kernel_rfl) (by simp) ?_
          intro i hi
          have hi2 : i = 4 ∨ i = 11 := by simpa using hi
          rcases hi2 with rfl | rfl
          ·
            refine o_callR rfl rfl (by kernel_rfl) (times_any x y HX.out.1 HX.out.2.1 _) ?_
            rintro e w1 ⟨rfl, hb⟩
            replace hS := hS.call hb
            clear hb
            refine ⟨_, rfl, hS.drop, ?_⟩
            simp only [Act.put, List.getElem_toArray, List.getElem_cons_succ, List.getElem_cons_zero, List.setIfInBounds_toArray, List.set_cons_zero, List.set_cons_succ]
            refine wpAnyH_all (rs := [6, 11]) (by kernel_rfl) (by simp) ?_
            intro i hi
            have hi2 : i = 6 ∨ i = 11 := by simpa using hi
            rcases hi2 with rfl | rfl
            ·
              refine o_callR rfl rfl (by kernel_rfl) (load_any n _) ?_
              rintro e w1 ⟨rfl, hb⟩
              replace hS := hS.call hb
              clear hb
              refine ⟨_, rfl, hS.drop, ?_⟩
              simp only [Act.put, List.getElem_toArray, List.getElem_cons_succ, List.getElem_cons_zero, List.setIfInBounds_toArray, List.set_cons_zero, List.set_cons_succ]
              refine wpAnyH_all (rs := [7, 11]) (by kernel_rfl) (by simp) ?_
              intro i hi
              have hi2 : i = 7 ∨ i = 11 := by simpa using hi
              rcases hi2 with rfl | rfl
              ·
                refine o_callR rfl rfl (by kernel_rfl) (divide_r (x * y) n _ HX.out.2.2.2 HX.out.2.2.1) ?_
                rintro e w1 ⟨rfl, hb⟩
                replace hS := hS.call hb
                clear hb
                refine ⟨_, rfl, hS.drop, ?_⟩
                simp only [Act.put, List.getElem_toArray, List.getElem_cons_succ, List.getElem_cons_zero, List.setIfInBounds_toArray, List.set_cons_zero, List.set_cons_succ]
                refine wpAnyH_take (i := 8) rfl (by kernel_rfl) (by kernel_rfl) (by kernel_rfl) (fun _ _ _ h => h) (y_move rfl _ (.inl rfl) rfl) hS.drop ?_; simp only [Act.put, List.getElem_toArray, List.getElem_cons_succ, List.getElem_cons_zero, List.setIfInBounds_toArray, List.set_cons_zero, List.set_cons_succ]
                refine wpAnyH_take (i := 9) rfl (by kernel_rfl) (by kernel_rfl) (by kernel_rfl) (fun _ _ _ h => h) (y_extract rfl _ 0 rfl rfl rfl) hS.drop ?_; simp only [Act.put, List.getElem_toArray, List.getElem_cons_succ, List.getElem_cons_zero, List.setIfInBounds_toArray, List.set_cons_zero, List.set_cons_succ]
                refine wpAnyH_take (i := 10) rfl (by kernel_rfl) (by kernel_rfl) (by kernel_rfl) (fun _ _ _ h => h) (y_extract rfl _ 1 rfl rfl rfl) hS.drop ?_; simp only [Act.put, List.getElem_toArray, List.getElem_cons_succ, List.getElem_cons_zero, List.setIfInBounds_toArray, List.set_cons_zero, List.set_cons_succ]
                refine wpAnyH_all (rs := [11]) (by kernel_rfl) (by simp) ?_
                intro i hi
                obtain rfl : i = 11 := by simpa using hi
                refine o_new rfl rfl 53 rfl wide_zero hS fun w1 c11 hS => ⟨hS.drop.drop, ?_⟩
                simp only [Act.put, List.getElem_toArray, List.getElem_cons_succ, List.getElem_cons_zero, List.setIfInBounds_toArray, List.set_cons_zero, List.set_cons_succ]
                replace hS := hS.swap
                refine wpAnyH_all (rs := [13]) (by kernel_rfl) (by simp) ?_
                intro i hi
                obtain rfl : i = 13 := by simpa using hi
                refine o_store (c' := dig 8 (x * y / n)) rfl rfl hS 53 _ _ rfl rfl rfl (by repeat (first | exact Upd.head | apply Upd.tail)) wide_size (dig_size _ _) (dig_size _ _) (dig_one _ _) fun w1 hS => ⟨hS.drop.drop, ?_⟩
                simp only [Act.put, List.getElem_toArray, List.getElem_cons_succ, List.getElem_cons_zero, List.setIfInBounds_toArray, List.set_cons_zero, List.set_cons_succ]
                refine wpAnyH_all (rs := [14]) (by kernel_rfl) (by simp) ?_
                intro i hi
                obtain rfl : i = 14 := by simpa using hi
                refine o_store (c' := dig 4 (restN (x * y) n)) rfl rfl hS 42 _ _ rfl rfl rfl (by repeat (first | exact Upd.head | apply Upd.tail)) limbs_size (dig_size _ _) (dig_size _ _) (dig_one _ _) fun w1 hS => ⟨hS.drop.drop, ?_⟩
                simp only [Act.put, List.getElem_toArray, List.getElem_cons_succ, List.getElem_cons_zero, List.setIfInBounds_toArray, List.set_cons_zero, List.set_cons_succ]
                refine wpAnyH_done (by kernel_rfl) ?_ _
                go_wp2_with (fail)
                go_meet
                exact ⟨_, _, rfl, rfl, hS⟩
              ·
                refine o_new rfl rfl 53 rfl wide_zero hS fun w1 c11 hS => ⟨hS.drop.drop, ?_⟩
                simp only [Act.put, List.getElem_toArray, List.getElem_cons_succ, List.getElem_cons_zero, List.setIfInBounds_toArray, List.set_cons_zero, List.set_cons_succ]
                refine wpAnyH_all (rs := [7]) (by kernel_rfl) (by simp) ?_
                intro i hi
                obtain rfl : i = 7 := by simpa using hi
                refine o_callR rfl rfl (by kernel_rfl) (divide_r (x * y) n _ HX.out.2.2.2 HX.out.2.2.1) ?_
                rintro e w1 ⟨rfl, hb⟩
                replace hS := hS.call hb
                clear hb
                refine ⟨_, rfl, hS.drop.drop, ?_⟩
                simp only [Act.put, List.getElem_toArray, List.getElem_cons_succ, List.getElem_cons_zero, List.setIfInBounds_toArray, List.set_cons_zero, List.set_cons_succ]
                refine wpAnyH_take (i := 8) rfl (by kernel_rfl) (by kernel_rfl) (by kernel_rfl) (fun _ _ _ h => h) (y_move rfl _ (.inl rfl) rfl) hS.drop.drop ?_; simp only [Act.put, List.getElem_toArray, List.getElem_cons_succ, List.getElem_cons_zero, List.setIfInBounds_toArray, List.set_cons_zero, List.set_cons_succ]
                refine wpAnyH_take (i := 9) rfl (by kernel_rfl) (by kernel_rfl) (by kernel_rfl) (fun _ _ _ h => h) (y_extract rfl _ 0 rfl rfl rfl) hS.drop.drop ?_; simp only [Act.put, List.getElem_toArray, List.getElem_cons_succ, List.getElem_cons_zero, List.setIfInBounds_toArray, List.set_cons_zero, List.set_cons_succ]
                refine wpAnyH_take (i := 10) rfl (by kernel_rfl) (by kernel_rfl) (by kernel_rfl) (fun _ _ _ h => h) (y_extract rfl _ 1 rfl rfl rfl) hS.drop.drop ?_; simp only [Act.put, List.getElem_toArray, List.getElem_cons_succ, List.getElem_cons_zero, List.setIfInBounds_toArray, List.set_cons_zero, List.set_cons_succ]
                replace hS := hS.swap
                refine wpAnyH_all (rs := [13]) (by kernel_rfl) (by simp) ?_
                intro i hi
                obtain rfl : i = 13 := by simpa using hi
                refine o_store (c' := dig 8 (x * y / n)) rfl rfl hS 53 _ _ rfl rfl rfl (by repeat (first | exact Upd.head | apply Upd.tail)) wide_size (dig_size _ _) (dig_size _ _) (dig_one _ _) fun w1 hS => ⟨hS.drop.drop, ?_⟩
                simp only [Act.put, List.getElem_toArray, List.getElem_cons_succ, List.getElem_cons_zero, List.setIfInBounds_toArray, List.set_cons_zero, List.set_cons_succ]
                refine wpAnyH_all (rs := [14]) (by kernel_rfl) (by simp) ?_
                intro i hi
                obtain rfl : i = 14 := by simpa using hi
                refine o_store (c' := dig 4 (restN (x * y) n)) rfl rfl hS 42 _ _ rfl rfl rfl (by repeat (first | exact Upd.head | apply Upd.tail)) limbs_size (dig_size _ _) (dig_size _ _) (dig_one _ _) fun w1 hS => ⟨hS.drop.drop, ?_⟩
                simp only [Act.put, List.getElem_toArray, List.getElem_cons_succ, List.getElem_cons_zero, List.setIfInBounds_toArray, List.set_cons_zero, List.set_cons_succ]
                refine wpAnyH_done (by kernel_rfl) ?_ _
                go_wp2_with (fail)
                go_meet
                exact ⟨_, _, rfl, rfl, hS⟩
            ·
              refine o_new rfl rfl 53 rfl wide_zero hS fun w1 c11 hS => ⟨hS.drop.drop, ?_⟩
              simp only [Act.put, List.getElem_toArray, List.getElem_cons_succ, List.getElem_cons_zero, List.setIfInBounds_toArray, List.set_cons_zero, List.set_cons_succ]
              refine wpAnyH_all (rs := [6]) (by kernel_rfl) (by simp) ?_
              intro i hi
              obtain rfl : i = 6 := by simpa using hi
              refine o_callR rfl rfl (by kernel_rfl) (load_any n _) ?_
              rintro e w1 ⟨rfl, hb⟩
              replace hS := hS.call hb
              clear hb
              refine ⟨_, rfl, hS.drop.drop, ?_⟩
              simp only [Act.put, List.getElem_toArray, List.getElem_cons_succ, List.getElem_cons_zero, List.setIfInBounds_toArray, List.set_cons_zero, List.set_cons_succ]
              refine wpAnyH_all (rs := [7]) (by kernel_rfl) (by simp) ?_
              intro i hi
              obtain rfl : i = 7 := by simpa using hi
              refine o_callR rfl rfl (by kernel_rfl) (divide_r (x * y) n _ HX.out.2.2.2 HX.out.2.2.1) ?_
              rintro e w1 ⟨rfl, hb⟩
              replace hS := hS.call hb
              clear hb
              refine ⟨_, rfl, hS.drop.drop, ?_⟩
              simp only [Act.put, List.getElem_toArray, List.getElem_cons_succ, List.getElem_cons_zero, List.setIfInBounds_toArray, List.set_cons_zero, List.set_cons_succ]
              refine wpAnyH_take (i := 8) rfl (by kernel_rfl) (by kernel_rfl) (by kernel_rfl) (fun _ _ _ h => h) (y_move rfl _ (.inl rfl) rfl) hS.drop.drop ?_; simp only [Act.put, List.getElem_toArray, List.getElem_cons_succ, List.getElem_cons_zero, List.setIfInBounds_toArray, List.set_cons_zero, List.set_cons_succ]
              refine wpAnyH_take (i := 9) rfl (by kernel_rfl) (by kernel_rfl) (by kernel_rfl) (fun _ _ _ h => h) (y_extract rfl _ 0 rfl rfl rfl) hS.drop.drop ?_; simp only [Act.put, List.getElem_toArray, List.getElem_cons_succ, List.getElem_cons_zero, List.setIfInBounds_toArray, List.set_cons_zero, List.set_cons_succ]
              refine wpAnyH_take (i := 10) rfl (by kernel_rfl) (by kernel_rfl) (by kernel_rfl) (fun _ _ _ h => h) (y_extract rfl _ 1 rfl rfl rfl) hS.drop.drop ?_; simp only [Act.put, List.getElem_toArray, List.getElem_cons_succ, List.getElem_cons_zero, List.setIfInBounds_toArray, List.set_cons_zero, List.set_cons_succ]
              replace hS := hS.swap
              refine wpAnyH_all (rs := [13]) (by kernel_rfl) (by simp) ?_
              intro i hi
              obtain rfl : i = 13 := by simpa using hi
              refine o_store (c' := dig 8 (x * y / n)) rfl rfl hS 53 _ _ rfl rfl rfl (by repeat (first | exact Upd.head | apply Upd.tail)) wide_size (dig_size _ _) (dig_size _ _) (dig_one _ _) fun w1 hS => ⟨hS.drop.drop, ?_⟩
              simp only [Act.put, List.getElem_toArray, List.getElem_cons_succ, List.getElem_cons_zero, List.setIfInBounds_toArray, List.set_cons_zero, List.set_cons_succ]
              refine wpAnyH_all (rs := [14]) (by kernel_rfl) (by simp) ?_
              intro i hi
              obtain rfl : i = 14 := by simpa using hi
              refine o_store (c' := dig 4 (restN (x * y) n)) rfl rfl hS 42 _ _ rfl rfl rfl (by repeat (first | exact Upd.head | apply Upd.tail)) limbs_size (dig_size _ _) (dig_size _ _) (dig_one _ _) fun w1 hS => ⟨hS.drop.drop, ?_⟩
              simp only [Act.put, List.getElem_toArray, List.getElem_cons_succ, List.getElem_cons_zero, List.setIfInBounds_toArray, List.set_cons_zero, List.set_cons_succ]
              refine wpAnyH_done (by kernel_rfl) ?_ _
              go_wp2_with (fail)
              go_meet
              exact ⟨_, _, rfl, rfl, hS⟩
          ·
            refine o_new rfl rfl 53 rfl wide_zero hS fun w1 c11 hS => ⟨hS.drop.drop, ?_⟩
            simp only [Act.put, List.getElem_toArray, List.getElem_cons_succ, List.getElem_cons_zero, List.setIfInBounds_toArray, List.set_cons_zero, List.set_cons_succ]
            refine wpAnyH_all (rs := [4]) (by kernel_rfl) (by simp) ?_
            intro i hi
            obtain rfl : i = 4 := by simpa using hi
            refine o_callR rfl rfl (by kernel_rfl) (times_any x y HX.out.1 HX.out.2.1 _) ?_
            rintro e w1 ⟨rfl, hb⟩
            replace hS := hS.call hb
            clear hb
            refine ⟨_, rfl, hS.drop.drop, ?_⟩
            simp only [Act.put, List.getElem_toArray, List.getElem_cons_succ, List.getElem_cons_zero, List.setIfInBounds_toArray, List.set_cons_zero, List.set_cons_succ]
            refine wpAnyH_all (rs := [6]) (by kernel_rfl) (by simp) ?_
            intro i hi
            obtain rfl : i = 6 := by simpa using hi
            refine o_callR rfl rfl (by kernel_rfl) (load_any n _) ?_
            rintro e w1 ⟨rfl, hb⟩
            replace hS := hS.call hb
            clear hb
            refine ⟨_, rfl, hS.drop.drop, ?_⟩
            simp only [Act.put, List.getElem_toArray, List.getElem_cons_succ, List.getElem_cons_zero, List.setIfInBounds_toArray, List.set_cons_zero, List.set_cons_succ]
            refine wpAnyH_all (rs := [7]) (by kernel_rfl) (by simp) ?_
            intro i hi
            obtain rfl : i = 7 := by simpa using hi
            refine o_callR rfl rfl (by kernel_rfl) (divide_r (x * y) n _ HX.out.2.2.2 HX.out.2.2.1) ?_
            rintro e w1 ⟨rfl, hb⟩
            replace hS := hS.call hb
            clear hb
            refine ⟨_, rfl, hS.drop.drop, ?_⟩
            simp only [Act.put, List.getElem_toArray, List.getElem_cons_succ, List.getElem_cons_zero, List.setIfInBounds_toArray, List.set_cons_zero, List.set_cons_succ]
            refine wpAnyH_take (i := 8) rfl (by kernel_rfl) (by kernel_rfl) (by kernel_rfl) (fun _ _ _ h => h) (y_move rfl _ (.inl rfl) rfl) hS.drop.drop ?_; simp only [Act.put, List.getElem_toArray, List.getElem_cons_succ, List.getElem_cons_zero, List.setIfInBounds_toArray, List.set_cons_zero, List.set_cons_succ]
            refine wpAnyH_take (i := 9) rfl (by kernel_rfl) (by kernel_rfl) (by kernel_rfl) (fun _ _ _ h => h) (y_extract rfl _ 0 rfl rfl rfl) hS.drop.drop ?_; simp only [Act.put, List.getElem_toArray, List.getElem_cons_succ, List.getElem_cons_zero, List.setIfInBounds_toArray, List.set_cons_zero, List.set_cons_succ]
            refine wpAnyH_take (i := 10) rfl (by kernel_rfl) (by kernel_rfl) (by kernel_rfl) (fun _ _ _ h => h) (y_extract rfl _ 1 rfl rfl rfl) hS.drop.drop ?_; simp only [Act.put, List.getElem_toArray, List.getElem_cons_succ, List.getElem_cons_zero, List.setIfInBounds_toArray, List.set_cons_zero, List.set_cons_succ]
            replace hS := hS.swap
            refine wpAnyH_all (rs := [13]) (by kernel_rfl) (by simp) ?_
            intro i hi
            obtain rfl : i = 13 := by simpa using hi
            refine o_store (c' := dig 8 (x * y / n)) rfl rfl hS 53 _ _ rfl rfl rfl (by repeat (first | exact Upd.head | apply Upd.tail)) wide_size (dig_size _ _) (dig_size _ _) (dig_one _ _) fun w1 hS => ⟨hS.drop.drop, ?_⟩
            simp only [Act.put, List.getElem_toArray, List.getElem_cons_succ, List.getElem_cons_zero, List.setIfInBounds_toArray, List.set_cons_zero, List.set_cons_succ]
            refine wpAnyH_all (rs := [14]) (by kernel_rfl) (by simp) ?_
            intro i hi
            obtain rfl : i = 14 := by simpa using hi
            refine o_store (c' := dig 4 (restN (x * y) n)) rfl rfl hS 42 _ _ rfl rfl rfl (by repeat (first | exact Upd.head | apply Upd.tail)) limbs_size (dig_size _ _) (dig_size _ _) (dig_one _ _) fun w1 hS => ⟨hS.drop.drop, ?_⟩
            simp only [Act.put, List.getElem_toArray, List.getElem_cons_succ, List.getElem_cons_zero, List.setIfInBounds_toArray, List.set_cons_zero, List.set_cons_succ]
            refine wpAnyH_done (by kernel_rfl) ?_ _
            go_wp2_with (fail)
            go_meet
            exact ⟨_, _, rfl, rfl, hS⟩
        ·
          refine o_new rfl rfl 53 rfl wide_zero hS fun w1 c11 hS => ⟨hS.drop.drop, ?_⟩
          simp only [Act.put, List.getElem_toArray, List.getElem_cons_succ, List.getElem_cons_zero, List.setIfInBounds_toArray, List.set_cons_zero, List.set_cons_succ]
          refine wpAnyH_all (rs := [3]) (by kernel_rfl) (by simp) ?_
          intro i hi
          obtain rfl : i = 3 := by simpa using hi
          refine o_callR rfl rfl (by kernel_rfl) (load_any y _) ?_
          rintro e w1 ⟨rfl, hb⟩
          replace hS := hS.call hb
          clear hb
          refine ⟨_, rfl, hS.drop.drop, ?_⟩
          simp only [Act.put, List.getElem_toArray, List.getElem_cons_succ, List.getElem_cons_zero, List.setIfInBounds_toArray, List.set_cons_zero, List.set_cons_succ]
          refine wpAnyH_all (rs := [4]) (by kernel_rfl) (by simp) ?_
          intro i hi
          obtain rfl : i = 4 := by simpa using hi
          refine o_callR rfl rfl (by kernel_rfl) (times_any x y HX.out.1 HX.out.2.1 _) ?_
          rintro e w1 ⟨rfl, hb⟩
          replace hS := hS.call hb
          clear hb
          refine ⟨_, rfl, hS.drop.drop, ?_⟩
          simp only [Act.put, List.getElem_toArray, List.getElem_cons_succ, List.getElem_cons_zero, List.setIfInBounds_toArray, List.set_cons_zero, List.set_cons_succ]
          refine wpAnyH_all (rs := [6]) (by kernel_rfl) (by simp) ?_
          intro i hi
          obtain rfl : i = 6 := by simpa using hi
          refine o_callR rfl rfl (by kernel_rfl) (load_any n _) ?_
          rintro e w1 ⟨rfl, hb⟩
          replace hS := hS.call hb
          clear hb
          refine ⟨_, rfl, hS.drop.drop, ?_⟩
          simp only [Act.put, List.getElem_toArray, List.getElem_cons_succ, List.getElem_cons_zero, List.setIfInBounds_toArray, List.set_cons_zero, List.set_cons_succ]
          refine wpAnyH_all (rs := [7]) (by kernel_rfl) (by simp) ?_
          intro i hi
          obtain rfl : i = 7 := by simpa using hi
          refine o_callR rfl rfl (by kernel_rfl) (divide_r (x * y) n _ HX.out.2.2.2 HX.out.2.2.1) ?_
          rintro e w1 ⟨rfl, hb⟩
          replace hS := hS.call hb
          clear hb
          refine ⟨_, rfl, hS.drop.drop, ?_⟩
          simp only [Act.put, List.getElem_toArray, List.getElem_cons_succ, List.getElem_cons_zero, List.setIfInBounds_toArray, List.set_cons_zero, List.set_cons_succ]
          refine wpAnyH_take (i := 8) rfl (by kernel_rfl) (by kernel_rfl) (by kernel_rfl) (fun _ _ _ h => h) (y_move rfl _ (.inl rfl) rfl) hS.drop.drop ?_; simp only [Act.put, List.getElem_toArray, List.getElem_cons_succ, List.getElem_cons_zero, List.setIfInBounds_toArray, List.set_cons_zero, List.set_cons_succ]
          refine wpAnyH_take (i := 9) rfl (by kernel_rfl) (by kernel_rfl) (by kernel_rfl) (fun _ _ _ h => h) (y_extract rfl _ 0 rfl rfl rfl) hS.drop.drop ?_; simp only [Act.put, List.getElem_toArray, List.getElem_cons_succ, List.getElem_cons_zero, List.setIfInBounds_toArray, List.set_cons_zero, List.set_cons_succ]
          refine wpAnyH_take (i := 10) rfl (by kernel_rfl) (by kernel_rfl) (by kernel_rfl) (fun _ _ _ h => h) (y_extract rfl _ 1 rfl rfl rfl) hS.drop.drop ?_; simp only [Act.put, List.getElem_toArray, List.getElem_cons_succ, List.getElem_cons_zero, List.setIfInBounds_toArray, List.set_cons_zero, List.set_cons_succ]
          replace hS := hS.swap
          refine wpAnyH_all (rs := [13]) (by kernel_rfl) (by simp) ?_
          intro i hi
          obtain rfl : i = 13 := by simpa using hi
          refine o_store (c' := dig 8 (x * y / n)) rfl rfl hS 53 _ _ rfl rfl rfl (by repeat (first | exact Upd.head | apply Upd.tail)) wide_size (dig_size _ _) (dig_size _ _) (dig_one _ _) fun w1 hS => ⟨hS.drop.drop, ?_⟩
          simp only [Act.put, List.getElem_toArray, List.getElem_cons_succ, List.getElem_cons_zero, List.setIfInBounds_toArray, List.set_cons_zero, List.set_cons_succ]
          refine wpAnyH_all (rs := [14]) (by kernel_rfl) (by simp) ?_
          intro i hi
          obtain rfl : i = 14 := by simpa using hi
          refine o_store (c' := dig 4 (restN (x * y) n)) rfl rfl hS 42 _ _ rfl rfl rfl (by repeat (first | exact Upd.head | apply Upd.tail)) limbs_size (dig_size _ _) (dig_size _ _) (dig_one _ _) fun w1 hS => ⟨hS.drop.drop, ?_⟩
          simp only [Act.put, List.getElem_toArray, List.getElem_cons_succ, List.getElem_cons_zero, List.setIfInBounds_toArray, List.set_cons_zero, List.set_cons_succ]
          refine wpAnyH_done (by kernel_rfl) ?_ _
          go_wp2_with (fail)
          go_meet
          exact ⟨_, _, rfl, rfl, hS⟩
      ·
        refine o_new rfl rfl 53 rfl wide_zero hS fun w1 c11 hS => ⟨hS.drop.drop, ?_⟩
        simp only [Act.put, List.getElem_toArray, List.getElem_cons_succ, List.getElem_cons_zero, List.setIfInBounds_toArray, List.set_cons_zero, List.set_cons_succ]
        refine wpAnyH_all (rs := [1]) (by kernel_rfl) (by simp) ?_
        intro i hi
        obtain rfl : i = 1 := by simpa using hi
        refine o_callR rfl rfl (by kernel_rfl) (load_any x _) ?_
        rintro e w1 ⟨rfl, hb⟩
        replace hS := hS.call hb
        clear hb
        refine ⟨_, rfl, hS.drop.drop, ?_⟩
        simp only [Act.put, List.getElem_toArray, List.getElem_cons_succ, List.getElem_cons_zero, List.setIfInBounds_toArray, List.set_cons_zero, List.set_cons_succ]
        refine wpAnyH_all (rs := [3]) (by kernel_rfl) (by simp) ?_
        intro i hi
        obtain rfl : i = 3 := by simpa using hi
        refine o_callR rfl rfl (by kernel_rfl) (load_any y _) ?_
        rintro e w1 ⟨rfl, hb⟩
        replace hS := hS.call hb
        clear hb
        refine ⟨_, rfl, hS.drop.drop, ?_⟩
        simp only [Act.put, List.getElem_toArray, List.getElem_cons_succ, List.getElem_cons_zero, List.setIfInBounds_toArray, List.set_cons_zero, List.set_cons_succ]
        refine wpAnyH_all (rs := [4]) (by kernel_rfl) (by simp) ?_
        intro i hi
        obtain rfl : i = 4 := by simpa using hi
        refine o_callR rfl rfl (by kernel_rfl) (times_any x y HX.out.1 HX.out.2.1 _) ?_
        rintro e w1 ⟨rfl, hb⟩
        replace hS := hS.call hb
        clear hb
        refine ⟨_, rfl, hS.drop.drop, ?_⟩
        simp only [Act.put, List.getElem_toArray, List.getElem_cons_succ, List.getElem_cons_zero, List.setIfInBounds_toArray, List.set_cons_zero, List.set_cons_succ]
        refine wpAnyH_all (rs := [6]) (by kernel_rfl) (by simp) ?_
        intro i hi
        obtain rfl : i = 6 := by simpa using hi
        refine o_callR rfl rfl (by kernel_rfl) (load_any n _) ?_
        rintro e w1 ⟨rfl, hb⟩
        replace hS := hS.call hb
        clear hb
        refine ⟨_, rfl, hS.drop.drop, ?_⟩
        simp only [Act.put, List.getElem_toArray, List.getElem_cons_succ, List.getElem_cons_zero, List.setIfInBounds_toArray, List.set_cons_zero, List.set_cons_succ]
        refine wpAnyH_all (rs := [7]) (by kernel_rfl) (by simp) ?_
        intro i hi
        obtain rfl : i = 7 := by simpa using hi
        refine o_callR rfl rfl (by kernel_rfl) (divide_r (x * y) n _ HX.out.2.2.2 HX.out.2.2.1) ?_
        rintro e w1 ⟨rfl, hb⟩
        replace hS := hS.call hb
        clear hb
        refine ⟨_, rfl, hS.drop.drop, ?_⟩
        simp only [Act.put, List.getElem_toArray, List.getElem_cons_succ, List.getElem_cons_zero, List.setIfInBounds_toArray, List.set_cons_zero, List.set_cons_succ]
        refine wpAnyH_take (i := 8) rfl (by kernel_rfl) (by kernel_rfl) (by kernel_rfl) (fun _ _ _ h => h) (y_move rfl _ (.inl rfl) rfl) hS.drop.drop ?_; simp only [Act.put, List.getElem_toArray, List.getElem_cons_succ, List.getElem_cons_zero, List.setIfInBounds_toArray, List.set_cons_zero, List.set_cons_succ]
        refine wpAnyH_take (i := 9) rfl (by kernel_rfl) (by kernel_rfl) (by kernel_rfl) (fun _ _ _ h => h) (y_extract rfl _ 0 rfl rfl rfl) hS.drop.drop ?_; simp only [Act.put, List.getElem_toArray, List.getElem_cons_succ, List.getElem_cons_zero, List.setIfInBounds_toArray, List.set_cons_zero, List.set_cons_succ]
        refine wpAnyH_take (i := 10) rfl (by kernel_rfl) (by kernel_rfl) (by kernel_rfl) (fun _ _ _ h => h) (y_extract rfl _ 1 rfl rfl rfl) hS.drop.drop ?_; simp only [Act.put, List.getElem_toArray, List.getElem_cons_succ, List.getElem_cons_zero, List.setIfInBounds_toArray, List.set_cons_zero, List.set_cons_succ]
        replace hS := hS.swap
        refine wpAnyH_all (rs := [13]) (by kernel_rfl) (by simp) ?_
        intro i hi
        obtain rfl : i = 13 := by simpa using hi
        refine o_store (c' := dig 8 (x * y / n)) rfl rfl hS 53 _ _ rfl rfl rfl (by repeat (first | exact Upd.head | apply Upd.tail)) wide_size (dig_size _ _) (dig_size _ _) (dig_one _ _) fun w1 hS => ⟨hS.drop.drop, ?_⟩
        simp only [Act.put, List.getElem_toArray, List.getElem_cons_succ, List.getElem_cons_zero, List.setIfInBounds_toArray, List.set_cons_zero, List.set_cons_succ]
        refine wpAnyH_all (rs := [14]) (by kernel_rfl) (by simp) ?_
        intro i hi
        obtain rfl : i = 14 := by simpa using hi
        refine o_store (c' := dig 4 (restN (x * y) n)) rfl rfl hS 42 _ _ rfl rfl rfl (by repeat (first | exact Upd.head | apply Upd.tail)) limbs_size (dig_size _ _) (dig_size _ _) (dig_one _ _) fun w1 hS => ⟨hS.drop.drop, ?_⟩
        simp only [Act.put, List.getElem_toArray, List.getElem_cons_succ, List.getElem_cons_zero, List.setIfInBounds_toArray, List.set_cons_zero, List.set_cons_succ]
        refine wpAnyH_done (by kernel_rfl) ?_ _
        go_wp2_with (fail)
        go_meet
        exact ⟨_, _, rfl, rfl, hS⟩
  case rest =>
    clear hS
    obtain ⟨c7, c8, rfl, rfl, hS⟩ := hcut
    go_wp2_with (first | (refine st_load hS rfl 42 _ rfl rfl (by repeat (first | exact At.head | apply At.tail)) limbs_type rfl limbs_size (dig_size _ _) ?_) | (refine st_store hS rfl 23 _ _ rfl rfl rfl (by repeat (first | exact Upd.head | apply Upd.tail)) word_size (wf_size _) (wf_size _) (wf_one _) ?_; clear hS; intro w1 hS) | (go_at_call 68; with_reducible refine (word_any _ _).mono ?_; rintro e w1 ⟨rfl, hb⟩; replace hS := hS.call hb; clear hb))
    exact st_post hS 6 23 rfl rfl rfl (by repeat (first | exact At.head | apply At.tail)) word_type rfl word_size (wf_size _) (fun hb => ⟨rfl, hb⟩)
end Go.Proofs.Ytcdjinjeogodfaa

/-! Sums modulo a word. -/
namespace Go.Proofs.Ytcdjinjeogodfaa
open Go.RowKit

theorem carried {x y z c : Nat} (hx : x < M256) (hy : y < M256) (hz : z = wadd x y) (hc : c = cry x y 4) : z + c * 2 ^ 256 = x + y := by
  have h : cry x y 4 = (x + y) / 2 ^ 256 := by
    unfold cry
    rw [show 64 * 4 = 256 by rfl, Nat.mod_eq_of_lt (show x < 2 ^ 256 from hx), Nat.mod_eq_of_lt (show y < 2 ^ 256 from hy)]
  have hm := Nat.mod_add_div (x + y) (2 ^ 256)
  rw [hz, hc, h, Nat.mul_comm]
  exact hm
theorem sum_pow {x y m e : Nat} (hx : x < 2 ^ m) (hy : y < 2 ^ m) (he : m + 1 ≤ e) : x + y < 2 ^ e := by
  refine Nat.lt_of_lt_of_le (Nat.add_lt_add hx hy) ?_
  rw [← Nat.two_mul, ← Nat.pow_succ']
  exact Nat.pow_le_pow_right (by decide) he
theorem sum_lt {x y : Nat} (hx : x < M256) (hy : y < M256) : x + y < 2 ^ (64 * 8) := by
  have h := @sum_pow x y 256 (64 * 8) hx hy (by decide)
  exact h
set_option maxHeartbeats 8000000 in
set_option maxRecDepth 100000 in
theorem addmod_z (x y n z c : Nat) (hz : z = wadd x y ∧ c = cry x y 4) (hx : x < M256) (hy : y < M256) (hn : n < M256) (w : World) :
    Calls Try.prog 32 #[.agg (wcells x), .agg (wcells y), .agg (wcells n)] w fun e w' => e = .returned (.agg (wcells (restN (z + c * 2 ^ 256) n))) ∧ Below w.heap.size w w' := by
  have HX := Lib.hid (And.intro hx (And.intro hy hn))
  have HZ := Lib.hid (And.intro hz (And.intro (show z < M256 by rw [hz.1]; exact wadd_lt _ _) (And.intro (show c < 18446744073709551616 by have := cry_le x y 4; omega) (show z + c * 2 ^ 256 < 2 ^ (64 * 8) by rw [carried hx hy hz.1 hz.2]; exact sum_lt hx hy))))
  clear hx hy hn hz
  have hS := St.start w
  go_enter Try.func32, Try.ntmps32
  go_wp2_with (first | (have _t := b4; clear _t; refine st_new hS rfl 23 rfl word_zero ?_; clear hS; intro w1 b5 hS) | (have _t := b3; clear _t; refine st_box hS rfl _ _ rfl rfl ?_; clear hS; intro w1 b4 hS) | (have _t := b2; clear _t; refine st_box hS rfl _ _ rfl rfl ?_; clear hS; intro w1 b3 hS) | (refine st_box hS rfl _ _ rfl rfl ?_; clear hS; intro w1 b2 hS))
  try simp only [Act.put, List.setIfInBounds_toArray, List.set_cons_zero, List.set_cons_succ]
  go_cut [7, 8] (fun s7 s8 wx => ∃ c7 : Nat, s7 = .pointer (some ⟨c7, 0, none⟩) ∧ s8 = .int .u64 (c : Int) ∧ St w wx [(c7, 42, dig 4 z), (b5, 23, wcells 0), (b4, 23, wcells n), (b3, 23, wcells y), (b2, 23, wcells x)])
  case first =>
    refine wp_region_held_drew (S := fun w' => St w w' _) (by kernel_rfl) hS.drew fun _ => ?_
    replace hS := hS.drew
    simp only [List.size_toArray, List.length_cons, List.length_nil, Nat.reduceAdd, Array.replicate_succ, Array.replicate_zero, List.push_toArray, List.nil_append, List.cons_append]
    refine wpAnyH_take (i := 0) rfl (by kernel_rfl) (by kernel_rfl) (by kernel_rfl) (fun _ _ _ h => h) (y_load rfl 23 _ rfl rfl (by repeat (first | exact At.head | apply At.tail)) word_type rfl word_size (wf_size _)) hS ?_; simp only [Act.put, List.getElem_toArray, List.getElem_cons_succ, List.getElem_cons_zero, List.setIfInBounds_toArray, List.set_cons_zero, List.set_cons_succ]
    refine wpAnyH_take (i := 2) rfl (by kernel_rfl) (by kernel_rfl) (by kernel_rfl) (fun _ _ _ h => h) (y_load rfl 23 _ rfl rfl (by repeat (first | exact At.head | apply At.tail)) word_type rfl word_size (wf_size _)) hS ?_; simp only [Act.put, List.getElem_toArray, List.getElem_cons_succ, List.getElem_cons_zero, List.setIfInBounds_toArray, List.set_cons_zero, List.set_cons_succ]
    refine wpAnyH_all (rs := [1, 8]) (by kernel_rfl) (by simp) ?_
    intro i hi
    have hi2 : i = 1 ∨ i = 8 := by simpa using hi
    rcases hi2 with rfl | rfl
    ·
      refine o_callR rfl rfl (by kernel_rfl) (load_any x _) ?_
      rintro e w1 ⟨rfl, hb⟩
      replace hS := hS.call hb
      clear hb
      refine ⟨_, rfl, hS, ?_⟩
      simp only [Act.put, List.getElem_toArray, List.getElem_cons_succ, List.getElem_cons_zero, List.setIfInBounds_toArray, List.set_cons_zero, List.set_cons_succ]
      refine wpAnyH_all (rs := [3, 8]) (by kernel_rfl) (by simp) ?_
      intro i hi
      have hi2 : i = 3 ∨ i = 8 := by simpa using hi
      rcases hi2 with rfl | rfl
      ·
        refine o_callR rfl rfl (by kernel_rfl) (load_any y _) ?_
        rintro e w1 ⟨rfl, hb⟩
        replace hS := hS.call hb
        clear hb
        refine ⟨_, rfl, hS, ?_⟩
        simp only [Act.put, List.getElem_toArray, List.getElem_cons_succ, List.getElem_cons_zero, List.setIfInBounds_toArray, List.set_cons_zero, List.set_cons_succ]
        refine wpAnyH_all (rs := [4, 8]) (by kernel_rfl) (by simp) ?_
        intro i hi
        have hi2 : i = 4 ∨ i = 8 := by simpa using hi
        rcases hi2 with rfl | rfl
        ·
          refine o_callR rfl rfl (by kernel_rfl) (plus_w x y z c HZ.out.1 _) ?_
          rintro e w1 ⟨rfl, hb⟩
          replace hS := hS.call hb
          clear hb
          refine ⟨_, rfl, hS, ?_⟩
          simp only [Act.put, List.getElem_toArray, List.getElem_cons_succ, List.getElem_cons_zero, List.setIfInBounds_toArray, List.set_cons_zero, List.set_cons_succ]
          refine wpAnyH_take (i := 5) rfl (by kernel_rfl) (by kernel_rfl) (by kernel_rfl) (fun _ _ _ h => h) (y_move rfl _ (.inl rfl) rfl) hS ?_; simp only [Act.put, List.getElem_toArray, List.getElem_cons_succ, List.getElem_cons_zero, List.setIfInBounds_toArray, List.set_cons_zero, List.set_cons_succ]
          refine wpAnyH_take (i := 6) rfl (by kernel_rfl) (by kernel_rfl) (by kernel_rfl) (fun _ _ _ h => h) (y_extract rfl _ 0 rfl rfl rfl) hS ?_; simp only [Act.put, List.getElem_toArray, List.getElem_cons_succ, List.getElem_cons_zero, List.setIfInBounds_toArray, List.set_cons_zero, List.set_cons_succ]
          refine wpAnyH_take (i := 7) rfl (by kernel_rfl) (by kernel_rfl) (by kernel_rfl) (fun _ _ _ h => h) (y_extract rfl _ 1 rfl rfl rfl) hS ?_; simp only [Act.put, List.getElem_toArray, List.getElem_cons_succ, List.getElem_cons_zero, List.setIfInBounds_toArray, List.set_cons_zero, List.set_cons_succ]
          refine wpAnyH_all (rs := [8]) (by kernel_rfl) (by simp) ?_
          intro i hi
          obtain rfl : i = 8 := by simpa using hi
          refine o_new rfl rfl 42 rfl limbs_zero hS fun w1 c8 hS => ⟨hS.drop, ?_⟩
          simp only [Act.put, List.getElem_toArray, List.getElem_cons_succ, List.getElem_cons_zero, List.setIfInBounds_toArray, List.set_cons_zero, List.set_cons_succ]
          refine wpAnyH_all (rs := [9]) (by kernel_rfl) (by simp) ?_
          intro i hi
          obtain rfl : i = 9 := by simpa using hi
          refine o_store (c' := dig 4 z) rfl rfl hS 42 _ _ rfl rfl rfl (by repeat (first | exact Upd.head | apply Upd.tail)) limbs_size (dig_size _ _) (dig_size _ _) (dig_one _ _) fun w1 hS => ⟨hS.drop, ?_⟩
          simp only [Act.put, List.getElem_toArray, List.getElem_cons_succ, List.getElem_cons_zero, List.setIfInBounds_toArray, List.set_cons_zero, List.set_cons_succ]
          refine wpAnyH_take (i := 10) rfl (by kernel_rfl) (by kernel_rfl) (by kernel_rfl) (fun _ _ _ h => h) (y_move rfl _ (.inr rfl) rfl) hS.drop ?_; simp only [Act.put, List.getElem_toArray, List.getElem_cons_succ, List.getElem_cons_zero, List.setIfInBounds_toArray, List.set_cons_zero, List.set_cons_succ]
          refine wpAnyH_done (by kernel_rfl) ?_ _
          go_wp2_with (fail)
          go_meet
          exact ⟨_, rfl, rfl, hS⟩
        ·
          refine o_new rfl rfl 42 rfl limbs_zero hS fun w1 c8 hS => ⟨hS.drop, ?_⟩
          simp only [Act.put, List.getElem_toArray, List.getElem_cons_succ, List.getElem_cons_zero, List.setIfInBounds_toArray, List.set_cons_zero, List.set_cons_succ]
          refine wpAnyH_all (rs := [4]) (by kernel_rfl) (by simp) ?_
          intro i hi
          obtain rfl : i = 4 := by simpa using hi
          refine o_callR rfl rfl (by kernel_rfl) (plus_w x y z c HZ.out.1 _) ?_
          rintro e w1 ⟨rfl, hb⟩
          replace hS := hS.call hb
          clear hb
          refine ⟨_, rfl, hS.drop, ?_⟩
          simp only [Act.put, List.getElem_toArray, List.getElem_cons_succ, List.getElem_cons_zero, List.setIfInBounds_toArray, List.set_cons_zero, List.set_cons_succ]
          refine wpAnyH_take (i := 5) rfl (by kernel_rfl) (by kernel_rfl) (by kernel_rfl) (fun _ _ _ h => h) (y_move rfl _ (.inl rfl) rfl) hS.drop ?_; simp only [Act.put, List.getElem_toArray, List.getElem_cons_succ, List.getElem_cons_zero, List.setIfInBounds_toArray, List.set_cons_zero, List.set_cons_succ]
          refine wpAnyH_take (i := 6) rfl (by kernel_rfl) (by kernel_rfl) (by kernel_rfl) (fun _ _ _ h => h) (y_extract rfl _ 0 rfl rfl rfl) hS.drop ?_; simp only [Act.put, List.getElem_toArray, List.getElem_cons_succ, List.getElem_cons_zero, List.setIfInBounds_toArray, List.set_cons_zero, List.set_cons_succ]
          refine wpAnyH_take (i := 7) rfl (by kernel_rfl) (by kernel_rfl) (by kernel_rfl) (fun _ _ _ h => h) (y_extract rfl _ 1 rfl rfl rfl) hS.drop ?_; simp only [Act.put, List.getElem_toArray, List.getElem_cons_succ, List.getElem_cons_zero, List.setIfInBounds_toArray, List.set_cons_zero, List.set_cons_succ]
          refine wpAnyH_all (rs := [9]) (by kernel_rfl) (by simp) ?_
          intro i hi
          obtain rfl : i = 9 := by simpa using hi
          refine o_store (c' := dig 4 z) rfl rfl hS 42 _ _ rfl rfl rfl (by repeat (first | exact Upd.head | apply Upd.tail)) limbs_size (dig_size _ _) (dig_size _ _) (dig_one _ _) fun w1 hS => ⟨hS.drop, ?_⟩
          simp only [Act.put, List.getElem_toArray, List.getElem_cons_succ, List.getElem_cons_zero, List.setIfInBounds_toArray, List.set_cons_zero, List.set_cons_succ]
          refine wpAnyH_take (i := 10) rfl (by kernel_rfl) (by kernel_rfl) (by kernel_rfl) (fun _ _ _ h => h) (y_move rfl _ (.inr rfl) rfl) hS.drop ?_; simp only [Act.put, List.getElem_toArray, List.getElem_cons_succ, List.getElem_cons_zero, List.setIfInBounds_toArray, List.set_cons_zero, List.set_cons_succ]
          refine wpAnyH_done (by kernel_rfl) ?_ _
          go_wp2_with (fail)
          go_meet
          exact ⟨_, rfl, rfl, hS⟩
      ·
        refine o_new rfl rfl 42 rfl limbs_zero hS fun w1 c8 hS => ⟨hS.drop, ?_⟩
        simp only [Act.put, List.getElem_toArray, List.getElem_cons_succ, List.getElem_cons_zero, List.setIfInBounds_toArray, List.set_cons_zero, List.set_cons_succ]
        refine wpAnyH_all (rs := [3]) (by kernel_rfl) (by simp) ?_
        intro i hi
        obtain rfl : i = 3 := by simpa using hi
        refine o_callR rfl rfl (by kernel_rfl) (load_any y _) ?_
        rintro e w1 ⟨rfl, hb⟩
        replace hS := hS.call hb
        clear hb
        refine ⟨_, rfl, hS.drop, ?_⟩
        simp only [Act.put, List.getElem_toArray, List.getElem_cons_succ, List.getElem_cons_zero, List.setIfInBounds_toArray, List.set_cons_zero, List.set_cons_succ]
        refine wpAnyH_all (rs := [4]) (by kernel_rfl) (by simp) ?_
        intro i hi
        obtain rfl : i = 4 := by simpa using hi
        refine o_callR rfl rfl (by kernel_rfl) (plus_w x y z c HZ.out.1 _) ?_
        rintro e w1 ⟨rfl, hb⟩
        replace hS := hS.call hb
        clear hb
        refine ⟨_, rfl, hS.drop, ?_⟩
        simp only [Act.put, List.getElem_toArray, List.getElem_cons_succ, List.getElem_cons_zero, List.setIfInBounds_toArray, List.set_cons_zero, List.set_cons_succ]
        refine wpAnyH_take (i := 5) rfl (by kernel_rfl) (by kernel_rfl) (by kernel_rfl) (fun _ _ _ h => h) (y_move rfl _ (.inl rfl) rfl) hS.drop ?_; simp only [Act.put, List.getElem_toArray, List.getElem_cons_succ, List.getElem_cons_zero, List.setIfInBounds_toArray, List.set_cons_zero, List.set_cons_succ]
        refine wpAnyH_take (i := 6) rfl (by kernel_rfl) (by kernel_rfl) (by kernel_rfl) (fun _ _ _ h => h) (y_extract rfl _ 0 rfl rfl rfl) hS.drop ?_; simp only [Act.put, List.getElem_toArray, List.getElem_cons_succ, List.getElem_cons_zero, List.setIfInBounds_toArray, List.set_cons_zero, List.set_cons_succ]
        refine wpAnyH_take (i := 7) rfl (by kernel_rfl) (by kernel_rfl) (by kernel_rfl) (fun _ _ _ h => h) (y_extract rfl _ 1 rfl rfl rfl) hS.drop ?_; simp only [Act.put, List.getElem_toArray, List.getElem_cons_succ, List.getElem_cons_zero, List.setIfInBounds_toArray, List.set_cons_zero, List.set_cons_succ]
        refine wpAnyH_all (rs := [9]) (by kernel_rfl) (by simp) ?_
        intro i hi
        obtain rfl : i = 9 := by simpa using hi
        refine o_store (c' := dig 4 z) rfl rfl hS 42 _ _ rfl rfl rfl (by repeat (first | exact Upd.head | apply Upd.tail)) limbs_size (dig_size _ _) (dig_size _ _) (dig_one _ _) fun w1 hS => ⟨hS.drop, ?_⟩
        simp only [Act.put, List.getElem_toArray, List.getElem_cons_succ, List.getElem_cons_zero, List.setIfInBounds_toArray, List.set_cons_zero, List.set_cons_succ]
        refine wpAnyH_take (i := 10) rfl (by kernel_rfl) (by kernel_rfl) (by kernel_rfl) (fun _ _ _ h => h) (y_move rfl _ (.inr rfl) rfl) hS.drop ?_; simp only [Act.put, List.getElem_toArray, List.getElem_cons_succ, List.getElem_cons_zero, List.setIfInBounds_toArray, List.set_cons_zero, List.set_cons_succ]
        refine wpAnyH_done (by kernel_rfl) ?_ _
        go_wp2_with (fail)
        go_meet
        exact ⟨_, rfl, rfl, hS⟩
    ·
      refine o_new rfl rfl 42 rfl limbs_zero hS fun w1 c8 hS => ⟨hS.drop, ?_⟩
      simp only [Act.put, List.getElem_toArray, List.getElem_cons_succ, List.getElem_cons_zero, List.setIfInBounds_toArray, List.set_cons_zero, List.set_cons_succ]
      refine wpAnyH_all (rs := [1]) (by kernel_rfl) (by simp) ?_
      intro i hi
      obtain rfl : i = 1 := by simpa using hi
      refine o_callR rfl rfl (by kernel_rfl) (load_any x _) ?_
      rintro e w1 ⟨rfl, hb⟩
      replace hS := hS.call hb
      clear hb
      refine ⟨_, rfl, hS.drop, ?_⟩
      simp only [Act.put, List.getElem_toArray, List.getElem_cons_succ, List.getElem_cons_zero, List.setIfInBounds_toArray, List.set_cons_zero, List.set_cons_succ]
      refine wpAnyH_all (rs := [3]) (by kernel_rfl) (by simp) ?_
      intro i hi
      obtain rfl : i = 3 := by simpa using hi
      refine o_callR rfl rfl (by kernel_rfl) (load_any y _) ?_
      rintro e w1 ⟨rfl, hb⟩
      replace hS := hS.call hb
      clear hb
      refine ⟨_, rfl, hS.drop, ?_⟩
      simp only [Act.put, List.getElem_toArray, List.getElem_cons_succ, List.getElem_cons_zero, List.setIfInBounds_toArray, List.set_cons_zero, List.set_cons_succ]
      refine wpAnyH_all (rs := [4]) (by kernel_rfl) (by simp) ?_
      intro i hi
      obtain rfl : i = 4 := by simpa using hi
      refine o_callR rfl rfl (by kernel_rfl) (plus_w x y z c HZ.out.1 _) ?_
      rintro e w1 ⟨rfl, hb⟩
      replace hS := hS.call hb
      clear hb
      refine ⟨_, rfl, hS.drop, ?_⟩
      simp only [Act.put, List.getElem_toArray, List.getElem_cons_succ, List.getElem_cons_zero, List.setIfInBounds_toArray, List.set_cons_zero, List.set_cons_succ]
      refine wpAnyH_take (i := 5) rfl (by kernel_rfl) (by kernel_rfl) (by kernel_rfl) (fun _ _ _ h => h) (y_move rfl _ (.inl rfl) rfl) hS.drop ?_; simp only [Act.put, List.getElem_toArray, List.getElem_cons_succ, List.getElem_cons_zero, List.setIfInBounds_toArray, List.set_cons_zero, List.set_cons_succ]
      refine wpAnyH_take (i := 6) rfl (by kernel_rfl) (by kernel_rfl) (by kernel_rfl) (fun _ _ _ h => h) (y_extract rfl _ 0 rfl rfl rfl) hS.drop ?_; simp only [Act.put, List.getElem_toArray, List.getElem_cons_succ, List.getElem_cons_zero, List.setIfInBounds_toArray, List.set_cons_zero, List.set_cons_succ]
      refine wpAnyH_take (i := 7) rfl (by kernel_rfl) (by kernel_rfl) (by kernel_rfl) (fun _ _ _ h => h) (y_extract rfl _ 1 rfl rfl rfl) hS.drop ?_; simp only [Act.put, List.getElem_toArray, List.getElem_cons_succ, List.getElem_cons_zero, List.setIfInBounds_toArray, List.set_cons_zero, List.set_cons_succ]
      refine wpAnyH_all (rs := [9]) (by kernel_rfl) (by simp) ?_
      intro i hi
      obtain rfl : i = 9 := by simpa using hi
      refine o_store (c' := dig 4 z) rfl rfl hS 42 _ _ rfl rfl rfl (by repeat (first | exact Upd.head | apply Upd.tail)) limbs_size (dig_size _ _) (dig_size _ _) (dig_one _ _) fun w1 hS => ⟨hS.drop, ?_⟩
      simp only [Act.put, List.getElem_toArray, List.getElem_cons_succ, List.getElem_cons_zero, List.setIfInBounds_toArray, List.set_cons_zero, List.set_cons_succ]
      refine wpAnyH_take (i := 10) rfl (by kernel_rfl) (by kernel_rfl) (by kernel_rfl) (fun _ _ _ h => h) (y_move rfl _ (.inr rfl) rfl) hS.drop ?_; simp only [Act.put, List.getElem_toArray, List.getElem_cons_succ, List.getElem_cons_zero, List.setIfInBounds_toArray, List.set_cons_zero, List.set_cons_succ]
      refine wpAnyH_done (by kernel_rfl) ?_ _
      go_wp2_with (fail)
      go_meet
      exact ⟨_, rfl, rfl, hS⟩
  case rest =>
    clear hS
    obtain ⟨c7, rfl, rfl, hS⟩ := hcut
    go_upto_region 2 with (fail)
    try simp only [Act.put, List.setIfInBounds_toArray, List.set_cons_zero, List.set_cons_succ]
    go_cut [9, 10] (fun s9 s10 wx => ∃ c9 c10 : Nat, s9 = .pointer (some ⟨c9, 0, none⟩) ∧ s10 = .pointer (some ⟨c10, 0, none⟩) ∧ St w wx [(c10, 42, dig 4 (restN (z + c * 2 ^ 256) n)), (c9, 53, dig 8 ((z + c * 2 ^ 256) / n)), (c7, 42, dig 4 z), (b5, 23, wcells 0), (b4, 23, wcells n), (b3, 23, wcells y), (b2, 23, wcells x)])
    case first =>
      refine wp_region_held_drew (S := fun w' => St w w' _) (by kernel_rfl) hS.drew fun _ => ?_
      replace hS := hS.drew
      simp only [List.size_toArray, List.length_cons, List.length_nil, Nat.reduceAdd, Array.replicate_succ, Array.replicate_zero, List.push_toArray, List.nil_append, List.cons_append]
      refine wpAnyH_take (i := 0) rfl (by kernel_rfl) (by kernel_rfl) (by kernel_rfl) (fun _ _ _ h => h) (y_load rfl 42 _ rfl rfl (by repeat (first | exact At.head | apply At.tail)) limbs_type rfl limbs_size (dig_size _ _)) hS ?_; simp only [Act.put, List.getElem_toArray, List.getElem_cons_succ, List.getElem_cons_zero, List.setIfInBounds_toArray, List.set_cons_zero, List.set_cons_succ]
      refine wpAnyH_take (i := 1) rfl (by kernel_rfl) (by kernel_rfl) (by kernel_rfl) (fun _ _ _ h => h) (y_move rfl _ (.inl rfl) rfl) hS ?_; simp only [Act.put, List.getElem_toArray, List.getElem_cons_succ, List.getElem_cons_zero, List.setIfInBounds_toArray, List.set_cons_zero, List.set_cons_succ]
      refine wpAnyH_take (i := 3) rfl (by kernel_rfl) (by kernel_rfl) (by kernel_rfl) (fun _ _ _ h => h) (y_load rfl 23 _ rfl rfl (by repeat (first | exact At.head | apply At.tail)) word_type rfl word_size (wf_size _)) hS ?_; simp only [Act.put, List.getElem_toArray, List.getElem_cons_succ, List.getElem_cons_zero, List.setIfInBounds_toArray, List.set_cons_zero, List.set_cons_succ]
      refine wpAnyH_all (rs := [2, 9, 10]) (by kernel_rfl) (by simp) ?_
      intro i hi
      have hi2 : i = 2 ∨ i = 9 ∨ i = 10 := by simpa using hi
      rcases hi2 with rfl | rfl | rfl
      ·
        refine o_callR rfl rfl (by kernel_rfl) (wide_any z c _ HZ.out.2.1 HZ.out.2.2.1) ?_
        rintro e w1 ⟨rfl, hb⟩
        replace hS := hS.call hb
        clear hb
        refine ⟨_, rfl, hS, ?_⟩
        simp only [Act.put, List.getElem_toArray, List.getElem_cons_succ, List.getElem_cons_zero, List.setIfInBounds_toArray, List.set_cons_zero, List.set_cons_succ]
        refine wpAnyH_all (rs := [4, 9, 10]) (by kernel_rfl) (by simp) ?_
        intro i hi
        have hi2 : i = 4 ∨ i = 9 ∨ i = 10 := by simpa using hi
        rcases hi2 with rfl | rfl | rfl
        ·
          refine o_callR rfl rfl (by kernel_rfl) (load_any n _) ?_
          rintro e w1 ⟨rfl, hb⟩
          replace hS := hS.call hb
          clear hb
          refine ⟨_, rfl, hS, ?_⟩
          simp only [Act.put, List.getElem_toArray, List.getElem_cons_succ, List.getElem_cons_zero, List.setIfInBounds_toArray, List.set_cons_zero, List.set_cons_succ]
          refine wpAnyH_all (rs := [5, 9, 10]) (by kernel_rfl) (by simp) ?_
          intro i hi
          have hi2 : i = 5 ∨ i = 9 ∨ i = 10 := by simpa using hi
          rcases hi2 with rfl | rfl | rfl
          ·
            refine o_callR rfl rfl (by kernel_rfl) (divide_r (z + c * 2 ^ 256) n _ HZ.out.2.2.2 HX.out.2.2) ?_
            rintro e w1 ⟨rfl, hb⟩
            replace hS := hS.call hb
            clear hb
            refine ⟨_, rfl, hS, ?_⟩
            simp only [Act.put, List.getElem_toArray, List.getElem_cons_succ, List.getElem_cons_zero, List.setIfInBounds_toArray, List.set_cons_zero, List.set_cons_succ]
            refine wpAnyH_take (i := 6) rfl (by kernel_rfl) (by kernel_rfl) (by kernel_rfl) (fun _ _ _ h => h) (y_move rfl _ (.inl rfl) rfl) hS ?_; simp only [Act.put, List.getElem_toArray, List.getElem_cons_succ, List.getElem_cons_zero, List.setIfInBounds_toArray, List.set_cons_zero, List.set_cons_succ]
            refine wpAnyH_take (i := 7) rfl (by kernel_rfl) (by kernel_rfl) (by kernel_rfl) (fun _ _ _ h => h) (y_extract rfl _ 0 rfl rfl rfl) hS ?_; simp only [Act.put, List.getElem_toArray, List.getElem_cons_succ, List.getElem_cons_zero, List.setIfInBounds_toArray, List.set_cons_zero, List.set_cons_succ]
            refine wpAnyH_take (i := 8) rfl (by kernel_rfl) (by kernel_rfl) (by kernel_rfl) (fun _ _ _ h => h) (y_extract rfl _ 1 rfl rfl rfl) hS ?_; simp only [Act.put, List.getElem_toArray, List.getElem_cons_succ, List.getElem_cons_zero, List.setIfInBounds_toArray, List.set_cons_zero, List.set_cons_succ]
            refine wpAnyH_all (rs := [9, 10]) (by kernel_rfl) (by simp) ?_
            intro i hi
            have hi2 : i = 9 ∨ i = 10 := by simpa using hi
            rcases hi2 with rfl | rfl
            ·
              refine o_new rfl rfl 53 rfl wide_zero hS fun w1 c9 hS => ⟨hS.drop, ?_⟩
              simp only [Act.put, List.getElem_toArray, List.getElem_cons_succ, List.getElem_cons_zero, List.setIfInBounds_toArray, List.set_cons_zero, List.set_cons_succ]
              refine wpAnyH_all (rs := [10]) (by kernel_rfl) (by simp) ?_
              intro i hi
              obtain rfl : i = 10 := by simpa using hi
              refine o_new rfl rfl 42 rfl limbs_zero hS fun w1 c10 hS => ⟨hS.drop.drop, ?_⟩
              simp only [Act.put, List.getElem_toArray, List.getElem_cons_succ, List.getElem_cons_zero, List.setIfInBounds_toArray, List.set_cons_zero, List.set_cons_succ]
              refine wpAnyH_all (rs := [11]) (by kernel_rfl) (by simp) ?_
              intro i hi
              obtain rfl : i = 11 := by simpa using hi
              refine o_store (c' := dig 8 ((z + c * 2 ^ 256) / n)) rfl rfl hS 53 _ _ rfl rfl rfl (by repeat (first | exact Upd.head | apply Upd.tail)) wide_size (dig_size _ _) (dig_size _ _) (dig_one _ _) fun w1 hS => ⟨hS.drop.drop, ?_⟩
              simp only [Act.put, List.getElem_toArray, List.getElem_cons_succ, List.getElem_cons_zero, List.setIfInBounds_toArray, List.set_cons_zero, List.set_cons_succ]
              refine wpAnyH_all (rs := [12]) (by kernel_rfl) (by simp) ?_
              intro i hi
              obtain rfl : i = 12 := by simpa using hi
              refine o_store (c' := dig 4 (restN (z + c * 2 ^ 256) n)) rfl rfl hS 42 _ _ rfl rfl rfl (by repeat (first | exact Upd.head | apply Upd.tail)) limbs_size (dig_size _ _) (dig_size _ _) (dig_one _ _) fun w1 hS => ⟨hS.drop.drop, ?_⟩
              simp only [Act.put, List.getElem_toArray, List.getElem_cons_succ, List.getElem_cons_zero, List.setIfInBounds_toArray, List.set_cons_zero, List.set_cons_succ]
              refine wpAnyH_done (by kernel_rfl) ?_ _
              go_wp2_with (fail)
              go_meet
              exact ⟨_, _, rfl, rfl, hS⟩
            ·
              refine o_new rfl rfl 42 rfl limbs_zero hS fun w1 c10 hS => ⟨hS.drop, ?_⟩
              simp only [Act.put, List.getElem_toArray, List.getElem_cons_succ, List.getElem_cons_zero, List.setIfInBounds_toArray, List.set_cons_zero, List.set_cons_succ]
              refine wpAnyH_all (rs := [9]) (by kernel_rfl) (by simp) ?_
              intro i hi
              obtain rfl : i = 9 := by simpa using hi
              refine o_new rfl rfl 53 rfl wide_zero hS fun w1 c9 hS => ⟨hS.drop.drop, ?_⟩
              simp only [Act.put, List.getElem_toArray, List.getElem_cons_succ, List.getElem_cons_zero, List.setIfInBounds_toArray, List.set_cons_zero, List.set_cons_succ]
              replace hS := hS.swap
              refine wpAnyH_all (rs := [11]) (by kernel_rfl) (by simp) ?_
              intro i hi
              obtain rfl : i = 11 := by simpa using hi
              refine o_store (c' := dig 8 ((z + c * 2 ^ 256) / n)) rfl rfl hS 53 _ _ rfl rfl rfl (by repeat (first | exact Upd.head | apply Upd.tail)) wide_size (dig_size _ _) (dig_size _ _) (dig_one _ _) fun w1 hS => ⟨hS.drop.drop, ?_⟩
              simp only [Act.put, List.getElem_toArray, List.getElem_cons_succ, List.getElem_cons_zero, List.setIfInBounds_toArray, List.set_cons_zero, List.set_cons_succ]
              refine wpAnyH_all (rs := [12]) (by kernel_rfl) (by simp) ?_
              intro i hi
              obtain rfl : i = 12 := by simpa using hi
              refine o_store (c' := dig 4 (restN (z + c * 2 ^ 256) n)) rfl rfl hS 42 _ _ rfl rfl rfl (by repeat (first | exact Upd.head | apply Upd.tail)) limbs_size (dig_size _ _) (dig_size _ _) (dig_one _ _) fun w1 hS => ⟨hS.drop.drop, ?_⟩
              simp only [Act.put, List.getElem_toArray, List.getElem_cons_succ, List.getElem_cons_zero, List.setIfInBounds_toArray, List.set_cons_zero, List.set_cons_succ]
              refine wpAnyH_done (by kernel_rfl) ?_ _
              go_wp2_with (fail)
              go_meet
              exact ⟨_, _, rfl, rfl, hS⟩
          ·
            refine o_new rfl rfl 53 rfl wide_zero hS fun w1 c9 hS => ⟨hS.drop, ?_⟩
            simp only [Act.put, List.getElem_toArray, List.getElem_cons_succ, List.getElem_cons_zero, List.setIfInBounds_toArray, List.set_cons_zero, List.set_cons_succ]
            refine wpAnyH_all (rs := [5, 10]) (by kernel_rfl) (by simp) ?_
            intro i hi
            have hi2 : i = 5 ∨ i = 10 := by simpa using hi
            rcases hi2 with rfl | rfl
            ·
              refine o_callR rfl rfl (by kernel_rfl) (divide_r (z + c * 2 ^ 256) n _ HZ.out.2.2.2 HX.out.2.2) ?_
              rintro e w1 ⟨rfl, hb⟩
              replace hS := hS.call hb
              clear hb
              refine ⟨_, rfl, hS.drop, ?_⟩
              simp only [Act.put, List.getElem_toArray, List.getElem_cons_succ, List.getElem_cons_zero, List.setIfInBounds_toArray, List.set_cons_zero, List.set_cons_succ]
              refine wpAnyH_take (i := 6) rfl (by kernel_rfl) (by kernel_rfl) (by kernel_rfl) (fun _ _ _ h => h) (y_move rfl _ (.inl rfl) rfl) hS.drop ?_; simp only [Act.put, List.getElem_toArray, List.getElem_cons_succ, List.getElem_cons_zero, List.setIfInBounds_toArray, List.set_cons_zero, List.set_cons_succ]
              refine wpAnyH_take (i := 7) rfl (by kernel_rfl) (by kernel_rfl) (by kernel_rfl) (fun _ _ _ h => h) (y_extract rfl _ 0 rfl rfl rfl) hS.drop ?_; simp only [Act.put, List.getElem_toArray, List.getElem_cons_succ, List.getElem_cons_zero, List.setIfInBounds_toArray, List.set_cons_zero, List.set_cons_succ]
              refine wpAnyH_take (i := 8) rfl (by kernel_rfl) (by kernel_rfl) (by kernel_rfl) (fun _ _ _ h => h) (y_extract rfl _ 1 rfl rfl rfl) hS.drop ?_; simp only [Act.put, List.getElem_toArray, List.getElem_cons_succ, List.getElem_cons_zero, List.setIfInBounds_toArray, List.set_cons_zero, List.set_cons_succ]
              refine wpAnyH_all (rs := [10]) (by kernel_rfl) (by simp) ?_
              intro i hi
              obtain rfl : i = 10 := by simpa using hi
              refine o_new rfl rfl 42 rfl limbs_zero hS fun w1 c10 hS => ⟨hS.drop.drop, ?_⟩
              simp only [Act.put, List.getElem_toArray, List.getElem_cons_succ, List.getElem_cons_zero, List.setIfInBounds_toArray, List.set_cons_zero, List.set_cons_succ]
              refine wpAnyH_all (rs := [11]) (by kernel_rfl) (by simp) ?_
              intro i hi
              obtain rfl : i = 11 := by simpa using hi
              refine o_store (c' := dig 8 ((z + c * 2 ^ 256) / n)) rfl rfl hS 53 _ _ rfl rfl rfl (by repeat (first | exact Upd.head | apply Upd.tail)) wide_size (dig_size _ _) (dig_size _ _) (dig_one _ _) fun w1 hS => ⟨hS.drop.drop, ?_⟩
              simp only [Act.put, List.getElem_toArray, List.getElem_cons_succ, List.getElem_cons_zero, List.setIfInBounds_toArray, List.set_cons_zero, List.set_cons_succ]
              refine wpAnyH_all (rs := [12]) (by kernel_rfl) (by simp) ?_
              intro i hi
              obtain rfl : i = 12 := by simpa using hi
              refine o_store (c' := dig 4 (restN (z + c * 2 ^ 256) n)) rfl rfl hS 42 _ _ rfl rfl rfl (by repeat (first | exact Upd.head | apply Upd.tail)) limbs_size (dig_size _ _) (dig_size _ _) (dig_one _ _) fun w1 hS => ⟨hS.drop.drop, ?_⟩
              simp only [Act.put, List.getElem_toArray, List.getElem_cons_succ, List.getElem_cons_zero, List.setIfInBounds_toArray, List.set_cons_zero, List.set_cons_succ]
              refine wpAnyH_done (by kernel_rfl) ?_ _
              go_wp2_with (fail)
              go_meet
              exact ⟨_, _, rfl, rfl, hS⟩
            ·
              refine o_new rfl rfl 42 rfl limbs_zero hS fun w1 c10 hS => ⟨hS.drop.drop, ?_⟩
              simp only [Act.put, List.getElem_toArray, List.getElem_cons_succ, List.getElem_cons_zero, List.setIfInBounds_toArray, List.set_cons_zero, List.set_cons_succ]
              refine wpAnyH_all (rs := [5]) (by kernel_rfl) (by simp) ?_
              intro i hi
              obtain rfl : i = 5 := by simpa using hi
              refine o_callR rfl rfl (by kernel_rfl) (divide_r (z + c * 2 ^ 256) n _ HZ.out.2.2.2 HX.out.2.2) ?_
              rintro e w1 ⟨rfl, hb⟩
              replace hS := hS.call hb
              clear hb
              refine ⟨_, rfl, hS.drop.drop, ?_⟩
              simp only [Act.put, List.getElem_toArray, List.getElem_cons_succ, List.getElem_cons_zero, List.setIfInBounds_toArray, List.set_cons_zero, List.set_cons_succ]
              refine wpAnyH_take (i := 6) rfl (by kernel_rfl) (by kernel_rfl) (by kernel_rfl) (fun _ _ _ h => h) (y_move rfl _ (.inl rfl) rfl) hS.drop.drop ?_; simp only [Act.put, List.getElem_toArray, List.getElem_cons_succ, List.getElem_cons_zero, List.setIfInBounds_toArray, List.set_cons_zero, List.set_cons_succ]
              refine wpAnyH_take (i := 7) rfl (by kernel_rfl) (by kernel_rfl) (by kernel_rfl) (fun _ _ _ h => h) (y_extract rfl _ 0 rfl rfl rfl) hS.drop.drop ?_; simp only [Act.put, List.getElem_toArray, List.getElem_cons_succ, List.getElem_cons_zero, List.setIfInBounds_toArray, List.set_cons_zero, List.set_cons_succ]
              refine wpAnyH_take (i := 8) rfl (by kernel_rfl) (by kernel_rfl) (by kernel_rfl) (fun _ _ _ h => h) (y_extract rfl _ 1 rfl rfl rfl) hS.drop.drop ?_; simp only [Act.put, List.getElem_toArray, List.getElem_cons_succ, List.getElem_cons_zero, List.setIfInBounds_toArray, List.set_cons_zero, List.set_cons_succ]
              refine wpAnyH_all (rs := [11]) (by kernel_rfl) (by simp) ?_
              intro i hi
              obtain rfl : i = 11 := by simpa using hi
              refine o_store (c' := dig 8 ((z + c * 2 ^ 256) / n)) rfl rfl hS 53 _ _ rfl rfl rfl (by repeat (first | exact Upd.head | apply Upd.tail)) wide_size (dig_size _ _) (dig_size _ _) (dig_one _ _) fun w1 hS => ⟨hS.drop.drop, ?_⟩
              simp only [Act.put, List.getElem_toArray, List.getElem_cons_succ, List.getElem_cons_zero, List.setIfInBounds_toArray, List.set_cons_zero, List.set_cons_succ]
              refine wpAnyH_all (rs := [12]) (by kernel_rfl) (by simp) ?_
              intro i hi
              obtain rfl : i = 12 := by simpa using hi
              refine o_store (c' := dig 4 (restN (z + c * 2 ^ 256) n)) rfl rfl hS 42 _ _ rfl rfl rfl (by repeat (first | exact Upd.head | apply Upd.tail)) limbs_size (dig_size _ _) (dig_size _ _) (dig_one _ _) fun w1 hS => ⟨hS.drop.drop, ?_⟩
              simp only [Act.put, List.getElem_toArray, List.getElem_cons_succ, List.getElem_cons_zero, List.setIfInBounds_toArray, List.set_cons_zero, List.set_cons_succ]
              refine wpAnyH_done (by kernel_rfl) ?_ _
              go_wp2_with (fail)
              go_meet
              exact ⟨_, _, rfl, rfl, hS⟩
          ·
            refine o_new rfl rfl 42 rfl limbs_zero hS fun w1 c10 hS => ⟨hS.drop, ?_⟩
            simp only [Act.put, List.getElem_toArray, List.getElem_cons_succ, List.getElem_cons_zero, List.setIfInBounds_toArray, List.set_cons_zero, List.set_cons_succ]
            refine wpAnyH_all (rs := [5, 9]) (by kernel_rfl) (by simp) ?_
            intro i hi
            have hi2 : i = 5 ∨ i = 9 := by simpa using hi
            rcases hi2 with rfl | rfl
            ·
              refine o_callR rfl rfl (by kernel_rfl) (divide_r (z + c * 2 ^ 256) n _ HZ.out.2.2.2 HX.out.2.2) ?_
              rintro e w1 ⟨rfl, hb⟩
              replace hS := hS.call hb
              clear hb
              refine ⟨_, rfl, hS.drop, ?_⟩
              simp only [Act.put, List.getElem_toArray, List.getElem_cons_succ, List.getElem_cons_zero, List.setIfInBounds_toArray, List.set_cons_zero, List.set_cons_succ]
              refine wpAnyH_take (i := 6) rfl (by kernel_rfl) (by kernel_rfl) (by kernel_rfl) (fun _ _ _ h => h) (y_move rfl _ (.inl rfl) rfl) hS.drop ?_; simp only [Act.put, List.getElem_toArray, List.getElem_cons_succ, List.getElem_cons_zero, List.setIfInBounds_toArray, List.set_cons_zero, List.set_cons_succ]
              refine wpAnyH_take (i := 7) rfl (by kernel_rfl) (by kernel_rfl) (by kernel_rfl) (fun _ _ _ h => h) (y_extract rfl _ 0 rfl rfl rfl) hS.drop ?_; simp only [Act.put, List.getElem_toArray, List.getElem_cons_succ, List.getElem_cons_zero, List.setIfInBounds_toArray, List.set_cons_zero, List.set_cons_succ]
              refine wpAnyH_take (i := 8) rfl (by kernel_rfl) (by kernel_rfl) (by kernel_rfl) (fun _ _ _ h => h) (y_extract rfl _ 1 rfl rfl rfl) hS.drop ?_; simp only [Act.put, List.getElem_toArray, List.getElem_cons_succ, List.getElem_cons_zero, List.setIfInBounds_toArray, List.set_cons_zero, List.set_cons_succ]
              refine wpAnyH_all (rs := [9]) (by kernel_rfl) (by simp) ?_
              intro i hi
              obtain rfl : i = 9 := by simpa using hi
              refine o_new rfl rfl 53 rfl wide_zero hS fun w1 c9 hS => ⟨hS.drop.drop, ?_⟩
              simp only [Act.put, List.getElem_toArray, List.getElem_cons_succ, List.getElem_cons_zero, List.setIfInBounds_toArray, List.set_cons_zero, List.set_cons_succ]
              replace hS := hS.swap
              refine wpAnyH_all (rs := [11]) (by kernel_rfl) (by simp) ?_
              intro i hi
              obtain rfl : i = 11 := by simpa using hi
              refine o_store (c' := dig 8 ((z + c * 2 ^ 256) / n)) rfl rfl hS 53 _ _ rfl rfl rfl (by repeat (first | exact Upd.head | apply Upd.tail)) wide_size (dig_size _ _) (dig_size _ _) (dig_one _ _) fun w1 hS => ⟨hS.drop.drop, ?_⟩
              simp only [Act.put, List.getElem_toArray, List.getElem_cons_succ, List.getElem_cons_zero, List.setIfInBounds_toArray, List.set_cons_zero, List.set_cons_succ]
              refine wpAnyH_all (rs := [12]) (by kernel_rfl) (by simp) ?_
              intro i hi
              obtain rfl : i = 12 := by simpa using hi
              refine o_store (c' := dig 4 (restN (z + c * 2 ^ 256) n)) rfl rfl hS 42 _ _ rfl rfl rfl (by repeat (first | exact Upd.head | apply Upd.tail)) limbs_size (dig_size _ _) (dig_size _ _) (dig_one _ _) fun w1 hS => ⟨hS.drop.drop, ?_⟩
              simp only [Act.put, List.getElem_toArray, List.getElem_cons_succ, List.getElem_cons_zero, List.setIfInBounds_toArray, List.set_cons_zero, List.set_cons_succ]
              refine wpAnyH_done (by kernel_rfl) ?_ _
              go_wp2_with (fail)
              go_meet
              exact ⟨_, _, rfl, rfl, hS⟩
            ·
              refine o_new rfl rfl 53 rfl wide_zero hS fun w1 c9 hS => ⟨hS.drop.drop, ?_⟩
              simp only [Act.put, List.getElem_toArray, List.getElem_cons_succ, List.getElem_cons_zero, List.setIfInBounds_toArray, List.set_cons_zero, List.set_cons_succ]
              refine wpAnyH_all (rs := [5]) (by kernel_rfl) (by simp) ?_
              intro i hi
              obtain rfl : i = 5 := by simpa using hi
              refine o_callR rfl rfl (by kernel_rfl) (divide_r (z + c * 2 ^ 256) n _ HZ.out.2.2.2 HX.out.2.2) ?_
              rintro e w1 ⟨rfl, hb⟩
              replace hS := hS.call hb
              clear hb
              refine ⟨_, rfl, hS.drop.drop, ?_⟩
              simp only [Act.put, List.getElem_toArray, List.getElem_cons_succ, List.getElem_cons_zero, List.setIfInBounds_toArray, List.set_cons_zero, List.set_cons_succ]
              refine wpAnyH_take (i := 6) rfl (by kernel_rfl) (by kernel_rfl) (by kernel_rfl) (fun _ _ _ h => h) (y_move rfl _ (.inl rfl) rfl) hS.drop.drop ?_; simp only [Act.put, List.getElem_toArray, List.getElem_cons_succ, List.getElem_cons_zero, List.setIfInBounds_toArray, List.set_cons_zero, List.set_cons_succ]
              refine wpAnyH_take (i := 7) rfl (by kernel_rfl) (by kernel_rfl) (by kernel_rfl) (fun _ _ _ h => h) (y_extract rfl _ 0 rfl rfl rfl) hS.drop.drop ?_; simp only [Act.put, List.getElem_toArray, List.getElem_cons_succ, List.getElem_cons_zero, List.setIfInBounds_toArray, List.set_cons_zero, List.set_cons_succ]
              refine wpAnyH_take (i := 8) rfl (by kernel_rfl) (by kernel_rfl) (by kernel_rfl) (fun _ _ _ h => h) (y_extract rfl _ 1 rfl rfl rfl) hS.drop.drop ?_; simp only [Act.put, List.getElem_toArray, List.getElem_cons_succ, List.getElem_cons_zero, List.setIfInBounds_toArray, List.set_cons_zero, List.set_cons_succ]
              replace hS := hS.swap
              refine wpAnyH_all (rs := [11]) (by kernel_rfl) (by simp) ?_
              intro i hi
              obtain rfl : i = 11 := by simpa using hi
              refine o_store (c' := dig 8 ((z + c * 2 ^ 256) / n)) rfl rfl hS 53 _ _ rfl rfl rfl (by repeat (first | exact Upd.head | apply Upd.tail)) wide_size (dig_size _ _) (dig_size _ _) (dig_one _ _) fun w1 hS => ⟨hS.drop.drop, ?_⟩
              simp only [Act.put, List.getElem_toArray, List.getElem_cons_succ, List.getElem_cons_zero, List.setIfInBounds_toArray, List.set_cons_zero, List.set_cons_succ]
              refine wpAnyH_all (rs := [12]) (by kernel_rfl) (by simp) ?_
              intro i hi
              obtain rfl : i = 12 := by simpa using hi
              refine o_store (c' := dig 4 (restN (z + c * 2 ^ 256) n)) rfl rfl hS 42 _ _ rfl rfl rfl (by repeat (first | exact Upd.head | apply Upd.tail)) limbs_size (dig_size _ _) (dig_size _ _) (dig_one _ _) fun w1 hS => ⟨hS.drop.drop, ?_⟩
              simp only [Act.put, List.getElem_toArray, List.getElem_cons_succ, List.getElem_cons_zero, List.setIfInBounds_toArray, List.set_cons_zero, List.set_cons_succ]
              refine wpAnyH_done (by kernel_rfl) ?_ _
              go_wp2_with (fail)
              go_meet
              exact ⟨_, _, rfl, rfl, hS⟩
        ·
          refine o_new rfl rfl 53 rfl wide_zero hS fun w1 c9 hS => ⟨hS.drop, ?_⟩
          simp only [Act.put, List.getElem_toArray, List.getElem_cons_succ, List.getElem_cons_zero, List.setIfInBounds_toArray, List.set_cons_zero, List.set_cons_succ]
          refine wpAnyH_all (rs := [4, 10]) (by kernel_rfl) (by simp) ?_
          intro i hi
          have hi2 : i = 4 ∨ i = 10 := by simpa using hi
          rcases hi2 with rfl | rfl
          ·
            refine o_callR rfl rfl (by kernel_rfl) (load_any n _) ?_
            rintro e w1 ⟨rfl, hb⟩
            replace hS := hS.call hb
            clear hb
            refine ⟨_, rfl, hS.drop, ?_⟩
            simp only [Act.put, List.getElem_toArray, List.getElem_cons_succ, List.getElem_cons_zero, List.setIfInBounds_toArray, List.set_cons_zero, List.set_cons_succ]
            refine wpAnyH_all (rs := [5, 10]) (by kernel_rfl) (by simp) ?_
            intro i hi
            have hi2 : i = 5 ∨ i = 10 := by simpa using hi
            rcases hi2 with rfl | rfl
            ·
              refine o_callR rfl rfl (by kernel_rfl) (divide_r (z + c * 2 ^ 256) n _ HZ.out.2.2.2 HX.out.2.2) ?_
              rintro e w1 ⟨rfl, hb⟩
              replace hS := hS.call hb
              clear hb
              refine ⟨_, rfl, hS.drop, ?_⟩
              simp only [Act.put, List.getElem_toArray, List.getElem_cons_succ, List.getElem_cons_zero, List.setIfInBounds_toArray, List.set_cons_zero, List.set_cons_succ]
              refine wpAnyH_take (i := 6) rfl (by kernel_rfl) (by kernel_rfl) (by kernel_rfl) (fun _ _ _ h => h) (y_move rfl _ (.inl rfl) rfl) hS.drop ?_; simp only [Act.put, List.getElem_toArray, List.getElem_cons_succ, List.getElem_cons_zero, List.setIfInBounds_toArray, List.set_cons_zero, List.set_cons_succ]
              refine wpAnyH_take (i := 7) rfl (by kernel_rfl) (by kernel_rfl) (by kernel_rfl) (fun _ _ _ h => h) (y_extract rfl _ 0 rfl rfl rfl) hS.drop ?_; simp only [Act.put, List.getElem_toArray, List.getElem_cons_succ, List.getElem_cons_zero, List.setIfInBounds_toArray, List.set_cons_zero, List.set_cons_succ]
              refine wpAnyH_take (i := 8) rfl (by kernel_rfl) (by kernel_rfl) (by kernel_rfl) (fun _ _ _ h => h) (y_extract rfl _ 1 rfl rfl rfl) hS.drop ?_; simp only [Act.put, List.getElem_toArray, List.getElem_cons_succ, List.getElem_cons_zero, List.setIfInBounds_toArray, List.set_cons_zero, List.set_cons_succ]
              refine wpAnyH_all (rs := [10]) (by kernel_rfl) (by simp) ?_
              intro i hi
              obtain rfl : i = 10 := by simpa using hi
              refine o_new rfl rfl 42 rfl limbs_zero hS fun w1 c10 hS => ⟨hS.drop.drop, ?_⟩
              simp only [Act.put, List.getElem_toArray, List.getElem_cons_succ, List.getElem_cons_zero, List.setIfInBounds_toArray, List.set_cons_zero, List.set_cons_succ]
              refine wpAnyH_all (rs := [11]) (by kernel_rfl) (by simp) ?_
              intro i hi
              obtain rfl : i = 11 := by simpa using hi
              refine o_store (c' := dig 8 ((z + c * 2 ^ 256) / n)) rfl rfl hS 53 _ _ rfl rfl rfl (by repeat (first | exact Upd.head | apply Upd.tail)) wide_size (dig_size _ _) (dig_size _ _) (dig_one _ _) fun w1 hS => ⟨hS.drop.drop, ?_⟩
              simp only [Act.put, List.getElem_toArray, List.getElem_cons_succ, List.getElem_cons_zero, List.setIfInBounds_toArray, List.set_cons_zero, List.set_cons_succ]
              refine wpAnyH_all (rs := [12]) (by kernel_rfl) (by simp) ?_
              intro i hi
              obtain rfl : i = 12 := by simpa using hi
              refine o_store (c' := dig 4 (restN (z + c * 2 ^ 256) n)) rfl rfl hS 42 _ _ rfl rfl rfl (by repeat (first | exact Upd.head | apply Upd.tail)) limbs_size (dig_size _ _) (dig_size _ _) (dig_one _ _) fun w1 hS => ⟨hS.drop.drop, ?_⟩
              simp only [Act.put, List.getElem_toArray, List.getElem_cons_succ, List.getElem_cons_zero, List.setIfInBounds_toArray, List.set_cons_zero, List.set_cons_succ]
              refine wpAnyH_done (by kernel_rfl) ?_ _
              go_wp2_with (fail)
              go_meet
              exact ⟨_, _, rfl, rfl, hS⟩
            ·
              refine o_new rfl rfl 42 rfl limbs_zero hS fun w1 c10 hS => ⟨hS.drop.drop, ?_⟩
              simp only [Act.put, List.getElem_toArray, List.getElem_cons_succ, List.getElem_cons_zero, List.setIfInBounds_toArray, List.set_cons_zero, List.set_cons_succ]
              refine wpAnyH_all (rs := [5]) (by kernel_rfl) (by simp) ?_
              intro i hi
              obtain rfl : i = 5 := by simpa using hi
              refine o_callR rfl rfl (by kernel_rfl) (divide_r (z + c * 2 ^ 256) n _ HZ.out.2.2.2 HX.out.2.2) ?_
              rintro e w1 ⟨rfl, hb⟩
              replace hS := hS.call hb
              clear hb
              refine ⟨_, rfl, hS.drop.drop, ?_⟩
              simp only [Act.put, List.getElem_toArray, List.getElem_cons_succ, List.getElem_cons_zero, List.setIfInBounds_toArray, List.set_cons_zero, List.set_cons_succ]
              refine wpAnyH_take (i := 6) rfl (by kernel_rfl) (by kernel_rfl) (by kernel_rfl) (fun _ _ _ h => h) (y_move rfl _ (.inl rfl) rfl) hS.drop.drop ?_; simp only [Act.put, List.getElem_toArray, List.getElem_cons_succ, List.getElem_cons_zero, List.setIfInBounds_toArray, List.set_cons_zero, List.set_cons_succ]
              refine wpAnyH_take (i := 7) rfl (by kernel_rfl) (by kernel_rfl) (by kernel_rfl) (fun _ _ _ h => h) (y_extract rfl _ 0 rfl rfl rfl) hS.drop.drop ?_; simp only [Act.put, List.getElem_toArray, List.getElem_cons_succ, List.getElem_cons_zero, List.setIfInBounds_toArray, List.set_cons_zero, List.set_cons_succ]
              refine wpAnyH_take (i := 8) rfl (by kernel_rfl) (by kernel_rfl) (by kernel_rfl) (fun _ _ _ h => h) (y_extract rfl _ 1 rfl rfl rfl) hS.drop.drop ?_; simp only [Act.put, List.getElem_toArray, List.getElem_cons_succ, List.getElem_cons_zero, List.setIfInBounds_toArray, List.set_cons_zero, List.set_cons_succ]
              refine wpAnyH_all (rs := [11]) (by kernel_rfl) (by simp) ?_
              intro i hi
              obtain rfl : i = 11 := by simpa using hi
              refine o_store (c' := dig 8 ((z + c * 2 ^ 256) / n)) rfl rfl hS 53 _ _ rfl rfl rfl (by repeat (first | exact Upd.head | apply Upd.tail)) wide_size (dig_size _ _) (dig_size _ _) (dig_one _ _) fun w1 hS => ⟨hS.drop.drop, ?_⟩
              simp only [Act.put, List.getElem_toArray, List.getElem_cons_succ, List.getElem_cons_zero, List.setIfInBounds_toArray, List.set_cons_zero, List.set_cons_succ]
              refine wpAnyH_all (rs := [12]) (by kernel_rfl) (by simp) ?_
              intro i hi
              obtain rfl : i = 12 := by simpa using hi
              refine o_store (c' := dig 4 (restN (z + c * 2 ^ 256) n)) rfl rfl hS 42 _ _ rfl rfl rfl (by repeat (first | exact Upd.head | apply Upd.tail)) limbs_size (dig_size _ _) (dig_size _ _) (dig_one _ _) fun w1 hS => ⟨hS.drop.drop, ?_⟩
              simp only [Act.put, List.getElem_toArray, List.getElem_cons_succ, List.getElem_cons_zero, List.setIfInBounds_toArray, List.set_cons_zero, List.set_cons_succ]
              refine wpAnyH_done (by kernel_rfl) ?_ _
              go_wp2_with (fail)
              go_meet
              exact ⟨_, _, rfl, rfl, hS⟩
          ·
            refine o_new rfl rfl 42 rfl limbs_zero hS fun w1 c10 hS => ⟨hS.drop.drop, ?_⟩
            simp only [Act.put, List.getElem_toArray, List.getElem_cons_succ, List.getElem_cons_zero, List.setIfInBounds_toArray, List.set_cons_zero, List.set_cons_succ]
            refine wpAnyH_all (rs := [4]) (by kernel_rfl) (by simp) ?_
            intro i hi
            obtain rfl : i = 4 := by simpa using hi
            refine o_callR rfl rfl (by kernel_rfl) (load_any n _) ?_
            rintro e w1 ⟨rfl, hb⟩
            replace hS := hS.call hb
            clear hb
            refine ⟨_, rfl, hS.drop.drop, ?_⟩
            simp only [Act.put, List.getElem_toArray, List.getElem_cons_succ, List.getElem_cons_zero, List.setIfInBounds_toArray, List.set_cons_zero, List.set_cons_succ]
            refine wpAnyH_all (rs := [5]) (by kernel_rfl) (by simp) ?_
            intro i hi
            obtain rfl : i = 5 := by simpa using hi
            refine o_callR rfl rfl (by kernel_rfl) (divide_r (z + c * 2 ^ 256) n _ HZ.out.2.2.2 HX.out.2.2) ?_
            rintro e w1 ⟨rfl, hb⟩
            replace hS := hS.call hb
            clear hb
            refine ⟨_, rfl, hS.drop.drop, ?_⟩
            simp only [Act.put, List.getElem_toArray, List.getElem_cons_succ, List.getElem_cons_zero, List.setIfInBounds_toArray, List.set_cons_zero, List.set_cons_succ]
            refine wpAnyH_take (i := 6) rfl (by kernel_rfl) (by kernel_rfl) (by kernel_rfl) (fun _ _ _ h => h) (y_move rfl _ (.inl rfl) rfl) hS.drop.drop ?_; simp only [Act.put, List.getElem_toArray, List.getElem_cons_succ, List.getElem_cons_zero, List.setIfInBounds_toArray, List.set_cons_zero, List.set_cons_succ]
            refine wpAnyH_take (i := 7) rfl (by kernel_rfl) (by kernel_rfl) (by kernel_rfl) (fun _ _ _ h => h) (y_extract rfl _ 0 rfl rfl rfl) hS.drop.drop ?_; simp only [Act.put, List.getElem_toArray, List.getElem_cons_succ, List.getElem_cons_zero, List.setIfInBounds_toArray, List.set_cons_zero, List.set_cons_succ]
            refine wpAnyH_take (i := 8) rfl (by kernel_rfl) (by kernel_rfl) (by kernel_rfl) (fun _ _ _ h => h) (y_extract rfl _ 1 rfl rfl rfl) hS.drop.drop ?_; simp only [Act.put, List.getElem_toArray, List.getElem_cons_succ, List.getElem_cons_zero, List.setIfInBounds_toArray, List.set_cons_zero, List.set_cons_succ]
            refine wpAnyH_all (rs := [11]) (by kernel_rfl) (by simp) ?_
            intro i hi
            obtain rfl : i = 11 := by simpa using hi
            refine o_store (c' := dig 8 ((z + c * 2 ^ 256) / n)) rfl rfl hS 53 _ _ rfl rfl rfl (by repeat (first | exact Upd.head | apply Upd.tail)) wide_size (dig_size _ _) (dig_size _ _) (dig_one _ _) fun w1 hS => ⟨hS.drop.drop, ?_⟩
            simp only [Act.put, List.getElem_toArray, List.getElem_cons_succ, List.getElem_cons_zero, List.setIfInBounds_toArray, List.set_cons_zero, List.set_cons_succ]
            refine wpAnyH_all (rs := [12]) (by kernel_rfl) (by simp) ?_
            intro i hi
            obtain rfl : i = 12 := by simpa using hi
            refine o_store (c' := dig 4 (restN (z + c * 2 ^ 256) n)) rfl rfl hS 42 _ _ rfl rfl rfl (by repeat (first | exact Upd.head | apply Upd.tail)) limbs_size (dig_size _ _) (dig_size _ _) (dig_one _ _) fun w1 hS => ⟨hS.drop.drop, ?_⟩
            simp only [Act.put, List.getElem_toArray, List.getElem_cons_succ, List.getElem_cons_zero, List.setIfInBounds_toArray, List.set_cons_zero, List.set_cons_succ]
            refine wpAnyH_done (by kernel_rfl) ?_ _
            go_wp2_with (fail)
            go_meet
            exact ⟨_, _, rfl, rfl, hS⟩
        ·
          refine o_new rfl rfl 42 rfl limbs_zero hS fun w1 c10 hS => ⟨hS.drop, ?_⟩
          simp only [Act.put, List.getElem_toArray, List.getElem_cons_succ, List.getElem_cons_zero, List.setIfInBounds_toArray, List.set_cons_zero, List.set_cons_succ]
          refine wpAnyH_all (rs := [4, 9]) (by kernel_rfl) (by simp) ?_
          intro i hi
          have hi2 : i = 4 ∨ i = 9 := by simpa using hi
          rcases hi2 with rfl | rfl
          ·
            refine o_callR rfl rfl (by kernel_rfl) (load_any n _) ?_
            rintro e w1 ⟨rfl, hb⟩
            replace hS := hS.call hb
            clear hb
            refine ⟨_, rfl, hS.drop, ?_⟩
            simp only [Act.put, List.getElem_toArray, List.getElem_cons_succ, List.getElem_cons_zero, List.setIfInBounds_toArray, List.set_cons_zero, List.set_cons_succ]
            refine wpAnyH_all (rs := [5, 9]) (by kernel_rfl) (by simp) ?_
            intro i hi
            have hi2 : i = 5 ∨ i = 9 := by simpa using hi
            rcases hi2 with rfl | rfl
            ·
              refine o_callR rfl rfl (by kernel_rfl) (divide_r (z + c * 2 ^ 256) n _ HZ.out.2.2.2 HX.out.2.2) ?_
              rintro e w1 ⟨rfl, hb⟩
              replace hS := hS.call hb
              clear hb
              refine ⟨_, rfl, hS.drop, ?_⟩
              simp only [Act.put, List.getElem_toArray, List.getElem_cons_succ, List.getElem_cons_zero, List.setIfInBounds_toArray, List.set_cons_zero, List.set_cons_succ]
              refine wpAnyH_take (i := 6) rfl (by kernel_rfl) (by kernel_rfl) (by kernel_rfl) (fun _ _ _ h => h) (y_move rfl _ (.inl rfl) rfl) hS.drop ?_; simp only [Act.put, List.getElem_toArray, List.getElem_cons_succ, List.getElem_cons_zero, List.setIfInBounds_toArray, List.set_cons_zero, List.set_cons_succ]
              refine wpAnyH_take (i := 7) rfl (by kernel_rfl) (by kernel_rfl) (by kernel_rfl) (fun _ _ _ h => h) (y_extract rfl _ 0 rfl rfl rfl) hS.drop ?_; simp only [Act.put, List.getElem_toArray, List.getElem_cons_succ, List.getElem_cons_zero, List.setIfInBounds_toArray, List.set_cons_zero, List.set_cons_succ]
              refine wpAnyH_take (i := 8) rfl (by kernel_rfl) (by kernel_rfl) (by kernel_rfl) (fun _ _ _ h => h) (y_extract rfl _ 1 rfl rfl rfl) hS.drop ?_; simp only [Act.put, List.getElem_toArray, List.getElem_cons_succ, List.getElem_cons_zero, List.setIfInBounds_toArray, List.set_cons_zero, List.set_cons_succ]
              refine wpAnyH_all (rs := [9]) (by kernel_rfl) (by simp) ?_
              intro i hi
              obtain rfl : i = 9 := by simpa using hi
              refine o_new rfl rfl 53 rfl wide_zero hS fun w1 c9 hS => ⟨hS.drop.drop, ?_⟩
              simp only [Act.put, List.getElem_toArray, List.getElem_cons_succ, List.getElem_cons_zero, List.setIfInBounds_toArray, List.set_cons_zero, List.set_cons_succ]
              replace hS := hS.swap
              refine wpAnyH_all (rs := [11]) (by kernel_rfl) (by simp) ?_
              intro i hi
              obtain rfl : i = 11 := by simpa using hi
              refine o_store (c' := dig 8 ((z + c * 2 ^ 256) / n)) rfl rfl hS 53 _ _ rfl rfl rfl (by repeat (first | exact Upd.head | apply Upd.tail)) wide_size (dig_size _ _) (dig_size _ _) (dig_one _ _) fun w1 hS => ⟨hS.drop.drop, ?_⟩
              simp only [Act.put, List.getElem_toArray, List.getElem_cons_succ, List.getElem_cons_zero, List.setIfInBounds_toArray, List.set_cons_zero, List.set_cons_succ]
              refine wpAnyH_all (rs := [12]) (by kernel_rfl) (by simp) ?_
              intro i hi
              obtain rfl : i = 12 := by simpa using hi
              refine o_store (c' := dig 4 (restN (z + c * 2 ^ 256) n)) rfl rfl hS 42 _ _ rfl rfl rfl (by repeat (first | exact Upd.head | apply Upd.tail)) limbs_size (dig_size _ _) (dig_size _ _) (dig_one _ _) fun w1 hS => ⟨hS.drop.drop, ?_⟩
              simp only [Act.put, List.getElem_toArray, List.getElem_cons_succ, List.getElem_cons_zero, List.setIfInBounds_toArray, List.set_cons_zero, List.set_cons_succ]
              refine wpAnyH_done (by kernel_rfl) ?_ _
              go_wp2_with (fail)
              go_meet
              exact ⟨_, _, rfl, rfl, hS⟩
            ·
              refine o_new rfl rfl 53 rfl wide_zero hS fun w1 c9 hS => ⟨hS.drop.drop, ?_⟩
              simp only [Act.put, List.getElem_toArray, List.getElem_cons_succ, List.getElem_cons_zero, List.setIfInBounds_toArray, List.set_cons_zero, List.set_cons_succ]
              refine wpAnyH_all (rs := [5]) (by kernel_rfl) (by simp) ?_
              intro i hi
              obtain rfl : i = 5 := by simpa using hi
              refine o_callR rfl rfl (by kernel_rfl) (divide_r (z + c * 2 ^ 256) n _ HZ.out.2.2.2 HX.out.2.2) ?_
              rintro e w1 ⟨rfl, hb⟩
              replace hS := hS.call hb
              clear hb
              refine ⟨_, rfl, hS.drop.drop, ?_⟩
              simp only [Act.put, List.getElem_toArray, List.getElem_cons_succ, List.getElem_cons_zero, List.setIfInBounds_toArray, List.set_cons_zero, List.set_cons_succ]
              refine wpAnyH_take (i := 6) rfl (by kernel_rfl) (by kernel_rfl) (by kernel_rfl) (fun _ _ _ h => h) (y_move rfl _ (.inl rfl) rfl) hS.drop.drop ?_; simp only [Act.put, List.getElem_toArray, List.getElem_cons_succ, List.getElem_cons_zero, List.setIfInBounds_toArray, List.set_cons_zero, List.set_cons_succ]
              refine wpAnyH_take (i := 7) rfl (by kernel_rfl) (by kernel_rfl) (by kernel_rfl) (fun _ _ _ h => h) (y_extract rfl _ 0 rfl rfl rfl) hS.drop.drop ?_; simp only [Act.put, List.getElem_toArray, List.getElem_cons_succ, List.getElem_cons_zero, List.setIfInBounds_toArray, List.set_cons_zero, List.set_cons_succ]
              refine wpAnyH_take (i := 8) rfl (by kernel_rfl) (by kernel_rfl) (by kernel_rfl) (fun _ _ _ h => h) (y_extract rfl _ 1 rfl rfl rfl) hS.drop.drop ?_; simp only [Act.put, List.getElem_toArray, List.getElem_cons_succ, List.getElem_cons_zero, List.setIfInBounds_toArray, List.set_cons_zero, List.set_cons_succ]
              replace hS := hS.swap
              refine wpAnyH_all (rs := [11]) (by kernel_rfl) (by simp) ?_
              intro i hi
              obtain rfl : i = 11 := by simpa using hi
              refine o_store (c' := dig 8 ((z + c * 2 ^ 256) / n)) rfl rfl hS 53 _ _ rfl rfl rfl (by repeat (first | exact Upd.head | apply Upd.tail)) wide_size (dig_size _ _) (dig_size _ _) (dig_one _ _) fun w1 hS => ⟨hS.drop.drop, ?_⟩
              simp only [Act.put, List.getElem_toArray, List.getElem_cons_succ, List.getElem_cons_zero, List.setIfInBounds_toArray, List.set_cons_zero, List.set_cons_succ]
              refine wpAnyH_all (rs := [12]) (by kernel_rfl) (by simp) ?_
              intro i hi
              obtain rfl : i = 12 := by simpa using hi
              refine o_store (c' := dig 4 (restN (z + c * 2 ^ 256) n)) rfl rfl hS 42 _ _ rfl rfl rfl (by repeat (first | exact Upd.head | apply Upd.tail)) limbs_size (dig_size _ _) (dig_size _ _) (dig_one _ _) fun w1 hS => ⟨hS.drop.drop, ?_⟩
              simp only [Act.put, List.getElem_toArray, List.getElem_cons_succ, List.getElem_cons_zero, List.setIfInBounds_toArray, List.set_cons_zero, List.set_cons_succ]
              refine wpAnyH_done (by kernel_rfl) ?_ _
              go_wp2_with (fail)
              go_meet
              exact ⟨_, _, rfl, rfl, hS⟩
          ·
            refine o_new rfl rfl 53 rfl wide_zero hS fun w1 c9 hS => ⟨hS.drop.drop, ?_⟩
            simp only [Act.put, List.getElem_toArray, List.getElem_cons_succ, List.getElem_cons_zero, List.setIfInBounds_toArray, List.set_cons_zero, List.set_cons_succ]
            refine wpAnyH_all (rs := [4]) (by kernel_rfl) (by simp) ?_
            intro i hi
            obtain rfl : i = 4 := by simpa using hi
            refine o_callR rfl rfl (by kernel_rfl) (load_any n _) ?_
            rintro e w1 ⟨rfl, hb⟩
            replace hS := hS.call hb
            clear hb
            refine ⟨_, rfl, hS.drop.drop, ?_⟩
            simp only [Act.put, List.getElem_toArray, List.getElem_cons_succ, List.getElem_cons_zero, List.setIfInBounds_toArray, List.set_cons_zero, List.set_cons_succ]
            refine wpAnyH_all (rs := [5]) (by kernel_rfl) (by simp) ?_
            intro i hi
            obtain rfl : i = 5 := by simpa using hi
            refine o_callR rfl rfl (by kernel_rfl) (divide_r (z + c * 2 ^ 256) n _ HZ.out.2.2.2 HX.out.2.2) ?_
            rintro e w1 ⟨rfl, hb⟩
            replace hS := hS.call hb
            clear hb
            refine ⟨_, rfl, hS.drop.drop, ?_⟩
            simp only [Act.put, List.getElem_toArray, List.getElem_cons_succ, List.getElem_cons_zero, List.setIfInBounds_toArray, List.set_cons_zero, List.set_cons_succ]
            refine wpAnyH_take (i := 6) rfl (by kernel_rfl) (by kernel_rfl) (by kernel_rfl) (fun _ _ _ h => h) (y_move rfl _ (.inl rfl) rfl) hS.drop.drop ?_; simp only [Act.put, List.getElem_toArray, List.getElem_cons_succ, List.getElem_cons_zero, List.setIfInBounds_toArray, List.set_cons_zero, List.set_cons_succ]
            refine wpAnyH_take (i := 7) rfl (by kernel_rfl) (by kernel_rfl) (by kernel_rfl) (fun _ _ _ h => h) (y_extract rfl _ 0 rfl rfl rfl) hS.drop.drop ?_; simp only [Act.put, List.getElem_toArray, List.getElem_cons_succ, List.getElem_cons_zero, List.setIfInBounds_toArray, List.set_cons_zero, List.set_cons_succ]
            refine wpAnyH_take (i := 8) rfl (by kernel_rfl) (by kernel_rfl) (by kernel_rfl) (fun _ _ _ h => h) (y_extract rfl _ 1 rfl rfl rfl) hS.drop.drop ?_; simp only [Act.put, List.getElem_toArray, List.getElem_cons_succ, List.getElem_cons_zero, List.setIfInBounds_toArray, List.set_cons_zero, List.set_cons_succ]
            replace hS := hS.swap
            refine wpAnyH_all (rs := [11]) (by kernel_rfl) (by simp) ?_
            intro i hi
            obtain rfl : i = 11 := by simpa using hi
            refine o_store (c' := dig 8 ((z + c * 2 ^ 256) / n)) rfl rfl hS 53 _ _ rfl rfl rfl (by repeat (first | exact Upd.head | apply Upd.tail)) wide_size (dig_size _ _) (dig_size _ _) (dig_one _ _) fun w1 hS => ⟨hS.drop.drop, ?_⟩
            simp only [Act.put, List.getElem_toArray, List.getElem_cons_succ, List.getElem_cons_zero, List.setIfInBounds_toArray, List.set_cons_zero, List.set_cons_succ]
            refine wpAnyH_all (rs := [12]) (by kernel_rfl) (by simp) ?_
            intro i hi
            obtain rfl : i = 12 := by simpa using hi
            refine o_store (c' := dig 4 (restN (z + c * 2 ^ 256) n)) rfl rfl hS 42 _ _ rfl rfl rfl (by repeat (first | exact Upd.head | apply Upd.tail)) limbs_size (dig_size _ _) (dig_size _ _) (dig_one _ _) fun w1 hS => ⟨hS.drop.drop, ?_⟩
            simp only [Act.put, List.getElem_toArray, List.getElem_cons_succ, List.getElem_cons_zero, List.setIfInBounds_toArray, List.set_cons_zero, List.set_cons_succ]
            refine wpAnyH_done (by kernel_rfl) ?_ _
            go_wp2_with (fail)
            go_meet
            exact ⟨_, _, rfl, rfl, hS⟩
      ·
        refine o_new rfl rfl 53 rfl wide_zero hS fun w1 c9 hS => ⟨hS.drop, ?_⟩
        simp only [Act.put, List.getElem_toArray, List.getElem_cons_succ, List.getElem_cons_zero, List.setIfInBounds_toArray, List.set_cons_zero, List.set_cons_succ]
        refine wpAnyH_all (rs := [2, 10]) (by kernel_rfl) (by simp) ?_
        intro i hi
        have hi2 : i = 2 ∨ i = 10 := by simpa using hi
        rcases hi2 with rfl | rfl
        ·
          refine o_callR rfl rfl (by kernel_rfl) (wide_any z c _ HZ.out.2.1 HZ.out.2.2.1) ?_
          rintro e w1 ⟨rfl, hb⟩
          replace hS := hS.call hb
          clear hb
          refine ⟨_, rfl, hS.drop, ?_⟩
          simp only [Act.put, List.getElem_toArray, List.getElem_cons_succ, List.getElem_cons_zero, List.setIfInBounds_toArray, List.set_cons_zero, List.set_cons_succ]
          refine wpAnyH_all (rs := [4, 10]) (by kernel_rfl) (by simp) ?_
          intro i hi
          have hi2 : i = 4 ∨ i = 10 := by simpa using hi
          rcases hi2 with rfl | rfl
          ·
            refine o_callR rfl rfl (by kernel_rfl) (load_any n _) ?_
            rintro e w1 ⟨rfl, hb⟩
            replace hS := hS.call hb
            clear hb
            refine ⟨_, rfl, hS.drop, ?_⟩
            simp only [Act.put, List.getElem_toArray, List.getElem_cons_succ, List.getElem_cons_zero, List.setIfInBounds_toArray, List.set_cons_zero, List.set_cons_succ]
            refine wpAnyH_all (rs := [5, 10]) (by kernel_rfl) (by simp) ?_
            intro i hi
            have hi2 : i = 5 ∨ i = 10 := by simpa using hi
            rcases hi2 with rfl | rfl
            ·
              refine o_callR rfl rfl (by kernel_rfl) (divide_r (z + c * 2 ^ 256) n _ HZ.out.2.2.2 HX.out.2.2) ?_
              rintro e w1 ⟨rfl, hb⟩
              replace hS := hS.call hb
              clear hb
              refine ⟨_, rfl, hS.drop, ?_⟩
              simp only [Act.put, List.getElem_toArray, List.getElem_cons_succ, List.getElem_cons_zero, List.setIfInBounds_toArray, List.set_cons_zero, List.set_cons_succ]
              refine wpAnyH_take (i := 6) rfl (by kernel_rfl) (by kernel_rfl) (by kernel_rfl) (fun _ _ _ h => h) (y_move rfl _ (.inl rfl) rfl) hS.drop ?_; simp only [Act.put, List.getElem_toArray, List.getElem_cons_succ, List.getElem_cons_zero, List.setIfInBounds_toArray, List.set_cons_zero, List.set_cons_succ]
              refine wpAnyH_take (i := 7) rfl (by kernel_rfl) (by kernel_rfl) (by kernel_rfl) (fun _ _ _ h => h) (y_extract rfl _ 0 rfl rfl rfl) hS.drop ?_; simp only [Act.put, List.getElem_toArray, List.getElem_cons_succ, List.getElem_cons_zero, List.setIfInBounds_toArray, List.set_cons_zero, List.set_cons_succ]
              refine wpAnyH_take (i := 8) rfl (by kernel_rfl) (by kernel_rfl) (by kernel_rfl) (fun _ _ _ h => h) (y_extract rfl _ 1 rfl rfl rfl) hS.drop ?_; simp only [Act.put, List.getElem_toArray, List.getElem_cons_succ, List.getElem_cons_zero, List.setIfInBounds_toArray, List.set_cons_zero, List.set_cons_succ]
              refine wpAnyH_all (rs := [10]) (by kernel_rfl) (by simp) ?_
              intro i hi
              obtain rfl : i = 10 := by simpa using hi
              refine o_new rfl rfl 42 rfl limbs_zero hS fun w1 c10 hS => ⟨hS.drop.drop, ?_⟩
              simp only [Act.put, List.getElem_toArray, List.getElem_cons_succ, List.getElem_cons_zero, List.setIfInBounds_toArray, List.set_cons_zero, List.set_cons_succ]
              refine wpAnyH_all (rs := [11]) (by kernel_rfl) (by simp) ?_
              intro i hi
              obtain rfl : i = 11 := by simpa using hi
              refine o_store (c' := dig 8 ((z + c * 2 ^ 256) / n)) rfl rfl hS 53 _ _ rfl rfl rfl (by repeat (first | exact Upd.head | apply Upd.tail)) wide_size (dig_size _ _) (dig_size _ _) (dig_one _ _) fun w1 hS => ⟨hS.drop.drop, ?_⟩
              simp only [Act.put, List.getElem_toArray, List.getElem_cons_succ, List.getElem_cons_zero, List.setIfInBounds_toArray, List.set_cons_zero, List.set_cons_succ]
              refine wpAnyH_all (rs := [12]) (by kernel_rfl) (by simp) ?_
              intro i hi
              obtain rfl : i = 12 := by simpa using hi
              refine o_store (c' := dig 4 (restN (z + c * 2 ^ 256) n)) rfl rfl hS 42 _ _ rfl rfl rfl (by repeat (first | exact Upd.head | apply Upd.tail)) limbs_size (dig_size _ _) (dig_size _ _) (dig_one _ _) fun w1 hS => ⟨hS.drop.drop, ?_⟩
              simp only [Act.put, List.getElem_toArray, List.getElem_cons_succ, List.getElem_cons_zero, List.setIfInBounds_toArray, List.set_cons_zero, List.set_cons_succ]
              refine wpAnyH_done (by kernel_rfl) ?_ _
              go_wp2_with (fail)
              go_meet
              exact ⟨_, _, rfl, rfl, hS⟩
            ·
              refine o_new rfl rfl 42 rfl limbs_zero hS fun w1 c10 hS => ⟨hS.drop.drop, ?_⟩
              simp only [Act.put, List.getElem_toArray, List.getElem_cons_succ, List.getElem_cons_zero, List.setIfInBounds_toArray, List.set_cons_zero, List.set_cons_succ]
              refine wpAnyH_all (rs := [5]) (by kernel_rfl) (by simp) ?_
              intro i hi
              obtain rfl : i = 5 := by simpa using hi
              refine o_callR rfl rfl (by kernel_rfl) (divide_r (z + c * 2 ^ 256) n _ HZ.out.2.2.2 HX.out.2.2) ?_
              rintro e w1 ⟨rfl, hb⟩
              replace hS := hS.call hb
              clear hb
              refine ⟨_, rfl, hS.drop.drop, ?_⟩
              simp only [Act.put, List.getElem_toArray, List.getElem_cons_succ, List.getElem_cons_zero, List.setIfInBounds_toArray, List.set_cons_zero, List.set_cons_succ]
              refine wpAnyH_take (i := 6) rfl (by kernel_rfl) (by kernel_rfl) (by kernel_rfl) (fun _ _ _ h => h) (y_move rfl _ (.inl rfl) rfl) hS.drop.drop ?_; simp only [Act.put, List.getElem_toArray, List.getElem_cons_succ, List.getElem_cons_zero, List.setIfInBounds_toArray, List.set_cons_zero, List.set_cons_succ]
              refine wpAnyH_take (i := 7) rfl (by kernel_rfl) (by kernel_rfl) (by kernel_rfl) (fun _ _ _ h => h) (y_extract rfl _ 0 rfl rfl rfl) hS.drop.drop ?_; simp only [Act.put, List.getElem_toArray, List.getElem_cons_succ, List.getElem_cons_zero, List.setIfInBounds_toArray, List.set_cons_zero, List.set_cons_succ]
              refine wpAnyH_take (i := 8) rfl (by kernel_rfl) (by kernel_rfl) (by kernel_rfl) (fun _ _ _ h => h) (y_extract rfl _ 1 rfl rfl rfl) hS.drop.drop ?_; simp only [Act.put, List.getElem_toArray, List.getElem_cons_succ, List.getElem_cons_zero, List.setIfInBounds_toArray, List.set_cons_zero, List.set_cons_succ]
              refine wpAnyH_all (rs := [11]) (by kernel_rfl) (by simp) ?_
              intro i hi
              obtain rfl : i = 11 := by simpa using hi
              refine o_store (c' := dig 8 ((z + c * 2 ^ 256) / n)) rfl rfl hS 53 _ _ rfl rfl rfl (by repeat (first | exact Upd.head | apply Upd.tail)) wide_size (dig_size _ _) (dig_size _ _) (dig_one _ _) fun w1 hS => ⟨hS.drop.drop, ?_⟩
              simp only [Act.put, List.getElem_toArray, List.getElem_cons_succ, List.getElem_cons_zero, List.setIfInBounds_toArray, List.set_cons_zero, List.set_cons_succ]
              refine wpAnyH_all (rs := [12]) (by kernel_rfl) (by simp) ?_
              intro i hi
              obtain rfl : i = 12 := by simpa using hi
              refine o_store (c' := dig 4 (restN (z + c * 2 ^ 256) n)) rfl rfl hS 42 _ _ rfl rfl rfl (by repeat (first | exact Upd.head | apply Upd.tail)) limbs_size (dig_size _ _) (dig_size _ _) (dig_one _ _) fun w1 hS => ⟨hS.drop.drop, ?_⟩
              simp only [Act.put, List.getElem_toArray, List.getElem_cons_succ, List.getElem_cons_zero, List.setIfInBounds_toArray, List.set_cons_zero, List.set_cons_succ]
              refine wpAnyH_done (by kernel_rfl) ?_ _
              go_wp2_with (fail)
              go_meet
              exact ⟨_, _, rfl, rfl, hS⟩
          ·
            refine o_new rfl rfl 42 rfl limbs_zero hS fun w1 c10 hS => ⟨hS.drop.drop, ?_⟩
            simp only [Act.put, List.getElem_toArray, List.getElem_cons_succ, List.getElem_cons_zero, List.setIfInBounds_toArray, List.set_cons_zero, List.set_cons_succ]
            refine wpAnyH_all (rs := [4]) (by kernel_rfl) (by simp) ?_
            intro i hi
            obtain rfl : i = 4 := by simpa using hi
            refine o_callR rfl rfl (by kernel_rfl) (load_any n _) ?_
            rintro e w1 ⟨rfl, hb⟩
            replace hS := hS.call hb
            clear hb
            refine ⟨_, rfl, hS.drop.drop, ?_⟩
            simp only [Act.put, List.getElem_toArray, List.getElem_cons_succ, List.getElem_cons_zero, List.setIfInBounds_toArray, List.set_cons_zero, List.set_cons_succ]
            refine wpAnyH_all (rs := [5]) (by kernel_rfl) (by simp) ?_
            intro i hi
            obtain rfl : i = 5 := by simpa using hi
            refine o_callR rfl rfl (by kernel_rfl) (divide_r (z + c * 2 ^ 256) n _ HZ.out.2.2.2 HX.out.2.2) ?_
            rintro e w1 ⟨rfl, hb⟩
            replace hS := hS.call hb
            clear hb
            refine ⟨_, rfl, hS.drop.drop, ?_⟩
            simp only [Act.put, List.getElem_toArray, List.getElem_cons_succ, List.getElem_cons_zero, List.setIfInBounds_toArray, List.set_cons_zero, List.set_cons_succ]
            refine wpAnyH_take (i := 6) rfl (by kernel_rfl) (by kernel_rfl) (by kernel_rfl) (fun _ _ _ h => h) (y_move rfl _ (.inl rfl) rfl) hS.drop.drop ?_; simp only [Act.put, List.getElem_toArray, List.getElem_cons_succ, List.getElem_cons_zero, List.setIfInBounds_toArray, List.set_cons_zero, List.set_cons_succ]
            refine wpAnyH_take (i := 7) rfl (by kernel_rfl) (by kernel_rfl) (by kernel_rfl) (fun _ _ _ h => h) (y_extract rfl _ 0 rfl rfl rfl) hS.drop.drop ?_; simp only [Act.put, List.getElem_toArray, List.getElem_cons_succ, List.getElem_cons_zero, List.setIfInBounds_toArray, List.set_cons_zero, List.set_cons_succ]
            refine wpAnyH_take (i := 8) rfl (by kernel_rfl) (by kernel_rfl) (by kernel_rfl) (fun _ _ _ h => h) (y_extract rfl _ 1 rfl rfl rfl) hS.drop.drop ?_; simp only [Act.put, List.getElem_toArray, List.getElem_cons_succ, List.getElem_cons_zero, List.setIfInBounds_toArray, List.set_cons_zero, List.set_cons_succ]
            refine wpAnyH_all (rs := [11]) (by kernel_rfl) (by simp) ?_
            intro i hi
            obtain rfl : i = 11 := by simpa using hi
            refine o_store (c' := dig 8 ((z + c * 2 ^ 256) / n)) rfl rfl hS 53 _ _ rfl rfl rfl (by repeat (first | exact Upd.head | apply Upd.tail)) wide_size (dig_size _ _) (dig_size _ _) (dig_one _ _) fun w1 hS => ⟨hS.drop.drop, ?_⟩
            simp only [Act.put, List.getElem_toArray, List.getElem_cons_succ, List.getElem_cons_zero, List.setIfInBounds_toArray, List.set_cons_zero, List.set_cons_succ]
            refine wpAnyH_all (rs := [12]) (by kernel_rfl) (by simp) ?_
            intro i hi
            obtain rfl : i = 12 := by simpa using hi
            refine o_store (c' := dig 4 (restN (z + c * 2 ^ 256) n)) rfl rfl hS 42 _ _ rfl rfl rfl (by repeat (first | exact Upd.head | apply Upd.tail)) limbs_size (dig_size _ _) (dig_size _ _) (dig_one _ _) fun w1 hS => ⟨hS.drop.drop, ?_⟩
            simp only [Act.put, List.getElem_toArray, List.getElem_cons_succ, List.getElem_cons_zero, List.setIfInBounds_toArray, List.set_cons_zero, List.set_cons_succ]
            refine wpAnyH_done (by kernel_rfl) ?_ _
            go_wp2_with (fail)
            go_meet
            exact ⟨_, _, rfl, rfl, hS⟩
        ·
          refine o_new rfl rfl 42 rfl limbs_zero hS fun w1 c10 hS => ⟨hS.drop.drop, ?_⟩
          simp only [Act.put, List.getElem_toArray, List.getElem_cons_succ, List.getElem_cons_zero, List.setIfInBounds_toArray, List.set_cons_zero, List.set_cons_succ]
          refine wpAnyH_all (rs := [2]) (by kernel_rfl) (by simp) ?_
          intro i hi
          obtain rfl : i = 2 := by simpa using hi
          refine o_callR rfl rfl (by kernel_rfl) (wide_any z c _ HZ.out.2.1 HZ.out.2.2.1) ?_
          rintro e w1 ⟨rfl, hb⟩
          replace hS := hS.call hb
          clear hb
          refine ⟨_, rfl, hS.drop.drop, ?_⟩
          simp only [Act.put, List.getElem_toArray, List.getElem_cons_succ, List.getElem_cons_zero, List.setIfInBounds_toArray, List.set_cons_zero, List.set_cons_succ]
          refine wpAnyH_all (rs := [4]) (by kernel_rfl) (by simp) ?_
          intro i hi
          obtain rfl : i = 4 := by simpa using hi
          refine o_callR rfl rfl (by kernel_rfl) (load_any n _) ?_
          rintro e w1 ⟨rfl, hb⟩
          replace hS := hS.call hb
          clear hb
          refine ⟨_, rfl, hS.drop.drop, ?_⟩
          simp only [Act.put, List.getElem_toArray, List.getElem_cons_succ, List.getElem_cons_zero, List.setIfInBounds_toArray, List.set_cons_zero, List.set_cons_succ]
          refine wpAnyH_all (rs := [5]) (by kernel_rfl) (by simp) ?_
          intro i hi
          obtain rfl : i = 5 := by simpa using hi
          refine o_callR rfl rfl (by kernel_rfl) (divide_r (z + c * 2 ^ 256) n _ HZ.out.2.2.2 HX.out.2.2) ?_
          rintro e w1 ⟨rfl, hb⟩
          replace hS := hS.call hb
          clear hb
          refine ⟨_, rfl, hS.drop.drop, ?_⟩
          simp only [Act.put, List.getElem_toArray, List.getElem_cons_succ, List.getElem_cons_zero, List.setIfInBounds_toArray, List.set_cons_zero, List.set_cons_succ]
          refine wpAnyH_take (i := 6) rfl (by kernel_rfl) (by kernel_rfl) (by kernel_rfl) (fun _ _ _ h => h) (y_move rfl _ (.inl rfl) rfl) hS.drop.drop ?_; simp only [Act.put, List.getElem_toArray, List.getElem_cons_succ, List.getElem_cons_zero, List.setIfInBounds_toArray, List.set_cons_zero, List.set_cons_succ]
          refine wpAnyH_take (i := 7) rfl (by kernel_rfl) (by kernel_rfl) (by kernel_rfl) (fun _ _ _ h => h) (y_extract rfl _ 0 rfl rfl rfl) hS.drop.drop ?_; simp only [Act.put, List.getElem_toArray, List.getElem_cons_succ, List.getElem_cons_zero, List.setIfInBounds_toArray, List.set_cons_zero, List.set_cons_succ]
          refine wpAnyH_take (i := 8) rfl (by kernel_rfl) (by kernel_rfl) (by kernel_rfl) (fun _ _ _ h => h) (y_extract rfl _ 1 rfl rfl rfl) hS.drop.drop ?_; simp only [Act.put, List.getElem_toArray, List.getElem_cons_succ, List.getElem_cons_zero, List.setIfInBounds_toArray, List.set_cons_zero, List.set_cons_succ]
          refine wpAnyH_all (rs := [11]) (by kernel_rfl) (by simp) ?_
          intro i hi
          obtain rfl : i = 11 := by simpa using hi
          refine o_store (c' := dig 8 ((z + c * 2 ^ 256) / n)) rfl rfl hS 53 _ _ rfl rfl rfl (by repeat (first | exact Upd.head | apply Upd.tail)) wide_size (dig_size _ _) (dig_size _ _) (dig_one _ _) fun w1 hS => ⟨hS.drop.drop, ?_⟩
          simp only [Act.put, List.getElem_toArray, List.getElem_cons_succ, List.getElem_cons_zero, List.setIfInBounds_toArray, List.set_cons_zero, List.set_cons_succ]
          refine wpAnyH_all (rs := [12]) (by kernel_rfl) (by simp) ?_
          intro i hi
          obtain rfl : i = 12 := by simpa using hi
          refine o_store (c' := dig 4 (restN (z + c * 2 ^ 256) n)) rfl rfl hS 42 _ _ rfl rfl rfl (by repeat (first | exact Upd.head | apply Upd.tail)) limbs_size (dig_size _ _) (dig_size _ _) (dig_one _ _) fun w1 hS => ⟨hS.drop.drop, ?_⟩
          simp only [Act.put, List.getElem_toArray, List.getElem_cons_succ, List.getElem_cons_zero, List.setIfInBounds_toArray, List.set_cons_zero, List.set_cons_succ]
          refine wpAnyH_done (by kernel_rfl) ?_ _
          go_wp2_with (fail)
          go_meet
          exact ⟨_, _, rfl, rfl, hS⟩
      ·
        refine o_new rfl rfl 42 rfl limbs_zero hS fun w1 c10 hS => ⟨hS.drop, ?_⟩
        simp only [Act.put, List.getElem_toArray, List.getElem_cons_succ, List.getElem_cons_zero, List.setIfInBounds_toArray, List.set_cons_zero, List.set_cons_succ]
        refine wpAnyH_all (rs := [2, 9]) (by kernel_rfl) (by simp) ?_
        intro i hi
        have hi2 : i = 2 ∨ i = 9 := by simpa using hi
        rcases hi2 with rfl | rfl
        ·
          refine o_callR rfl rfl (by kernel_rfl) (wide_any z c _ HZ.out.2.1 HZ.out.2.2.1) ?_
          rintro e w1 ⟨rfl, hb⟩
          replace hS := hS.call hb
          clear hb
          refine ⟨_, rfl, hS.drop, ?_⟩
          simp only [Act.put, List.getElem_toArray, List.getElem_cons_succ, List.getElem_cons_zero, List.setIfInBounds_toArray, List.set_cons_zero, List.set_cons_succ]
          refine wpAnyH_all (rs := [4, 9]) (by kernel_rfl) (by simp) ?_
          intro i hi
          have hi2 : i = 4 ∨ i = 9 := by simpa using hi
          rcases hi2 with rfl | rfl
          ·
            refine o_callR rfl rfl (by kernel_rfl) (load_any n _) ?_
            rintro e w1 ⟨rfl, hb⟩
            replace hS := hS.call hb
            clear hb
            refine ⟨_, rfl, hS.drop, ?_⟩
            simp only [Act.put, List.getElem_toArray, List.getElem_cons_succ, List.getElem_cons_zero, List.setIfInBounds_toArray, List.set_cons_zero, List.set_cons_succ]
            refine wpAnyH_all (rs := [5, 9]) (by kernel_rfl) (by simp) ?_
            intro i hi
            have hi2 : i = 5 ∨ i = 9 := by simpa using hi
            rcases hi2 with rfl | rfl
            ·
              refine o_callR rfl rfl (by kernel_rfl) (divide_r (z + c * 2 ^ 256) n _ HZ.out.2.2.2 HX.out.2.2) ?_
              rintro e w1 ⟨rfl, hb⟩
              replace hS := hS.call hb
              clear hb
              refine ⟨_, rfl, hS.drop, ?_⟩
              simp only [Act.put, List.getElem_toArray, List.getElem_cons_succ, List.getElem_cons_zero, List.setIfInBounds_toArray, List.set_cons_zero, List.set_cons_succ]
              refine wpAnyH_take (i := 6) rfl (by kernel_rfl) (by kernel_rfl) (by kernel_rfl) (fun _ _ _ h => h) (y_move rfl _ (.inl rfl) rfl) hS.drop ?_; simp only [Act.put, List.getElem_toArray, List.getElem_cons_succ, List.getElem_cons_zero, List.setIfInBounds_toArray, List.set_cons_zero, List.set_cons_succ]
              refine wpAnyH_take (i := 7) rfl (by kernel_rfl) (by kernel_rfl) (by kernel_rfl) (fun _ _ _ h => h) (y_extract rfl _ 0 rfl rfl rfl) hS.drop ?_; simp only [Act.put, List.getElem_toArray, List.getElem_cons_succ, List.getElem_cons_zero, List.setIfInBounds_toArray, List.set_cons_zero, List.set_cons_succ]
              refine wpAnyH_take (i := 8) rfl (by kernel_rfl) (by kernel_rfl) (by kernel_rfl) (fun _ _ _ h => h) (y_extract rfl _ 1 rfl rfl rfl) hS.drop ?_; simp only [Act.put, List.getElem_toArray, List.getElem_cons_succ, List.getElem_cons_zero, List.setIfInBounds_toArray, List.set_cons_zero, List.set_cons_succ]
              refine wpAnyH_all (rs := [9]) (by kernel_rfl) (by simp) ?_
              intro i hi
              obtain rfl : i = 9 := by simpa using hi
              refine o_new rfl rfl 53 rfl wide_zero hS fun w1 c9 hS => ⟨hS.drop.drop, ?_⟩
              simp only [Act.put, List.getElem_toArray, List.getElem_cons_succ, List.getElem_cons_zero, List.setIfInBounds_toArray, List.set_cons_zero, List.set_cons_succ]
              replace hS := hS.swap
              refine wpAnyH_all (rs := [11]) (by kernel_rfl) (by simp) ?_
              intro i hi
              obtain rfl : i = 11 := by simpa using hi
              refine o_store (c' := dig 8 ((z + c * 2 ^ 256) / n)) rfl rfl hS 53 _ _ rfl rfl rfl (by repeat (first | exact Upd.head | apply Upd.tail)) wide_size (dig_size _ _) (dig_size _ _) (dig_one _ _) fun w1 hS => ⟨hS.drop.drop, ?_⟩
              simp only [Act.put, List.getElem_toArray, List.getElem_cons_succ, List.getElem_cons_zero, List.setIfInBounds_toArray, List.set_cons_zero, List.set_cons_succ]
              refine wpAnyH_all (rs := [12]) (by kernel_rfl) (by simp) ?_
              intro i hi
              obtain rfl : i = 12 := by simpa using hi
              refine o_store (c' := dig 4 (restN (z + c * 2 ^ 256) n)) rfl rfl hS 42 _ _ rfl rfl rfl (by repeat (first | exact Upd.head | apply Upd.tail)) limbs_size (dig_size _ _) (dig_size _ _) (dig_one _ _) fun w1 hS => ⟨hS.drop.drop, ?_⟩
              simp only [Act.put, List.getElem_toArray, List.getElem_cons_succ, List.getElem_cons_zero, List.setIfInBounds_toArray, List.set_cons_zero, List.set_cons_succ]
              refine wpAnyH_done (by kernel_rfl) ?_ _
              go_wp2_with (fail)
              go_meet
              exact ⟨_, _, rfl, rfl, hS⟩
            ·
              refine o_new rfl rfl 53 rfl wide_zero hS fun w1 c9 hS => ⟨hS.drop.drop, ?_⟩
              simp only [Act.put, List.getElem_toArray, List.getElem_cons_succ, List.getElem_cons_zero, List.setIfInBounds_toArray, List.set_cons_zero, List.set_cons_succ]
              refine wpAnyH_all (rs := [5]) (by kernel_rfl) (by simp) ?_
              intro i hi
              obtain rfl : i = 5 := by simpa using hi
              refine o_callR rfl rfl (by kernel_rfl) (divide_r (z + c * 2 ^ 256) n _ HZ.out.2.2.2 HX.out.2.2) ?_
              rintro e w1 ⟨rfl, hb⟩
              replace hS := hS.call hb
              clear hb
              refine ⟨_, rfl, hS.drop.drop, ?_⟩
              simp only [Act.put, List.getElem_toArray, List.getElem_cons_succ, List.getElem_cons_zero, List.setIfInBounds_toArray, List.set_cons_zero, List.set_cons_succ]
              refine wpAnyH_take (i := 6) rfl (by kernel_rfl) (by kernel_rfl) (by kernel_rfl) (fun _ _ _ h => h) (y_move rfl _ (.inl rfl) rfl) hS.drop.drop ?_; simp only [Act.put, List.getElem_toArray, List.getElem_cons_succ, List.getElem_cons_zero, List.setIfInBounds_toArray, List.set_cons_zero, List.set_cons_succ]
              refine wpAnyH_take (i := 7) rfl (by kernel_rfl) (by kernel_rfl) (by kernel_rfl) (fun _ _ _ h => h) (y_extract rfl _ 0 rfl rfl rfl) hS.drop.drop ?_; simp only [Act.put, List.getElem_toArray, List.getElem_cons_succ, List.getElem_cons_zero, List.setIfInBounds_toArray, List.set_cons_zero, List.set_cons_succ]
              refine wpAnyH_take (i := 8) rfl (by kernel_rfl) (by kernel_rfl) (by kernel_rfl) (fun _ _ _ h => h) (y_extract rfl _ 1 rfl rfl rfl) hS.drop.drop ?_; simp only [Act.put, List.getElem_toArray, List.getElem_cons_succ, List.getElem_cons_zero, List.setIfInBounds_toArray, List.set_cons_zero, List.set_cons_succ]
              replace hS := hS.swap
              refine wpAnyH_all (rs := [11]) (by kernel_rfl) (by simp) ?_
              intro i hi
              obtain rfl : i = 11 := by simpa using hi
              refine o_store (c' := dig 8 ((z + c * 2 ^ 256) / n)) rfl rfl hS 53 _ _ rfl rfl rfl (by repeat (first | exact Upd.head | apply Upd.tail)) wide_size (dig_size _ _) (dig_size _ _) (dig_one _ _) fun w1 hS => ⟨hS.drop.drop, ?_⟩
              simp only [Act.put, List.getElem_toArray, List.getElem_cons_succ, List.getElem_cons_zero, List.setIfInBounds_toArray, List.set_cons_zero, List.set_cons_succ]
              refine wpAnyH_all (rs := [12]) (by kernel_rfl) (by simp) ?_
              intro i hi
              obtain rfl : i = 12 := by simpa using hi
              refine o_store (c' := dig 4 (restN (z + c * 2 ^ 256) n)) rfl rfl hS 42 _ _ rfl rfl rfl (by repeat (first | exact Upd.head | apply Upd.tail)) limbs_size (dig_size _ _) (dig_size _ _) (dig_one _ _) fun w1 hS => ⟨hS.drop.drop, ?_⟩
              simp only [Act.put, List.getElem_toArray, List.getElem_cons_succ, List.getElem_cons_zero, List.setIfInBounds_toArray, List.set_cons_zero, List.set_cons_succ]
              refine wpAnyH_done (by kernel_rfl) ?_ _
              go_wp2_with (fail)
              go_meet
              exact ⟨_, _, rfl, rfl, hS⟩
          ·
            refine o_new rfl rfl 53 rfl wide_zero hS fun w1 c9 hS => ⟨hS.drop.drop, ?_⟩
            simp only [Act.put, List.getElem_toArray, List.getElem_cons_succ, List.getElem_cons_zero, List.setIfInBounds_toArray, List.set_cons_zero, List.set_cons_succ]
            refine wpAnyH_all (rs := [4]) (by kernel_rfl) (by simp) ?_
            intro i hi
            obtain rfl : i = 4 := by simpa using hi
            refine o_callR rfl rfl (by kernel_rfl) (load_any n _) ?_
            rintro e w1 ⟨rfl, hb⟩
            replace hS := hS.call hb
            clear hb
            refine ⟨_, rfl, hS.drop.drop, ?_⟩
            simp only [Act.put, List.getElem_toArray, List.getElem_cons_succ, List.getElem_cons_zero, List.setIfInBounds_toArray, List.set_cons_zero, List.set_cons_succ]
            refine wpAnyH_all (rs := [5]) (by kernel_rfl) (by simp) ?_
            intro i hi
            obtain rfl : i = 5 := by simpa using hi
            refine o_callR rfl rfl (by kernel_rfl) (divide_r (z + c * 2 ^ 256) n _ HZ.out.2.2.2 HX.out.2.2) ?_
            rintro e w1 ⟨rfl, hb⟩
            replace hS := hS.call hb
            clear hb
            refine ⟨_, rfl, hS.drop.drop, ?_⟩
            simp only [Act.put, List.getElem_toArray, List.getElem_cons_succ, List.getElem_cons_zero, List.setIfInBounds_toArray, List.set_cons_zero, List.set_cons_succ]
            refine wpAnyH_take (i := 6) rfl (by kernel_rfl) (by kernel_rfl) (by kernel_rfl) (fun _ _ _ h => h) (y_move rfl _ (.inl rfl) rfl) hS.drop.drop ?_; simp only [Act.put, List.getElem_toArray, List.getElem_cons_succ, List.getElem_cons_zero, List.setIfInBounds_toArray, List.set_cons_zero, List.set_cons_succ]
            refine wpAnyH_take (i := 7) rfl (by kernel_rfl) (by kernel_rfl) (by kernel_rfl) (fun _ _ _ h => h) (y_extract rfl _ 0 rfl rfl rfl) hS.drop.drop ?_; simp only [Act.put, List.getElem_toArray, List.getElem_cons_succ, List.getElem_cons_zero, List.setIfInBounds_toArray, List.set_cons_zero, List.set_cons_succ]
            refine wpAnyH_take (i := 8) rfl (by kernel_rfl) (by kernel_rfl) (by kernel_rfl) (fun _ _ _ h => h) (y_extract rfl _ 1 rfl rfl rfl) hS.drop.drop ?_; simp only [Act.put, List.getElem_toArray, List.getElem_cons_succ, List.getElem_cons_zero, List.setIfInBounds_toArray, List.set_cons_zero, List.set_cons_succ]
            replace hS := hS.swap
            refine wpAnyH_all (rs := [11]) (by kernel_rfl) (by simp) ?_
            intro i hi
            obtain rfl : i = 11 := by simpa using hi
            refine o_store (c' := dig 8 ((z + c * 2 ^ 256) / n)) rfl rfl hS 53 _ _ rfl rfl rfl (by repeat (first | exact Upd.head | apply Upd.tail)) wide_size (dig_size _ _) (dig_size _ _) (dig_one _ _) fun w1 hS => ⟨hS.drop.drop, ?_⟩
            simp only [Act.put, List.getElem_toArray, List.getElem_cons_succ, List.getElem_cons_zero, List.setIfInBounds_toArray, List.set_cons_zero, List.set_cons_succ]
            refine wpAnyH_all (rs := [12]) (by kernel_rfl) (by simp) ?_
            intro i hi
            obtain rfl : i = 12 := by simpa using hi
            refine o_store (c' := dig 4 (restN (z + c * 2 ^ 256) n)) rfl rfl hS 42 _ _ rfl rfl rfl (by repeat (first | exact Upd.head | apply Upd.tail)) limbs_size (dig_size _ _) (dig_size _ _) (dig_one _ _) fun w1 hS => ⟨hS.drop.drop, ?_⟩
            simp only [Act.put, List.getElem_toArray, List.getElem_cons_succ, List.getElem_cons_zero, List.setIfInBounds_toArray, List.set_cons_zero, List.set_cons_succ]
            refine wpAnyH_done (by kernel_rfl) ?_ _
            go_wp2_with (fail)
            go_meet
            exact ⟨_, _, rfl, rfl, hS⟩
        ·
          refine o_new rfl rfl 53 rfl wide_zero hS fun w1 c9 hS => ⟨hS.drop.drop, ?_⟩
          simp only [Act.put, List.getElem_toArray, List.getElem_cons_succ, List.getElem_cons_zero, List.setIfInBounds_toArray, List.set_cons_zero, List.set_cons_succ]
          refine wpAnyH_all (rs := [2]) (by kernel_rfl) (by simp) ?_
          intro i hi
          obtain rfl : i = 2 := by simpa using hi
          refine o_callR rfl rfl (by kernel_rfl) (wide_any z c _ HZ.out.2.1 HZ.out.2.2.1) ?_
          rintro e w1 ⟨rfl, hb⟩
          replace hS := hS.call hb
          clear hb
          refine ⟨_, rfl, hS.drop.drop, ?_⟩
          simp only [Act.put, List.getElem_toArray, List.getElem_cons_succ, List.getElem_cons_zero, List.setIfInBounds_toArray, List.set_cons_zero, List.set_cons_succ]
          refine wpAnyH_all (rs := [4]) (by kernel_rfl) (by simp) ?_
          intro i hi
          obtain rfl : i = 4 := by simpa using hi
          refine o_callR rfl rfl (by kernel_rfl) (load_any n _) ?_
          rintro e w1 ⟨rfl, hb⟩
          replace hS := hS.call hb
          clear hb
          refine ⟨_, rfl, hS.drop.drop, ?_⟩
          simp only [Act.put, List.getElem_toArray, List.getElem_cons_succ, List.getElem_cons_zero, List.setIfInBounds_toArray, List.set_cons_zero, List.set_cons_succ]
          refine wpAnyH_all (rs := [5]) (by kernel_rfl) (by simp) ?_
          intro i hi
          obtain rfl : i = 5 := by simpa using hi
          refine o_callR rfl rfl (by kernel_rfl) (divide_r (z + c * 2 ^ 256) n _ HZ.out.2.2.2 HX.out.2.2) ?_
          rintro e w1 ⟨rfl, hb⟩
          replace hS := hS.call hb
          clear hb
          refine ⟨_, rfl, hS.drop.drop, ?_⟩
          simp only [Act.put, List.getElem_toArray, List.getElem_cons_succ, List.getElem_cons_zero, List.setIfInBounds_toArray, List.set_cons_zero, List.set_cons_succ]
          refine wpAnyH_take (i := 6) rfl (by kernel_rfl) (by kernel_rfl) (by kernel_rfl) (fun _ _ _ h => h) (y_move rfl _ (.inl rfl) rfl) hS.drop.drop ?_; simp only [Act.put, List.getElem_toArray, List.getElem_cons_succ, List.getElem_cons_zero, List.setIfInBounds_toArray, List.set_cons_zero, List.set_cons_succ]
          refine wpAnyH_take (i := 7) rfl (by kernel_rfl) (by kernel_rfl) (by kernel_rfl) (fun _ _ _ h => h) (y_extract rfl _ 0 rfl rfl rfl) hS.drop.drop ?_; simp only [Act.put, List.getElem_toArray, List.getElem_cons_succ, List.getElem_cons_zero, List.setIfInBounds_toArray, List.set_cons_zero, List.set_cons_succ]
          refine wpAnyH_take (i := 8) rfl (by kernel_rfl) (by kernel_rfl) (by kernel_rfl) (fun _ _ _ h => h) (y_extract rfl _ 1 rfl rfl rfl) hS.drop.drop ?_; simp only [Act.put, List.getElem_toArray, List.getElem_cons_succ, List.getElem_cons_zero, List.setIfInBounds_toArray, List.set_cons_zero, List.set_cons_succ]
          replace hS := hS.swap
          refine wpAnyH_all (rs := [11]) (by kernel_rfl) (by simp) ?_
          intro i hi
          obtain rfl : i = 11 := by simpa using hi
          refine o_store (c' := dig 8 ((z + c * 2 ^ 256) / n)) rfl rfl hS 53 _ _ rfl rfl rfl (by repeat (first | exact Upd.head | apply Upd.tail)) wide_size (dig_size _ _) (dig_size _ _) (dig_one _ _) fun w1 hS => ⟨hS.drop.drop, ?_⟩
          simp only [Act.put, List.getElem_toArray, List.getElem_cons_succ, List.getElem_cons_zero, List.setIfInBounds_toArray, List.set_cons_zero, List.set_cons_succ]
          refine wpAnyH_all (rs := [12]) (by kernel_rfl) (by simp) ?_
          intro i hi
          obtain rfl : i = 12 := by simpa using hi
          refine o_store (c' := dig 4 (restN (z + c * 2 ^ 256) n)) rfl rfl hS 42 _ _ rfl rfl rfl (by repeat (first | exact Upd.head | apply Upd.tail)) limbs_size (dig_size _ _) (dig_size _ _) (dig_one _ _) fun w1 hS => ⟨hS.drop.drop, ?_⟩
          simp only [Act.put, List.getElem_toArray, List.getElem_cons_succ, List.getElem_cons_zero, List.setIfInBounds_toArray, List.set_cons_zero, List.set_cons_succ]
          refine wpAnyH_done (by kernel_rfl) ?_ _
          go_wp2_with (fail)
          go_meet
          exact ⟨_, _, rfl, rfl, hS⟩
    case rest =>
      clear hS
      obtain ⟨c9, c10, rfl, rfl, hS⟩ := hcut
      go_wp2_with (first | (refine st_load hS rfl 42 _ rfl rfl (by repeat (first | exact At.head | apply At.tail)) limbs_type rfl limbs_size (dig_size _ _) ?_) | (refine st_store hS rfl 23 _ _ rfl rfl rfl (by repeat (first | exact Upd.head | apply Upd.tail)) word_size (wf_size _) (wf_size _) (wf_one _) ?_; clear hS; intro w1 hS) | (go_at_call 68; with_reducible refine (word_any _ _).mono ?_; rintro e w1 ⟨rfl, hb⟩; replace hS := hS.call hb; clear hb))
      exact st_post hS 6 23 rfl rfl rfl (by repeat (first | exact At.head | apply At.tail)) word_type rfl word_size (wf_size _) (fun hb => ⟨rfl, hb⟩)
theorem addmod_any (x y n : Nat) (hx : x < M256) (hy : y < M256) (hn : n < M256) (w : World) :
    Calls Try.prog 32 #[.agg (wcells x), .agg (wcells y), .agg (wcells n)] w fun e w' => e = .returned (.agg (wcells (restN (x + y) n))) ∧ Below w.heap.size w w' := by
  rw [← carried hx hy (z := wadd x y) (c := cry x y 4) rfl rfl]
  exact addmod_z x y n _ _ ⟨rfl, rfl⟩ hx hy hn w
end Go.Proofs.Ytcdjinjeogodfaa
