/- The document's sums and products modulo a word. -/
import Derived.Test.YtcdjinjeogodfaaPB
import Derived.Test.YtcdjinjeogodfaaS7
import Derived.Test.YtcdjinjeogodfaaS8
import Derived.Test.YtcdjinjeogodfaaPF
import Derived.StillTailTactics
import Derived.Test.YtcdjinjeogodfaaH
import Derived.Test.YtcdjinjeogodfaaK
/-! The document's sums and products modulo a word. -/
namespace Go.Proofs.Ytcdjinjeogodfaa
open Go.RowKit

theorem sum17 {x y m : Nat} (hm : m = 17) (hx : x < M256) (hy : y < M256) : x + y < 2 ^ (16 * m) := @sum_pow x y 256 (16 * m) hx hy (by omega)
theorem prod32 {x y m : Nat} (hm : m = 32) (hx : x < M256) (hy : y < M256) : x * y < 2 ^ (16 * m) := @prod_pow x y 256 (16 * m) hx hy (by omega)
set_option maxHeartbeats 8000000 in
set_option maxRecDepth 100000 in
theorem raddmod_any (x y n : Nat) (hx : x < M256) (hy : y < M256) (hn : n < M256) (w : World) :
    Calls Try.prog 33 #[.agg (wcells x), .agg (wcells y), .agg (wcells n)] w fun e w' => e = .returned (.agg (wcells (restN (x + y) n))) ∧ Below w.heap.size w w' := by
  by_cases hy0 : n = 0
  · have HZ := Lib.hid (And.intro hn (decide_eq_true hy0))
    subst hy0
    rw [show restN (x + y) 0 = 0 from if_pos rfl]
    clear hx hy hn
    have hS := St.start w
    go_enter Try.func33, Try.ntmps33
    go_wp2_with (first | (have _t := b4; clear _t; refine st_new hS rfl 23 rfl word_zero ?_; clear hS; intro w1 b5 hS) | (have _t := b3; clear _t; refine st_box hS rfl _ _ rfl rfl ?_; clear hS; intro w1 b4 hS) | (have _t := b2; clear _t; refine st_box hS rfl _ _ rfl rfl ?_; clear hS; intro w1 b3 hS) | (refine st_box hS rfl _ _ rfl rfl ?_; clear hS; intro w1 b2 hS) | (refine st_load hS rfl 23 _ rfl rfl (by repeat (first | exact At.head | apply At.tail)) word_type rfl word_size (wf_size _) ?_) | (refine st_store hS rfl 23 _ _ rfl rfl rfl (by repeat (first | exact Upd.head | apply Upd.tail)) word_size (wf_size _) (wf_size _) (wf_one _) ?_; clear hS; intro w1 hS) | (refine st_eqd rfl _ _ _ rfl rfl word_lit_eq HZ.out.1 M256_pos HZ.out.2 ?_))
    exact st_post hS 6 23 rfl rfl rfl (by repeat (first | exact At.head | apply At.tail)) word_type rfl word_size (wf_size _) (fun hb => ⟨rfl, hb⟩)
  · have HZ := Lib.hid (And.intro hn (decide_eq_false hy0))
    have HX := Lib.hid (And.intro hx (And.intro hy (And.intro hn (And.intro (Nat.pos_of_ne_zero hy0) (sum17 (m := 17) rfl hx hy)))))
    clear hx hy hn hy0
    have hS := St.start w
    go_enter Try.func33, Try.ntmps33
    go_wp2_with (first | (have _t := b4; clear _t; refine st_new hS rfl 23 rfl word_zero ?_; clear hS; intro w1 b5 hS) | (have _t := b3; clear _t; refine st_box hS rfl _ _ rfl rfl ?_; clear hS; intro w1 b4 hS) | (have _t := b2; clear _t; refine st_box hS rfl _ _ rfl rfl ?_; clear hS; intro w1 b3 hS) | (refine st_box hS rfl _ _ rfl rfl ?_; clear hS; intro w1 b2 hS) | (refine st_load hS rfl 23 _ rfl rfl (by repeat (first | exact At.head | apply At.tail)) word_type rfl word_size (wf_size _) ?_) | (refine st_store hS rfl 23 _ _ rfl rfl rfl (by repeat (first | exact Upd.head | apply Upd.tail)) word_size (wf_size _) (wf_size _) (wf_one _) ?_; clear hS; intro w1 hS) | (refine st_eqd rfl _ _ _ rfl rfl word_lit_eq HZ.out.1 M256_pos HZ.out.2 ?_))
    refine wp_region_held_drew (S := fun w' => St w w' _) (by kernel_rfl) hS.drew fun _ => ?_
    replace hS := hS.drew
    simp only [List.size_toArray, List.length_cons, List.length_nil, Nat.reduceAdd, Array.replicate_succ, Array.replicate_zero, List.push_toArray, List.nil_append, List.cons_append]
    refine wpAnyH_take (i := 0) rfl (by kernel_rfl) (by kernel_rfl) (by kernel_rfl) (fun _ _ _ h => h) (y_load rfl 23 _ rfl rfl (by repeat (first | exact At.head | apply At.tail)) word_type rfl word_size (wf_size _)) hS ?_; simp only [Act.put, List.getElem_toArray, List.getElem_cons_succ, List.getElem_cons_zero, List.setIfInBounds_toArray, List.set_cons_zero, List.set_cons_succ]
    refine wpAnyH_take (i := 2) rfl (by kernel_rfl) (by kernel_rfl) (by kernel_rfl) (fun _ _ _ h => h) (y_load rfl 23 _ rfl rfl (by repeat (first | exact At.head | apply At.tail)) word_type rfl word_size (wf_size _)) hS ?_; simp only [Act.put, List.getElem_toArray, List.getElem_cons_succ, List.getElem_cons_zero, List.setIfInBounds_toArray, List.set_cons_zero, List.set_cons_succ]
    refine wpAnyH_take (i := 5) rfl (by kernel_rfl) (by kernel_rfl) (by kernel_rfl) (fun _ _ _ h => h) (y_load rfl 23 _ rfl rfl (by repeat (first | exact At.head | apply At.tail)) word_type rfl word_size (wf_size _)) hS ?_; simp only [Act.put, List.getElem_toArray, List.getElem_cons_succ, List.getElem_cons_zero, List.setIfInBounds_toArray, List.set_cons_zero, List.set_cons_succ]
    refine wpAnyH_all (rs := [1]) (by kernel_rfl) (by simp) ?_
    intro i hi
    obtain rfl : i = 1 := by simpa using hi
    refine o_callR rfl rfl (by kernel_rfl) (limbs_any x _) ?_
    rintro e w1 ⟨bA, rfl, hle, hB, hb⟩
    replace hS := hS.callNew hb hB hle
    clear hb hB hle
    refine ⟨_, rfl, hS.drop, ?_⟩
    simp only [Act.put, List.getElem_toArray, List.getElem_cons_succ, List.getElem_cons_zero, List.setIfInBounds_toArray, List.set_cons_zero, List.set_cons_succ]
    refine wpAnyH_all (rs := [3]) (by kernel_rfl) (by simp) ?_
    intro i hi
    obtain rfl : i = 3 := by simpa using hi
    refine o_callR rfl rfl (by kernel_rfl) (limbs_any y _) ?_
    rintro e w1 ⟨bB, rfl, hle, hB, hb⟩
    replace hS := hS.callNew hb hB hle
    clear hb hB hle
    refine ⟨_, rfl, hS.drop.drop, ?_⟩
    simp only [Act.put, List.getElem_toArray, List.getElem_cons_succ, List.getElem_cons_zero, List.setIfInBounds_toArray, List.set_cons_zero, List.set_cons_succ]
    refine wpAnyH_all (rs := [4]) (by kernel_rfl) (by simp) ?_
    intro i hi
    obtain rfl : i = 4 := by simpa using hi
    refine o_callR rfl rfl (by kernel_rfl) (add_rows bA bB 16 16 x y _ (hS.get (.tail .head)).row_ (hS.get .head).row_ HX.out.1 HX.out.2.1) ?_
    rintro e w1 ⟨bC, cC, rfl, hle, hrow, hb⟩
    replace hS := hS.call hb
    clear hb hle
    refine ⟨_, rfl, hS.drop.drop, ?_⟩
    simp only [Act.put, List.getElem_toArray, List.getElem_cons_succ, List.getElem_cons_zero, List.setIfInBounds_toArray, List.set_cons_zero, List.set_cons_succ]
    refine wpAnyH_all (rs := [6]) (by kernel_rfl) (by simp) ?_
    intro i hi
    obtain rfl : i = 6 := by simpa using hi
    refine o_callR rfl rfl (by kernel_rfl) (limbs_any n _) ?_
    rintro e w1 ⟨bN, rfl, hle, hB, hb⟩
    replace hS := hS.callNew hb hB hle
    replace hrow := hrow.below hb hrow.1
    clear hb hB hle
    refine ⟨_, rfl, hS.drop.drop.drop, ?_⟩
    simp only [Act.put, List.getElem_toArray, List.getElem_cons_succ, List.getElem_cons_zero, List.setIfInBounds_toArray, List.set_cons_zero, List.set_cons_succ]
    refine wpAnyH_all (rs := [7]) (by kernel_rfl) (by simp) ?_
    intro i hi
    obtain rfl : i = 7 := by simpa using hi
    refine o_callR rfl rfl (by kernel_rfl) (divide_rows 17 bC bN cC 16 (x + y) n _ (by omega) (by omega) hrow (hS.get .head).row_ HX.out.2.2.2.2 HX.out.2.2.1 HX.out.2.2.2.1) ?_
    rintro e w1 ⟨bq, br, rfl, hD⟩
    replace hS := hS.join2 hD
    clear hD
    refine ⟨_, rfl, hS.drop.drop.drop.drop.drop, ?_⟩
    simp only [Act.put, List.getElem_toArray, List.getElem_cons_succ, List.getElem_cons_zero, List.setIfInBounds_toArray, List.set_cons_zero, List.set_cons_succ]
    refine wpAnyH_take (i := 8) rfl (by kernel_rfl) (by kernel_rfl) (by kernel_rfl) (fun _ _ _ h => h) (y_move rfl _ (.inl rfl) rfl) hS.drop.drop.drop.drop.drop ?_; simp only [Act.put, List.getElem_toArray, List.getElem_cons_succ, List.getElem_cons_zero, List.setIfInBounds_toArray, List.set_cons_zero, List.set_cons_succ]
    refine wpAnyH_take (i := 9) rfl (by kernel_rfl) (by kernel_rfl) (by kernel_rfl) (fun _ _ _ h => h) (y_extract rfl _ 0 rfl rfl rfl) hS.drop.drop.drop.drop.drop ?_; simp only [Act.put, List.getElem_toArray, List.getElem_cons_succ, List.getElem_cons_zero, List.setIfInBounds_toArray, List.set_cons_zero, List.set_cons_succ]
    refine wpAnyH_take (i := 10) rfl (by kernel_rfl) (by kernel_rfl) (by kernel_rfl) (fun _ _ _ h => h) (y_extract rfl _ 1 rfl rfl rfl) hS.drop.drop.drop.drop.drop ?_; simp only [Act.put, List.getElem_toArray, List.getElem_cons_succ, List.getElem_cons_zero, List.setIfInBounds_toArray, List.set_cons_zero, List.set_cons_succ]
    refine wpAnyH_take (i := 11) rfl (by kernel_rfl) (by kernel_rfl) (by kernel_rfl) (fun _ _ _ h => h) (y_move rfl _ (.inr rfl) rfl) hS.drop.drop.drop.drop.drop ?_; simp only [Act.put, List.getElem_toArray, List.getElem_cons_succ, List.getElem_cons_zero, List.setIfInBounds_toArray, List.set_cons_zero, List.set_cons_succ]
    refine wpAnyH_take (i := 12) rfl (by kernel_rfl) (by kernel_rfl) (by kernel_rfl) (fun _ _ _ h => h) (y_move rfl _ (.inr rfl) rfl) hS.drop.drop.drop.drop.drop ?_; simp only [Act.put, List.getElem_toArray, List.getElem_cons_succ, List.getElem_cons_zero, List.setIfInBounds_toArray, List.set_cons_zero, List.set_cons_succ]
    refine wpAnyH_done (by kernel_rfl) ?_ _
    go_wp2_with (first | (refine st_store hS rfl 23 _ _ rfl rfl rfl (by repeat (first | exact Upd.head | apply Upd.tail)) word_size (wf_size _) (wf_size _) (wf_one _) ?_; clear hS; intro w1 hS) | (go_at_call 69; have hrow := (hS.get .head).row_; rw [show (x + y) % n = restN (x + y) n from (if_neg (Nat.ne_of_gt HX.out.2.2.2.1)).symm] at hrow; refine (rword_any 17 17 br (restN (x + y) n) _ (by omega) (by omega) hrow).mono ?_; rintro e w1 ⟨rfl, hb⟩; replace hS := hS.call hb; clear hb))
    exact st_post hS 6 23 rfl rfl rfl (by repeat (first | exact At.head | apply At.tail)) word_type rfl word_size (wf_size _) (fun hb => ⟨rfl, hb⟩)
set_option maxHeartbeats 8000000 in
set_option maxRecDepth 100000 in
theorem rmulmod_any (x y n : Nat) (hx : x < M256) (hy : y < M256) (hn : n < M256) (w : World) :
    Calls Try.prog 35 #[.agg (wcells x), .agg (wcells y), .agg (wcells n)] w fun e w' => e = .returned (.agg (wcells (restN (x * y) n))) ∧ Below w.heap.size w w' := by
  by_cases hy0 : n = 0
  · have HZ := Lib.hid (And.intro hn (decide_eq_true hy0))
    subst hy0
    rw [show restN (x * y) 0 = 0 from if_pos rfl]
    clear hx hy hn
    have hS := St.start w
    go_enter Try.func35, Try.ntmps35
    go_wp2_with (first | (have _t := b4; clear _t; refine st_new hS rfl 23 rfl word_zero ?_; clear hS; intro w1 b5 hS) | (have _t := b3; clear _t; refine st_box hS rfl _ _ rfl rfl ?_; clear hS; intro w1 b4 hS) | (have _t := b2; clear _t; refine st_box hS rfl _ _ rfl rfl ?_; clear hS; intro w1 b3 hS) | (refine st_box hS rfl _ _ rfl rfl ?_; clear hS; intro w1 b2 hS) | (refine st_load hS rfl 23 _ rfl rfl (by repeat (first | exact At.head | apply At.tail)) word_type rfl word_size (wf_size _) ?_) | (refine st_store hS rfl 23 _ _ rfl rfl rfl (by repeat (first | exact Upd.head | apply Upd.tail)) word_size (wf_size _) (wf_size _) (wf_one _) ?_; clear hS; intro w1 hS) | (refine st_eqd rfl _ _ _ rfl rfl word_lit_eq HZ.out.1 M256_pos HZ.out.2 ?_))
    exact st_post hS 6 23 rfl rfl rfl (by repeat (first | exact At.head | apply At.tail)) word_type rfl word_size (wf_size _) (fun hb => ⟨rfl, hb⟩)
  · have HZ := Lib.hid (And.intro hn (decide_eq_false hy0))
    have HX := Lib.hid (And.intro hx (And.intro hy (And.intro hn (And.intro (Nat.pos_of_ne_zero hy0) (prod32 (m := 32) rfl hx hy)))))
    clear hx hy hn hy0
    have hS := St.start w
    go_enter Try.func35, Try.ntmps35
    go_wp2_with (first | (have _t := b4; clear _t; refine st_new hS rfl 23 rfl word_zero ?_; clear hS; intro w1 b5 hS) | (have _t := b3; clear _t; refine st_box hS rfl _ _ rfl rfl ?_; clear hS; intro w1 b4 hS) | (have _t := b2; clear _t; refine st_box hS rfl _ _ rfl rfl ?_; clear hS; intro w1 b3 hS) | (refine st_box hS rfl _ _ rfl rfl ?_; clear hS; intro w1 b2 hS) | (refine st_load hS rfl 23 _ rfl rfl (by repeat (first | exact At.head | apply At.tail)) word_type rfl word_size (wf_size _) ?_) | (refine st_store hS rfl 23 _ _ rfl rfl rfl (by repeat (first | exact Upd.head | apply Upd.tail)) word_size (wf_size _) (wf_size _) (wf_one _) ?_; clear hS; intro w1 hS) | (refine st_eqd rfl _ _ _ rfl rfl word_lit_eq HZ.out.1 M256_pos HZ.out.2 ?_))
    refine wp_region_held_drew (S := fun w' => St w w' _) (by kernel_rfl) hS.drew fun _ => ?_
    replace hS := hS.drew
    simp only [List.size_toArray, List.length_cons, List.length_nil, Nat.reduceAdd, Array.replicate_succ, Array.replicate_zero, List.push_toArray, List.nil_append, List.cons_append]
    refine wpAnyH_take (i := 0) rfl (by kernel_rfl) (by kernel_rfl) (by kernel_rfl) (fun _ _ _ h => h) (y_load rfl 23 _ rfl rfl (by repeat (first | exact At.head | apply At.tail)) word_type rfl word_size (wf_size _)) hS ?_; simp only [Act.put, List.getElem_toArray, List.getElem_cons_succ, List.getElem_cons_zero, List.setIfInBounds_toArray, List.set_cons_zero, List.set_cons_succ]
    refine wpAnyH_take (i := 2) rfl (by kernel_rfl) (by kernel_rfl) (by kernel_rfl) (fun _ _ _ h => h) (y_load rfl 23 _ rfl rfl (by repeat (first | exact At.head | apply At.tail)) word_type rfl word_size (wf_size _)) hS ?_; simp only [Act.put, List.getElem_toArray, List.getElem_cons_succ, List.getElem_cons_zero, List.setIfInBounds_toArray, List.set_cons_zero, List.set_cons_succ]
    refine wpAnyH_take (i := 5) rfl (by kernel_rfl) (by kernel_rfl) (by kernel_rfl) (fun _ _ _ h => h) (y_load rfl 23 _ rfl rfl (by repeat (first | exact At.head | apply At.tail)) word_type rfl word_size (wf_size _)) hS ?_; simp only [Act.put, List.getElem_toArray, List.getElem_cons_succ, List.getElem_cons_zero, List.setIfInBounds_toArray, List.set_cons_zero, List.set_cons_succ]
    refine wpAnyH_all (rs := [1]) (by kernel_rfl) (by simp) ?_
    intro i hi
    obtain rfl : i = 1 := by simpa using hi
    refine o_callR rfl rfl (by kernel_rfl) (limbs_any x _) ?_
    rintro e w1 ⟨bA, rfl, hle, hB, hb⟩
    replace hS := hS.callNew hb hB hle
    clear hb hB hle
    refine ⟨_, rfl, hS.drop, ?_⟩
    simp only [Act.put, List.getElem_toArray, List.getElem_cons_succ, List.getElem_cons_zero, List.setIfInBounds_toArray, List.set_cons_zero, List.set_cons_succ]
    refine wpAnyH_all (rs := [3]) (by kernel_rfl) (by simp) ?_
    intro i hi
    obtain rfl : i = 3 := by simpa using hi
    refine o_callR rfl rfl (by kernel_rfl) (limbs_any y _) ?_
    rintro e w1 ⟨bB, rfl, hle, hB, hb⟩
    replace hS := hS.callNew hb hB hle
    clear hb hB hle
    refine ⟨_, rfl, hS.drop.drop, ?_⟩
    simp only [Act.put, List.getElem_toArray, List.getElem_cons_succ, List.getElem_cons_zero, List.setIfInBounds_toArray, List.set_cons_zero, List.set_cons_succ]
    refine wpAnyH_all (rs := [4]) (by kernel_rfl) (by simp) ?_
    intro i hi
    obtain rfl : i = 4 := by simpa using hi
    refine o_callR rfl rfl (by kernel_rfl) (mul_rows bA bB 16 16 x y _ (hS.get (.tail .head)).row_ (hS.get .head).row_ HX.out.1 HX.out.2.1) ?_
    rintro e w1 ⟨bC, rfl, hle, hB, hb⟩
    replace hS := hS.callNew hb hB hle
    clear hb hB hle
    refine ⟨_, rfl, hS.drop.drop.drop, ?_⟩
    simp only [Act.put, List.getElem_toArray, List.getElem_cons_succ, List.getElem_cons_zero, List.setIfInBounds_toArray, List.set_cons_zero, List.set_cons_succ]
    refine wpAnyH_all (rs := [6]) (by kernel_rfl) (by simp) ?_
    intro i hi
    obtain rfl : i = 6 := by simpa using hi
    refine o_callR rfl rfl (by kernel_rfl) (limbs_any n _) ?_
    rintro e w1 ⟨bN, rfl, hle, hB, hb⟩
    replace hS := hS.callNew hb hB hle
    clear hb hB hle
    refine ⟨_, rfl, hS.drop.drop.drop.drop, ?_⟩
    simp only [Act.put, List.getElem_toArray, List.getElem_cons_succ, List.getElem_cons_zero, List.setIfInBounds_toArray, List.set_cons_zero, List.set_cons_succ]
    refine wpAnyH_all (rs := [7]) (by kernel_rfl) (by simp) ?_
    intro i hi
    obtain rfl : i = 7 := by simpa using hi
    refine o_callR rfl rfl (by kernel_rfl) (divide_rows 32 bC bN 32 16 (x * y) n _ (by omega) (by omega) (hS.get (.tail .head)).row_ (hS.get .head).row_ HX.out.2.2.2.2 HX.out.2.2.1 HX.out.2.2.2.1) ?_
    rintro e w1 ⟨bq, br, rfl, hD⟩
    replace hS := hS.join2 hD
    clear hD
    refine ⟨_, rfl, hS.drop.drop.drop.drop.drop.drop, ?_⟩
    simp only [Act.put, List.getElem_toArray, List.getElem_cons_succ, List.getElem_cons_zero, List.setIfInBounds_toArray, List.set_cons_zero, List.set_cons_succ]
    refine wpAnyH_take (i := 8) rfl (by kernel_rfl) (by kernel_rfl) (by kernel_rfl) (fun _ _ _ h => h) (y_move rfl _ (.inl rfl) rfl) hS.drop.drop.drop.drop.drop.drop ?_; simp only [Act.put, List.getElem_toArray, List.getElem_cons_succ, List.getElem_cons_zero, List.setIfInBounds_toArray, List.set_cons_zero, List.set_cons_succ]
    refine wpAnyH_take (i := 9) rfl (by kernel_rfl) (by kernel_rfl) (by kernel_rfl) (fun _ _ _ h => h) (y_extract rfl _ 0 rfl rfl rfl) hS.drop.drop.drop.drop.drop.drop ?_; simp only [Act.put, List.getElem_toArray, List.getElem_cons_succ, List.getElem_cons_zero, List.setIfInBounds_toArray, List.set_cons_zero, List.set_cons_succ]
    refine wpAnyH_take (i := 10) rfl (by kernel_rfl) (by kernel_rfl) (by kernel_rfl) (fun _ _ _ h => h) (y_extract rfl _ 1 rfl rfl rfl) hS.drop.drop.drop.drop.drop.drop ?_; simp only [Act.put, List.getElem_toArray, List.getElem_cons_succ, List.getElem_cons_zero, List.setIfInBounds_toArray, List.set_cons_zero, List.set_cons_succ]
    refine wpAnyH_take (i := 11) rfl (by kernel_rfl) (by kernel_rfl) (by kernel_rfl) (fun _ _ _ h => h) (y_move rfl _ (.inr rfl) rfl) hS.drop.drop.drop.drop.drop.drop ?_; simp only [Act.put, List.getElem_toArray, List.getElem_cons_succ, List.getElem_cons_zero, List.setIfInBounds_toArray, List.set_cons_zero, List.set_cons_succ]
    refine wpAnyH_take (i := 12) rfl (by kernel_rfl) (by kernel_rfl) (by kernel_rfl) (fun _ _ _ h => h) (y_move rfl _ (.inr rfl) rfl) hS.drop.drop.drop.drop.drop.drop ?_; simp only [Act.put, List.getElem_toArray, List.getElem_cons_succ, List.getElem_cons_zero, List.setIfInBounds_toArray, List.set_cons_zero, List.set_cons_succ]
    refine wpAnyH_done (by kernel_rfl) ?_ _
    go_wp2_with (first | (refine st_store hS rfl 23 _ _ rfl rfl rfl (by repeat (first | exact Upd.head | apply Upd.tail)) word_size (wf_size _) (wf_size _) (wf_one _) ?_; clear hS; intro w1 hS) | (go_at_call 69; have hrow := (hS.get .head).row_; rw [show (x * y) % n = restN (x * y) n from (if_neg (Nat.ne_of_gt HX.out.2.2.2.1)).symm] at hrow; refine (rword_any 17 17 br (restN (x * y) n) _ (by omega) (by omega) hrow).mono ?_; rintro e w1 ⟨rfl, hb⟩; replace hS := hS.call hb; clear hb))
    exact st_post hS 6 23 rfl rfl rfl (by repeat (first | exact At.head | apply At.tail)) word_type rfl word_size (wf_size _) (fun hb => ⟨rfl, hb⟩)
end Go.Proofs.Ytcdjinjeogodfaa

/-! The law WordMods: for every three words the package's AddMod and MulMod tell what the document's own words tell. No condition. -/
namespace Go.Proofs.Ytcdjinjeogodfaa.ModsLaw
open Go.ChangeShapes Go.WideShapes Go.ChangeAt Go.RowKit
set_option linter.unusedVariables false

theorem same {x : Nat} (h : x < M256) : x < M256 ∧ x < M256 ∧ decide (x = x) = true := ⟨h, h, decide_eq_true rfl⟩
theorem restN_lt {x n : Nat} (hn : n < M256) : restN x n < M256 := by
  unfold restN; split
  · exact M256_pos
  · exact Nat.lt_trans (Nat.mod_lt _ (by omega)) hn
set_option maxHeartbeats 1000000 in
set_option maxRecDepth 100000 in
theorem walk (a b n : Nat) (ha : a < M256) (hb : b < M256) (hn : n < M256) (w : World) :
    Calls Try.prog 5 #[.agg (wcells a), .agg (wcells b), .agg (wcells n)] w fun e w' => e = .returned (.bool true) ∧ Below w.heap.size w w' := by
  have HL := Lib.hid (And.intro ha (And.intro hb hn))
  clear ha hb hn
  have hS := St.start w
  go_enter Try.func5, Try.ntmps5
  go_wp2_with (first | (refine st_box hS rfl _ _ rfl rfl ?_; clear hS; intro w1 b1 hS) | (go_at_call 17; refine (alive_any _).mono ?_; rintro e w1 ⟨rfl, hb⟩; replace hS := hS.call hb; clear hb))
  refine k_region (C := fun w' => St w w' _) (by kernel_rfl) (by kernel_rfl) hS.drew ?_
  repeat (first | (refine k_skip rfl rfl rfl rfl rfl ?_; try simp only [Act.put, List.setIfInBounds_toArray, List.set_cons_zero, List.set_cons_succ]) | (refine k_load rfl 23 _ rfl rfl (by repeat (first | exact At.head | apply At.tail)) word_type word_size (wf_size _) ?_; try simp only [Act.put, List.setIfInBounds_toArray, List.set_cons_zero, List.set_cons_succ]) | (refine k_words rfl _ _ _ rfl rfl rfl (by with_reducible first | exact same (restN_lt HL.out.2.2)) ?_; try simp only [Act.put, List.setIfInBounds_toArray, List.set_cons_zero, List.set_cons_succ]) | (refine k_boolm rfl _ rfl rfl ?_; try simp only [Act.put, List.setIfInBounds_toArray, List.set_cons_zero, List.set_cons_succ]) | (refine k_boola rfl _ rfl rfl ?_; try simp only [Act.put, List.setIfInBounds_toArray, List.set_cons_zero, List.set_cons_succ]) | (refine k_intm rfl _ rfl rfl ?_; try simp only [Act.put, List.setIfInBounds_toArray, List.set_cons_zero, List.set_cons_succ]) | (refine k_inta rfl _ rfl rfl ?_; try simp only [Act.put, List.setIfInBounds_toArray, List.set_cons_zero, List.set_cons_succ]) | (refine k_pickT rfl _ _ _ rfl rfl rfl ?_; try simp only [Act.put, List.setIfInBounds_toArray, List.set_cons_zero, List.set_cons_succ]) | (refine k_pickF rfl _ _ _ rfl rfl rfl ?_; try simp only [Act.put, List.setIfInBounds_toArray, List.set_cons_zero, List.set_cons_succ]) | (refine k_bools rfl _ _ _ rfl rfl rfl ?_; try simp only [Act.put, List.setIfInBounds_toArray, List.set_cons_zero, List.set_cons_succ]) | (refine k_call_www rfl rfl rfl rfl rfl (by with_reducible first | exact ⟨Try.call32, addmod_any _ _ _ HL.out.1 HL.out.2.1 HL.out.2.2⟩ | exact ⟨Try.call33, raddmod_any _ _ _ HL.out.1 HL.out.2.1 HL.out.2.2⟩ | exact ⟨Try.call34, mulmod_any _ _ _ HL.out.1 HL.out.2.1 HL.out.2.2⟩ | exact ⟨Try.call35, rmulmod_any _ _ _ HL.out.1 HL.out.2.1 HL.out.2.2⟩) ?_; try simp only [Act.put, List.setIfInBounds_toArray, List.set_cons_zero, List.set_cons_succ]))
  refine k_end ?_
  clear hS
  intro w1 hS
  go_wp2_with (fail)
  go_ret
  exact ⟨rfl, hS.below⟩
end Go.Proofs.Ytcdjinjeogodfaa.ModsLaw

/-! The law WordMods, as it is stated: for every three words: their sum and product modulo the third, as the document's own words tell. No condition. -/
namespace Go.Proofs.Ytcdjinjeogodfaa.ModsLaw
open Go.ChangeShapes Go.WideShapes Go.ChangeAt Go.RowKit
set_option linter.unusedVariables false
theorem own : ownKnob Try.prog.godebug = none := by kernel_rfl
set_option maxRecDepth 100000 in
theorem lifted (os : Os) (started : os.Started) (H : Type) (enc : TypeId × Value → H) :
    ReturnsInHanded {} Try.checked os 5 .any (Rows.wordModsSpec.pre6 enc Try.prog Try.f5 Rows.wordModsRow.domain false) (Rows.wordModsSpec.post enc Try.prog Try.f5 false true false false) := by
  refine returnsInHanded_of_change (C := Try.checked) own started (by kernel_rfl) Try.func5
    (ChangeSpec.witness6 (enc := enc) (C := Try.checked) false ⟨#[], #[(.agg #[.int .u8 0, .int .u8 0, .int .u8 0, .int .u8 0, .int .u8 0, .int .u8 0, .int .u8 0, .int .u8 0, .int .u8 0, .int .u8 0, .int .u8 0, .int .u8 0, .int .u8 0, .int .u8 0, .int .u8 0, .int .u8 0, .int .u8 0, .int .u8 0, .int .u8 0, .int .u8 0, .int .u8 0, .int .u8 0, .int .u8 0, .int .u8 0, .int .u8 0, .int .u8 0, .int .u8 0, .int .u8 0, .int .u8 0, .int .u8 0, .int .u8 0, .int .u8 0]), (.agg #[.int .u8 0, .int .u8 0, .int .u8 0, .int .u8 0, .int .u8 0, .int .u8 0, .int .u8 0, .int .u8 0, .int .u8 0, .int .u8 0, .int .u8 0, .int .u8 0, .int .u8 0, .int .u8 0, .int .u8 0, .int .u8 0, .int .u8 0, .int .u8 0, .int .u8 0, .int .u8 0, .int .u8 0, .int .u8 0, .int .u8 0, .int .u8 0, .int .u8 0, .int .u8 0, .int .u8 0, .int .u8 0, .int .u8 0, .int .u8 0, .int .u8 0, .int .u8 0]), (.agg #[.int .u8 0, .int .u8 0, .int .u8 0, .int .u8 0, .int .u8 0, .int .u8 0, .int .u8 0, .int .u8 0, .int .u8 0, .int .u8 0, .int .u8 0, .int .u8 0, .int .u8 0, .int .u8 0, .int .u8 0, .int .u8 0, .int .u8 0, .int .u8 0, .int .u8 0, .int .u8 0, .int .u8 0, .int .u8 0, .int .u8 0, .int .u8 0, .int .u8 0, .int .u8 0, .int .u8 0, .int .u8 0, .int .u8 0, .int .u8 0, .int .u8 0, .int .u8 0])], []⟩ 8 (by kernel_rfl) (by kernel_rfl) (by kernel_rfl) (by kernel_rfl)) ?_
  intro W base args ds gs before hval0 hW hcnd _
  have hval : ∀ (j : Nat) t v, Try.f5.params[j]? = some t → args[j]? = some v → Value.okWide Try.prog W .any base t v := hval0
  have hW' := hW
  obtain ⟨p, q, hA0, hV, rfl, hfz, hnd⟩ := hW
  have hA : DataW.TrodAll enc Try.prog W 0 (fun _ => true) true Try.f5.params.toList args.toList ds p := hA0
  rw [Try.params5] at hA hval
  obtain ⟨v0, vs0, d0, ds0, p0, q0, hargs, rfl, rfl, h0, r0⟩ := trodAll_cons hA
  obtain ⟨v1, vs1, d1, ds1, p1, q1, rfl, rfl, rfl, h1, r1⟩ := trodAll_cons r0
  obtain ⟨v2, vs2, d2, ds2, p2, q2, rfl, rfl, rfl, h2, r2⟩ := trodAll_cons r1
  obtain ⟨rfl, rfl, rfl⟩ := trodAll_nil r2
  obtain rfl : args = #[v0, v1, v2] := by cases args; simp_all
  obtain ⟨rfl, rfl⟩ := trodVars_none hV
  obtain ⟨a0, l0, rfl, rfl, s0⟩ := open_word (hval 0 23 v0 rfl rfl) h0
  obtain ⟨a1, l1, rfl, rfl, s1⟩ := open_word (hval 1 23 v1 rfl rfl) h1
  obtain ⟨a2, l2, rfl, rfl, s2⟩ := open_word (hval 2 23 v2 rfl rfl) h2
  clear hA0 hval0
  simp only [List.append_nil] at hW'
  refine (walk a0 a1 a2 l0 l1 l2 W).mono fun e W' ⟨he, hg⟩ => ?_
  subst he
  exact ⟨_, rfl, _, _, _, [], _, [], hW', trodAll_mk1 (shut_bool Try.underlying4 _), (trodAll_cons_mk (s0 _ _ _ _) (trodAll_cons_mk (s1 _ _ _ _) (trodAll_cons_mk (s2 _ _ _ _) trodAll_mk0))), rfl, hg.frame _, fun h => by cases h⟩

theorem over : Rows.wordModsRow.holds Try.pinned (OpenSpec.ofChange Rows.wordModsSpec) :=
  OpenClaim.holds_of_wide 5 Try.f5 rfl rfl rfl rfl rfl rfl rfl ⟨rfl, rfl, rfl, rfl, rfl⟩ rfl rfl rfl rfl rfl (by kernel_rfl) Try.func5 (by kernel_rfl)
    (of_decide_eq_true (by kernel_rfl)) (by unfold Func.isWrapper; first | (rw [if_pos (by decide +kernel)]; kernel_rfl) | (rw [if_neg (by decide +kernel)]; exact ⟨rfl, rfl⟩))
    (fun os started H enc _ => lifted os started H enc)

/-- THE STATEMENT. -/
theorem wordMods_holds : Rows.WordModsSaid := over
end Go.Proofs.Ytcdjinjeogodfaa.ModsLaw
