/- The document: Add, Sub, Cmp of words. -/
import Derived.Test.YtklpcppdjcedpaaWS1
import Derived.Test.YtklpcppdjcedpaaWS2
import Derived.Test.YtklpcppdjcedpaaWS3
import Derived.StillTailTactics
namespace Go.Proofs.Ytklpcppdjcedpaa
open Go.RowKit
set_option linter.unusedVariables false
set_option linter.unusedSimpArgs false
set_option maxRecDepth 100000
theorem wcells_mod (x : Nat) : wcells (x % M256) = wcells x := dig_word x 1 (by omega)


set_option maxHeartbeats 1000000 in
set_option maxRecDepth 100000 in
theorem rAdd_any (x y : Nat) (hx : x < M256) (hy : y < M256) (w : World) :
    Calls Try.prog 29 #[.agg (wcells x), .agg (wcells y)] w fun e w' => e = .returned (.agg (wcells (wadd x y))) ∧ Tch [] w w' := by
  have HL := Lib.hid (And.intro hx hy)
  clear hx hy
  have hS := St.start w
  go_enter Try.func29, Try.ntmps29
  go_wp2_with (first | (refine st_box hS rfl _ _ rfl rfl ?_; clear hS; intro w1 b1 hS) | (refine st_new hS rfl 25 rfl word_zero' ?_; clear hS; intro w1 b1 hS))
  refine wp_region_held_drew (S := fun w' => St [] w w' _) (by kernel_rfl) hS.drop.drew fun _ => ?_
  replace hS := hS.drew
  simp only [List.size_toArray, List.length_cons, List.length_nil, Nat.reduceAdd, Array.replicate_succ, Array.replicate_zero, List.push_toArray, List.nil_append, List.cons_append]
  refine wpAnyH_take (i := 0) rfl (by kernel_rfl) (by kernel_rfl) (by kernel_rfl) (fun _ _ _ h => h) (y_load rfl 25 _ rfl rfl (by repeat (first | exact At.head | apply At.tail)) wordN_type rfl wordN_size (bc_size _ _)) hS.drop ?_; simp only [Act.put, List.getElem_toArray, List.getElem_cons_succ, List.getElem_cons_zero, List.setIfInBounds_toArray, List.set_cons_zero, List.set_cons_succ]
  refine wpAnyH_take (i := 2) rfl (by kernel_rfl) (by kernel_rfl) (by kernel_rfl) (fun _ _ _ h => h) (y_load rfl 25 _ rfl rfl (by repeat (first | exact At.head | apply At.tail)) wordN_type rfl wordN_size (bc_size _ _)) hS.drop ?_; simp only [Act.put, List.getElem_toArray, List.getElem_cons_succ, List.getElem_cons_zero, List.setIfInBounds_toArray, List.set_cons_zero, List.set_cons_succ]
  refine wpAnyH_all (rs := [1]) (by kernel_rfl) (by simp) ?_
  intro i hi
  obtain rfl : i = 1 := by simpa using hi
  refine o_callR rfl rfl (by kernel_rfl) (limbs_any x _) ?_
  rintro e w1 ⟨bA, rfl, hle, hB, hb⟩
  replace hS := hS.callNew hb hB hle
  clear hb hB hle
  refine ⟨_, rfl, hS.drop.drop, ?_⟩
  simp only [Act.put, List.getElem_toArray, List.getElem_cons_succ, List.getElem_cons_zero, List.setIfInBounds_toArray, List.set_cons_zero, List.set_cons_succ]
  refine wpAnyH_all (rs := [3]) (by kernel_rfl) (by simp) ?_
  intro i hi
  obtain rfl : i = 3 := by simpa using hi
  refine o_callR rfl rfl (by kernel_rfl) (limbs_any y _) ?_
  rintro e w1 ⟨bB, rfl, hle, hB, hb⟩
  replace hS := hS.callNew hb hB hle
  clear hb hB hle
  refine ⟨_, rfl, hS.drop.drop.drop, ?_⟩
  simp only [Act.put, List.getElem_toArray, List.getElem_cons_succ, List.getElem_cons_zero, List.setIfInBounds_toArray, List.set_cons_zero, List.set_cons_succ]
  refine wpAnyH_all (rs := [4]) (by kernel_rfl) (by simp) ?_
  intro i hi
  obtain rfl : i = 4 := by simpa using hi
  refine o_callR rfl rfl (by kernel_rfl) (add_rows bA bB 16 16 x y _ (hS.get (.tail .head)).row_ (hS.get .head).row_ HL.out.1 HL.out.2) ?_
  rintro e w1 ⟨bC, cC, rfl, hle, hrow, hb⟩
  replace hS := hS.call hb
  clear hb hle
  refine ⟨_, rfl, hS.drop.drop.drop, ?_⟩
  simp only [Act.put, List.getElem_toArray, List.getElem_cons_succ, List.getElem_cons_zero, List.setIfInBounds_toArray, List.set_cons_zero, List.set_cons_succ]
  refine wpAnyH_all (rs := [5]) (by kernel_rfl) (by simp) ?_
  intro i hi
  obtain rfl : i = 5 := by simpa using hi
  refine o_callR rfl rfl (by kernel_rfl) (rword_any 17 cC bC (x + y) _ (by omega) (by omega) hrow) ?_
  rintro e w1 ⟨rfl, hb⟩
  replace hS := hS.call hb
  clear hb hrow
  refine ⟨_, rfl, hS.drop.drop.drop, ?_⟩
  simp only [Act.put, List.getElem_toArray, List.getElem_cons_succ, List.getElem_cons_zero, List.setIfInBounds_toArray, List.set_cons_zero, List.set_cons_succ]
  refine wpAnyH_all (rs := [6]) (by kernel_rfl) (by simp) ?_
  intro i hi
  obtain rfl : i = 6 := by simpa using hi
  refine o_store (c' := wcells (x + y)) rfl rfl hS 25 _ _ rfl rfl rfl (by repeat (first | exact Upd.head | apply Upd.tail)) wordN_size (bc_size _ _) (bc_size _ _) (bc_one _ _) fun w1 hS => ⟨hS.drop.drop.drop, ?_⟩
  simp only [Act.put, List.getElem_toArray, List.getElem_cons_succ, List.getElem_cons_zero, List.setIfInBounds_toArray, List.set_cons_zero, List.set_cons_succ]
  refine wpAnyH_done (by kernel_rfl) ?_ _
  go_wp2
  rw [show wcells (wadd x y) = wcells (x + y) from wcells_mod _]
  exact st_post hS 4 25 rfl rfl rfl (by repeat (first | exact At.head | apply At.tail)) wordN_type rfl wordN_size (bc_size _ _) (fun hb => ⟨rfl, hb⟩)
set_option maxHeartbeats 1000000 in
set_option maxRecDepth 100000 in
theorem rSub_any (x y : Nat) (hx : x < M256) (hy : y < M256) (w : World) :
    Calls Try.prog 30 #[.agg (wcells x), .agg (wcells y)] w fun e w' => e = .returned (.agg (wcells (wsub x y))) ∧ Tch [] w w' := by
  have HL := Lib.hid (And.intro hx hy)
  clear hx hy
  have hS := St.start w
  go_enter Try.func30, Try.ntmps30
  go_wp2_with (first | (refine st_box hS rfl _ _ rfl rfl ?_; clear hS; intro w1 b1 hS) | (refine st_new hS rfl 25 rfl word_zero' ?_; clear hS; intro w1 b1 hS))
  refine wp_region_held_drew (S := fun w' => St [] w w' _) (by kernel_rfl) hS.drop.drew fun _ => ?_
  replace hS := hS.drew
  simp only [List.size_toArray, List.length_cons, List.length_nil, Nat.reduceAdd, Array.replicate_succ, Array.replicate_zero, List.push_toArray, List.nil_append, List.cons_append]
  refine wpAnyH_take (i := 0) rfl (by kernel_rfl) (by kernel_rfl) (by kernel_rfl) (fun _ _ _ h => h) (y_load rfl 25 _ rfl rfl (by repeat (first | exact At.head | apply At.tail)) wordN_type rfl wordN_size (bc_size _ _)) hS.drop ?_; simp only [Act.put, List.getElem_toArray, List.getElem_cons_succ, List.getElem_cons_zero, List.setIfInBounds_toArray, List.set_cons_zero, List.set_cons_succ]
  refine wpAnyH_take (i := 2) rfl (by kernel_rfl) (by kernel_rfl) (by kernel_rfl) (fun _ _ _ h => h) (y_load rfl 25 _ rfl rfl (by repeat (first | exact At.head | apply At.tail)) wordN_type rfl wordN_size (bc_size _ _)) hS.drop ?_; simp only [Act.put, List.getElem_toArray, List.getElem_cons_succ, List.getElem_cons_zero, List.setIfInBounds_toArray, List.set_cons_zero, List.set_cons_succ]
  refine wpAnyH_all (rs := [1]) (by kernel_rfl) (by simp) ?_
  intro i hi
  obtain rfl : i = 1 := by simpa using hi
  refine o_callR rfl rfl (by kernel_rfl) (limbs_any x _) ?_
  rintro e w1 ⟨bA, rfl, hle, hB, hb⟩
  replace hS := hS.callNew hb hB hle
  clear hb hB hle
  refine ⟨_, rfl, hS.drop.drop, ?_⟩
  simp only [Act.put, List.getElem_toArray, List.getElem_cons_succ, List.getElem_cons_zero, List.setIfInBounds_toArray, List.set_cons_zero, List.set_cons_succ]
  refine wpAnyH_all (rs := [3]) (by kernel_rfl) (by simp) ?_
  intro i hi
  obtain rfl : i = 3 := by simpa using hi
  refine o_callR rfl rfl (by kernel_rfl) (limbs_any y _) ?_
  rintro e w1 ⟨bB, rfl, hle, hB, hb⟩
  replace hS := hS.callNew hb hB hle
  clear hb hB hle
  refine ⟨_, rfl, hS.drop.drop.drop, ?_⟩
  simp only [Act.put, List.getElem_toArray, List.getElem_cons_succ, List.getElem_cons_zero, List.setIfInBounds_toArray, List.set_cons_zero, List.set_cons_succ]
  refine wpAnyH_all (rs := [4]) (by kernel_rfl) (by simp) ?_
  intro i hi
  obtain rfl : i = 4 := by simpa using hi
  refine o_callR rfl rfl (by kernel_rfl) (sub_rows 16 16 bA bB 16 16 x y (wsub x y) _ (by omega) (by omega) (hS.get (.tail .head)).row_ (hS.get .head).row_ HL.out.2 (wsub_spec HL.out.2)) ?_
  rintro e w1 ⟨bC, rfl, hle, hB, hb⟩
  replace hS := hS.callNew hb hB hle
  clear hb hB hle
  refine ⟨_, rfl, hS.drop.drop.drop.drop, ?_⟩
  simp only [Act.put, List.getElem_toArray, List.getElem_cons_succ, List.getElem_cons_zero, List.setIfInBounds_toArray, List.set_cons_zero, List.set_cons_succ]
  refine wpAnyH_all (rs := [5]) (by kernel_rfl) (by simp) ?_
  intro i hi
  obtain rfl : i = 5 := by simpa using hi
  refine o_callR rfl rfl (by kernel_rfl) (rword_any 16 16 bC (wsub x y) _ (by omega) (by omega) (hS.get .head).row_) ?_
  rintro e w1 ⟨rfl, hb⟩
  replace hS := hS.call hb
  clear hb
  refine ⟨_, rfl, hS.drop.drop.drop.drop, ?_⟩
  simp only [Act.put, List.getElem_toArray, List.getElem_cons_succ, List.getElem_cons_zero, List.setIfInBounds_toArray, List.set_cons_zero, List.set_cons_succ]
  refine wpAnyH_all (rs := [6]) (by kernel_rfl) (by simp) ?_
  intro i hi
  obtain rfl : i = 6 := by simpa using hi
  refine o_store (c' := wcells (wsub x y)) rfl rfl hS 25 _ _ rfl rfl rfl (by repeat (first | exact Upd.head | apply Upd.tail)) wordN_size (bc_size _ _) (bc_size _ _) (bc_one _ _) fun w1 hS => ⟨hS.drop.drop.drop.drop, ?_⟩
  simp only [Act.put, List.getElem_toArray, List.getElem_cons_succ, List.getElem_cons_zero, List.setIfInBounds_toArray, List.set_cons_zero, List.set_cons_succ]
  refine wpAnyH_done (by kernel_rfl) ?_ _
  go_wp2
  rw [show wcells (wsub x y) = wcells (wsub x y) from rfl]
  exact st_post hS 4 25 rfl rfl rfl (by repeat (first | exact At.head | apply At.tail)) wordN_type rfl wordN_size (bc_size _ _) (fun hb => ⟨rfl, hb⟩)
theorem M256_16 : M256 = 2 ^ (16 * 16) := rfl
set_option maxHeartbeats 1000000 in
set_option maxRecDepth 100000 in
theorem rCmp_any (x y : Nat) (hx : x < M256) (hy : y < M256) (w : World) :
    Calls Try.prog 28 #[.agg (wcells x), .agg (wcells y)] w fun e w' => e = .returned (.int .i64 (cmpN x y)) ∧ Tch [] w w' := by
  have HL := Lib.hid (And.intro hx hy)
  clear hx hy
  have hS := St.start w
  go_enter Try.func28, Try.ntmps28
  go_wp2_with (first | (refine st_box hS rfl _ _ rfl rfl ?_; clear hS; intro w1 b1 hS))
  refine wp_region_held_drew (S := fun w' => St [] w w' _) (by kernel_rfl) hS.drew fun _ => ?_
  replace hS := hS.drew
  simp only [List.size_toArray, List.length_cons, List.length_nil, Nat.reduceAdd, Array.replicate_succ, Array.replicate_zero, List.push_toArray, List.nil_append, List.cons_append]
  refine wpAnyH_take (i := 0) rfl (by kernel_rfl) (by kernel_rfl) (by kernel_rfl) (fun _ _ _ h => h) (y_load rfl 25 _ rfl rfl (by repeat (first | exact At.head | apply At.tail)) wordN_type rfl wordN_size (bc_size _ _)) hS ?_; simp only [Act.put, List.getElem_toArray, List.getElem_cons_succ, List.getElem_cons_zero, List.setIfInBounds_toArray, List.set_cons_zero, List.set_cons_succ]
  refine wpAnyH_take (i := 2) rfl (by kernel_rfl) (by kernel_rfl) (by kernel_rfl) (fun _ _ _ h => h) (y_load rfl 25 _ rfl rfl (by repeat (first | exact At.head | apply At.tail)) wordN_type rfl wordN_size (bc_size _ _)) hS ?_; simp only [Act.put, List.getElem_toArray, List.getElem_cons_succ, List.getElem_cons_zero, List.setIfInBounds_toArray, List.set_cons_zero, List.set_cons_succ]
  refine wpAnyH_all (rs := [1]) (by kernel_rfl) (by simp) ?_
  intro i hi
  obtain rfl : i = 1 := by simpa using hi
  refine o_callR rfl rfl (by kernel_rfl) (limbs_any x _) ?_
  rintro e w1 ⟨bA, rfl, hle, hB, hb⟩
  replace hS := hS.callNew hb hB hle
  clear hb hB hle
  refine ⟨_, rfl, hS.drop, ?_⟩
  simp only [Act.put, List.getElem_toArray, List.getElem_cons_succ, List.getElem_cons_zero, List.setIfInBounds_toArray, List.set_cons_zero, List.set_cons_succ]
  refine wpAnyH_all (rs := [3]) (by kernel_rfl) (by simp) ?_
  intro i hi
  obtain rfl : i = 3 := by simpa using hi
  refine o_callR rfl rfl (by kernel_rfl) (limbs_any y _) ?_
  rintro e w1 ⟨bB, rfl, hle, hB, hb⟩
  replace hS := hS.callNew hb hB hle
  clear hb hB hle
  refine ⟨_, rfl, hS.drop.drop, ?_⟩
  simp only [Act.put, List.getElem_toArray, List.getElem_cons_succ, List.getElem_cons_zero, List.setIfInBounds_toArray, List.set_cons_zero, List.set_cons_succ]
  refine wpAnyH_all (rs := [4]) (by kernel_rfl) (by simp) ?_
  intro i hi
  obtain rfl : i = 4 := by simpa using hi
  refine o_callR rfl rfl (by kernel_rfl) (cmp_any 16 16 bA bB 16 16 x y _ (by omega) (by omega) (by omega) (hS.get (.tail .head)).row_ (hS.get .head).row_ HL.out.1 HL.out.2) ?_
  rintro e w1 ⟨rfl, rfl⟩
  refine ⟨_, rfl, hS.drop.drop, ?_⟩
  simp only [Act.put, List.getElem_toArray, List.getElem_cons_succ, List.getElem_cons_zero, List.setIfInBounds_toArray, List.set_cons_zero, List.set_cons_succ]
  refine wpAnyH_take (i := 5) rfl (by kernel_rfl) (by kernel_rfl) (by kernel_rfl) (fun _ _ _ h => h) (y_move rfl _ (.inr rfl) rfl) hS.drop.drop ?_; simp only [Act.put, List.getElem_toArray, List.getElem_cons_succ, List.getElem_cons_zero, List.setIfInBounds_toArray, List.set_cons_zero, List.set_cons_succ]
  refine wpAnyH_done (by kernel_rfl) ?_ _
  go_wp2
  go_ret
  exact ⟨rfl, hS.frame⟩
end Go.Proofs.Ytklpcppdjcedpaa
