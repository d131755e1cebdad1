/- The document's sums, differences and products of words. -/
import Derived.Test.YtcdjinjeogodfaaS3
import Derived.Test.YtcdjinjeogodfaaPA
import Derived.Test.YtcdjinjeogodfaaS7
import Derived.Test.YtcdjinjeogodfaaS8
import Derived.Test.YtcdjinjeogodfaaC5
import Derived.StillTailTactics
namespace Go.Proofs.Ytcdjinjeogodfaa
open Go.RowKit

set_option maxHeartbeats 1000000 in
set_option maxRecDepth 100000 in
theorem rAdd_any (x y : Nat) (hx : x < M256) (hy : y < M256) (w : World) :
    Calls Try.prog 19 #[.agg (wcells x), .agg (wcells y)] w fun e w' => e = .returned (.agg (wcells (wadd x y))) ∧ Below w.heap.size w w' := by
  have HL := Lib.hid (And.intro hx hy)
  clear hx hy
  have hS := St.start w
  go_enter Try.func19, Try.ntmps19
  go_wp2_with (first | (refine st_box hS rfl _ _ rfl rfl ?_; clear hS; intro w1 b1 hS) | (refine st_new hS rfl 23 rfl word_zero ?_; clear hS; intro w1 b1 hS))
  refine wp_region_held_drew (S := fun w' => St w w' _) (by kernel_rfl) hS.drop.drew fun _ => ?_
  replace hS := hS.drew
  simp only [List.size_toArray, List.length_cons, List.length_nil, Nat.reduceAdd, Array.replicate_succ, Array.replicate_zero, List.push_toArray, List.nil_append, List.cons_append]
  refine wpAnyH_take (i := 0) rfl (by kernel_rfl) (by kernel_rfl) (by kernel_rfl) (fun _ _ _ h => h) (y_load rfl 23 _ rfl rfl (by repeat (first | exact At.head | apply At.tail)) word_type rfl word_size (wf_size _)) hS.drop ?_; simp only [Act.put, List.getElem_toArray, List.getElem_cons_succ, List.getElem_cons_zero, List.setIfInBounds_toArray, List.set_cons_zero, List.set_cons_succ]
  refine wpAnyH_take (i := 2) rfl (by kernel_rfl) (by kernel_rfl) (by kernel_rfl) (fun _ _ _ h => h) (y_load rfl 23 _ rfl rfl (by repeat (first | exact At.head | apply At.tail)) word_type rfl word_size (wf_size _)) hS.drop ?_; simp only [Act.put, List.getElem_toArray, List.getElem_cons_succ, List.getElem_cons_zero, List.setIfInBounds_toArray, List.set_cons_zero, List.set_cons_succ]
  refine wpAnyH_all (rs := [1]) (by kernel_rfl) (by simp) ?_
  intro i hi
  obtain rfl : i = 1 := by simpa using hi
  refine o_callR rfl rfl (by kernel_rfl) (limbs_any x _) ?_
  rintro e w1 ⟨bA, rfl, hle, hB, hb⟩
  replace hS := hS.callNew hb hB hle
  clear hb hB hle
  refine ⟨_, rfl, hS.drop.drop, ?_⟩
  simp only [Act.put, List.getElem_toArray, List.getElem_cons_succ, List.getElem_cons_zero, List.setIfInBounds_toArray, List.set_cons_zero, List.set_cons_succ]
  refine wpAnyH_all (rs := [3]) (by kernel_rfl) (by simp) ?_
  intro i hi
  obtain rfl : i = 3 := by simpa using hi
  refine o_callR rfl rfl (by kernel_rfl) (limbs_any y _) ?_
  rintro e w1 ⟨bB, rfl, hle, hB, hb⟩
  replace hS := hS.callNew hb hB hle
  clear hb hB hle
  refine ⟨_, rfl, hS.drop.drop.drop, ?_⟩
  simp only [Act.put, List.getElem_toArray, List.getElem_cons_succ, List.getElem_cons_zero, List.setIfInBounds_toArray, List.set_cons_zero, List.set_cons_succ]
  refine wpAnyH_all (rs := [4]) (by kernel_rfl) (by simp) ?_
  intro i hi
  obtain rfl : i = 4 := by simpa using hi
  refine o_callR rfl rfl (by kernel_rfl) (add_rows bA bB 16 16 x y _ (hS.get (.tail .head)).row_ (hS.get .head).row_ HL.out.1 HL.out.2) ?_
  rintro e w1 ⟨bC, cC, rfl, hle, hrow, hb⟩
  replace hS := hS.call hb
  clear hb hle
  refine ⟨_, rfl, hS.drop.drop.drop, ?_⟩
  simp only [Act.put, List.getElem_toArray, List.getElem_cons_succ, List.getElem_cons_zero, List.setIfInBounds_toArray, List.set_cons_zero, List.set_cons_succ]
  refine wpAnyH_all (rs := [5]) (by kernel_rfl) (by simp) ?_
  intro i hi
  obtain rfl : i = 5 := by simpa using hi
  refine o_callR rfl rfl (by kernel_rfl) (rword_any 17 cC bC (x + y) _ (by omega) (by omega) hrow) ?_
  rintro e w1 ⟨rfl, hb⟩
  replace hS := hS.call hb
  clear hb hrow
  refine ⟨_, rfl, hS.drop.drop.drop, ?_⟩
  simp only [Act.put, List.getElem_toArray, List.getElem_cons_succ, List.getElem_cons_zero, List.setIfInBounds_toArray, List.set_cons_zero, List.set_cons_succ]
  refine wpAnyH_all (rs := [6]) (by kernel_rfl) (by simp) ?_
  intro i hi
  obtain rfl : i = 6 := by simpa using hi
  refine o_store (c' := wcells (x + y)) rfl rfl hS 23 _ _ rfl rfl rfl (by repeat (first | exact Upd.head | apply Upd.tail)) word_size (wf_size _) (wf_size _) (wf_one _) fun w1 hS => ⟨hS.drop.drop.drop, ?_⟩
  simp only [Act.put, List.getElem_toArray, List.getElem_cons_succ, List.getElem_cons_zero, List.setIfInBounds_toArray, List.set_cons_zero, List.set_cons_succ]
  refine wpAnyH_done (by kernel_rfl) ?_ _
  go_wp2
  rw [show wcells (wadd x y) = wcells (x + y) from wcells_mod _]
  exact st_post hS 4 23 rfl rfl rfl (by repeat (first | exact At.head | apply At.tail)) word_type rfl word_size (wf_size _) (fun hb => ⟨rfl, hb⟩)
set_option maxHeartbeats 1000000 in
set_option maxRecDepth 100000 in
theorem rSub_any (x y : Nat) (hx : x < M256) (hy : y < M256) (w : World) :
    Calls Try.prog 21 #[.agg (wcells x), .agg (wcells y)] w fun e w' => e = .returned (.agg (wcells (wsub x y))) ∧ Below w.heap.size w w' := by
  have HL := Lib.hid (And.intro hx hy)
  clear hx hy
  have hS := St.start w
  go_enter Try.func21, Try.ntmps21
  go_wp2_with (first | (refine st_box hS rfl _ _ rfl rfl ?_; clear hS; intro w1 b1 hS) | (refine st_new hS rfl 23 rfl word_zero ?_; clear hS; intro w1 b1 hS))
  refine wp_region_held_drew (S := fun w' => St w w' _) (by kernel_rfl) hS.drop.drew fun _ => ?_
  replace hS := hS.drew
  simp only [List.size_toArray, List.length_cons, List.length_nil, Nat.reduceAdd, Array.replicate_succ, Array.replicate_zero, List.push_toArray, List.nil_append, List.cons_append]
  refine wpAnyH_take (i := 0) rfl (by kernel_rfl) (by kernel_rfl) (by kernel_rfl) (fun _ _ _ h => h) (y_load rfl 23 _ rfl rfl (by repeat (first | exact At.head | apply At.tail)) word_type rfl word_size (wf_size _)) hS.drop ?_; simp only [Act.put, List.getElem_toArray, List.getElem_cons_succ, List.getElem_cons_zero, List.setIfInBounds_toArray, List.set_cons_zero, List.set_cons_succ]
  refine wpAnyH_take (i := 2) rfl (by kernel_rfl) (by kernel_rfl) (by kernel_rfl) (fun _ _ _ h => h) (y_load rfl 23 _ rfl rfl (by repeat (first | exact At.head | apply At.tail)) word_type rfl word_size (wf_size _)) hS.drop ?_; simp only [Act.put, List.getElem_toArray, List.getElem_cons_succ, List.getElem_cons_zero, List.setIfInBounds_toArray, List.set_cons_zero, List.set_cons_succ]
  refine wpAnyH_all (rs := [1]) (by kernel_rfl) (by simp) ?_
  intro i hi
  obtain rfl : i = 1 := by simpa using hi
  refine o_callR rfl rfl (by kernel_rfl) (limbs_any x _) ?_
  rintro e w1 ⟨bA, rfl, hle, hB, hb⟩
  replace hS := hS.callNew hb hB hle
  clear hb hB hle
  refine ⟨_, rfl, hS.drop.drop, ?_⟩
  simp only [Act.put, List.getElem_toArray, List.getElem_cons_succ, List.getElem_cons_zero, List.setIfInBounds_toArray, List.set_cons_zero, List.set_cons_succ]
  refine wpAnyH_all (rs := [3]) (by kernel_rfl) (by simp) ?_
  intro i hi
  obtain rfl : i = 3 := by simpa using hi
  refine o_callR rfl rfl (by kernel_rfl) (limbs_any y _) ?_
  rintro e w1 ⟨bB, rfl, hle, hB, hb⟩
  replace hS := hS.callNew hb hB hle
  clear hb hB hle
  refine ⟨_, rfl, hS.drop.drop.drop, ?_⟩
  simp only [Act.put, List.getElem_toArray, List.getElem_cons_succ, List.getElem_cons_zero, List.setIfInBounds_toArray, List.set_cons_zero, List.set_cons_succ]
  refine wpAnyH_all (rs := [4]) (by kernel_rfl) (by simp) ?_
  intro i hi
  obtain rfl : i = 4 := by simpa using hi
  refine o_callR rfl rfl (by kernel_rfl) (sub_rows 16 16 bA bB 16 16 x y (wsub x y) _ (by omega) (by omega) (hS.get (.tail .head)).row_ (hS.get .head).row_ HL.out.2 (wsub_spec HL.out.2)) ?_
  rintro e w1 ⟨bC, rfl, hle, hB, hb⟩
  replace hS := hS.callNew hb hB hle
  clear hb hB hle
  refine ⟨_, rfl, hS.drop.drop.drop.drop, ?_⟩
  simp only [Act.put, List.getElem_toArray, List.getElem_cons_succ, List.getElem_cons_zero, List.setIfInBounds_toArray, List.set_cons_zero, List.set_cons_succ]
  refine wpAnyH_all (rs := [5]) (by kernel_rfl) (by simp) ?_
  intro i hi
  obtain rfl : i = 5 := by simpa using hi
  refine o_callR rfl rfl (by kernel_rfl) (rword_any 16 16 bC (wsub x y) _ (by omega) (by omega) (hS.get .head).row_) ?_
  rintro e w1 ⟨rfl, hb⟩
  replace hS := hS.call hb
  clear hb
  refine ⟨_, rfl, hS.drop.drop.drop.drop, ?_⟩
  simp only [Act.put, List.getElem_toArray, List.getElem_cons_succ, List.getElem_cons_zero, List.setIfInBounds_toArray, List.set_cons_zero, List.set_cons_succ]
  refine wpAnyH_all (rs := [6]) (by kernel_rfl) (by simp) ?_
  intro i hi
  obtain rfl : i = 6 := by simpa using hi
  refine o_store (c' := wcells (wsub x y)) rfl rfl hS 23 _ _ rfl rfl rfl (by repeat (first | exact Upd.head | apply Upd.tail)) word_size (wf_size _) (wf_size _) (wf_one _) fun w1 hS => ⟨hS.drop.drop.drop.drop, ?_⟩
  simp only [Act.put, List.getElem_toArray, List.getElem_cons_succ, List.getElem_cons_zero, List.setIfInBounds_toArray, List.set_cons_zero, List.set_cons_succ]
  refine wpAnyH_done (by kernel_rfl) ?_ _
  go_wp2
  rw [show wcells (wsub x y) = wcells (wsub x y) from rfl]
  exact st_post hS 4 23 rfl rfl rfl (by repeat (first | exact At.head | apply At.tail)) word_type rfl word_size (wf_size _) (fun hb => ⟨rfl, hb⟩)
set_option maxHeartbeats 1000000 in
set_option maxRecDepth 100000 in
theorem rMul_any (x y : Nat) (hx : x < M256) (hy : y < M256) (w : World) :
    Calls Try.prog 23 #[.agg (wcells x), .agg (wcells y)] w fun e w' => e = .returned (.agg (wcells (wmul x y))) ∧ Below w.heap.size w w' := by
  have HL := Lib.hid (And.intro hx hy)
  clear hx hy
  have hS := St.start w
  go_enter Try.func23, Try.ntmps23
  go_wp2_with (first | (refine st_box hS rfl _ _ rfl rfl ?_; clear hS; intro w1 b1 hS) | (refine st_new hS rfl 23 rfl word_zero ?_; clear hS; intro w1 b1 hS))
  refine wp_region_held_drew (S := fun w' => St w w' _) (by kernel_rfl) hS.drop.drew fun _ => ?_
  replace hS := hS.drew
  simp only [List.size_toArray, List.length_cons, List.length_nil, Nat.reduceAdd, Array.replicate_succ, Array.replicate_zero, List.push_toArray, List.nil_append, List.cons_append]
  refine wpAnyH_take (i := 0) rfl (by kernel_rfl) (by kernel_rfl) (by kernel_rfl) (fun _ _ _ h => h) (y_load rfl 23 _ rfl rfl (by repeat (first | exact At.head | apply At.tail)) word_type rfl word_size (wf_size _)) hS.drop ?_; simp only [Act.put, List.getElem_toArray, List.getElem_cons_succ, List.getElem_cons_zero, List.setIfInBounds_toArray, List.set_cons_zero, List.set_cons_succ]
  refine wpAnyH_take (i := 2) rfl (by kernel_rfl) (by kernel_rfl) (by kernel_rfl) (fun _ _ _ h => h) (y_load rfl 23 _ rfl rfl (by repeat (first | exact At.head | apply At.tail)) word_type rfl word_size (wf_size _)) hS.drop ?_; simp only [Act.put, List.getElem_toArray, List.getElem_cons_succ, List.getElem_cons_zero, List.setIfInBounds_toArray, List.set_cons_zero, List.set_cons_succ]
  refine wpAnyH_all (rs := [1]) (by kernel_rfl) (by simp) ?_
  intro i hi
  obtain rfl : i = 1 := by simpa using hi
  refine o_callR rfl rfl (by kernel_rfl) (limbs_any x _) ?_
  rintro e w1 ⟨bA, rfl, hle, hB, hb⟩
  replace hS := hS.callNew hb hB hle
  clear hb hB hle
  refine ⟨_, rfl, hS.drop.drop, ?_⟩
  simp only [Act.put, List.getElem_toArray, List.getElem_cons_succ, List.getElem_cons_zero, List.setIfInBounds_toArray, List.set_cons_zero, List.set_cons_succ]
  refine wpAnyH_all (rs := [3]) (by kernel_rfl) (by simp) ?_
  intro i hi
  obtain rfl : i = 3 := by simpa using hi
  refine o_callR rfl rfl (by kernel_rfl) (limbs_any y _) ?_
  rintro e w1 ⟨bB, rfl, hle, hB, hb⟩
  replace hS := hS.callNew hb hB hle
  clear hb hB hle
  refine ⟨_, rfl, hS.drop.drop.drop, ?_⟩
  simp only [Act.put, List.getElem_toArray, List.getElem_cons_succ, List.getElem_cons_zero, List.setIfInBounds_toArray, List.set_cons_zero, List.set_cons_succ]
  refine wpAnyH_all (rs := [4]) (by kernel_rfl) (by simp) ?_
  intro i hi
  obtain rfl : i = 4 := by simpa using hi
  refine o_callR rfl rfl (by kernel_rfl) (mul_rows bA bB 16 16 x y _ (hS.get (.tail .head)).row_ (hS.get .head).row_ HL.out.1 HL.out.2) ?_
  rintro e w1 ⟨bC, rfl, hle, hB, hb⟩
  replace hS := hS.callNew hb hB hle
  clear hb hB hle
  refine ⟨_, rfl, hS.drop.drop.drop.drop, ?_⟩
  simp only [Act.put, List.getElem_toArray, List.getElem_cons_succ, List.getElem_cons_zero, List.setIfInBounds_toArray, List.set_cons_zero, List.set_cons_succ]
  refine wpAnyH_all (rs := [5]) (by kernel_rfl) (by simp) ?_
  intro i hi
  obtain rfl : i = 5 := by simpa using hi
  refine o_callR rfl rfl (by kernel_rfl) (rword_any 32 32 bC (x * y) _ (by omega) (by omega) (hS.get .head).row_) ?_
  rintro e w1 ⟨rfl, hb⟩
  replace hS := hS.call hb
  clear hb
  refine ⟨_, rfl, hS.drop.drop.drop.drop, ?_⟩
  simp only [Act.put, List.getElem_toArray, List.getElem_cons_succ, List.getElem_cons_zero, List.setIfInBounds_toArray, List.set_cons_zero, List.set_cons_succ]
  refine wpAnyH_all (rs := [6]) (by kernel_rfl) (by simp) ?_
  intro i hi
  obtain rfl : i = 6 := by simpa using hi
  refine o_store (c' := wcells (x * y)) rfl rfl hS 23 _ _ rfl rfl rfl (by repeat (first | exact Upd.head | apply Upd.tail)) word_size (wf_size _) (wf_size _) (wf_one _) fun w1 hS => ⟨hS.drop.drop.drop.drop, ?_⟩
  simp only [Act.put, List.getElem_toArray, List.getElem_cons_succ, List.getElem_cons_zero, List.setIfInBounds_toArray, List.set_cons_zero, List.set_cons_succ]
  refine wpAnyH_done (by kernel_rfl) ?_ _
  go_wp2
  rw [show wcells (wmul x y) = wcells (x * y) from wcells_mod _]
  exact st_post hS 4 23 rfl rfl rfl (by repeat (first | exact At.head | apply At.tail)) word_type rfl word_size (wf_size _) (fun hb => ⟨rfl, hb⟩)
end Go.Proofs.Ytcdjinjeogodfaa
