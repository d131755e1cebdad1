/- The document's orders of words: Cmp, SCmp. -/
import Derived.Test.YtcdjinjeogodfaaPA
import Derived.Test.YtcdjinjeogodfaaR5
import Derived.StillTailTactics
namespace Go.Proofs.Ytcdjinjeogodfaa
open Go.RowKit

theorem o_callR {P : Program} {ops : Array Oper} {i : Nat} {o : Oper} {a : Act} {w : World} {Q : Exit → Act → World → Prop} {K : Act → World → Prop} {f : FuncId} {args : Array Value} {R : Ending → World → Prop} (ho : ops[i]? = some o) (hw : Region.wanted o (yielded ops a.tmps) = true) (hr : (execOp a.eval o).run P w = .ok (.enter f args) w)
    (hc : Calls P f args w R) (h : ∀ e w', R e w' → ∃ v, e = .returned v ∧ K (a.put o.dst v) w') : wpOp P ops Q i K a w := by
  unfold wpOp
  simp only [ho, hw, if_true]
  refine .inl ?_
  unfold Oper.wp
  rw [hr]
  exact hc.mono fun e w' hR => by
    obtain ⟨v, rfl, hk⟩ := h e w' hR
    exact hk
theorem M256_16 : M256 = 2 ^ (16 * 16) := rfl
set_option maxHeartbeats 1000000 in
set_option maxRecDepth 100000 in
theorem rCmp_any (x y : Nat) (hx : x < M256) (hy : y < M256) (w : World) :
    Calls Try.prog 60 #[.agg (wcells x), .agg (wcells y)] w fun e w' => e = .returned (.int .i64 (cmpN x y)) ∧ Below w.heap.size w w' := by
  have HL := Lib.hid (And.intro hx hy)
  clear hx hy
  have hS := St.start w
  go_enter Try.func60, Try.ntmps60
  go_wp2_with (first | (refine st_box hS rfl _ _ rfl rfl ?_; clear hS; intro w1 b1 hS))
  refine wp_region_held_drew (S := fun w' => St w w' _) (by kernel_rfl) hS.drew fun _ => ?_
  replace hS := hS.drew
  simp only [List.size_toArray, List.length_cons, List.length_nil, Nat.reduceAdd, Array.replicate_succ, Array.replicate_zero, List.push_toArray, List.nil_append, List.cons_append]
  refine wpAnyH_take (i := 0) rfl (by kernel_rfl) (by kernel_rfl) (by kernel_rfl) (fun _ _ _ h => h) (y_load rfl 23 _ rfl rfl (by repeat (first | exact At.head | apply At.tail)) word_type rfl word_size (wf_size _)) hS ?_; simp only [Act.put, List.getElem_toArray, List.getElem_cons_succ, List.getElem_cons_zero, List.setIfInBounds_toArray, List.set_cons_zero, List.set_cons_succ]
  refine wpAnyH_take (i := 2) rfl (by kernel_rfl) (by kernel_rfl) (by kernel_rfl) (fun _ _ _ h => h) (y_load rfl 23 _ rfl rfl (by repeat (first | exact At.head | apply At.tail)) word_type rfl word_size (wf_size _)) hS ?_; simp only [Act.put, List.getElem_toArray, List.getElem_cons_succ, List.getElem_cons_zero, List.setIfInBounds_toArray, List.set_cons_zero, List.set_cons_succ]
  refine wpAnyH_all (rs := [1]) (by kernel_rfl) (by simp) ?_
  intro i hi
  obtain rfl : i = 1 := by simpa using hi
  refine o_callR rfl rfl (by kernel_rfl) (limbs_any x _) ?_
  rintro e w1 ⟨bA, rfl, hle, hB, hb⟩
  replace hS := hS.callNew hb hB hle
  clear hb hB hle
  refine ⟨_, rfl, hS.drop, ?_⟩
  simp only [Act.put, List.getElem_toArray, List.getElem_cons_succ, List.getElem_cons_zero, List.setIfInBounds_toArray, List.set_cons_zero, List.set_cons_succ]
  refine wpAnyH_all (rs := [3]) (by kernel_rfl) (by simp) ?_
  intro i hi
  obtain rfl : i = 3 := by simpa using hi
  refine o_callR rfl rfl (by kernel_rfl) (limbs_any y _) ?_
  rintro e w1 ⟨bB, rfl, hle, hB, hb⟩
  replace hS := hS.callNew hb hB hle
  clear hb hB hle
  refine ⟨_, rfl, hS.drop.drop, ?_⟩
  simp only [Act.put, List.getElem_toArray, List.getElem_cons_succ, List.getElem_cons_zero, List.setIfInBounds_toArray, List.set_cons_zero, List.set_cons_succ]
  refine wpAnyH_all (rs := [4]) (by kernel_rfl) (by simp) ?_
  intro i hi
  obtain rfl : i = 4 := by simpa using hi
  refine o_callR rfl rfl (by kernel_rfl) (cmp_any 16 16 bA bB 16 16 x y _ (by omega) (by omega) (by omega) (hS.get (.tail .head)).row_ (hS.get .head).row_ HL.out.1 HL.out.2) ?_
  rintro e w1 ⟨rfl, rfl⟩
  refine ⟨_, rfl, hS.drop.drop, ?_⟩
  simp only [Act.put, List.getElem_toArray, List.getElem_cons_succ, List.getElem_cons_zero, List.setIfInBounds_toArray, List.set_cons_zero, List.set_cons_succ]
  refine wpAnyH_take (i := 5) rfl (by kernel_rfl) (by kernel_rfl) (by kernel_rfl) (fun _ _ _ h => h) (y_move rfl _ (.inr rfl) rfl) hS.drop.drop ?_; simp only [Act.put, List.getElem_toArray, List.getElem_cons_succ, List.getElem_cons_zero, List.setIfInBounds_toArray, List.set_cons_zero, List.set_cons_succ]
  refine wpAnyH_done (by kernel_rfl) ?_ _
  go_wp2
  go_ret
  exact ⟨rfl, hS.below⟩
theorem flip_mixed {x y : Nat} (hx : 2 ^ 255 ≤ x) (hx2 : x < M256) (hy : y < 2 ^ 255) : cmpN (flipN x) (flipN y) = -1 ∧ cmpN (flipN y) (flipN x) = 1 := by
  rw [flip_hi hx hx2, flip_lo hy]
  have h := M256_half
  generalize 2 ^ 255 = H at *
  exact ⟨cmp_lt (by omega), cmp_gt (by omega)⟩
theorem flip_alike {x y : Nat} (hx : x < M256) (hy : y < M256) (h : decide (2 ^ 255 ≤ x) = decide (2 ^ 255 ≤ y)) : cmpN (flipN x) (flipN y) = cmpN x y := by
  by_cases h1 : 2 ^ 255 ≤ x
  · have h2 : 2 ^ 255 ≤ y := by rw [decide_eq_true h1] at h; exact of_decide_eq_true h.symm
    rw [flip_hi h1 hx, flip_hi h2 hy]
    generalize 2 ^ 255 = H at *
    unfold cmpN
    by_cases a : x < y
    · rw [if_pos a, if_pos (by omega)]
    · rw [if_neg a, if_neg (show ¬ x - H < y - H by omega)]
      by_cases b : y < x
      · rw [if_pos b, if_pos (by omega)]
      · rw [if_neg b, if_neg (by omega)]
  · have h2 : ¬ 2 ^ 255 ≤ y := by rw [decide_eq_false h1] at h; exact of_decide_eq_false h.symm
    rw [flip_lo (by omega), flip_lo (by omega)]
    generalize 2 ^ 255 = H at *
    unfold cmpN
    simp only [Nat.add_lt_add_iff_right]
set_option maxHeartbeats 1000000 in
set_option maxRecDepth 100000 in
theorem rSCmp_any (x y : Nat) (hx : x < M256) (hy : y < M256) (w : World) :
    Calls Try.prog 62 #[.agg (wcells x), .agg (wcells y)] w fun e w' => e = .returned (.int .i64 (cmpN (flipN x) (flipN y))) ∧ Below w.heap.size w w' := by
  have hA := rNeg_any x hx
  have hB := rNeg_any y hy
  have hC := rCmp_any x y hx hy
  by_cases h1 : 2 ^ 255 ≤ x
  · by_cases h2 : 2 ^ 255 ≤ y
    · rw [flip_alike hx hy (by rw [decide_eq_true h1, decide_eq_true h2])]
      rw [decide_eq_true h1] at hA
      rw [decide_eq_true h2] at hB
      have H := Lib.hid (And.intro hA (And.intro hB hC))
      clear hA hB hC h1 h2 hx hy
      have hS := St.start w
      go_enter Try.func62, Try.ntmps62
      go_wp2_with (first | (refine st_box hS rfl _ _ rfl rfl ?_; clear hS; intro w1 b1 hS) | (refine st_load hS rfl 23 _ rfl rfl (by repeat (first | exact At.head | apply At.tail)) word_type rfl word_size (wf_size _) ?_) | (go_at_call 84; with_reducible refine (H.out.1 _).mono ?_; rintro e w1 ⟨rfl, hb⟩; replace hS := hS.call hb; clear hb) | (go_at_call 84; with_reducible refine (H.out.2.1 _).mono ?_; rintro e w1 ⟨rfl, hb⟩; replace hS := hS.call hb; clear hb) | (go_at_call 60; with_reducible refine (H.out.2.2 _).mono ?_; rintro e w1 ⟨rfl, hb⟩; replace hS := hS.call hb; clear hb))
      go_ret
      exact ⟨rfl, hS.below⟩
    · rw [(flip_mixed h1 hx (by omega)).1]
      rw [decide_eq_true h1] at hA
      rw [decide_eq_false h2] at hB
      have H := Lib.hid (And.intro hA (And.intro hB hC))
      clear hA hB hC h1 h2 hx hy
      have hS := St.start w
      go_enter Try.func62, Try.ntmps62
      go_wp2_with (first | (refine st_box hS rfl _ _ rfl rfl ?_; clear hS; intro w1 b1 hS) | (refine st_load hS rfl 23 _ rfl rfl (by repeat (first | exact At.head | apply At.tail)) word_type rfl word_size (wf_size _) ?_) | (go_at_call 84; with_reducible refine (H.out.1 _).mono ?_; rintro e w1 ⟨rfl, hb⟩; replace hS := hS.call hb; clear hb) | (go_at_call 84; with_reducible refine (H.out.2.1 _).mono ?_; rintro e w1 ⟨rfl, hb⟩; replace hS := hS.call hb; clear hb) | (go_at_call 60; with_reducible refine (H.out.2.2 _).mono ?_; rintro e w1 ⟨rfl, hb⟩; replace hS := hS.call hb; clear hb))
      go_ret
      exact ⟨rfl, hS.below⟩
  · by_cases h2 : 2 ^ 255 ≤ y
    · rw [(flip_mixed h2 hy (by omega)).2]
      rw [decide_eq_false h1] at hA
      rw [decide_eq_true h2] at hB
      have H := Lib.hid (And.intro hA (And.intro hB hC))
      clear hA hB hC h1 h2 hx hy
      have hS := St.start w
      go_enter Try.func62, Try.ntmps62
      go_wp2_with (first | (refine st_box hS rfl _ _ rfl rfl ?_; clear hS; intro w1 b1 hS) | (refine st_load hS rfl 23 _ rfl rfl (by repeat (first | exact At.head | apply At.tail)) word_type rfl word_size (wf_size _) ?_) | (go_at_call 84; with_reducible refine (H.out.1 _).mono ?_; rintro e w1 ⟨rfl, hb⟩; replace hS := hS.call hb; clear hb) | (go_at_call 84; with_reducible refine (H.out.2.1 _).mono ?_; rintro e w1 ⟨rfl, hb⟩; replace hS := hS.call hb; clear hb) | (go_at_call 60; with_reducible refine (H.out.2.2 _).mono ?_; rintro e w1 ⟨rfl, hb⟩; replace hS := hS.call hb; clear hb))
      go_ret
      exact ⟨rfl, hS.below⟩
    · rw [flip_alike hx hy (by rw [decide_eq_false h1, decide_eq_false h2])]
      rw [decide_eq_false h1] at hA
      rw [decide_eq_false h2] at hB
      have H := Lib.hid (And.intro hA (And.intro hB hC))
      clear hA hB hC h1 h2 hx hy
      have hS := St.start w
      go_enter Try.func62, Try.ntmps62
      go_wp2_with (first | (refine st_box hS rfl _ _ rfl rfl ?_; clear hS; intro w1 b1 hS) | (refine st_load hS rfl 23 _ rfl rfl (by repeat (first | exact At.head | apply At.tail)) word_type rfl word_size (wf_size _) ?_) | (go_at_call 84; with_reducible refine (H.out.1 _).mono ?_; rintro e w1 ⟨rfl, hb⟩; replace hS := hS.call hb; clear hb) | (go_at_call 84; with_reducible refine (H.out.2.1 _).mono ?_; rintro e w1 ⟨rfl, hb⟩; replace hS := hS.call hb; clear hb) | (go_at_call 60; with_reducible refine (H.out.2.2 _).mono ?_; rintro e w1 ⟨rfl, hb⟩; replace hS := hS.call hb; clear hb))
      go_ret
      exact ⟨rfl, hS.below⟩
end Go.Proofs.Ytcdjinjeogodfaa
