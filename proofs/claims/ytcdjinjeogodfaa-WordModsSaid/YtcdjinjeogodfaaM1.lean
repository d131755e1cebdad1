/- Signs of words: negate, magnitude, SDiv, SMod. -/
import Derived.Test.YtcdjinjeogodfaaE1
import Derived.Test.YtcdjinjeogodfaaJ5
import Derived.Test.YtcdjinjeogodfaaK
import Derived.StillTailTactics
namespace Go.Proofs.Ytcdjinjeogodfaa
open Go.RowKit

/-- A word's size without its sign. -/
def magN (x : Nat) : Nat := if 2 ^ 255 ≤ x then wsub 0 x else x
theorem magN_lt {x : Nat} (hx : x < M256) : magN x < M256 := by
  unfold magN; split
  · exact wsub_lt _ _
  · exact hx
theorem magN_neg {x : Nat} (h : 2 ^ 255 ≤ x) : magN x = wsub 0 x := by unfold magN; rw [if_pos h]
theorem magN_pos {x : Nat} (h : ¬2 ^ 255 ≤ x) : magN x = x := by unfold magN; rw [if_neg h]
theorem neg_call (x : Nat) (hx : x < M256) (w : World) : Calls Try.prog 20 #[.agg #[.int .u8 0, .int .u8 0, .int .u8 0, .int .u8 0, .int .u8 0, .int .u8 0, .int .u8 0, .int .u8 0, .int .u8 0, .int .u8 0, .int .u8 0, .int .u8 0, .int .u8 0, .int .u8 0, .int .u8 0, .int .u8 0, .int .u8 0, .int .u8 0, .int .u8 0, .int .u8 0, .int .u8 0, .int .u8 0, .int .u8 0, .int .u8 0, .int .u8 0, .int .u8 0, .int .u8 0, .int .u8 0, .int .u8 0, .int .u8 0, .int .u8 0, .int .u8 0], .agg (wcells x)] w fun e w' => e = .returned (.agg (wcells (wsub 0 x))) ∧ Below w.heap.size w w' := by
  rw [word_lit_eq]; exact sub_any 0 x hx w
theorem negative_is (x : Nat) (d : Bool) (hd : decide (2 ^ 255 ≤ x) = d) (hx : x < M256) (w : World) : Calls Try.prog 81 #[.agg (wcells x)] w fun e w' => e = .returned (.bool d) ∧ Below w.heap.size w w' := by
  rw [← hd]; exact negative_any x hx w
set_option maxHeartbeats 1000000 in
set_option maxRecDepth 100000 in
theorem negate_any (x : Nat) (hx : x < M256) (w : World) :
    Calls Try.prog 82 #[.agg (wcells x)] w fun e w' => e = .returned (.agg (wcells (wsub 0 x))) ∧ Below w.heap.size w w' := by
  have HX := Lib.hid hx
  clear hx
  have hS := St.start w
  go_enter Try.func82, Try.ntmps82
  go_wp2_with (first | (refine st_new hS rfl 23 rfl word_zero ?_; clear hS; intro w1 b1 hS) | (refine st_box hS rfl _ _ rfl rfl ?_; clear hS; intro w1 b1 hS) | (refine st_load hS rfl 23 _ rfl rfl (by repeat (first | exact At.head | apply At.tail)) word_type rfl word_size (wf_size _) ?_) | (refine st_store hS rfl 23 _ _ rfl rfl rfl (by repeat (first | exact Upd.head | apply Upd.tail)) word_size (wf_size _) (wf_size _) (wf_one _) ?_; clear hS; intro w1 hS) | (go_at_call 20; with_reducible refine (neg_call x HX.out _).mono ?_; rintro e w1 ⟨rfl, hb⟩; replace hS := hS.call hb; clear hb))
  exact st_post hS 2 23 rfl rfl rfl (by repeat (first | exact At.head | apply At.tail)) word_type rfl word_size (wf_size _) (fun hb => ⟨rfl, hb⟩)
set_option maxHeartbeats 1000000 in
set_option maxRecDepth 100000 in
theorem mag_any (x : Nat) (hx : x < M256) (w : World) :
    Calls Try.prog 80 #[.agg (wcells x)] w fun e w' => e = .returned (.agg (wcells (magN x))) ∧ Below w.heap.size w w' := by
  have HX := Lib.hid hx
  clear hx
  by_cases h : 2 ^ 255 ≤ x
  · rw [magN_neg h]
    have HD := Lib.hid (show decide (2 ^ 255 ≤ x) = true from decide_eq_true h)
    clear h
    have hS := St.start w
    go_enter Try.func80, Try.ntmps80
    go_wp2_with (first | (refine st_new hS rfl 23 rfl word_zero ?_; clear hS; intro w1 b1 hS) | (refine st_box hS rfl _ _ rfl rfl ?_; clear hS; intro w1 b1 hS) | (refine st_load hS rfl 23 _ rfl rfl (by repeat (first | exact At.head | apply At.tail)) word_type rfl word_size (wf_size _) ?_) | (refine st_store hS rfl 23 _ _ rfl rfl rfl (by repeat (first | exact Upd.head | apply Upd.tail)) word_size (wf_size _) (wf_size _) (wf_one _) ?_; clear hS; intro w1 hS) | (go_at_call 81; with_reducible refine (negative_is x true HD.out HX.out _).mono ?_; rintro e w1 ⟨rfl, hb⟩; replace hS := hS.call hb; clear hb) | (go_at_call 82; with_reducible refine (negate_any x HX.out _).mono ?_; rintro e w1 ⟨rfl, hb⟩; replace hS := hS.call hb; clear hb))
    exact st_post hS 2 23 rfl rfl rfl (by repeat (first | exact At.head | apply At.tail)) word_type rfl word_size (wf_size _) (fun hb => ⟨rfl, hb⟩)
  · rw [magN_pos h]
    have HD := Lib.hid (show decide (2 ^ 255 ≤ x) = false from decide_eq_false h)
    clear h
    have hS := St.start w
    go_enter Try.func80, Try.ntmps80
    go_wp2_with (first | (refine st_new hS rfl 23 rfl word_zero ?_; clear hS; intro w1 b1 hS) | (refine st_box hS rfl _ _ rfl rfl ?_; clear hS; intro w1 b1 hS) | (refine st_load hS rfl 23 _ rfl rfl (by repeat (first | exact At.head | apply At.tail)) word_type rfl word_size (wf_size _) ?_) | (refine st_store hS rfl 23 _ _ rfl rfl rfl (by repeat (first | exact Upd.head | apply Upd.tail)) word_size (wf_size _) (wf_size _) (wf_one _) ?_; clear hS; intro w1 hS) | (go_at_call 81; with_reducible refine (negative_is x false HD.out HX.out _).mono ?_; rintro e w1 ⟨rfl, hb⟩; replace hS := hS.call hb; clear hb) | (go_at_call 82; with_reducible refine (negate_any x HX.out _).mono ?_; rintro e w1 ⟨rfl, hb⟩; replace hS := hS.call hb; clear hb))
    exact st_post hS 2 23 rfl rfl rfl (by repeat (first | exact At.head | apply At.tail)) word_type rfl word_size (wf_size _) (fun hb => ⟨rfl, hb⟩)
theorem k_neqb {o : Oper} {a : Act} {ops : Array Oper} {rest : List Oper} {C : World → Prop} {Q : Act → Prop} {s r : Bool} (hw : Region.wanted o (yielded ops a.tmps) = true) (xo yo : Operand) (yt : TypeId) (ho : o.op = .binOp .neq 4 xo yo yt)
    (hxe : a.eval xo = .bool s) (hye : a.eval yo = .bool r) (h : KQ ops C Q rest (a.put o.dst (.bool (s != r)))) : KQ ops C Q (o :: rest) a :=
  k_pure hw (fun w => by unfold execOp; simp only [ho, hxe, hye]; show Sem.run _ _ w = _; simp [eqGuard, binOp]; show ((Sem.run Try.prog (Op.equalIn (9999 + 1) 4 (.bool s) (.bool r)) w).andThen _) = _; unfold Op.equalIn; simp [run_underlying bool_ty]; cases s <;> cases r <;> rfl) h
/-- A number or its negative. -/
def pickN (b : Bool) (q : Nat) : Nat := bif b then wsub 0 q else q
def sdivN (x y : Nat) : Nat := pickN (decide (2 ^ 255 ≤ x) != decide (2 ^ 255 ≤ y)) (magN x / magN y)
def smodN (x y : Nat) : Nat := pickN (decide (2 ^ 255 ≤ x)) (wrest (magN x) (magN y))
theorem pickN_lt {b : Bool} {q : Nat} (h : q < M256) : pickN b q < M256 := by
  unfold pickN; cases b
  · exact h
  · exact wsub_lt _ _
theorem sdivN_lt {x y : Nat} (hx : x < M256) : sdivN x y < M256 := pickN_lt (div_lt (magN_lt hx))
theorem smodN_lt {x y : Nat} (hx : x < M256) : smodN x y < M256 := pickN_lt (wrest_lt (magN_lt hx))
set_option maxHeartbeats 1000000 in
set_option maxRecDepth 100000 in
theorem sdiv_case (x y q : Nat) (dx dy : Bool) (hdx : decide (2 ^ 255 ≤ x) = dx) (hdy : decide (2 ^ 255 ≤ y) = dy) (hq : q = magN x / magN y) (hx : x < M256) (hy : y < M256) (w : World) :
    Calls Try.prog 28 #[.agg (wcells x), .agg (wcells y)] w fun e w' => e = .returned (.agg (wcells (pickN (dx != dy) q))) ∧ Below w.heap.size w w' := by
  have HQ' := Lib.hid hq
  have HX := Lib.hid (And.intro hx (And.intro hy (show q < M256 by rw [hq]; exact div_lt (magN_lt hx))))
  have HD := Lib.hid (And.intro hdx hdy)
  have hq' : ∀ w : World, Calls Try.prog 24 #[.agg (wcells (magN x)), .agg (wcells (magN y))] w fun e w' => e = .returned (.agg (wcells q)) ∧ Below w.heap.size w w' := by
    intro w; rw [hq]; exact div_any (magN x) (magN y) (magN_lt hx) (magN_lt hy) _
  clear hx hy hq hdx hdy
  have hS := St.start w
  go_enter Try.func28, Try.ntmps28
  go_wp2_with (first | (have _t := b3; clear _t; refine st_new hS rfl 23 rfl word_zero ?_; clear hS; intro w1 b4 hS) | (have _t := b2; clear _t; refine st_box hS rfl _ _ rfl rfl ?_; clear hS; intro w1 b3 hS) | (refine st_box hS rfl _ _ rfl rfl ?_; clear hS; intro w1 b2 hS))
  try simp only [Act.put, List.setIfInBounds_toArray, List.set_cons_zero, List.set_cons_succ]
  go_cut [5] (fun s5 wx => ∃ c5 : Nat, s5 = .pointer (some ⟨c5, 0, none⟩) ∧ St w wx [(c5, 23, wcells q), (b4, 23, wcells 0), (b3, 23, wcells y), (b2, 23, wcells x)])
  case first =>
    refine wp_region_held_drew (S := fun w' => St w w' _) (by kernel_rfl) hS.drew fun _ => ?_
    replace hS := hS.drew
    simp only [List.size_toArray, List.length_cons, List.length_nil, Nat.reduceAdd, Array.replicate_succ, Array.replicate_zero, List.push_toArray, List.nil_append, List.cons_append]
    refine wpAnyH_take (i := 0) rfl (by kernel_rfl) (by kernel_rfl) (by kernel_rfl) (fun _ _ _ h => h) (y_load rfl 23 _ rfl rfl (by repeat (first | exact At.head | apply At.tail)) word_type rfl word_size (wf_size _)) hS ?_; simp only [Act.put, List.getElem_toArray, List.getElem_cons_succ, List.getElem_cons_zero, List.setIfInBounds_toArray, List.set_cons_zero, List.set_cons_succ]
    refine wpAnyH_take (i := 2) rfl (by kernel_rfl) (by kernel_rfl) (by kernel_rfl) (fun _ _ _ h => h) (y_load rfl 23 _ rfl rfl (by repeat (first | exact At.head | apply At.tail)) word_type rfl word_size (wf_size _)) hS ?_; simp only [Act.put, List.getElem_toArray, List.getElem_cons_succ, List.getElem_cons_zero, List.setIfInBounds_toArray, List.set_cons_zero, List.set_cons_succ]
    refine wpAnyH_all (rs := [1, 5]) (by kernel_rfl) (by simp) ?_
    intro i hi
    have hi2 : i = 1 ∨ i = 5 := by simpa using hi
    rcases hi2 with rfl | rfl
    ·
      refine o_call rfl rfl (by kernel_rfl) (mag_any x HX.out.1 _) hS fun w1 hS => ⟨hS, ?_⟩
      simp only [Act.put, List.getElem_toArray, List.getElem_cons_succ, List.getElem_cons_zero, List.setIfInBounds_toArray, List.set_cons_zero, List.set_cons_succ]
      refine wpAnyH_all (rs := [3, 5]) (by kernel_rfl) (by simp) ?_
      intro i hi
      have hi2 : i = 3 ∨ i = 5 := by simpa using hi
      rcases hi2 with rfl | rfl
      ·
        refine o_call rfl rfl (by kernel_rfl) (mag_any y HX.out.2.1 _) hS fun w1 hS => ⟨hS, ?_⟩
        simp only [Act.put, List.getElem_toArray, List.getElem_cons_succ, List.getElem_cons_zero, List.setIfInBounds_toArray, List.set_cons_zero, List.set_cons_succ]
        refine wpAnyH_all (rs := [4, 5]) (by kernel_rfl) (by simp) ?_
        intro i hi
        have hi2 : i = 4 ∨ i = 5 := by simpa using hi
        rcases hi2 with rfl | rfl
        ·
          refine o_call rfl rfl (by kernel_rfl) (hq' _) hS fun w1 hS => ⟨hS, ?_⟩
          simp only [Act.put, List.getElem_toArray, List.getElem_cons_succ, List.getElem_cons_zero, List.setIfInBounds_toArray, List.set_cons_zero, List.set_cons_succ]
          refine wpAnyH_all (rs := [5]) (by kernel_rfl) (by simp) ?_
          intro i hi
          obtain rfl : i = 5 := by simpa using hi
          refine o_new rfl rfl 23 rfl word_zero hS fun w1 bn hS => ⟨hS.drop, ?_⟩
          simp only [Act.put, List.getElem_toArray, List.getElem_cons_succ, List.getElem_cons_zero, List.setIfInBounds_toArray, List.set_cons_zero, List.set_cons_succ]
          refine wpAnyH_all (rs := [6]) (by kernel_rfl) (by simp) ?_
          intro i hi
          obtain rfl : i = 6 := by simpa using hi
          refine o_store (c' := wcells q) rfl rfl hS 23 _ _ rfl rfl rfl (by repeat (first | exact Upd.head | apply Upd.tail)) word_size (wf_size _) (wf_size _) (wf_one _) fun w1 hS => ⟨hS.drop, ?_⟩
          simp only [Act.put, List.getElem_toArray, List.getElem_cons_succ, List.getElem_cons_zero, List.setIfInBounds_toArray, List.set_cons_zero, List.set_cons_succ]
          refine wpAnyH_done (by kernel_rfl) ?_ _
          go_wp2_with (fail)
          go_meet
          exact ⟨_, rfl, hS⟩
        ·
          refine o_new rfl rfl 23 rfl word_zero hS fun w1 bn hS => ⟨hS.drop, ?_⟩
          simp only [Act.put, List.getElem_toArray, List.getElem_cons_succ, List.getElem_cons_zero, List.setIfInBounds_toArray, List.set_cons_zero, List.set_cons_succ]
          refine wpAnyH_all (rs := [4]) (by kernel_rfl) (by simp) ?_
          intro i hi
          obtain rfl : i = 4 := by simpa using hi
          refine o_call rfl rfl (by kernel_rfl) (hq' _) hS fun w1 hS => ⟨hS.drop, ?_⟩
          simp only [Act.put, List.getElem_toArray, List.getElem_cons_succ, List.getElem_cons_zero, List.setIfInBounds_toArray, List.set_cons_zero, List.set_cons_succ]
          refine wpAnyH_all (rs := [6]) (by kernel_rfl) (by simp) ?_
          intro i hi
          obtain rfl : i = 6 := by simpa using hi
          refine o_store (c' := wcells q) rfl rfl hS 23 _ _ rfl rfl rfl (by repeat (first | exact Upd.head | apply Upd.tail)) word_size (wf_size _) (wf_size _) (wf_one _) fun w1 hS => ⟨hS.drop, ?_⟩
          simp only [Act.put, List.getElem_toArray, List.getElem_cons_succ, List.getElem_cons_zero, List.setIfInBounds_toArray, List.set_cons_zero, List.set_cons_succ]
          refine wpAnyH_done (by kernel_rfl) ?_ _
          go_wp2_with (fail)
          go_meet
          exact ⟨_, rfl, hS⟩
      ·
        refine o_new rfl rfl 23 rfl word_zero hS fun w1 bn hS => ⟨hS.drop, ?_⟩
        simp only [Act.put, List.getElem_toArray, List.getElem_cons_succ, List.getElem_cons_zero, List.setIfInBounds_toArray, List.set_cons_zero, List.set_cons_succ]
        refine wpAnyH_all (rs := [3]) (by kernel_rfl) (by simp) ?_
        intro i hi
        obtain rfl : i = 3 := by simpa using hi
        refine o_call rfl rfl (by kernel_rfl) (mag_any y HX.out.2.1 _) hS fun w1 hS => ⟨hS.drop, ?_⟩
        simp only [Act.put, List.getElem_toArray, List.getElem_cons_succ, List.getElem_cons_zero, List.setIfInBounds_toArray, List.set_cons_zero, List.set_cons_succ]
        refine wpAnyH_all (rs := [4]) (by kernel_rfl) (by simp) ?_
        intro i hi
        obtain rfl : i = 4 := by simpa using hi
        refine o_call rfl rfl (by kernel_rfl) (hq' _) hS fun w1 hS => ⟨hS.drop, ?_⟩
        simp only [Act.put, List.getElem_toArray, List.getElem_cons_succ, List.getElem_cons_zero, List.setIfInBounds_toArray, List.set_cons_zero, List.set_cons_succ]
        refine wpAnyH_all (rs := [6]) (by kernel_rfl) (by simp) ?_
        intro i hi
        obtain rfl : i = 6 := by simpa using hi
        refine o_store (c' := wcells q) rfl rfl hS 23 _ _ rfl rfl rfl (by repeat (first | exact Upd.head | apply Upd.tail)) word_size (wf_size _) (wf_size _) (wf_one _) fun w1 hS => ⟨hS.drop, ?_⟩
        simp only [Act.put, List.getElem_toArray, List.getElem_cons_succ, List.getElem_cons_zero, List.setIfInBounds_toArray, List.set_cons_zero, List.set_cons_succ]
        refine wpAnyH_done (by kernel_rfl) ?_ _
        go_wp2_with (fail)
        go_meet
        exact ⟨_, rfl, hS⟩
    ·
      refine o_new rfl rfl 23 rfl word_zero hS fun w1 bn hS => ⟨hS.drop, ?_⟩
      simp only [Act.put, List.getElem_toArray, List.getElem_cons_succ, List.getElem_cons_zero, List.setIfInBounds_toArray, List.set_cons_zero, List.set_cons_succ]
      refine wpAnyH_all (rs := [1]) (by kernel_rfl) (by simp) ?_
      intro i hi
      obtain rfl : i = 1 := by simpa using hi
      refine o_call rfl rfl (by kernel_rfl) (mag_any x HX.out.1 _) hS fun w1 hS => ⟨hS.drop, ?_⟩
      simp only [Act.put, List.getElem_toArray, List.getElem_cons_succ, List.getElem_cons_zero, List.setIfInBounds_toArray, List.set_cons_zero, List.set_cons_succ]
      refine wpAnyH_all (rs := [3]) (by kernel_rfl) (by simp) ?_
      intro i hi
      obtain rfl : i = 3 := by simpa using hi
      refine o_call rfl rfl (by kernel_rfl) (mag_any y HX.out.2.1 _) hS fun w1 hS => ⟨hS.drop, ?_⟩
      simp only [Act.put, List.getElem_toArray, List.getElem_cons_succ, List.getElem_cons_zero, List.setIfInBounds_toArray, List.set_cons_zero, List.set_cons_succ]
      refine wpAnyH_all (rs := [4]) (by kernel_rfl) (by simp) ?_
      intro i hi
      obtain rfl : i = 4 := by simpa using hi
      refine o_call rfl rfl (by kernel_rfl) (hq' _) hS fun w1 hS => ⟨hS.drop, ?_⟩
      simp only [Act.put, List.getElem_toArray, List.getElem_cons_succ, List.getElem_cons_zero, List.setIfInBounds_toArray, List.set_cons_zero, List.set_cons_succ]
      refine wpAnyH_all (rs := [6]) (by kernel_rfl) (by simp) ?_
      intro i hi
      obtain rfl : i = 6 := by simpa using hi
      refine o_store (c' := wcells q) rfl rfl hS 23 _ _ rfl rfl rfl (by repeat (first | exact Upd.head | apply Upd.tail)) word_size (wf_size _) (wf_size _) (wf_one _) fun w1 hS => ⟨hS.drop, ?_⟩
      simp only [Act.put, List.getElem_toArray, List.getElem_cons_succ, List.getElem_cons_zero, List.setIfInBounds_toArray, List.set_cons_zero, List.set_cons_succ]
      refine wpAnyH_done (by kernel_rfl) ?_ _
      go_wp2_with (fail)
      go_meet
      exact ⟨_, rfl, hS⟩
  case rest =>
    clear hS
    obtain ⟨c5, rfl, hS⟩ := hcut
    cases dx <;> cases dy <;> (
      go_upto_region 2 with (fail)
      try simp only [Act.put, List.setIfInBounds_toArray, List.set_cons_zero, List.set_cons_succ]
      refine k_region (C := fun w' => St w w' _) (by kernel_rfl) (by kernel_rfl) hS.drew ?_
      repeat (first | (refine k_skip rfl rfl rfl rfl rfl ?_; try simp only [Act.put, List.setIfInBounds_toArray, List.set_cons_zero, List.set_cons_succ]) | (refine k_load rfl 23 _ rfl rfl (by repeat (first | exact At.head | apply At.tail)) word_type word_size (wf_size _) ?_; try simp only [Act.put, List.setIfInBounds_toArray, List.set_cons_zero, List.set_cons_succ]) | (refine k_neqb rfl _ _ _ rfl rfl rfl ?_; try simp only [Act.put, List.setIfInBounds_toArray, List.set_cons_zero, List.set_cons_succ]) | (refine k_boolm rfl _ rfl rfl ?_; try simp only [Act.put, List.setIfInBounds_toArray, List.set_cons_zero, List.set_cons_succ]) | (refine k_boola rfl _ rfl rfl ?_; try simp only [Act.put, List.setIfInBounds_toArray, List.set_cons_zero, List.set_cons_succ]) | (refine k_intm rfl _ rfl rfl ?_; try simp only [Act.put, List.setIfInBounds_toArray, List.set_cons_zero, List.set_cons_succ]) | (refine k_inta rfl _ rfl rfl ?_; try simp only [Act.put, List.setIfInBounds_toArray, List.set_cons_zero, List.set_cons_succ]) | (refine k_pickT rfl _ _ _ rfl rfl rfl ?_; try simp only [Act.put, List.setIfInBounds_toArray, List.set_cons_zero, List.set_cons_succ]) | (refine k_pickF rfl _ _ _ rfl rfl rfl ?_; try simp only [Act.put, List.setIfInBounds_toArray, List.set_cons_zero, List.set_cons_succ]) | (refine k_bools rfl _ _ _ rfl rfl rfl ?_; try simp only [Act.put, List.setIfInBounds_toArray, List.set_cons_zero, List.set_cons_succ]) | (refine k_call_w rfl rfl rfl (by with_reducible first | exact ⟨Try.call81, negative_is x _ HD.out.1 HX.out.1⟩ | exact ⟨Try.call81, negative_is y _ HD.out.2 HX.out.2.1⟩) ?_; try simp only [Act.put, List.setIfInBounds_toArray, List.set_cons_zero, List.set_cons_succ]))
      refine k_end ?_
      clear hS
      intro w1 hS
      go_wp2_with (first | (refine st_load hS rfl 23 _ rfl rfl (by repeat (first | exact At.head | apply At.tail)) word_type rfl word_size (wf_size _) ?_) | (refine st_store hS rfl 23 _ _ rfl rfl rfl (by repeat (first | exact Upd.head | apply Upd.tail)) word_size (wf_size _) (wf_size _) (wf_one _) ?_; clear hS; intro w1 hS) | (go_at_call 81; with_reducible (first | refine (negative_is x _ HD.out.1 HX.out.1 _).mono ?_ | refine (negative_is y _ HD.out.2 HX.out.2.1 _).mono ?_); rintro e w1 ⟨rfl, hb⟩; replace hS := hS.call hb; clear hb) | (go_at_call 82; with_reducible refine (negate_any q HX.out.2.2 _).mono ?_; rintro e w1 ⟨rfl, hb⟩; replace hS := hS.call hb; clear hb))
      exact st_post hS 4 23 rfl rfl rfl (by repeat (first | exact At.head | apply At.tail)) word_type rfl word_size (wf_size _) (fun hb => ⟨rfl, hb⟩))
set_option maxHeartbeats 1000000 in
set_option maxRecDepth 100000 in
theorem smod_case (x y q : Nat) (dx dy : Bool) (hdx : decide (2 ^ 255 ≤ x) = dx) (hdy : decide (2 ^ 255 ≤ y) = dy) (hq : q = wrest (magN x) (magN y)) (hx : x < M256) (hy : y < M256) (w : World) :
    Calls Try.prog 30 #[.agg (wcells x), .agg (wcells y)] w fun e w' => e = .returned (.agg (wcells (pickN (dx) q))) ∧ Below w.heap.size w w' := by
  have HQ' := Lib.hid hq
  have HX := Lib.hid (And.intro hx (And.intro hy (show q < M256 by rw [hq]; exact wrest_lt (magN_lt hx))))
  have HD := Lib.hid (And.intro hdx hdy)
  have hq' : ∀ w : World, Calls Try.prog 26 #[.agg (wcells (magN x)), .agg (wcells (magN y))] w fun e w' => e = .returned (.agg (wcells q)) ∧ Below w.heap.size w w' := by
    intro w; rw [hq]; exact mod_any (magN x) (magN y) (magN_lt hx) (magN_lt hy) _
  clear hx hy hq hdx hdy
  have hS := St.start w
  go_enter Try.func30, Try.ntmps30
  go_wp2_with (first | (have _t := b3; clear _t; refine st_new hS rfl 23 rfl word_zero ?_; clear hS; intro w1 b4 hS) | (have _t := b2; clear _t; refine st_box hS rfl _ _ rfl rfl ?_; clear hS; intro w1 b3 hS) | (refine st_box hS rfl _ _ rfl rfl ?_; clear hS; intro w1 b2 hS))
  try simp only [Act.put, List.setIfInBounds_toArray, List.set_cons_zero, List.set_cons_succ]
  go_cut [5] (fun s5 wx => ∃ c5 : Nat, s5 = .pointer (some ⟨c5, 0, none⟩) ∧ St w wx [(c5, 23, wcells q), (b4, 23, wcells 0), (b3, 23, wcells y), (b2, 23, wcells x)])
  case first =>
    refine wp_region_held_drew (S := fun w' => St w w' _) (by kernel_rfl) hS.drew fun _ => ?_
    replace hS := hS.drew
    simp only [List.size_toArray, List.length_cons, List.length_nil, Nat.reduceAdd, Array.replicate_succ, Array.replicate_zero, List.push_toArray, List.nil_append, List.cons_append]
    refine wpAnyH_take (i := 0) rfl (by kernel_rfl) (by kernel_rfl) (by kernel_rfl) (fun _ _ _ h => h) (y_load rfl 23 _ rfl rfl (by repeat (first | exact At.head | apply At.tail)) word_type rfl word_size (wf_size _)) hS ?_; simp only [Act.put, List.getElem_toArray, List.getElem_cons_succ, List.getElem_cons_zero, List.setIfInBounds_toArray, List.set_cons_zero, List.set_cons_succ]
    refine wpAnyH_take (i := 2) rfl (by kernel_rfl) (by kernel_rfl) (by kernel_rfl) (fun _ _ _ h => h) (y_load rfl 23 _ rfl rfl (by repeat (first | exact At.head | apply At.tail)) word_type rfl word_size (wf_size _)) hS ?_; simp only [Act.put, List.getElem_toArray, List.getElem_cons_succ, List.getElem_cons_zero, List.setIfInBounds_toArray, List.set_cons_zero, List.set_cons_succ]
    refine wpAnyH_all (rs := [1, 5]) (by kernel_rfl) (by simp) ?_
    intro i hi
    have hi2 : i = 1 ∨ i = 5 := by simpa using hi
    rcases hi2 with rfl | rfl
    ·
      refine o_call rfl rfl (by kernel_rfl) (mag_any x HX.out.1 _) hS fun w1 hS => ⟨hS, ?_⟩
      simp only [Act.put, List.getElem_toArray, List.getElem_cons_succ, List.getElem_cons_zero, List.setIfInBounds_toArray, List.set_cons_zero, List.set_cons_succ]
      refine wpAnyH_all (rs := [3, 5]) (by kernel_rfl) (by simp) ?_
      intro i hi
      have hi2 : i = 3 ∨ i = 5 := by simpa using hi
      rcases hi2 with rfl | rfl
      ·
        refine o_call rfl rfl (by kernel_rfl) (mag_any y HX.out.2.1 _) hS fun w1 hS => ⟨hS, ?_⟩
        simp only [Act.put, List.getElem_toArray, List.getElem_cons_succ, List.getElem_cons_zero, List.setIfInBounds_toArray, List.set_cons_zero, List.set_cons_succ]
        refine wpAnyH_all (rs := [4, 5]) (by kernel_rfl) (by simp) ?_
        intro i hi
        have hi2 : i = 4 ∨ i = 5 := by simpa using hi
        rcases hi2 with rfl | rfl
        ·
          refine o_call rfl rfl (by kernel_rfl) (hq' _) hS fun w1 hS => ⟨hS, ?_⟩
          simp only [Act.put, List.getElem_toArray, List.getElem_cons_succ, List.getElem_cons_zero, List.setIfInBounds_toArray, List.set_cons_zero, List.set_cons_succ]
          refine wpAnyH_all (rs := [5]) (by kernel_rfl) (by simp) ?_
          intro i hi
          obtain rfl : i = 5 := by simpa using hi
          refine o_new rfl rfl 23 rfl word_zero hS fun w1 bn hS => ⟨hS.drop, ?_⟩
          simp only [Act.put, List.getElem_toArray, List.getElem_cons_succ, List.getElem_cons_zero, List.setIfInBounds_toArray, List.set_cons_zero, List.set_cons_succ]
          refine wpAnyH_all (rs := [6]) (by kernel_rfl) (by simp) ?_
          intro i hi
          obtain rfl : i = 6 := by simpa using hi
          refine o_store (c' := wcells q) rfl rfl hS 23 _ _ rfl rfl rfl (by repeat (first | exact Upd.head | apply Upd.tail)) word_size (wf_size _) (wf_size _) (wf_one _) fun w1 hS => ⟨hS.drop, ?_⟩
          simp only [Act.put, List.getElem_toArray, List.getElem_cons_succ, List.getElem_cons_zero, List.setIfInBounds_toArray, List.set_cons_zero, List.set_cons_succ]
          refine wpAnyH_done (by kernel_rfl) ?_ _
          go_wp2_with (fail)
          go_meet
          exact ⟨_, rfl, hS⟩
        ·
          refine o_new rfl rfl 23 rfl word_zero hS fun w1 bn hS => ⟨hS.drop, ?_⟩
          simp only [Act.put, List.getElem_toArray, List.getElem_cons_succ, List.getElem_cons_zero, List.setIfInBounds_toArray, List.set_cons_zero, List.set_cons_succ]
          refine wpAnyH_all (rs := [4]) (by kernel_rfl) (by simp) ?_
          intro i hi
          obtain rfl : i = 4 := by simpa using hi
          refine o_call rfl rfl (by kernel_rfl) (hq' _) hS fun w1 hS => ⟨hS.drop, ?_⟩
          simp only [Act.put, List.getElem_toArray, List.getElem_cons_succ, List.getElem_cons_zero, List.setIfInBounds_toArray, List.set_cons_zero, List.set_cons_succ]
          refine wpAnyH_all (rs := [6]) (by kernel_rfl) (by simp) ?_
          intro i hi
          obtain rfl : i = 6 := by simpa using hi
          refine o_store (c' := wcells q) rfl rfl hS 23 _ _ rfl rfl rfl (by repeat (first | exact Upd.head | apply Upd.tail)) word_size (wf_size _) (wf_size _) (wf_one _) fun w1 hS => ⟨hS.drop, ?_⟩
          simp only [Act.put, List.getElem_toArray, List.getElem_cons_succ, List.getElem_cons_zero, List.setIfInBounds_toArray, List.set_cons_zero, List.set_cons_succ]
          refine wpAnyH_done (by kernel_rfl) ?_ _
          go_wp2_with (fail)
          go_meet
          exact ⟨_, rfl, hS⟩
      ·
        refine o_new rfl rfl 23 rfl word_zero hS fun w1 bn hS => ⟨hS.drop, ?_⟩
        simp only [Act.put, List.getElem_toArray, List.getElem_cons_succ, List.getElem_cons_zero, List.setIfInBounds_toArray, List.set_cons_zero, List.set_cons_succ]
        refine wpAnyH_all (rs := [3]) (by kernel_rfl) (by simp) ?_
        intro i hi
        obtain rfl : i = 3 := by simpa using hi
        refine o_call rfl rfl (by kernel_rfl) (mag_any y HX.out.2.1 _) hS fun w1 hS => ⟨hS.drop, ?_⟩
        simp only [Act.put, List.getElem_toArray, List.getElem_cons_succ, List.getElem_cons_zero, List.setIfInBounds_toArray, List.set_cons_zero, List.set_cons_succ]
        refine wpAnyH_all (rs := [4]) (by kernel_rfl) (by simp) ?_
        intro i hi
        obtain rfl : i = 4 := by simpa using hi
        refine o_call rfl rfl (by kernel_rfl) (hq' _) hS fun w1 hS => ⟨hS.drop, ?_⟩
        simp only [Act.put, List.getElem_toArray, List.getElem_cons_succ, List.getElem_cons_zero, List.setIfInBounds_toArray, List.set_cons_zero, List.set_cons_succ]
        refine wpAnyH_all (rs := [6]) (by kernel_rfl) (by simp) ?_
        intro i hi
        obtain rfl : i = 6 := by simpa using hi
        refine o_store (c' := wcells q) rfl rfl hS 23 _ _ rfl rfl rfl (by repeat (first | exact Upd.head | apply Upd.tail)) word_size (wf_size _) (wf_size _) (wf_one _) fun w1 hS => ⟨hS.drop, ?_⟩
        simp only [Act.put, List.getElem_toArray, List.getElem_cons_succ, List.getElem_cons_zero, List.setIfInBounds_toArray, List.set_cons_zero, List.set_cons_succ]
        refine wpAnyH_done (by kernel_rfl) ?_ _
        go_wp2_with (fail)
        go_meet
        exact ⟨_, rfl, hS⟩
    ·
      refine o_new rfl rfl 23 rfl word_zero hS fun w1 bn hS => ⟨hS.drop, ?_⟩
      simp only [Act.put, List.getElem_toArray, List.getElem_cons_succ, List.getElem_cons_zero, List.setIfInBounds_toArray, List.set_cons_zero, List.set_cons_succ]
      refine wpAnyH_all (rs := [1]) (by kernel_rfl) (by simp) ?_
      intro i hi
      obtain rfl : i = 1 := by simpa using hi
      refine o_call rfl rfl (by kernel_rfl) (mag_any x HX.out.1 _) hS fun w1 hS => ⟨hS.drop, ?_⟩
      simp only [Act.put, List.getElem_toArray, List.getElem_cons_succ, List.getElem_cons_zero, List.setIfInBounds_toArray, List.set_cons_zero, List.set_cons_succ]
      refine wpAnyH_all (rs := [3]) (by kernel_rfl) (by simp) ?_
      intro i hi
      obtain rfl : i = 3 := by simpa using hi
      refine o_call rfl rfl (by kernel_rfl) (mag_any y HX.out.2.1 _) hS fun w1 hS => ⟨hS.drop, ?_⟩
      simp only [Act.put, List.getElem_toArray, List.getElem_cons_succ, List.getElem_cons_zero, List.setIfInBounds_toArray, List.set_cons_zero, List.set_cons_succ]
      refine wpAnyH_all (rs := [4]) (by kernel_rfl) (by simp) ?_
      intro i hi
      obtain rfl : i = 4 := by simpa using hi
      refine o_call rfl rfl (by kernel_rfl) (hq' _) hS fun w1 hS => ⟨hS.drop, ?_⟩
      simp only [Act.put, List.getElem_toArray, List.getElem_cons_succ, List.getElem_cons_zero, List.setIfInBounds_toArray, List.set_cons_zero, List.set_cons_succ]
      refine wpAnyH_all (rs := [6]) (by kernel_rfl) (by simp) ?_
      intro i hi
      obtain rfl : i = 6 := by simpa using hi
      refine o_store (c' := wcells q) rfl rfl hS 23 _ _ rfl rfl rfl (by repeat (first | exact Upd.head | apply Upd.tail)) word_size (wf_size _) (wf_size _) (wf_one _) fun w1 hS => ⟨hS.drop, ?_⟩
      simp only [Act.put, List.getElem_toArray, List.getElem_cons_succ, List.getElem_cons_zero, List.setIfInBounds_toArray, List.set_cons_zero, List.set_cons_succ]
      refine wpAnyH_done (by kernel_rfl) ?_ _
      go_wp2_with (fail)
      go_meet
      exact ⟨_, rfl, hS⟩
  case rest =>
    clear hS
    obtain ⟨c5, rfl, hS⟩ := hcut
    cases dx <;> (
      go_wp2_with (first | (refine st_load hS rfl 23 _ rfl rfl (by repeat (first | exact At.head | apply At.tail)) word_type rfl word_size (wf_size _) ?_) | (refine st_store hS rfl 23 _ _ rfl rfl rfl (by repeat (first | exact Upd.head | apply Upd.tail)) word_size (wf_size _) (wf_size _) (wf_one _) ?_; clear hS; intro w1 hS) | (go_at_call 81; with_reducible (first | refine (negative_is x _ HD.out.1 HX.out.1 _).mono ?_ | refine (negative_is y _ HD.out.2 HX.out.2.1 _).mono ?_); rintro e w1 ⟨rfl, hb⟩; replace hS := hS.call hb; clear hb) | (go_at_call 82; with_reducible refine (negate_any q HX.out.2.2 _).mono ?_; rintro e w1 ⟨rfl, hb⟩; replace hS := hS.call hb; clear hb))
      exact st_post hS 4 23 rfl rfl rfl (by repeat (first | exact At.head | apply At.tail)) word_type rfl word_size (wf_size _) (fun hb => ⟨rfl, hb⟩))
theorem sdiv_any (x y : Nat) (hx : x < M256) (hy : y < M256) (w : World) :
    Calls Try.prog 28 #[.agg (wcells x), .agg (wcells y)] w fun e w' => e = .returned (.agg (wcells (sdivN x y))) ∧ Below w.heap.size w w' := sdiv_case x y _ _ _ rfl rfl rfl hx hy w
theorem smod_any (x y : Nat) (hx : x < M256) (hy : y < M256) (w : World) :
    Calls Try.prog 30 #[.agg (wcells x), .agg (wcells y)] w fun e w' => e = .returned (.agg (wcells (smodN x y))) ∧ Below w.heap.size w w' := smod_case x y _ _ _ rfl rfl rfl hx hy w
end Go.Proofs.Ytcdjinjeogodfaa
