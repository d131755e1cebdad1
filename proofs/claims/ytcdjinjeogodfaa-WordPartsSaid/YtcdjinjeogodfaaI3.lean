/- Powers of words. -/
import Derived.Test.YtcdjinjeogodfaaC5
import Derived.Test.YtcdjinjeogodfaaI2
import Derived.Deep.RegionHeld
namespace Go.Proofs.Ytcdjinjeogodfaa
open Go.RowKit

/-- Powers of words. -/
def wpow (x y : Nat) : Nat := x ^ y % M256
theorem wpow_lt (x y : Nat) : wpow x y < M256 := Nat.mod_lt _ M256_pos
theorem pow_sq (x a : Nat) : wpow x a * wpow x a % M256 = wpow x (2 * a) := by
  unfold wpow
  rw [← Nat.mul_mod, ← Nat.pow_add]; congr 2; omega
theorem pow_one_more (x a : Nat) : wpow x a * x % M256 = wpow x (a + 1) := by
  unfold wpow
  rw [Nat.mod_mul_mod, Nat.pow_succ]
theorem half_bit (y i : Nat) : y / 2 ^ i = 2 * (y / 2 ^ (i + 1)) + (y.testBit i).toNat := by
  rw [Nat.testBit_eq_decide_div_mod_eq, Nat.pow_succ, ← Nat.div_div_eq_div_mul]
  by_cases h : y / 2 ^ i % 2 = 1
  · simp [h]; omega
  · simp [h]; omega
theorem top_bits {y : Nat} : y / 2 ^ bitLen y = 0 := Nat.div_eq_of_lt (bitLen_spec y).1
theorem low_m (z s : Nat) (hs : z % M256 = s) (w : World) : Calls Try.prog 75 #[.agg (dig 8 z)] w fun e w' => e = .returned (.agg (dig 4 s)) ∧ Below w.heap.size w w' := by
  subst hs
  rw [show dig 4 (z % M256) = dig 4 z from dig_mod 4 z]
  exact low_any z w
theorem bitLen_le {y : Nat} (hy : y < M256) : bitLen y ≤ 256 := by
  have h := (bitLen_spec y).2
  by_cases h0 : y = 0
  · subst h0; decide
  · have h1 := h h0
    have h2 : 2 ^ (bitLen y - 1) < 2 ^ 256 := Nat.lt_of_le_of_lt h1 hy
    have := (Nat.pow_lt_pow_iff_right (by decide : 1 < 2)).1 h2
    omega
theorem St.swap {w0 w : World} {L : List Ent} {e f : Ent} (h : St w0 w (e :: f :: L)) : St w0 w (f :: e :: L) :=
  ⟨h.below, fun x hx => h.blk x (by simp only [List.mem_cons] at hx ⊢; rcases hx with h | h | h <;> simp [h]), by
    have h1 := List.pairwise_cons.1 h.apart
    have h2 := List.pairwise_cons.1 h1.2
    refine List.pairwise_cons.2 ⟨fun g hg => ?_, List.pairwise_cons.2 ⟨fun g hg => h1.1 g (List.mem_cons_of_mem _ hg), h2.2⟩⟩
    rcases List.mem_cons.1 hg with rfl | hg
    · exact fun he => h1.1 f List.mem_cons_self he.symm
    · exact h2.1 g hg⟩

set_option maxHeartbeats 16000000 in
set_option maxRecDepth 100000 in
theorem exp_any (x y : Nat) (hx : x < M256) (hy : y < M256) (w : World) :
    Calls Try.prog 36 #[.agg (wcells x), .agg (wcells y)] w fun e w' => e = .returned (.agg (wcells (wpow x y))) ∧ Below w.heap.size w w' := by
  have HX := Lib.hid (And.intro hx hy)
  clear hx hy
  have hS := St.start w
  go_enter Try.func36, Try.ntmps36
  go_wp2_with (first | (refine st_box hS rfl _ _ rfl rfl ?_; clear hS; intro w1 b1 hS) | (refine st_new hS rfl 23 rfl word_zero ?_; clear hS; intro w1 b1 hS) | (refine st_load hS rfl 23 _ rfl rfl (by repeat (first | exact At.head | apply At.tail)) word_type rfl word_size (wf_size _) ?_) | (refine st_store hS rfl 23 _ _ rfl rfl rfl (by repeat (first | exact Upd.head | apply Upd.tail)) word_size (wf_size _) (wf_size _) (wf_one _) ?_; clear hS; intro w1 hS))
  rename_i ba _ bb _ _
  rename Nat => br
  refine Code.wp_mono (Q := (fun e a' w' => e = Exit.normal ∧ ∃ b4 b5 : Nat, a' = ⟨#[.agg (wcells x), .agg (wcells y), .pointer (some ⟨ba, 0, none⟩), .pointer (some ⟨bb, 0, none⟩), .pointer (some ⟨br, 0, none⟩), .pointer (some ⟨b4, 0, none⟩), .pointer (some ⟨b5, 0, none⟩), undef, undef, .agg (wcells x), .agg (dig 4 x), .agg (wcells y), .agg (dig 4 y), undef, undef, undef, undef, undef, undef, undef, undef, undef, undef, undef, undef, undef, undef, undef, undef, undef, undef, undef, undef, undef, undef], []⟩ ∧ St w w' [(b5, 42, dig 4 y), (b4, 42, dig 4 x), (br, 23, wf (byt 0)), (bb, 23, wcells y), (ba, 23, wcells x)])) ?_ ?_
  · rintro e a' w1 ⟨rfl, b4, b5, rfl, hS⟩
    have hbl := bitLen_le HX.out.2
    go_wp2_with (first | (refine st_new hS rfl 42 rfl limbs_zero ?_; clear hS; intro w1 b1 hS) | (refine st_store (c' := dig 4 1) hS rfl 42 _ _ rfl rfl rfl (by repeat (first | exact Upd.head | apply Upd.tail)) limbs_size (dig_size _ _) (dig_size _ _) (dig_one _ _) ?_; clear hS; intro w1 hS) | (refine st_load hS rfl 23 _ rfl rfl (by repeat (first | exact At.head | apply At.tail)) word_type rfl word_size (wf_size _) ?_) | (go_at_call 63; with_reducible refine (bits_any _ HX.out.2 _).mono ?_; rintro e w1 ⟨rfl, hb⟩; replace hS := hS.call hb; clear hb))
    go_loopw [8] (fun t wr => ∃ m : Int, t = .int .i64 m ∧ -1 ≤ m ∧ m < 256 ∧ St w wr [(b1, 42, dig 4 (wpow x (y / 2 ^ (m + 1).toNat))), (b5, 42, dig 4 y), (b4, 42, dig 4 x), (br, 23, wf (byt 0)), (bb, 23, wcells y), (ba, 23, wcells x)]) (fun t _ => (intOf t + 1).toNat)
    case atStart =>
      refine ⟨_, rfl, by omega, by omega, ?_⟩
      rw [show ((bitLen y : Int) - 1 + 1).toNat = bitLen y by omega, top_bits, show wpow x 0 = 1 by simp [wpow, M256]]
      exact hS
    case round =>
      clear hS
      obtain ⟨m, rfl, hm1, hm2, hS⟩ := hrel
      by_cases hm0 : 0 ≤ m
      · obtain ⟨i, rfl⟩ := Int.eq_ofNat_of_zero_le hm0
        have hi : i < 256 := by omega
        rw [show ((i : Int) + 1).toNat = i + 1 by omega] at hS
        obtain ⟨p, hp⟩ : ∃ p, p = wpow x (y / 2 ^ (i + 1)) := ⟨_, rfl⟩
        obtain ⟨s, hs⟩ : ∃ s, p * p % M256 = s := ⟨_, rfl⟩
        obtain ⟨s2, hs2⟩ : ∃ s2, s * x % M256 = s2 := ⟨_, rfl⟩
        rw [← hp] at hS
        have HP := Lib.hid (And.intro (show p < M256 by rw [hp]; exact wpow_lt _ _) (And.intro (show s < M256 by rw [← hs]; exact Nat.mod_lt _ M256_pos) (And.intro HX.out.1 (And.intro hs hs2))))
        have es : s = wpow x (2 * (y / 2 ^ (i + 1))) := by rw [← hs, hp, pow_sq]
        have es2 : s2 = wpow x (2 * (y / 2 ^ (i + 1)) + 1) := by rw [← hs2, es, pow_one_more]
        have hh := half_bit y i
        have HH := Lib.hid (And.intro es (And.intro es2 hh))
        clear hp hs hs2 es es2 hh
        by_cases hbit : y.testBit i = true
        · go_wp2_with (first | (refine st_load hS rfl 42 _ rfl rfl (by repeat (first | exact At.head | apply At.tail)) limbs_type rfl limbs_size (dig_size _ _) ?_) | (refine st_load hS rfl 23 _ rfl rfl (by repeat (first | exact At.head | apply At.tail)) word_type rfl word_size (wf_size _) ?_) | (refine st_store hS rfl 42 _ _ rfl rfl rfl (by repeat (first | exact Upd.head | apply Upd.tail)) limbs_size (dig_size _ _) (dig_size _ _) (dig_one _ _) ?_; clear hS; intro w1 hS) | (go_at_call 74; with_reducible refine (times_any p p HP.out.1 HP.out.1 _).mono ?_; rintro e w1 ⟨rfl, hb⟩; replace hS := hS.call hb; clear hb) | (go_at_call 74; with_reducible refine (times_any s x HP.out.2.1 HP.out.2.2.1 _).mono ?_; rintro e w1 ⟨rfl, hb⟩; replace hS := hS.call hb; clear hb) | (go_at_call 75; with_reducible refine (low_m _ s HP.out.2.2.2.1 _).mono ?_; rintro e w1 ⟨rfl, hb⟩; replace hS := hS.call hb; clear hb) | (go_at_call 75; with_reducible refine (low_m _ s2 HP.out.2.2.2.2 _).mono ?_; rintro e w1 ⟨rfl, hb⟩; replace hS := hS.call hb; clear hb) | (go_at_call 85; with_reducible refine (bit_any _ i hi _).mono ?_; rintro e w1 ⟨rfl, hb⟩; replace hS := hS.call hb; clear hb))
          go_roundw
          case rel =>
            refine ⟨(i : Int) - 1, rfl, by omega, by omega, ?_⟩
            obtain ⟨e1, e2, e3⟩ := HH.out
            rw [hbit] at e3
            rw [show ((i : Int) - 1 + 1).toNat = i by omega, e3, show (true : Bool).toNat = 1 from rfl, ← e2]
            exact hS
          case measure => simp [intOf]
        · have hbit : y.testBit i = false := by simpa using hbit
          go_wp2_with (first | (refine st_load hS rfl 42 _ rfl rfl (by repeat (first | exact At.head | apply At.tail)) limbs_type rfl limbs_size (dig_size _ _) ?_) | (refine st_load hS rfl 23 _ rfl rfl (by repeat (first | exact At.head | apply At.tail)) word_type rfl word_size (wf_size _) ?_) | (refine st_store hS rfl 42 _ _ rfl rfl rfl (by repeat (first | exact Upd.head | apply Upd.tail)) limbs_size (dig_size _ _) (dig_size _ _) (dig_one _ _) ?_; clear hS; intro w1 hS) | (go_at_call 74; with_reducible refine (times_any p p HP.out.1 HP.out.1 _).mono ?_; rintro e w1 ⟨rfl, hb⟩; replace hS := hS.call hb; clear hb) | (go_at_call 74; with_reducible refine (times_any s x HP.out.2.1 HP.out.2.2.1 _).mono ?_; rintro e w1 ⟨rfl, hb⟩; replace hS := hS.call hb; clear hb) | (go_at_call 75; with_reducible refine (low_m _ s HP.out.2.2.2.1 _).mono ?_; rintro e w1 ⟨rfl, hb⟩; replace hS := hS.call hb; clear hb) | (go_at_call 75; with_reducible refine (low_m _ s2 HP.out.2.2.2.2 _).mono ?_; rintro e w1 ⟨rfl, hb⟩; replace hS := hS.call hb; clear hb) | (go_at_call 85; with_reducible refine (bit_any _ i hi _).mono ?_; rintro e w1 ⟨rfl, hb⟩; replace hS := hS.call hb; clear hb))
          go_roundw
          case rel =>
            refine ⟨(i : Int) - 1, rfl, by omega, by omega, ?_⟩
            obtain ⟨e1, e2, e3⟩ := HH.out
            rw [hbit] at e3
            rw [show ((i : Int) - 1 + 1).toNat = i by omega, e3, show (false : Bool).toNat = 0 from rfl, Nat.add_zero, ← e1]
            exact hS
          case measure => simp [intOf]
      · obtain rfl : m = -1 := by omega
        rw [show ((-1 : Int) + 1).toNat = 0 by rfl, Nat.pow_zero, Nat.div_one] at hS
        go_wp2_with (first | (refine st_load hS rfl 42 _ rfl rfl (by repeat (first | exact At.head | apply At.tail)) limbs_type rfl limbs_size (dig_size _ _) ?_) | (refine st_store hS rfl 23 _ _ rfl rfl rfl (by repeat (first | exact Upd.head | apply Upd.tail)) word_size (wf_size _) (wf_size _) (wf_one _) ?_; clear hS; intro w1 hS) | (go_at_call 68; with_reducible refine (word_any _ _).mono ?_; rintro e w1 ⟨rfl, hb⟩; replace hS := hS.call hb; clear hb))
        exact st_post hS 4 23 rfl rfl rfl (by repeat (first | exact At.head | apply At.tail)) word_type rfl word_size (wf_size _) (fun hb => ⟨rfl, hb⟩)
  · refine wp_region_held_drew (S := fun w' => St w w' _) (by kernel_rfl) hS.drew fun _ => ?_
    replace hS := hS.drew
    simp only [List.size_toArray, List.length_cons, List.length_nil, Nat.reduceAdd, Array.replicate_succ, Array.replicate_zero, List.push_toArray, List.nil_append, List.cons_append]
    refine wpAnyH_take (i := 0) rfl (by kernel_rfl) (by kernel_rfl) (by kernel_rfl) (fun _ _ _ h => Exit.noConfusion h.1) (y_load rfl 23 _ rfl rfl (by repeat (first | exact At.head | apply At.tail)) word_type rfl word_size (wf_size _)) hS ?_; simp only [Act.put, List.getElem_toArray, List.getElem_cons_succ, List.getElem_cons_zero, List.setIfInBounds_toArray, List.set_cons_zero, List.set_cons_succ]
    refine wpAnyH_take (i := 2) rfl (by kernel_rfl) (by kernel_rfl) (by kernel_rfl) (fun _ _ _ h => Exit.noConfusion h.1) (y_load rfl 23 _ rfl rfl (by repeat (first | exact At.head | apply At.tail)) word_type rfl word_size (wf_size _)) hS ?_; simp only [Act.put, List.getElem_toArray, List.getElem_cons_succ, List.getElem_cons_zero, List.setIfInBounds_toArray, List.set_cons_zero, List.set_cons_succ]
    refine wpAnyH_all (rs := [1, 4, 5]) (by kernel_rfl) (by simp) ?_
    intro i hi
    have hi2 : i = 1 ∨ i = 4 ∨ i = 5 := by simpa using hi
    rcases hi2 with rfl | rfl | rfl
    ·
      refine o_call rfl rfl (by kernel_rfl) (load_any x _) hS fun w1 hS => ⟨hS, ?_⟩
      simp only [Act.put, List.getElem_toArray, List.getElem_cons_succ, List.getElem_cons_zero, List.setIfInBounds_toArray, List.set_cons_zero, List.set_cons_succ]
      refine wpAnyH_all (rs := [3, 4, 5]) (by kernel_rfl) (by simp) ?_
      intro i hi
      have hi2 : i = 3 ∨ i = 4 ∨ i = 5 := by simpa using hi
      rcases hi2 with rfl | rfl | rfl
      ·
        refine o_call rfl rfl (by kernel_rfl) (load_any y _) hS fun w1 hS => ⟨hS, ?_⟩
        simp only [Act.put, List.getElem_toArray, List.getElem_cons_succ, List.getElem_cons_zero, List.setIfInBounds_toArray, List.set_cons_zero, List.set_cons_succ]
        refine wpAnyH_all (rs := [4, 5]) (by kernel_rfl) (by simp) ?_
        intro i hi
        have hi2 : i = 4 ∨ i = 5 := by simpa using hi
        rcases hi2 with rfl | rfl
        ·
          refine o_new rfl rfl 42 rfl limbs_zero hS fun w1 b4 hS => ⟨hS.drop, ?_⟩
          simp only [Act.put, List.getElem_toArray, List.getElem_cons_succ, List.getElem_cons_zero, List.setIfInBounds_toArray, List.set_cons_zero, List.set_cons_succ]
          refine wpAnyH_all (rs := [5]) (by kernel_rfl) (by simp) ?_
          intro i hi
          obtain rfl : i = 5 := by simpa using hi
          refine o_new rfl rfl 42 rfl limbs_zero hS fun w1 b5 hS => ⟨hS.drop.drop, ?_⟩
          simp only [Act.put, List.getElem_toArray, List.getElem_cons_succ, List.getElem_cons_zero, List.setIfInBounds_toArray, List.set_cons_zero, List.set_cons_succ]
          refine wpAnyH_all (rs := [6]) (by kernel_rfl) (by simp) ?_
          intro i hi
          obtain rfl : i = 6 := by simpa using hi
          refine o_store (c' := dig 4 x) rfl rfl hS 42 _ _ rfl rfl rfl (by repeat (first | exact Upd.head | apply Upd.tail)) limbs_size (dig_size _ _) (dig_size _ _) (dig_one _ _) fun w1 hS => ⟨hS.drop.drop, ?_⟩
          simp only [Act.put, List.getElem_toArray, List.getElem_cons_succ, List.getElem_cons_zero, List.setIfInBounds_toArray, List.set_cons_zero, List.set_cons_succ]
          refine wpAnyH_all (rs := [7]) (by kernel_rfl) (by simp) ?_
          intro i hi
          obtain rfl : i = 7 := by simpa using hi
          refine o_store (c' := dig 4 y) rfl rfl hS 42 _ _ rfl rfl rfl (by repeat (first | exact Upd.head | apply Upd.tail)) limbs_size (dig_size _ _) (dig_size _ _) (dig_one _ _) fun w1 hS => ⟨hS.drop.drop, ?_⟩
          simp only [Act.put, List.getElem_toArray, List.getElem_cons_succ, List.getElem_cons_zero, List.setIfInBounds_toArray, List.set_cons_zero, List.set_cons_succ]
          refine wpAnyH_done (by kernel_rfl) ?_ _
          exact ⟨rfl, _, _, rfl, hS⟩
        ·
          refine o_new rfl rfl 42 rfl limbs_zero hS fun w1 b5 hS => ⟨hS.drop, ?_⟩
          simp only [Act.put, List.getElem_toArray, List.getElem_cons_succ, List.getElem_cons_zero, List.setIfInBounds_toArray, List.set_cons_zero, List.set_cons_succ]
          refine wpAnyH_all (rs := [4]) (by kernel_rfl) (by simp) ?_
          intro i hi
          obtain rfl : i = 4 := by simpa using hi
          refine o_new rfl rfl 42 rfl limbs_zero hS fun w1 b4 hS => ⟨hS.drop.drop, ?_⟩
          simp only [Act.put, List.getElem_toArray, List.getElem_cons_succ, List.getElem_cons_zero, List.setIfInBounds_toArray, List.set_cons_zero, List.set_cons_succ]
          replace hS := hS.swap
          refine wpAnyH_all (rs := [6]) (by kernel_rfl) (by simp) ?_
          intro i hi
          obtain rfl : i = 6 := by simpa using hi
          refine o_store (c' := dig 4 x) rfl rfl hS 42 _ _ rfl rfl rfl (by repeat (first | exact Upd.head | apply Upd.tail)) limbs_size (dig_size _ _) (dig_size _ _) (dig_one _ _) fun w1 hS => ⟨hS.drop.drop, ?_⟩
          simp only [Act.put, List.getElem_toArray, List.getElem_cons_succ, List.getElem_cons_zero, List.setIfInBounds_toArray, List.set_cons_zero, List.set_cons_succ]
          refine wpAnyH_all (rs := [7]) (by kernel_rfl) (by simp) ?_
          intro i hi
          obtain rfl : i = 7 := by simpa using hi
          refine o_store (c' := dig 4 y) rfl rfl hS 42 _ _ rfl rfl rfl (by repeat (first | exact Upd.head | apply Upd.tail)) limbs_size (dig_size _ _) (dig_size _ _) (dig_one _ _) fun w1 hS => ⟨hS.drop.drop, ?_⟩
          simp only [Act.put, List.getElem_toArray, List.getElem_cons_succ, List.getElem_cons_zero, List.setIfInBounds_toArray, List.set_cons_zero, List.set_cons_succ]
          refine wpAnyH_done (by kernel_rfl) ?_ _
          exact ⟨rfl, _, _, rfl, hS⟩
      ·
        refine o_new rfl rfl 42 rfl limbs_zero hS fun w1 b4 hS => ⟨hS.drop, ?_⟩
        simp only [Act.put, List.getElem_toArray, List.getElem_cons_succ, List.getElem_cons_zero, List.setIfInBounds_toArray, List.set_cons_zero, List.set_cons_succ]
        refine wpAnyH_all (rs := [3, 5]) (by kernel_rfl) (by simp) ?_
        intro i hi
        have hi2 : i = 3 ∨ i = 5 := by simpa using hi
        rcases hi2 with rfl | rfl
        ·
          refine o_call rfl rfl (by kernel_rfl) (load_any y _) hS fun w1 hS => ⟨hS.drop, ?_⟩
          simp only [Act.put, List.getElem_toArray, List.getElem_cons_succ, List.getElem_cons_zero, List.setIfInBounds_toArray, List.set_cons_zero, List.set_cons_succ]
          refine wpAnyH_all (rs := [5]) (by kernel_rfl) (by simp) ?_
          intro i hi
          obtain rfl : i = 5 := by simpa using hi
          refine o_new rfl rfl 42 rfl limbs_zero hS fun w1 b5 hS => ⟨hS.drop.drop, ?_⟩
          simp only [Act.put, List.getElem_toArray, List.getElem_cons_succ, List.getElem_cons_zero, List.setIfInBounds_toArray, List.set_cons_zero, List.set_cons_succ]
          refine wpAnyH_all (rs := [6]) (by kernel_rfl) (by simp) ?_
          intro i hi
          obtain rfl : i = 6 := by simpa using hi
          refine o_store (c' := dig 4 x) rfl rfl hS 42 _ _ rfl rfl rfl (by repeat (first | exact Upd.head | apply Upd.tail)) limbs_size (dig_size _ _) (dig_size _ _) (dig_one _ _) fun w1 hS => ⟨hS.drop.drop, ?_⟩
          simp only [Act.put, List.getElem_toArray, List.getElem_cons_succ, List.getElem_cons_zero, List.setIfInBounds_toArray, List.set_cons_zero, List.set_cons_succ]
          refine wpAnyH_all (rs := [7]) (by kernel_rfl) (by simp) ?_
          intro i hi
          obtain rfl : i = 7 := by simpa using hi
          refine o_store (c' := dig 4 y) rfl rfl hS 42 _ _ rfl rfl rfl (by repeat (first | exact Upd.head | apply Upd.tail)) limbs_size (dig_size _ _) (dig_size _ _) (dig_one _ _) fun w1 hS => ⟨hS.drop.drop, ?_⟩
          simp only [Act.put, List.getElem_toArray, List.getElem_cons_succ, List.getElem_cons_zero, List.setIfInBounds_toArray, List.set_cons_zero, List.set_cons_succ]
          refine wpAnyH_done (by kernel_rfl) ?_ _
          exact ⟨rfl, _, _, rfl, hS⟩
        ·
          refine o_new rfl rfl 42 rfl limbs_zero hS fun w1 b5 hS => ⟨hS.drop.drop, ?_⟩
          simp only [Act.put, List.getElem_toArray, List.getElem_cons_succ, List.getElem_cons_zero, List.setIfInBounds_toArray, List.set_cons_zero, List.set_cons_succ]
          refine wpAnyH_all (rs := [3]) (by kernel_rfl) (by simp) ?_
          intro i hi
          obtain rfl : i = 3 := by simpa using hi
          refine o_call rfl rfl (by kernel_rfl) (load_any y _) hS fun w1 hS => ⟨hS.drop.drop, ?_⟩
          simp only [Act.put, List.getElem_toArray, List.getElem_cons_succ, List.getElem_cons_zero, List.setIfInBounds_toArray, List.set_cons_zero, List.set_cons_succ]
          refine wpAnyH_all (rs := [6]) (by kernel_rfl) (by simp) ?_
          intro i hi
          obtain rfl : i = 6 := by simpa using hi
          refine o_store (c' := dig 4 x) rfl rfl hS 42 _ _ rfl rfl rfl (by repeat (first | exact Upd.head | apply Upd.tail)) limbs_size (dig_size _ _) (dig_size _ _) (dig_one _ _) fun w1 hS => ⟨hS.drop.drop, ?_⟩
          simp only [Act.put, List.getElem_toArray, List.getElem_cons_succ, List.getElem_cons_zero, List.setIfInBounds_toArray, List.set_cons_zero, List.set_cons_succ]
          refine wpAnyH_all (rs := [7]) (by kernel_rfl) (by simp) ?_
          intro i hi
          obtain rfl : i = 7 := by simpa using hi
          refine o_store (c' := dig 4 y) rfl rfl hS 42 _ _ rfl rfl rfl (by repeat (first | exact Upd.head | apply Upd.tail)) limbs_size (dig_size _ _) (dig_size _ _) (dig_one _ _) fun w1 hS => ⟨hS.drop.drop, ?_⟩
          simp only [Act.put, List.getElem_toArray, List.getElem_cons_succ, List.getElem_cons_zero, List.setIfInBounds_toArray, List.set_cons_zero, List.set_cons_succ]
          refine wpAnyH_done (by kernel_rfl) ?_ _
          exact ⟨rfl, _, _, rfl, hS⟩
      ·
        refine o_new rfl rfl 42 rfl limbs_zero hS fun w1 b5 hS => ⟨hS.drop, ?_⟩
        simp only [Act.put, List.getElem_toArray, List.getElem_cons_succ, List.getElem_cons_zero, List.setIfInBounds_toArray, List.set_cons_zero, List.set_cons_succ]
        refine wpAnyH_all (rs := [3, 4]) (by kernel_rfl) (by simp) ?_
        intro i hi
        have hi2 : i = 3 ∨ i = 4 := by simpa using hi
        rcases hi2 with rfl | rfl
        ·
          refine o_call rfl rfl (by kernel_rfl) (load_any y _) hS fun w1 hS => ⟨hS.drop, ?_⟩
          simp only [Act.put, List.getElem_toArray, List.getElem_cons_succ, List.getElem_cons_zero, List.setIfInBounds_toArray, List.set_cons_zero, List.set_cons_succ]
          refine wpAnyH_all (rs := [4]) (by kernel_rfl) (by simp) ?_
          intro i hi
          obtain rfl : i = 4 := by simpa using hi
          refine o_new rfl rfl 42 rfl limbs_zero hS fun w1 b4 hS => ⟨hS.drop.drop, ?_⟩
          simp only [Act.put, List.getElem_toArray, List.getElem_cons_succ, List.getElem_cons_zero, List.setIfInBounds_toArray, List.set_cons_zero, List.set_cons_succ]
          replace hS := hS.swap
          refine wpAnyH_all (rs := [6]) (by kernel_rfl) (by simp) ?_
          intro i hi
          obtain rfl : i = 6 := by simpa using hi
          refine o_store (c' := dig 4 x) rfl rfl hS 42 _ _ rfl rfl rfl (by repeat (first | exact Upd.head | apply Upd.tail)) limbs_size (dig_size _ _) (dig_size _ _) (dig_one _ _) fun w1 hS => ⟨hS.drop.drop, ?_⟩
          simp only [Act.put, List.getElem_toArray, List.getElem_cons_succ, List.getElem_cons_zero, List.setIfInBounds_toArray, List.set_cons_zero, List.set_cons_succ]
          refine wpAnyH_all (rs := [7]) (by kernel_rfl) (by simp) ?_
          intro i hi
          obtain rfl : i = 7 := by simpa using hi
          refine o_store (c' := dig 4 y) rfl rfl hS 42 _ _ rfl rfl rfl (by repeat (first | exact Upd.head | apply Upd.tail)) limbs_size (dig_size _ _) (dig_size _ _) (dig_one _ _) fun w1 hS => ⟨hS.drop.drop, ?_⟩
          simp only [Act.put, List.getElem_toArray, List.getElem_cons_succ, List.getElem_cons_zero, List.setIfInBounds_toArray, List.set_cons_zero, List.set_cons_succ]
          refine wpAnyH_done (by kernel_rfl) ?_ _
          exact ⟨rfl, _, _, rfl, hS⟩
        ·
          refine o_new rfl rfl 42 rfl limbs_zero hS fun w1 b4 hS => ⟨hS.drop.drop, ?_⟩
          simp only [Act.put, List.getElem_toArray, List.getElem_cons_succ, List.getElem_cons_zero, List.setIfInBounds_toArray, List.set_cons_zero, List.set_cons_succ]
          refine wpAnyH_all (rs := [3]) (by kernel_rfl) (by simp) ?_
          intro i hi
          obtain rfl : i = 3 := by simpa using hi
          refine o_call rfl rfl (by kernel_rfl) (load_any y _) hS fun w1 hS => ⟨hS.drop.drop, ?_⟩
          simp only [Act.put, List.getElem_toArray, List.getElem_cons_succ, List.getElem_cons_zero, List.setIfInBounds_toArray, List.set_cons_zero, List.set_cons_succ]
          replace hS := hS.swap
          refine wpAnyH_all (rs := [6]) (by kernel_rfl) (by simp) ?_
          intro i hi
          obtain rfl : i = 6 := by simpa using hi
          refine o_store (c' := dig 4 x) rfl rfl hS 42 _ _ rfl rfl rfl (by repeat (first | exact Upd.head | apply Upd.tail)) limbs_size (dig_size _ _) (dig_size _ _) (dig_one _ _) fun w1 hS => ⟨hS.drop.drop, ?_⟩
          simp only [Act.put, List.getElem_toArray, List.getElem_cons_succ, List.getElem_cons_zero, List.setIfInBounds_toArray, List.set_cons_zero, List.set_cons_succ]
          refine wpAnyH_all (rs := [7]) (by kernel_rfl) (by simp) ?_
          intro i hi
          obtain rfl : i = 7 := by simpa using hi
          refine o_store (c' := dig 4 y) rfl rfl hS 42 _ _ rfl rfl rfl (by repeat (first | exact Upd.head | apply Upd.tail)) limbs_size (dig_size _ _) (dig_size _ _) (dig_one _ _) fun w1 hS => ⟨hS.drop.drop, ?_⟩
          simp only [Act.put, List.getElem_toArray, List.getElem_cons_succ, List.getElem_cons_zero, List.setIfInBounds_toArray, List.set_cons_zero, List.set_cons_succ]
          refine wpAnyH_done (by kernel_rfl) ?_ _
          exact ⟨rfl, _, _, rfl, hS⟩
    ·
      refine o_new rfl rfl 42 rfl limbs_zero hS fun w1 b4 hS => ⟨hS.drop, ?_⟩
      simp only [Act.put, List.getElem_toArray, List.getElem_cons_succ, List.getElem_cons_zero, List.setIfInBounds_toArray, List.set_cons_zero, List.set_cons_succ]
      refine wpAnyH_all (rs := [1, 5]) (by kernel_rfl) (by simp) ?_
      intro i hi
      have hi2 : i = 1 ∨ i = 5 := by simpa using hi
      rcases hi2 with rfl | rfl
      ·
        refine o_call rfl rfl (by kernel_rfl) (load_any x _) hS fun w1 hS => ⟨hS.drop, ?_⟩
        simp only [Act.put, List.getElem_toArray, List.getElem_cons_succ, List.getElem_cons_zero, List.setIfInBounds_toArray, List.set_cons_zero, List.set_cons_succ]
        refine wpAnyH_all (rs := [3, 5]) (by kernel_rfl) (by simp) ?_
        intro i hi
        have hi2 : i = 3 ∨ i = 5 := by simpa using hi
        rcases hi2 with rfl | rfl
        ·
          refine o_call rfl rfl (by kernel_rfl) (load_any y _) hS fun w1 hS => ⟨hS.drop, ?_⟩
          simp only [Act.put, List.getElem_toArray, List.getElem_cons_succ, List.getElem_cons_zero, List.setIfInBounds_toArray, List.set_cons_zero, List.set_cons_succ]
          refine wpAnyH_all (rs := [5]) (by kernel_rfl) (by simp) ?_
          intro i hi
          obtain rfl : i = 5 := by simpa using hi
          refine o_new rfl rfl 42 rfl limbs_zero hS fun w1 b5 hS => ⟨hS.drop.drop, ?_⟩
          simp only [Act.put, List.getElem_toArray, List.getElem_cons_succ, List.getElem_cons_zero, List.setIfInBounds_toArray, List.set_cons_zero, List.set_cons_succ]
          refine wpAnyH_all (rs := [6]) (by kernel_rfl) (by simp) ?_
          intro i hi
          obtain rfl : i = 6 := by simpa using hi
          refine o_store (c' := dig 4 x) rfl rfl hS 42 _ _ rfl rfl rfl (by repeat (first | exact Upd.head | apply Upd.tail)) limbs_size (dig_size _ _) (dig_size _ _) (dig_one _ _) fun w1 hS => ⟨hS.drop.drop, ?_⟩
          simp only [Act.put, List.getElem_toArray, List.getElem_cons_succ, List.getElem_cons_zero, List.setIfInBounds_toArray, List.set_cons_zero, List.set_cons_succ]
          refine wpAnyH_all (rs := [7]) (by kernel_rfl) (by simp) ?_
          intro i hi
          obtain rfl : i = 7 := by simpa using hi
          refine o_store (c' := dig 4 y) rfl rfl hS 42 _ _ rfl rfl rfl (by repeat (first | exact Upd.head | apply Upd.tail)) limbs_size (dig_size _ _) (dig_size _ _) (dig_one _ _) fun w1 hS => ⟨hS.drop.drop, ?_⟩
          simp only [Act.put, List.getElem_toArray, List.getElem_cons_succ, List.getElem_cons_zero, List.setIfInBounds_toArray, List.set_cons_zero, List.set_cons_succ]
          refine wpAnyH_done (by kernel_rfl) ?_ _
          exact ⟨rfl, _, _, rfl, hS⟩
        ·
          refine o_new rfl rfl 42 rfl limbs_zero hS fun w1 b5 hS => ⟨hS.drop.drop, ?_⟩
          simp only [Act.put, List.getElem_toArray, List.getElem_cons_succ, List.getElem_cons_zero, List.setIfInBounds_toArray, List.set_cons_zero, List.set_cons_succ]
          refine wpAnyH_all (rs := [3]) (by kernel_rfl) (by simp) ?_
          intro i hi
          obtain rfl : i = 3 := by simpa using hi
          refine o_call rfl rfl (by kernel_rfl) (load_any y _) hS fun w1 hS => ⟨hS.drop.drop, ?_⟩
          simp only [Act.put, List.getElem_toArray, List.getElem_cons_succ, List.getElem_cons_zero, List.setIfInBounds_toArray, List.set_cons_zero, List.set_cons_succ]
          refine wpAnyH_all (rs := [6]) (by kernel_rfl) (by simp) ?_
          intro i hi
          obtain rfl : i = 6 := by simpa using hi
          refine o_store (c' := dig 4 x) rfl rfl hS 42 _ _ rfl rfl rfl (by repeat (first | exact Upd.head | apply Upd.tail)) limbs_size (dig_size _ _) (dig_size _ _) (dig_one _ _) fun w1 hS => ⟨hS.drop.drop, ?_⟩
          simp only [Act.put, List.getElem_toArray, List.getElem_cons_succ, List.getElem_cons_zero, List.setIfInBounds_toArray, List.set_cons_zero, List.set_cons_succ]
          refine wpAnyH_all (rs := [7]) (by kernel_rfl) (by simp) ?_
          intro i hi
          obtain rfl : i = 7 := by simpa using hi
          refine o_store (c' := dig 4 y) rfl rfl hS 42 _ _ rfl rfl rfl (by repeat (first | exact Upd.head | apply Upd.tail)) limbs_size (dig_size _ _) (dig_size _ _) (dig_one _ _) fun w1 hS => ⟨hS.drop.drop, ?_⟩
          simp only [Act.put, List.getElem_toArray, List.getElem_cons_succ, List.getElem_cons_zero, List.setIfInBounds_toArray, List.set_cons_zero, List.set_cons_succ]
          refine wpAnyH_done (by kernel_rfl) ?_ _
          exact ⟨rfl, _, _, rfl, hS⟩
      ·
        refine o_new rfl rfl 42 rfl limbs_zero hS fun w1 b5 hS => ⟨hS.drop.drop, ?_⟩
        simp only [Act.put, List.getElem_toArray, List.getElem_cons_succ, List.getElem_cons_zero, List.setIfInBounds_toArray, List.set_cons_zero, List.set_cons_succ]
        refine wpAnyH_all (rs := [1]) (by kernel_rfl) (by simp) ?_
        intro i hi
        obtain rfl : i = 1 := by simpa using hi
        refine o_call rfl rfl (by kernel_rfl) (load_any x _) hS fun w1 hS => ⟨hS.drop.drop, ?_⟩
        simp only [Act.put, List.getElem_toArray, List.getElem_cons_succ, List.getElem_cons_zero, List.setIfInBounds_toArray, List.set_cons_zero, List.set_cons_succ]
        refine wpAnyH_all (rs := [3]) (by kernel_rfl) (by simp) ?_
        intro i hi
        obtain rfl : i = 3 := by simpa using hi
        refine o_call rfl rfl (by kernel_rfl) (load_any y _) hS fun w1 hS => ⟨hS.drop.drop, ?_⟩
        simp only [Act.put, List.getElem_toArray, List.getElem_cons_succ, List.getElem_cons_zero, List.setIfInBounds_toArray, List.set_cons_zero, List.set_cons_succ]
        refine wpAnyH_all (rs := [6]) (by kernel_rfl) (by simp) ?_
        intro i hi
        obtain rfl : i = 6 := by simpa using hi
        refine o_store (c' := dig 4 x) rfl rfl hS 42 _ _ rfl rfl rfl (by repeat (first | exact Upd.head | apply Upd.tail)) limbs_size (dig_size _ _) (dig_size _ _) (dig_one _ _) fun w1 hS => ⟨hS.drop.drop, ?_⟩
        simp only [Act.put, List.getElem_toArray, List.getElem_cons_succ, List.getElem_cons_zero, List.setIfInBounds_toArray, List.set_cons_zero, List.set_cons_succ]
        refine wpAnyH_all (rs := [7]) (by kernel_rfl) (by simp) ?_
        intro i hi
        obtain rfl : i = 7 := by simpa using hi
        refine o_store (c' := dig 4 y) rfl rfl hS 42 _ _ rfl rfl rfl (by repeat (first | exact Upd.head | apply Upd.tail)) limbs_size (dig_size _ _) (dig_size _ _) (dig_one _ _) fun w1 hS => ⟨hS.drop.drop, ?_⟩
        simp only [Act.put, List.getElem_toArray, List.getElem_cons_succ, List.getElem_cons_zero, List.setIfInBounds_toArray, List.set_cons_zero, List.set_cons_succ]
        refine wpAnyH_done (by kernel_rfl) ?_ _
        exact ⟨rfl, _, _, rfl, hS⟩
    ·
      refine o_new rfl rfl 42 rfl limbs_zero hS fun w1 b5 hS => ⟨hS.drop, ?_⟩
      simp only [Act.put, List.getElem_toArray, List.getElem_cons_succ, List.getElem_cons_zero, List.setIfInBounds_toArray, List.set_cons_zero, List.set_cons_succ]
      refine wpAnyH_all (rs := [1, 4]) (by kernel_rfl) (by simp) ?_
      intro i hi
      have hi2 : i = 1 ∨ i = 4 := by simpa using hi
      rcases hi2 with rfl | rfl
      ·
        refine o_call rfl rfl (by kernel_rfl) (load_any x _) hS fun w1 hS => ⟨hS.drop, ?_⟩
        simp only [Act.put, List.getElem_toArray, List.getElem_cons_succ, List.getElem_cons_zero, List.setIfInBounds_toArray, List.set_cons_zero, List.set_cons_succ]
        refine wpAnyH_all (rs := [3, 4]) (by kernel_rfl) (by simp) ?_
        intro i hi
        have hi2 : i = 3 ∨ i = 4 := by simpa using hi
        rcases hi2 with rfl | rfl
        ·
          refine o_call rfl rfl (by kernel_rfl) (load_any y _) hS fun w1 hS => ⟨hS.drop, ?_⟩
          simp only [Act.put, List.getElem_toArray, List.getElem_cons_succ, List.getElem_cons_zero, List.setIfInBounds_toArray, List.set_cons_zero, List.set_cons_succ]
          refine wpAnyH_all (rs := [4]) (by kernel_rfl) (by simp) ?_
          intro i hi
          obtain rfl : i = 4 := by simpa using hi
          refine o_new rfl rfl 42 rfl limbs_zero hS fun w1 b4 hS => ⟨hS.drop.drop, ?_⟩
          simp only [Act.put, List.getElem_toArray, List.getElem_cons_succ, List.getElem_cons_zero, List.setIfInBounds_toArray, List.set_cons_zero, List.set_cons_succ]
          replace hS := hS.swap
          refine wpAnyH_all (rs := [6]) (by kernel_rfl) (by simp) ?_
          intro i hi
          obtain rfl : i = 6 := by simpa using hi
          refine o_store (c' := dig 4 x) rfl rfl hS 42 _ _ rfl rfl rfl (by repeat (first | exact Upd.head | apply Upd.tail)) limbs_size (dig_size _ _) (dig_size _ _) (dig_one _ _) fun w1 hS => ⟨hS.drop.drop, ?_⟩
          simp only [Act.put, List.getElem_toArray, List.getElem_cons_succ, List.getElem_cons_zero, List.setIfInBounds_toArray, List.set_cons_zero, List.set_cons_succ]
          refine wpAnyH_all (rs := [7]) (by kernel_rfl) (by simp) ?_
          intro i hi
          obtain rfl : i = 7 := by simpa using hi
          refine o_store (c' := dig 4 y) rfl rfl hS 42 _ _ rfl rfl rfl (by repeat (first | exact Upd.head | apply Upd.tail)) limbs_size (dig_size _ _) (dig_size _ _) (dig_one _ _) fun w1 hS => ⟨hS.drop.drop, ?_⟩
          simp only [Act.put, List.getElem_toArray, List.getElem_cons_succ, List.getElem_cons_zero, List.setIfInBounds_toArray, List.set_cons_zero, List.set_cons_succ]
          refine wpAnyH_done (by kernel_rfl) ?_ _
          exact ⟨rfl, _, _, rfl, hS⟩
        ·
          refine o_new rfl rfl 42 rfl limbs_zero hS fun w1 b4 hS => ⟨hS.drop.drop, ?_⟩
          simp only [Act.put, List.getElem_toArray, List.getElem_cons_succ, List.getElem_cons_zero, List.setIfInBounds_toArray, List.set_cons_zero, List.set_cons_succ]
          refine wpAnyH_all (rs := [3]) (by kernel_rfl) (by simp) ?_
          intro i hi
          obtain rfl : i = 3 := by simpa using hi
          refine o_call rfl rfl (by kernel_rfl) (load_any y _) hS fun w1 hS => ⟨hS.drop.drop, ?_⟩
          simp only [Act.put, List.getElem_toArray, List.getElem_cons_succ, List.getElem_cons_zero, List.setIfInBounds_toArray, List.set_cons_zero, List.set_cons_succ]
          replace hS := hS.swap
          refine wpAnyH_all (rs := [6]) (by kernel_rfl) (by simp) ?_
          intro i hi
          obtain rfl : i = 6 := by simpa using hi
          refine o_store (c' := dig 4 x) rfl rfl hS 42 _ _ rfl rfl rfl (by repeat (first | exact Upd.head | apply Upd.tail)) limbs_size (dig_size _ _) (dig_size _ _) (dig_one _ _) fun w1 hS => ⟨hS.drop.drop, ?_⟩
          simp only [Act.put, List.getElem_toArray, List.getElem_cons_succ, List.getElem_cons_zero, List.setIfInBounds_toArray, List.set_cons_zero, List.set_cons_succ]
          refine wpAnyH_all (rs := [7]) (by kernel_rfl) (by simp) ?_
          intro i hi
          obtain rfl : i = 7 := by simpa using hi
          refine o_store (c' := dig 4 y) rfl rfl hS 42 _ _ rfl rfl rfl (by repeat (first | exact Upd.head | apply Upd.tail)) limbs_size (dig_size _ _) (dig_size _ _) (dig_one _ _) fun w1 hS => ⟨hS.drop.drop, ?_⟩
          simp only [Act.put, List.getElem_toArray, List.getElem_cons_succ, List.getElem_cons_zero, List.setIfInBounds_toArray, List.set_cons_zero, List.set_cons_succ]
          refine wpAnyH_done (by kernel_rfl) ?_ _
          exact ⟨rfl, _, _, rfl, hS⟩
      ·
        refine o_new rfl rfl 42 rfl limbs_zero hS fun w1 b4 hS => ⟨hS.drop.drop, ?_⟩
        simp only [Act.put, List.getElem_toArray, List.getElem_cons_succ, List.getElem_cons_zero, List.setIfInBounds_toArray, List.set_cons_zero, List.set_cons_succ]
        refine wpAnyH_all (rs := [1]) (by kernel_rfl) (by simp) ?_
        intro i hi
        obtain rfl : i = 1 := by simpa using hi
        refine o_call rfl rfl (by kernel_rfl) (load_any x _) hS fun w1 hS => ⟨hS.drop.drop, ?_⟩
        simp only [Act.put, List.getElem_toArray, List.getElem_cons_succ, List.getElem_cons_zero, List.setIfInBounds_toArray, List.set_cons_zero, List.set_cons_succ]
        refine wpAnyH_all (rs := [3]) (by kernel_rfl) (by simp) ?_
        intro i hi
        obtain rfl : i = 3 := by simpa using hi
        refine o_call rfl rfl (by kernel_rfl) (load_any y _) hS fun w1 hS => ⟨hS.drop.drop, ?_⟩
        simp only [Act.put, List.getElem_toArray, List.getElem_cons_succ, List.getElem_cons_zero, List.setIfInBounds_toArray, List.set_cons_zero, List.set_cons_succ]
        replace hS := hS.swap
        refine wpAnyH_all (rs := [6]) (by kernel_rfl) (by simp) ?_
        intro i hi
        obtain rfl : i = 6 := by simpa using hi
        refine o_store (c' := dig 4 x) rfl rfl hS 42 _ _ rfl rfl rfl (by repeat (first | exact Upd.head | apply Upd.tail)) limbs_size (dig_size _ _) (dig_size _ _) (dig_one _ _) fun w1 hS => ⟨hS.drop.drop, ?_⟩
        simp only [Act.put, List.getElem_toArray, List.getElem_cons_succ, List.getElem_cons_zero, List.setIfInBounds_toArray, List.set_cons_zero, List.set_cons_succ]
        refine wpAnyH_all (rs := [7]) (by kernel_rfl) (by simp) ?_
        intro i hi
        obtain rfl : i = 7 := by simpa using hi
        refine o_store (c' := dig 4 y) rfl rfl hS 42 _ _ rfl rfl rfl (by repeat (first | exact Upd.head | apply Upd.tail)) limbs_size (dig_size _ _) (dig_size _ _) (dig_one _ _) fun w1 hS => ⟨hS.drop.drop, ?_⟩
        simp only [Act.put, List.getElem_toArray, List.getElem_cons_succ, List.getElem_cons_zero, List.setIfInBounds_toArray, List.set_cons_zero, List.set_cons_succ]
        refine wpAnyH_done (by kernel_rfl) ?_ _
        exact ⟨rfl, _, _, rfl, hS⟩

end Go.Proofs.Ytcdjinjeogodfaa
