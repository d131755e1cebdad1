/- The document's words extended. -/
import Derived.Test.YtcdjinjeogodfaaR2
import Derived.Test.YtcdjinjeogodfaaRM2
import Derived.StillTailTactics
namespace Go.Proofs.Ytcdjinjeogodfaa
open Go.RowKit

set_option maxHeartbeats 1000000 in
set_option maxRecDepth 100000 in
theorem rExtend_any (k x : Nat) (hk : k < M256) (w : World) :
    Calls Try.prog 55 #[.agg (wcells k), .agg (wcells x)] w fun e w' => e = .returned (.agg (wcells (extN k x))) ∧ Below w.heap.size w w' := by
  by_cases h : k < 256
  · by_cases h2 : k < 31
    · have he := fun v => ext_bytes (x := x) (v := v) h2
      have g := wf_get (f := byt x) (show 31 - k < 32 by omega)
      have HB := Lib.hid (rsmall_yes k h)
      obtain ⟨m, hm⟩ : ∃ m, m = 31 - k := ⟨_, rfl⟩
      have e1 : 31 - (k : Int) = (m : Int) := by omega
      have hm2 : m < 32 := by omega
      rw [← hm] at g he
      obtain ⟨t, ht⟩ : ∃ t, t = byt x m := ⟨_, rfl⟩
      rw [← ht] at g he
      generalize extN k x = y at *
      by_cases htop : 128 ≤ t
      · have he2 := he 255 (by rw [if_pos htop])
        have hd : decide (128 ≤ (t : Int)) = true := by simp; omega
        have G := Lib.hid (And.intro g he2)
        clear g he he2 hm ht hk
        have hS := St.start w
        go_enter Try.func55, Try.ntmps55
        go_wp2_with (first | (have _t := b3; clear _t; refine st_new hS rfl 23 rfl word_zero ?_; clear hS; intro w1 b4 hS) | (have _t := b2; clear _t; refine st_box hS rfl _ _ rfl rfl ?_; clear hS; intro w1 b3 hS) | (refine st_box hS rfl _ _ rfl rfl ?_; clear hS; intro w1 b2 hS) | (refine st_load hS rfl 23 _ rfl rfl (by repeat (first | exact At.head | apply At.tail)) word_type rfl word_size (wf_size _) ?_) | (go_at_call 87; with_reducible refine (HB.out _).mono ?_; rintro e w1 ⟨rfl, hb⟩; replace hS := hS.call hb; clear hb) | (refine st_cell hS rfl 5 _ rfl rfl (by repeat (first | exact At.head | apply At.tail)) G.out.1 u8_agg ?_))
        go_loopw [8] (fun i wr => ∃ j : Nat, j ≤ m ∧ i = .int .i64 j ∧ St w wr [(b4, 23, wcells 0), (b3, 23, wf fun i => if i < j then 255 else byt x i), (b2, 23, wcells k)]) (fun i _ => m - (intOf i).toNat)
        case atStart => exact ⟨0, by omega, rfl, hS⟩
        case round =>
          clear hS
          obtain ⟨j, hj, rfl, hS⟩ := hrel
          by_cases hlt : j < m
          · have hst := wf_step (f := byt x) (g := fun _ => 255) (k := j) (v := 255) (by omega) rfl
            have HT := Lib.hid hst
            clear hst
            go_wp2_with (first | (refine st_store1 (j := j) hS rfl 5 _ _ rfl rfl rfl u8_size (by repeat (first | exact Upd.head | apply Upd.tail)) (by rw [wf_size]; omega) ?_; clear hS; intro w1 hS))
            rw [HT.out] at hS
            go_roundw
            case rel => exact ⟨j + 1, by omega, by go_num, hS⟩
            case measure => simp [intOf]; omega
          · obtain rfl : j = m := by omega
            rw [G.out.2] at hS
            go_wp2_with (first | (refine st_load hS rfl 23 _ rfl rfl (by repeat (first | exact At.head | apply At.tail)) word_type rfl word_size (wf_size _) ?_) | (refine st_store hS rfl 23 _ _ rfl rfl rfl (by repeat (first | exact Upd.head | apply Upd.tail)) word_size (wf_size _) (wf_size _) (wf_one _) ?_; clear hS; intro w1 hS))
            exact st_post hS 4 23 rfl rfl rfl (by repeat (first | exact At.head | apply At.tail)) word_type rfl word_size (wf_size _) (fun hb => ⟨rfl, hb⟩)
      · have he2 := he 0 (by rw [if_neg htop])
        have hd : decide (128 ≤ (t : Int)) = false := by simp; omega
        have hd : decide (128 ≤ (t : Int)) = false := by simp; omega
        have G := Lib.hid (And.intro g he2)
        clear g he he2 hm ht hk
        have hS := St.start w
        go_enter Try.func55, Try.ntmps55
        go_wp2_with (first | (have _t := b3; clear _t; refine st_new hS rfl 23 rfl word_zero ?_; clear hS; intro w1 b4 hS) | (have _t := b2; clear _t; refine st_box hS rfl _ _ rfl rfl ?_; clear hS; intro w1 b3 hS) | (refine st_box hS rfl _ _ rfl rfl ?_; clear hS; intro w1 b2 hS) | (refine st_load hS rfl 23 _ rfl rfl (by repeat (first | exact At.head | apply At.tail)) word_type rfl word_size (wf_size _) ?_) | (go_at_call 87; with_reducible refine (HB.out _).mono ?_; rintro e w1 ⟨rfl, hb⟩; replace hS := hS.call hb; clear hb) | (refine st_cell hS rfl 5 _ rfl rfl (by repeat (first | exact At.head | apply At.tail)) G.out.1 u8_agg ?_))
        go_loopw [8] (fun i wr => ∃ j : Nat, j ≤ m ∧ i = .int .i64 j ∧ St w wr [(b4, 23, wcells 0), (b3, 23, wf fun i => if i < j then 0 else byt x i), (b2, 23, wcells k)]) (fun i _ => m - (intOf i).toNat)
        case atStart => exact ⟨0, by omega, rfl, hS⟩
        case round =>
          clear hS
          obtain ⟨j, hj, rfl, hS⟩ := hrel
          by_cases hlt : j < m
          · have hst := wf_step (f := byt x) (g := fun _ => 0) (k := j) (v := 0) (by omega) rfl
            have HT := Lib.hid hst
            clear hst
            go_wp2_with (first | (refine st_store1 (j := j) hS rfl 5 _ _ rfl rfl rfl u8_size (by repeat (first | exact Upd.head | apply Upd.tail)) (by rw [wf_size]; omega) ?_; clear hS; intro w1 hS))
            rw [HT.out] at hS
            go_roundw
            case rel => exact ⟨j + 1, by omega, by go_num, hS⟩
            case measure => simp [intOf]; omega
          · obtain rfl : j = m := by omega
            rw [G.out.2] at hS
            go_wp2_with (first | (refine st_load hS rfl 23 _ rfl rfl (by repeat (first | exact At.head | apply At.tail)) word_type rfl word_size (wf_size _) ?_) | (refine st_store hS rfl 23 _ _ rfl rfl rfl (by repeat (first | exact Upd.head | apply Upd.tail)) word_size (wf_size _) (wf_size _) (wf_one _) ?_; clear hS; intro w1 hS))
            exact st_post hS 4 23 rfl rfl rfl (by repeat (first | exact At.head | apply At.tail)) word_type rfl word_size (wf_size _) (fun hb => ⟨rfl, hb⟩)
    · rw [show extN k x = x from if_neg h2]
      have HB := Lib.hid (rsmall_yes k h)
      clear hk
      have hS := St.start w
      go_enter Try.func55, Try.ntmps55
      go_wp2_with (first | (refine st_box hS rfl _ _ rfl rfl ?_; clear hS; intro w1 b1 hS) | (refine st_new hS rfl 23 rfl word_zero ?_; clear hS; intro w1 b1 hS) | (refine st_load hS rfl 23 _ rfl rfl (by repeat (first | exact At.head | apply At.tail)) word_type rfl word_size (wf_size _) ?_) | (go_at_call 87; with_reducible refine (HB.out _).mono ?_; rintro e w1 ⟨rfl, hb⟩; replace hS := hS.call hb; clear hb) | (refine st_store hS rfl 23 _ _ rfl rfl rfl (by repeat (first | exact Upd.head | apply Upd.tail)) word_size (wf_size _) (wf_size _) (wf_one _) ?_; clear hS; intro w1 hS))
      exact st_post hS 4 23 rfl rfl rfl (by repeat (first | exact At.head | apply At.tail)) word_type rfl word_size (wf_size _) (fun hb => ⟨rfl, hb⟩)
  · rw [show extN k x = x from if_neg (by omega)]
    have HB := Lib.hid (rsmall_no k hk h)
    clear hk h
    generalize smallN k = sk at *
    have hS := St.start w
    go_enter Try.func55, Try.ntmps55
    go_wp2_with (first | (refine st_box hS rfl _ _ rfl rfl ?_; clear hS; intro w1 b1 hS) | (refine st_new hS rfl 23 rfl word_zero ?_; clear hS; intro w1 b1 hS) | (refine st_load hS rfl 23 _ rfl rfl (by repeat (first | exact At.head | apply At.tail)) word_type rfl word_size (wf_size _) ?_) | (go_at_call 87; with_reducible refine (HB.out _).mono ?_; rintro e w1 ⟨rfl, hb⟩; replace hS := hS.call hb; clear hb) | (refine st_store hS rfl 23 _ _ rfl rfl rfl (by repeat (first | exact Upd.head | apply Upd.tail)) word_size (wf_size _) (wf_size _) (wf_one _) ?_; clear hS; intro w1 hS))
    exact st_post hS 4 23 rfl rfl rfl (by repeat (first | exact At.head | apply At.tail)) word_type rfl word_size (wf_size _) (fun hb => ⟨rfl, hb⟩)
end Go.Proofs.Ytcdjinjeogodfaa
