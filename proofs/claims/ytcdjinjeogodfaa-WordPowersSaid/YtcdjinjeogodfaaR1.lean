/- The document's words of integers: Of. -/
import Derived.Test.YtcdjinjeogodfaaJ5
import Derived.Test.YtcdjinjeogodfaaRM
import Derived.StillTailTactics
namespace Go.Proofs.Ytcdjinjeogodfaa
open Go.RowKit

theorem of_step {n : Int} {j : Nat} (hj : j < 8) {v : Int} (hv : v = ((byt (wint n) (31 - j) : Nat) : Int)) :
    (wf fun i => if 31 < i + j then byt (wint n) i else byt 0 i).setIfInBounds (31 - j) (.int .u8 v) = wf fun i => if 31 < i + (j + 1) then byt (wint n) i else byt 0 i := by
  rw [hv, wf_set (by omega)]
  refine wf_congr fun i hi => ?_
  by_cases h : i = 31 - j
  · rw [if_pos h, if_pos (by omega), h]
  · rw [if_neg h]
    by_cases h1 : 31 < i + j
    · rw [if_pos h1, if_pos (by omega)]
    · rw [if_neg h1, if_neg (by omega)]
theorem of_step2 {n : Int} {k : Nat} (hk : k < 24) {v : Int} (hv : v = ((byt (wint n) k : Nat) : Int)) :
    (wf fun i => if 31 < i + 8 ∨ i < k then byt (wint n) i else byt 0 i).setIfInBounds k (.int .u8 v) = wf fun i => if 31 < i + 8 ∨ i < k + 1 then byt (wint n) i else byt 0 i := by
  rw [hv, wf_set (by omega)]
  refine wf_congr fun i hi => ?_
  by_cases h : i = k
  · rw [if_pos h, if_pos (by omega), h]
  · rw [if_neg h]
    by_cases h1 : 31 < i + 8 ∨ i < k
    · rw [if_pos h1, if_pos (by omega)]
    · rw [if_neg h1, if_neg (by omega)]
set_option maxHeartbeats 1000000 in
set_option maxRecDepth 100000 in
theorem rOf_any (n0 : Int) (hn : -9223372036854775808 ≤ n0 ∧ n0 ≤ 9223372036854775807) (w : World) :
    Calls Try.prog 65 #[.int .i64 n0] w fun e w' => e = .returned (.agg (wcells (wint n0))) ∧ Below w.heap.size w w' := by
  have hS := St.start w
  go_enter Try.func65, Try.ntmps65
  go_wp2_with (first | (have _t := b2; clear _t; refine st_new hS rfl 23 rfl word_zero ?_; clear hS; intro w1 b3 hS) | (refine st_new hS rfl 23 rfl word_zero ?_; clear hS; intro w1 b2 hS))
  go_loopw [0, 4] (fun n i wr => ∃ j : Nat, j ≤ 8 ∧ i = .int .i64 (31 - (j : Int)) ∧ (∃ m : Int, n = .int .i64 m ∧ Hid (m = n0 / 2 ^ (8 * j)) ∧ -9223372036854775808 ≤ m ∧ m ≤ 9223372036854775807) ∧ St w wr [(b3, 23, wf fun i => if 31 < i + j then byt (wint n0) i else byt 0 i), (b2, 23, wcells 0)]) (fun _ i _ => (intOf i).toNat)
  case atStart =>
    refine ⟨0, by omega, rfl, ⟨n0, rfl, Lib.hid (by simp), hn.1, hn.2⟩, ?_⟩
    rw [show (wf fun i => if 31 < i + 0 then byt (wint n0) i else byt 0 i) = wf (byt 0) from wf_congr fun i hi => if_neg (by omega)]
    exact hS
  case round =>
    clear hS
    obtain ⟨j, hj, rfl, ⟨m, rfl, HM, hm1, hm2⟩, hS⟩ := hrel
    by_cases hlt : j < 8
    · have hst := of_step (n := n0) hlt (v := bits BinOp.and IntKind.i64 m 255 % 256) (by rw [int_and255, HM.out, Int.emod_emod, wint_byte n0 j (by omega)])
      have HS := Lib.hid hst
      clear hst
      go_wp2_with (first | (refine st_store1 (j := 31 - j) hS rfl 5 _ _ rfl rfl rfl u8_size (by repeat (first | exact Upd.head | apply Upd.tail)) (by first | (rw [wf_size]; omega) | (rw [Array.size_setIfInBounds, wf_size]; omega)) ?_; clear hS; intro w1 hS))
      rw [HS.out] at hS
      go_roundw
      case rel =>
        refine ⟨j + 1, by omega, by congr 1; omega, ⟨m / 256, rfl, Lib.hid (by rw [HM.out, div_pow_succ]), by omega, by omega⟩, hS⟩
      case measure => simp [intOf]; omega
    · obtain rfl : j = 8 := by omega
      rw [show (31 : Int) - ((8 : Nat) : Int) = 23 from rfl]
      go_wp2
      go_loopw [5] (fun i wr => ∃ k : Nat, k ≤ 24 ∧ i = .int .i64 k ∧ St w wr [(b3, 23, wf fun i => if 31 < i + 8 ∨ i < k then byt (wint n0) i else byt 0 i), (b2, 23, wcells 0)]) (fun i _ => 24 - (intOf i).toNat)
      case atStart =>
        refine ⟨0, by omega, rfl, ?_⟩
        rw [show (wf fun i => if 31 < i + 8 ∨ i < 0 then byt (wint n0) i else byt 0 i) = wf (fun i => if 31 < i + 8 then byt (wint n0) i else byt 0 i) from wf_congr fun i hi => by simp]
        exact hS
      case round =>
        clear hS
        obtain ⟨k, hk, rfl, hS⟩ := hrel
        by_cases hlk : k < 24
        · have hst := of_step2 (n := n0) hlk (v := bits BinOp.and IntKind.i64 m 255 % 256) (by rw [int_and255, HM.out, Int.emod_emod, high_byte hn hlk])
          have HS := Lib.hid hst
          clear hst
          go_wp2_with (first | (refine st_store1 (j := k) hS rfl 5 _ _ rfl rfl rfl u8_size (by repeat (first | exact Upd.head | apply Upd.tail)) (by first | (rw [wf_size]; omega) | (rw [Array.size_setIfInBounds, wf_size]; omega)) ?_; clear hS; intro w1 hS))
          rw [HS.out] at hS
          go_roundw
          case rel => exact ⟨k + 1, by omega, by go_num, hS⟩
          case measure => simp [intOf]; omega
        · obtain rfl : k = 24 := by omega
          rw [show (wf fun i => if 31 < i + 8 ∨ i < 24 then byt (wint n0) i else byt 0 i) = wcells (wint n0) from wf_congr fun i hi => if_pos (by omega)] at hS
          go_wp2_with (first | (refine st_load hS rfl 23 _ rfl rfl (by repeat (first | exact At.head | apply At.tail)) word_type rfl word_size (wf_size _) ?_) | (refine st_store hS rfl 23 _ _ rfl rfl rfl (by repeat (first | exact Upd.head | apply Upd.tail)) word_size (wf_size _) (wf_size _) (wf_one _) ?_; clear hS; intro w1 hS))
          exact st_post hS 2 23 rfl rfl rfl (by repeat (first | exact At.head | apply At.tail)) word_type rfl word_size (wf_size _) (fun hb => ⟨rfl, hb⟩)
end Go.Proofs.Ytcdjinjeogodfaa
