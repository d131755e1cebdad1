/- Rows of digits as words. -/
import Derived.Test.YtcdjinjeogodfaaS4
import Derived.StillTailTactics
namespace Go.Proofs.Ytcdjinjeogodfaa
open Go.RowKit

set_option maxHeartbeats 1000000 in
set_option maxRecDepth 100000 in
theorem rword_any (n c b x : Nat) (w : World) (hn : 16 ≤ n) (hn2 : n ≤ 64) (hR : Row w b n x) :
    Calls Try.prog 69 #[.slice (some ⟨b, 0, none⟩) n c] w fun e w' => e = .returned (.agg (wcells x)) ∧ Below w.heap.size w w' := by
  have HR := Lib.hid hR
  clear hR
  have hS := St.start w
  go_enter Try.func69, Try.ntmps69
  go_wp2_with (first | (have _t := b2; clear _t; refine st_new hS rfl 23 rfl word_zero ?_; clear hS; intro w1 b3 hS) | (refine st_new hS rfl 23 rfl word_zero ?_; clear hS; intro w1 b2 hS))
  go_loopw [4] (fun i wr => ∃ k : Nat, k ≤ 16 ∧ i = .int .i64 k ∧ St w wr [(b3, 23, wf fun j => if 31 < j + 2 * k then byt x j else byt 0 j), (b2, 23, wcells 0)]) (fun i _ => 16 - (intOf i).toNat)
  case atStart =>
    refine ⟨0, by omega, rfl, ?_⟩
    rw [show (wf fun j => if 31 < j + 2 * 0 then byt x j else byt 0 j) = wf (byt 0) from wf_congr fun i hi => if_neg (by omega)]
    exact hS
  case round =>
    clear hS
    obtain ⟨k, hk, rfl, hS⟩ := hrel
    by_cases hlt : k < 16
    · have hkn : k < n := by omega
      have hd1 : decide (k < n) = true := by simpa using hkn
      have g := HR.out.at_ hkn
      have hb := HR.out.1
      have hl := dg_lt x k
      have e1 := byt_lo x k hlt
      have e2 := byt_hi x k hlt
      obtain ⟨p, hp⟩ : ∃ p, p = 31 - 2 * k := ⟨_, rfl⟩
      obtain ⟨q, hq⟩ : ∃ q, q = 30 - 2 * k := ⟨_, rfl⟩
      have t1 : 31 - 2 * (k : Int) = (p : Int) := by omega
      have t2 : 30 - 2 * (k : Int) = (q : Int) := by omega
      have hp2 : p < 32 := by omega
      have hq2 : q < 32 := by omega
      have hst := word_step2 (x := x) hlt (u := bits BinOp.and IntKind.i64 ((dg x k : Nat) : Int) 255 % 256) (v := ((dg x k : Nat) : Int) / 256) (by rw [int_and255, e1]; omega) (by rw [e2]; omega)
      rw [← hp, ← hq] at hst
      generalize dg x k = d at *
      have G := Lib.hid (And.intro (And.intro hb g) hst)
      clear g hb hst e1 e2 hp hq
      go_wp2_with (first | (refine st_old hS rfl 3 _ rfl rfl G.out.1 int3_agg ?_) | (refine st_store1 (j := p) hS rfl 5 _ _ rfl rfl rfl u8_size (by repeat (first | exact Upd.head | apply Upd.tail)) (by first | (rw [wf_size]; omega) | (rw [Array.size_setIfInBounds, wf_size]; omega)) ?_; clear hS; intro w1 hS) | (refine st_store1 (j := q) hS rfl 5 _ _ rfl rfl rfl u8_size (by repeat (first | exact Upd.head | apply Upd.tail)) (by first | (rw [wf_size]; omega) | (rw [Array.size_setIfInBounds, wf_size]; omega)) ?_; clear hS; intro w1 hS))
      rw [G.out.2] at hS
      go_roundw
      case rel => exact ⟨k + 1, by omega, by go_num, hS⟩
      case measure => simp [intOf]; omega
    · obtain rfl : k = 16 := by omega
      rw [show (wf fun j => if 31 < j + 2 * 16 then byt x j else byt 0 j) = wcells x from wf_congr fun i hi => if_pos (by omega)] at hS
      go_wp2_with (first | (refine st_load hS rfl 23 _ rfl rfl (by repeat (first | exact At.head | apply At.tail)) word_type rfl word_size (wf_size _) ?_) | (refine st_store hS rfl 23 _ _ rfl rfl rfl (by repeat (first | exact Upd.head | apply Upd.tail)) word_size (wf_size _) (wf_size _) (wf_one _) ?_; clear hS; intro w1 hS))
      exact st_post hS 2 23 rfl rfl rfl (by repeat (first | exact At.head | apply At.tail)) word_type rfl word_size (wf_size _) (fun hb => ⟨rfl, hb⟩)
end Go.Proofs.Ytcdjinjeogodfaa
