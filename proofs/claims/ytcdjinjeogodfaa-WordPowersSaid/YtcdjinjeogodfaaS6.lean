/- Differences of rows of digits. -/
import Derived.Test.YtcdjinjeogodfaaS4
import Derived.StillTailTactics
namespace Go.Proofs.Ytcdjinjeogodfaa
open Go.RowKit

set_option maxHeartbeats 1000000 in
set_option maxRecDepth 100000 in
theorem sub_rows (n m b1 b2 c1 c2 x y z : Nat) (w : World) (hn : n ≤ 64) (hm : m ≤ n) (h1 : Row w b1 n x) (h2 : Row w b2 m y) (hy : y < 2 ^ (16 * m)) (hz : (z + y) % 2 ^ (16 * n) = x % 2 ^ (16 * n)) :
    Calls Try.prog 73 #[.slice (some ⟨b1, 0, none⟩) n c1, .slice (some ⟨b2, 0, none⟩) m c2] w fun e w' => ∃ b, e = .returned (.slice (some ⟨b, 0, none⟩) n n) ∧ w.heap.size ≤ b ∧ Blk w' b 3 (rowd n z) ∧ Below w.heap.size w w' := by
  have HX := Lib.hid (And.intro h1 (And.intro h2 (And.intro hy hz)))
  clear h1 h2 hy hz
  have hS := St.start w
  go_enter Try.func73, Try.ntmps73
  go_wp2_with (first | (refine st_make n hS rfl _ _ rfl rfl rfl (by omega) ?_; clear hS; intro w1 b5 hS))
  go_loopw [6, 7] (fun c i wr => ∃ k : Nat, k ≤ n ∧ i = .int .i64 k ∧ c = .int .i64 ((bw x y k : Nat) : Int) ∧ St w wr [(b5, 3, rowd n (z % 2 ^ (16 * k)))]) (fun _ i _ => n - (intOf i).toNat)
  case atStart => exact ⟨0, by omega, rfl, by rw [bw_zero]; rfl, by rw [row_zero_mod]; exact hS⟩
  case round =>
    clear hS
    obtain ⟨k, hk, rfl, rfl, hS⟩ := hrel
    by_cases hlt : k < n
    · have hd1 : decide (k < n) = true := by simpa using hlt
      have g1 := HX.out.1.at_ hlt
      have hb1 := HX.out.1.1
      have hst := row_step (n := n) (x := z) hlt rfl
      have heq := bw_step HX.out.2.2.2 hlt
      have l1 := dg_lt x k
      have l2 := dg_lt y k
      have l3 := dg_lt z k
      have lc := bw_le x y k
      have lc2 := bw_le x y (k + 1)
      by_cases hkm : k < m
      · have g2 := HX.out.2.1.at_ hkm
        have hb2 := HX.out.2.1.1
        have hd2 : decide (k < m) = true := by simpa using hkm
        generalize dg x k = p at *
        generalize dg y k = q at *
        generalize dg z k = r at *
        generalize bw x y k = c at *
        obtain ⟨c', hc'⟩ : ∃ c', c' = bw x y (k + 1) := ⟨_, rfl⟩
        rw [← hc'] at heq lc2
        rcases Nat.eq_zero_or_pos c' with h0 | h0
        · have t1 : (p : Int) - (c : Int) - (q : Int) = (r : Int) := by omega
          have t2 : decide ((r : Int) < 0) = false := by simp
          have G := Lib.hid (And.intro (And.intro hb1 g1) (And.intro (And.intro hb2 g2) (And.intro hst (hc'.symm.trans h0))))
          clear g1 g2 hb1 hb2 hst heq hc' h0 lc2
          go_wp2_with (first | (refine st_old hS rfl 3 _ rfl rfl G.out.1 int3_agg ?_) | (refine st_old hS rfl 3 _ rfl rfl G.out.2.1 int3_agg ?_) | (refine st_store1 (j := k) hS rfl 3 _ _ rfl rfl rfl int_size (by repeat (first | exact Upd.head | apply Upd.tail)) (by rw [rf_size]; omega) ?_; clear hS; intro w1 hS))
          rw [G.out.2.2.1] at hS
          go_roundw
          case rel => exact ⟨k + 1, by omega, by go_num, by rw [G.out.2.2.2]; rfl, hS⟩
          case measure => simp [intOf]; omega
        · have t1 : (p : Int) - (c : Int) - (q : Int) + 65536 = (r : Int) := by omega
          have t2 : decide ((p : Int) - (c : Int) - (q : Int) < 0) = true := by simp; omega
          have t3 : (p : Int) - (c : Int) - (q : Int) < 0 := by omega
          have G := Lib.hid (And.intro (And.intro hb1 g1) (And.intro (And.intro hb2 g2) (And.intro hst (hc'.symm.trans (show c' = 1 by omega)))))
          clear g1 g2 hb1 hb2 hst heq hc' h0 lc2
          go_wp2_with (first | (refine st_old hS rfl 3 _ rfl rfl G.out.1 int3_agg ?_) | (refine st_old hS rfl 3 _ rfl rfl G.out.2.1 int3_agg ?_) | (refine st_store1 (j := k) hS rfl 3 _ _ rfl rfl rfl int_size (by repeat (first | exact Upd.head | apply Upd.tail)) (by rw [rf_size]; omega) ?_; clear hS; intro w1 hS))
          rw [G.out.2.2.1] at hS
          go_roundw
          case rel => exact ⟨k + 1, by omega, by go_num, by rw [G.out.2.2.2]; rfl, hS⟩
          case measure => simp [intOf]; omega
      · have hd2 : decide (k < m) = false := by simpa using hkm
        have hq : dg y k = 0 := dg_hi HX.out.2.2.1 (by omega)
        rw [hq] at heq
        clear hq l2
        generalize dg x k = p at *
        generalize dg z k = r at *
        generalize bw x y k = c at *
        obtain ⟨c', hc'⟩ : ∃ c', c' = bw x y (k + 1) := ⟨_, rfl⟩
        rw [← hc'] at heq lc2
        rcases Nat.eq_zero_or_pos c' with h0 | h0
        · have t1 : (p : Int) - (c : Int) = (r : Int) := by omega
          have t2 : decide ((r : Int) < 0) = false := by simp
          have G := Lib.hid (And.intro (And.intro hb1 g1) (And.intro hst (hc'.symm.trans h0)))
          clear g1 hb1 hst heq hc' h0 lc2
          go_wp2_with (first | (refine st_old hS rfl 3 _ rfl rfl G.out.1 int3_agg ?_) | (refine st_store1 (j := k) hS rfl 3 _ _ rfl rfl rfl int_size (by repeat (first | exact Upd.head | apply Upd.tail)) (by rw [rf_size]; omega) ?_; clear hS; intro w1 hS))
          rw [G.out.2.1] at hS
          go_roundw
          case rel => exact ⟨k + 1, by omega, by go_num, by rw [G.out.2.2]; rfl, hS⟩
          case measure => simp [intOf]; omega
        · have t1 : (p : Int) - (c : Int) + 65536 = (r : Int) := by omega
          have t2 : decide ((p : Int) - (c : Int) < 0) = true := by simp; omega
          have t3 : (p : Int) - (c : Int) < 0 := by omega
          have G := Lib.hid (And.intro (And.intro hb1 g1) (And.intro hst (hc'.symm.trans (show c' = 1 by omega))))
          clear g1 hb1 hst heq hc' h0 lc2
          go_wp2_with (first | (refine st_old hS rfl 3 _ rfl rfl G.out.1 int3_agg ?_) | (refine st_store1 (j := k) hS rfl 3 _ _ rfl rfl rfl int_size (by repeat (first | exact Upd.head | apply Upd.tail)) (by rw [rf_size]; omega) ?_; clear hS; intro w1 hS))
          rw [G.out.2.1] at hS
          go_roundw
          case rel => exact ⟨k + 1, by omega, by go_num, by rw [G.out.2.2]; rfl, hS⟩
          case measure => simp [intOf]; omega
    · obtain rfl : k = n := by omega
      rw [row_mod] at hS
      have hd1 : decide (k < k) = false := by simp
      go_wp2
      go_ret
      exact ⟨b5, rfl, hS.le .head, hS.get .head, hS.below⟩
end Go.Proofs.Ytcdjinjeogodfaa
