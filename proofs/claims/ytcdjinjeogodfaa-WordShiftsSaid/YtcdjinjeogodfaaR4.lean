/- The document's bits moved. -/
import Derived.Test.YtcdjinjeogodfaaR3
import Derived.Test.YtcdjinjeogodfaaRM2
import Derived.StillTailTactics
namespace Go.Proofs.Ytcdjinjeogodfaa
open Go.RowKit

theorem old_or {v b r : Nat} (hv : v < 256) (hb : b ≤ 1) (hr : r < 8) : bits BinOp.or IntKind.u8 (v : Int) ((b : Int) * 2 ^ r % 256) = ((v ||| b * 2 ^ r : Nat) : Int) := by
  have hp : 2 ^ r < 256 := Nat.pow_lt_pow_right (by decide) hr
  have hb2 : b * 2 ^ r < 256 := by
    have : b = 0 ∨ b = 1 := by omega
    rcases this with rfl | rfl <;> omega
  have e : (b : Int) * 2 ^ r % 256 = ((b * 2 ^ r : Nat) : Int) := by
    rw [Int.emod_eq_of_lt]
    · rw [Int.natCast_mul, Int.natCast_pow]; rfl
    · exact Int.mul_nonneg (by omega) (Int.le_of_lt (Int.pow_pos (by decide)))
    · have : ((b * 2 ^ r : Nat) : Int) < 256 := by omega
      rwa [Int.natCast_mul, Int.natCast_pow] at this
  rw [e, u8_or_nat _ _ hv hb2]
set_option maxHeartbeats 1000000 in
set_option maxRecDepth 100000 in
theorem moved_any (x y : Nat) (n : Int) (c : Nat) (hn1 : -256 ≤ n) (hn2 : n ≤ 256) (hc : c ≤ 1) (hy : y < M256)
    (hin : ∀ i m : Nat, i < 256 → m < 256 → (i : Int) - n = m → y.testBit i = x.testBit m)
    (hout : ∀ i : Nat, i < 256 → ((i : Int) - n < 0 ∨ 256 ≤ (i : Int) - n) → (y.testBit i).toNat = c) (w : World) :
    Calls Try.prog 89 #[.agg (wcells x), .int .i64 n, .int .u8 (c : Int)] w fun e w' => e = .returned (.agg (wcells y)) ∧ Below w.heap.size w w' := by
  have HI := Lib.hid (And.intro hin (And.intro hout hy))
  clear hin hout hy
  have hS := St.start w
  go_enter Try.func89, Try.ntmps89
  go_wp2_with (first | (have _t := b6; clear _t; refine st_new hS rfl 23 rfl word_zero ?_; clear hS; intro w1 b7 hS) | (have _t := b3; clear _t; refine st_new hS rfl 23 rfl word_zero ?_; clear hS; intro w1 b6 hS) | (refine st_box hS rfl _ _ rfl rfl ?_; clear hS; intro w1 b3 hS))
  go_loopw [8] (fun i wr => ∃ k : Nat, k ≤ 256 ∧ i = .int .i64 k ∧ St w wr [(b7, 23, wcells (y % 2 ^ k)), (b6, 23, wcells 0), (b3, 23, wcells x)]) (fun i _ => 256 - (intOf i).toNat)
  case atStart =>
    refine ⟨0, by omega, rfl, ?_⟩
    rw [show y % 2 ^ 0 = 0 by simp [Nat.mod_one]]
    exact hS
  case round =>
    clear hS
    obtain ⟨i, hi, rfl, hS⟩ := hrel
    by_cases hlt : i < 256
    · obtain ⟨q, hq⟩ : ∃ q, q = i / 8 := ⟨_, rfl⟩
      obtain ⟨r, hr⟩ : ∃ r, r = i % 8 := ⟨_, rfl⟩
      have t1 : (i : Int) / 8 = (q : Int) := by omega
      have t2 : (i : Int) % 8 = (r : Int) := by omega
      have hq2 : q < 32 := by omega
      have hr2 : r < 8 := by omega
      obtain ⟨k, hk⟩ : ∃ k, k = 31 - q := ⟨_, rfl⟩
      have t3 : 31 - (q : Int) = (k : Int) := by omega
      have hk2 : k < 32 := by omega
      have g := wf_get (f := byt (y % 2 ^ i)) hk2
      have hl := byt_lt (y % 2 ^ i) k
      obtain ⟨b, hb⟩ : ∃ b, b = (y.testBit i).toNat := ⟨_, rfl⟩
      have hb1 : b ≤ 1 := by rw [hb]; cases y.testBit i <;> decide
      have hset := set_bit (y := y) hlt
      rw [← hq, ← hr, ← hk, ← hb] at hset
      obtain ⟨v, hv⟩ : ∃ v, v = byt (y % 2 ^ i) k := ⟨_, rfl⟩
      rw [← hv] at g hl hset
      have ho := old_or hl hb1 hr2
      rw [← ho] at hset
      clear ho
      by_cases hlo : (i : Int) - n < 0
      · have hcb := HI.out.2.1 i hlt (.inl hlo)
        rw [← hb] at hcb
        subst hcb
        have hd1 : decide (0 ≤ (i : Int) - n) = false := by simp; omega
        have hd2 : decide (n ≤ (i : Int)) = false := by simp; omega
        have G := Lib.hid (And.intro g hset)
        clear g hset hv hk hr hq hb
        go_wp2_with (first | (refine st_cell hS rfl 5 _ rfl rfl (by repeat (first | exact At.head | apply At.tail)) G.out.1 u8_agg ?_) | (refine st_store1 (j := k) hS rfl 5 _ _ rfl rfl rfl u8_size (by repeat (first | exact Upd.head | apply Upd.tail)) (by rw [wf_size]; omega) ?_; clear hS; intro w1 hS))
        rw [G.out.2] at hS
        go_roundw
        case rel => exact ⟨i + 1, by omega, by go_num, hS⟩
        case measure => simp [intOf]; omega
      · obtain ⟨m, hm⟩ := Int.eq_ofNat_of_zero_le (show 0 ≤ (i : Int) - n by omega)
        have hd1 : decide (0 ≤ (i : Int) - n) = true := by simp; omega
        have hd2 : decide (n ≤ (i : Int)) = true := by simp; omega
        by_cases hhi : m < 256
        · have hcb := HI.out.1 i m hlt hhi hm
          rw [hcb] at hb
          have hcall := rbit_any x m hhi
          rw [← hb] at hcall
          have G := Lib.hid (And.intro g (And.intro hset hcall))
          clear g hset hv hk hr hq hb hcb hcall
          go_wp2_with (first | (refine st_load hS rfl 23 _ rfl rfl (by repeat (first | exact At.head | apply At.tail)) word_type rfl word_size (wf_size _) ?_) | (go_at_call 92; with_reducible refine (G.out.2.2 _).mono ?_; rintro e w1 ⟨rfl, hb⟩; replace hS := hS.call hb; clear hb) | (refine st_cell hS rfl 5 _ rfl rfl (by repeat (first | exact At.head | apply At.tail)) G.out.1 u8_agg ?_) | (refine st_store1 (j := k) hS rfl 5 _ _ rfl rfl rfl u8_size (by repeat (first | exact Upd.head | apply Upd.tail)) (by rw [wf_size]; omega) ?_; clear hS; intro w1 hS))
          rw [G.out.2.1] at hS
          go_roundw
          case rel => exact ⟨i + 1, by omega, by go_num, hS⟩
          case measure => simp [intOf]; omega
        · have hcb := HI.out.2.1 i hlt (.inr (by omega))
          rw [← hb] at hcb
          subst hcb
          have G := Lib.hid (And.intro g hset)
          clear g hset hv hk hr hq hb
          go_wp2_with (first | (refine st_cell hS rfl 5 _ rfl rfl (by repeat (first | exact At.head | apply At.tail)) G.out.1 u8_agg ?_) | (refine st_store1 (j := k) hS rfl 5 _ _ rfl rfl rfl u8_size (by repeat (first | exact Upd.head | apply Upd.tail)) (by rw [wf_size]; omega) ?_; clear hS; intro w1 hS))
          rw [G.out.2] at hS
          go_roundw
          case rel => exact ⟨i + 1, by omega, by go_num, hS⟩
          case measure => simp [intOf]; omega
    · obtain rfl : i = 256 := by omega
      rw [show y % 2 ^ 256 = y from Nat.mod_eq_of_lt HI.out.2.2] at hS
      go_wp2_with (first | (refine st_load hS rfl 23 _ rfl rfl (by repeat (first | exact At.head | apply At.tail)) word_type rfl word_size (wf_size _) ?_) | (refine st_store hS rfl 23 _ _ rfl rfl rfl (by repeat (first | exact Upd.head | apply Upd.tail)) word_size (wf_size _) (wf_size _) (wf_one _) ?_; clear hS; intro w1 hS))
      exact st_post hS 6 23 rfl rfl rfl (by repeat (first | exact At.head | apply At.tail)) word_type rfl word_size (wf_size _) (fun hb => ⟨rfl, hb⟩)
end Go.Proofs.Ytcdjinjeogodfaa
