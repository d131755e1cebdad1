/- The bits of the document's words: bit, Bits. -/
import Derived.Test.YtcdjinjeogodfaaJ5
import Derived.Test.YtcdjinjeogodfaaRM
import Derived.StillTailTactics
namespace Go.Proofs.Ytcdjinjeogodfaa
open Go.RowKit

theorem u8_bit {x k b : Nat} (hk : k < 32) (hb : b < 8) : bits BinOp.and IntKind.u8 (((byt x k : Nat) : Int) / 2 ^ b) 1 = ((x.testBit (8 * (31 - k) + b)).toNat : Int) := by
  have hl := byt_lt x k
  have e4 : ((byt x k : Nat) : Int) / 2 ^ b = ((byt x k / 2 ^ b : Nat) : Int) := by rw [Int.natCast_ediv, Int.natCast_pow]; rfl
  have e5 := u8_and_nat (byt x k / 2 ^ b) 1 (Nat.lt_of_le_of_lt (Nat.div_le_self _ _) hl) (by decide)
  rw [e4]
  have e6 : bits BinOp.and IntKind.u8 ((byt x k / 2 ^ b : Nat) : Int) 1 = ((byt x k / 2 ^ b % 2 : Nat) : Int) := by rw [← nat_mask1]; exact e5
  rw [e6]
  have e7 : x.testBit (8 * (31 - k) + b) = (byt x k).testBit b := by
    rw [byt_testBit]; simp [hb]
  rw [e7, Nat.testBit_eq_decide_div_mod_eq]
  have : byt x k / 2 ^ b % 2 = 0 ∨ byt x k / 2 ^ b % 2 = 1 := by omega
  rcases this with h | h <;> simp [h]
set_option maxHeartbeats 1000000 in
set_option maxRecDepth 100000 in
theorem rbit_any (x i : Nat) (hi : i < 256) (w : World) :
    Calls Try.prog 92 #[.agg (wcells x), .int .i64 (i : Int)] w fun e w' => e = .returned (.int .u8 ((x.testBit i).toNat : Int)) ∧ Below w.heap.size w w' := by
  obtain ⟨q, hq⟩ : ∃ q, q = i / 8 := ⟨_, rfl⟩
  obtain ⟨r, hr⟩ : ∃ r, r = i % 8 := ⟨_, rfl⟩
  have t1 : (i : Int) / 8 = (q : Int) := by omega
  have t2 : (i : Int) % 8 = (r : Int) := by omega
  have hq2 : q < 32 := by omega
  have hr2 : r < 8 := by omega
  obtain ⟨k, hk⟩ : ∃ k, k = 31 - q := ⟨_, rfl⟩
  have t3 : 31 - (q : Int) = (k : Int) := by omega
  have hk2 : k < 32 := by omega
  have g := wf_get (f := byt x) hk2
  have hb := u8_bit (x := x) hk2 hr2
  rw [show 8 * (31 - k) + r = i by omega] at hb
  have G := Lib.hid (And.intro g hb)
  clear g hb hq hr hk
  have hS := St.start w
  go_enter Try.func92, Try.ntmps92
  go_wp2_with (first | (refine st_box hS rfl _ _ rfl rfl ?_; clear hS; intro w1 b1 hS) | (refine st_cell hS rfl 5 _ rfl rfl (by repeat (first | exact At.head | apply At.tail)) G.out.1 u8_agg ?_))
  go_ret
  exact ⟨ret_int (by exact G.out.2), hS.below⟩
theorem lt_of_bit {x m : Nat} (hx : x < 2 ^ (m + 1)) (h : x.testBit m = false) : x < 2 ^ m := by
  rw [Nat.testBit_eq_decide_div_mod_eq] at h
  have h1 : x / 2 ^ m < 2 := by rw [Nat.div_lt_iff_lt_mul (Nat.two_pow_pos _), ← Nat.pow_succ']; exact hx
  have h2 : x / 2 ^ m = 0 := by
    have h3 : ¬ (x / 2 ^ m % 2 = 1) := of_decide_eq_false h
    generalize x / 2 ^ m = q at *
    omega
  rw [Nat.div_eq_zero_iff] at h2
  rcases h2 with h2 | h2
  · exact absurd h2 (Nat.ne_of_gt (Nat.two_pow_pos _))
  · exact h2
theorem len_of_bit {x m : Nat} (hx : x < 2 ^ (m + 1)) (h : x.testBit m = true) : bitLen x = m + 1 := by
  have h1 : bitLen x ≤ m + 1 := len_of_lt hx
  have h2 : ¬ bitLen x ≤ m := fun hle => by
    have := lt_of_len hle
    rw [Nat.testBit_eq_decide_div_mod_eq, Nat.div_eq_of_lt this] at h
    simp at h
  omega
set_option maxHeartbeats 1000000 in
set_option maxRecDepth 100000 in
theorem rBits_any (x : Nat) (hx : x < M256) (w : World) :
    Calls Try.prog 64 #[.agg (wcells x)] w fun e w' => e = .returned (.int .i64 (bitLen x : Nat)) ∧ Below w.heap.size w w' := by
  have HX := Lib.hid hx
  clear hx
  have hS := St.start w
  go_enter Try.func64, Try.ntmps64
  go_wp2_with (first | (refine st_box hS rfl _ _ rfl rfl ?_; clear hS; intro w1 b1 hS))
  go_loopw [3] (fun i wr => ∃ k : Nat, k ≤ 256 ∧ i = .int .i64 k ∧ Hid (x < 2 ^ (256 - k)) ∧ St w wr [(b1, 23, wcells x)]) (fun i _ => 256 - (intOf i).toNat)
  case atStart => exact ⟨0, by omega, rfl, Lib.hid (by have := HX.out; rwa [M256] at this), hS⟩
  case round =>
    clear hS
    obtain ⟨i, hi, rfl, HK, hS⟩ := hrel
    by_cases hlt : i < 256
    · obtain ⟨q, hq⟩ : ∃ q, q = i / 8 := ⟨_, rfl⟩
      obtain ⟨r, hr⟩ : ∃ r, r = i % 8 := ⟨_, rfl⟩
      have t1 : (i : Int) / 8 = (q : Int) := by omega
      have t2 : (i : Int) % 8 = (r : Int) := by omega
      have hq2 : q < 32 := by omega
      have hr2 : r < 8 := by omega
      obtain ⟨s, hs⟩ : ∃ s, s = 7 - r := ⟨_, rfl⟩
      have t3 : 7 - (r : Int) = (s : Int) := by omega
      have hs2 : s < 8 := by omega
      have g := wf_get (f := byt x) hq2
      have hb := u8_bit (x := x) hq2 hs2
      obtain ⟨m, hm⟩ : ∃ m, m = 255 - i := ⟨_, rfl⟩
      rw [show 8 * (31 - q) + s = m by omega] at hb
      have hk := HK.out
      rw [show 256 - i = m + 1 by omega] at hk
      have hm2 : i + m = 255 := by omega
      cases ht : x.testBit m
      · rw [ht] at hb
        have hb2 : (bits BinOp.and IntKind.u8 (((byt x q : Nat) : Int) / 2 ^ s) 1 == 1) = false := by rw [hb]; rfl
        have hl := lt_of_bit hk ht
        generalize byt x q = v at *
        have G := Lib.hid (And.intro g hl)
        clear g hl ht hb hk hm hq hr hs
        go_wp2_with (first | (refine st_cell hS rfl 5 _ rfl rfl (by repeat (first | exact At.head | apply At.tail)) G.out.1 u8_agg ?_))
        go_roundw
        case rel => exact ⟨i + 1, by omega, by go_num, Lib.hid (by rw [show 256 - (i + 1) = m by omega]; exact G.out.2), hS⟩
        case measure => simp [intOf]; omega
      · rw [ht] at hb
        have hb2 : (bits BinOp.and IntKind.u8 (((byt x q : Nat) : Int) / 2 ^ s) 1 == 1) = true := by rw [hb]; rfl
        have hl := len_of_bit hk ht
        generalize byt x q = v at *
        have G := Lib.hid (And.intro g hl)
        clear g hl ht hb hk hm hq hr hs
        go_wp2_with (first | (refine st_cell hS rfl 5 _ rfl rfl (by repeat (first | exact At.head | apply At.tail)) G.out.1 u8_agg ?_))
        go_ret
        exact ⟨ret_int (by rw [G.out.2]; omega), hS.below⟩
    · obtain rfl : i = 256 := by omega
      go_wp2
      go_ret
      have : x = 0 := by have := HK.out; simpa using this
      exact ⟨ret_int (by rw [this]; rfl), hS.below⟩
end Go.Proofs.Ytcdjinjeogodfaa
