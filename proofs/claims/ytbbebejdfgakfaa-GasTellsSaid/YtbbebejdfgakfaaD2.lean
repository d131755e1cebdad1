/- gas: the document's Bits; Exp and Store of both sides. -/
import Derived.Test.YtbbebejdfgakfaaD1
import Derived.Laws.BitsAll
import Derived.StillTailTactics
set_option linter.unusedVariables false
set_option linter.unusedSimpArgs false
namespace Go.Proofs.Ytbbebejdfgakfaa
open Go.RowKit
set_option maxRecDepth 100000
set_option maxHeartbeats 1000000

theorem u8_agg2 (w : World) : (isAgg 5).run Try.prog w = .ok false w := by simp [isAgg, run_underlying byte_ty]
theorem len_of_lt {x n : Nat} (h : x < 2 ^ n) : bitLen x ≤ n := by
  by_cases h0 : x = 0
  · subst h0; exact Nat.zero_le _
  · have h1 := (bitLen_spec x).2 h0
    have := (Nat.pow_lt_pow_iff_right (by decide : 1 < 2)).1 (Nat.lt_of_le_of_lt h1 h)
    omega
theorem lt_of_len {x n : Nat} (h : bitLen x ≤ n) : x < 2 ^ n := Nat.lt_of_lt_of_le (bitLen_spec x).1 (Nat.pow_le_pow_right (by decide) h)
theorem u8_bit {x k b : Nat} (hk : k < 32) (hb : b < 8) : bits BinOp.and IntKind.u8 (((byt x k : Nat) : Int) / 2 ^ b) 1 = ((x.testBit (8 * (31 - k) + b)).toNat : Int) := by
  have hl := byt_lt x k
  have e4 : ((byt x k : Nat) : Int) / 2 ^ b = ((byt x k / 2 ^ b : Nat) : Int) := by rw [Int.natCast_ediv, Int.natCast_pow]; rfl
  have e5 := u8_and_nat (byt x k / 2 ^ b) 1 (Nat.lt_of_le_of_lt (Nat.div_le_self _ _) hl) (by decide)
  rw [e4]
  have e6 : bits BinOp.and IntKind.u8 ((byt x k / 2 ^ b : Nat) : Int) 1 = ((byt x k / 2 ^ b % 2 : Nat) : Int) := by rw [← nat_mask1]; exact e5
  rw [e6]
  have e7 : x.testBit (8 * (31 - k) + b) = (byt x k).testBit b := by
    rw [byt_testBit]; simp [hb]
  rw [e7, Nat.testBit_eq_decide_div_mod_eq]
  have : byt x k / 2 ^ b % 2 = 0 ∨ byt x k / 2 ^ b % 2 = 1 := by omega
  rcases this with h | h <;> simp [h]
theorem lt_of_bit {x m : Nat} (hx : x < 2 ^ (m + 1)) (h : x.testBit m = false) : x < 2 ^ m := by
  rw [Nat.testBit_eq_decide_div_mod_eq] at h
  have h1 : x / 2 ^ m < 2 := by rw [Nat.div_lt_iff_lt_mul (Nat.two_pow_pos _), ← Nat.pow_succ']; exact hx
  have h2 : x / 2 ^ m = 0 := by
    have h3 : ¬ (x / 2 ^ m % 2 = 1) := of_decide_eq_false h
    generalize x / 2 ^ m = q at *
    omega
  rw [Nat.div_eq_zero_iff] at h2
  rcases h2 with h2 | h2
  · exact absurd h2 (Nat.ne_of_gt (Nat.two_pow_pos _))
  · exact h2
theorem len_of_bit {x m : Nat} (hx : x < 2 ^ (m + 1)) (h : x.testBit m = true) : bitLen x = m + 1 := by
  have h1 : bitLen x ≤ m + 1 := len_of_lt hx
  have h2 : ¬ bitLen x ≤ m := fun hle => by
    have := lt_of_len hle
    rw [Nat.testBit_eq_decide_div_mod_eq, Nat.div_eq_of_lt this] at h
    simp at h
  omega
theorem rBits_any (x : Nat) (hx : x < M256) (w : World) :
    Calls Try.prog 22 #[.agg (wcells x)] w fun e w' => e = .returned (.int .i64 (bitLen x : Nat)) ∧ Tch [] w w' := by
  have HX := Lib.hid hx
  clear hx
  have hS := St.start w
  go_enter Try.func22, Try.ntmps22
  go_wp2_with (first | (refine st_box hS rfl _ _ rfl rfl ?_; clear hS; intro w1 b1 hS))
  go_loopw [3] (fun i wr => ∃ k : Nat, k ≤ 256 ∧ i = .int .i64 k ∧ Hid (x < 2 ^ (256 - k)) ∧ St [] w wr [(b1, 25, wcells x)]) (fun i _ => 256 - (intOf i).toNat)
  case atStart => exact ⟨0, by omega, rfl, Lib.hid (by have := HX.out; rwa [M256] at this), hS⟩
  case round =>
    clear hS
    obtain ⟨i, hi, rfl, HK, hS⟩ := hrel
    by_cases hlt : i < 256
    · obtain ⟨q, hq⟩ : ∃ q, q = i / 8 := ⟨_, rfl⟩
      obtain ⟨r, hr⟩ : ∃ r, r = i % 8 := ⟨_, rfl⟩
      have t1 : (i : Int) / 8 = (q : Int) := by omega
      have t2 : (i : Int) % 8 = (r : Int) := by omega
      have hq2 : q < 32 := by omega
      have hr2 : r < 8 := by omega
      obtain ⟨s, hs⟩ : ∃ s, s = 7 - r := ⟨_, rfl⟩
      have t3 : 7 - (r : Int) = (s : Int) := by omega
      have hs2 : s < 8 := by omega
      have g := bc_get (f := byt x) hq2
      have hb := u8_bit (x := x) hq2 hs2
      obtain ⟨m, hm⟩ : ∃ m, m = 255 - i := ⟨_, rfl⟩
      rw [show 8 * (31 - q) + s = m by omega] at hb
      have hk := HK.out
      rw [show 256 - i = m + 1 by omega] at hk
      have hm2 : i + m = 255 := by omega
      cases ht : x.testBit m
      · rw [ht] at hb
        have hb2 : (bits BinOp.and IntKind.u8 (((byt x q : Nat) : Int) / 2 ^ s) 1 == 1) = false := by rw [hb]; rfl
        have hl := lt_of_bit hk ht
        generalize byt x q = v at *
        have G := Lib.hid (And.intro g hl)
        clear g hl ht hb hk hm hq hr hs
        go_wp2_with (first | (refine st_cell hS rfl 5 _ rfl rfl (by repeat (first | exact At.head | apply At.tail)) G.out.1 u8_agg2 ?_))
        go_roundw
        case rel => exact ⟨i + 1, by omega, by go_num, Lib.hid (by rw [show 256 - (i + 1) = m by omega]; exact G.out.2), hS⟩
        case measure => simp [intOf]; omega
      · rw [ht] at hb
        have hb2 : (bits BinOp.and IntKind.u8 (((byt x q : Nat) : Int) / 2 ^ s) 1 == 1) = true := by rw [hb]; rfl
        have hl := len_of_bit hk ht
        generalize byt x q = v at *
        have G := Lib.hid (And.intro g hl)
        clear g hl ht hb hk hm hq hr hs
        go_wp2_with (first | (refine st_cell hS rfl 5 _ rfl rfl (by repeat (first | exact At.head | apply At.tail)) G.out.1 u8_agg2 ?_))
        go_ret
        exact ⟨ret_int (by rw [G.out.2]; omega), hS.frame⟩
    · obtain rfl : i = 256 := by omega
      go_wp2
      go_ret
      have : x = 0 := by have := HK.out; simpa using this
      exact ⟨ret_int (by rw [this]; rfl), hS.frame⟩
theorem rexpG_any (x : Nat) (hx : x < 2 ^ 256) (w : World) : Calls Try.prog 13 #[.agg (wcells x)] w fun e w' => e = .returned (.int .i64 (expG x)) ∧ Tch [] w w' := by
  have HC := Lib.hid (fun w' => show Calls Try.prog 22 #[.agg (wcells x)] w' (fun e w2 => e = .returned (.int .i64 (bitLen x : Nat)) ∧ Tch [] w' w2) from rBits_any x hx w')
  have hb : bitLen x ≤ 256 := len_of_lt hx
  have SX : (wcells x).size = 32 := bc_size _ _
  have hS := St.start w
  unfold expG
  clear hx
  generalize wcells x = cx at *
  generalize bitLen x = bl at *
  have ht : ((bl : Int) + 7).tdiv 8 = (((bl + 7) / 8 : Nat) : Int) := by rw [Int.tdiv_eq_ediv_of_nonneg (by omega)]; omega
  go_enter Try.func13, Try.ntmps13
  go_wp2_with (first
    | (refine st_box hS rfl 25 _ rfl rfl ?_; clear hS; intro w1 b1 hS)
    | (refine st_load (b := b1) hS rfl 25 _ rfl rfl .head wordN_type rfl wordN_size SX ?_)
    | (go_at_call 22; go_must (refine (HC.out _).mono ?_; rintro e w3 ⟨rfl, hT3⟩; replace hS := hS.call hT3; clear hT3)))
  go_ret
  refine ⟨ret_int ?_, hS.frame⟩
  omega
theorem pparts8 (k : Nat) (w : World) (hk : k ≤ 256) : Calls Try.prog 19 #[.int .i64 (k : Nat), .int .u64 8] w fun e w' => e = .returned (.int .i64 (((k + 7) / 8 : Nat) : Int)) ∧ w' = w := by
  have h1 : max (k : Int) 0 = k := by omega
  have ht : ((k : Int) + 7).tdiv 8 = (((k + 7) / 8 : Nat) : Int) := by rw [Int.tdiv_eq_ediv_of_nonneg (by omega)]; omega
  go_enter Try.func19, Try.ntmps19
  go_wp2
  go_ret
  refine ⟨ret_int ?_, rfl⟩
  omega
theorem pexpG_any (x : Nat) (hx : x < 2 ^ 256) (w : World) : Calls Try.prog 12 #[.agg (wcells x)] w fun e w' => e = .returned (.int .i64 (expG x)) ∧ Tch [] w w' := by
  have HC := Lib.hid (fun w' => show Calls Try.prog 21 #[.agg (wcells x)] w' (fun e w2 => e = .returned (.int .i64 (bitLen x : Nat)) ∧ Tch [] w' w2) from bits_any x hx w')
  have hb : bitLen x ≤ 256 := len_of_lt hx
  have SX : (wcells x).size = 32 := bc_size _ _
  have hS := St.start w
  unfold expG
  clear hx
  generalize wcells x = cx at *
  generalize bitLen x = bl at *
  have HP := Lib.hid (fun w' => pparts8 bl w' hb)
  go_enter Try.func12, Try.ntmps12
  go_wp2_with (first
    | (refine st_box hS rfl 25 _ rfl rfl ?_; clear hS; intro w1 b1 hS)
    | (refine st_load (b := b1) hS rfl 25 _ rfl rfl .head wordN_type rfl wordN_size SX ?_)
    | (go_at_call 21; go_must (refine (HC.out _).mono ?_; rintro e w3 ⟨rfl, hT3⟩; replace hS := hS.call hT3; clear hT3))
    | (go_at_call 19; go_must (refine (HP.out _).mono ?_; rintro e w4 ⟨rfl, rfl⟩)))
  go_ret
  refine ⟨ret_int ?_, hS.frame⟩
  omega
end Go.Proofs.Ytbbebejdfgakfaa
