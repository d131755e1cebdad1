/- Limbs shifted to the left. -/
import Derived.Test.YtcdjinjeogodfaaJ2
namespace Go.Proofs.Ytcdjinjeogodfaa
open Go.RowKit

theorem left_val (av bv p : Nat) (lb : bv < 18446744073709551616) : bits BinOp.or IntKind.u64 (IntKind.u64.wrap ((av : Int) * 2 ^ p)) ((bv : Int) / 2 ^ (64 - p)) = ((av * 2 ^ p % 18446744073709551616 ||| bv / 2 ^ (64 - p) : Nat) : Int) := by
  have q1 : (bv : Int) / 2 ^ (64 - p) = ((bv / 2 ^ (64 - p) : Nat) : Int) := by push_cast; rfl
  have q2 : IntKind.u64.wrap ((av : Int) * 2 ^ p) = ((av * 2 ^ p % 18446744073709551616 : Nat) : Int) := by rw [IntKind.wrap_u64, Int.natCast_emod, Int.natCast_mul, Int.natCast_pow]; rfl
  rw [q1, q2, u64_or_nat _ _ (Nat.mod_lt _ (by decide)) (Nat.lt_of_le_of_lt (Nat.div_le_self _ _) lb)]
theorem left_limb {x n s p m i l av bv : Nat} (hn : n = 64 * s + p) (hp : p < 64) (hi : s + m = i) (hl : l + 1 = m) (ha : x / 2 ^ (64 * m) % 2 ^ 64 = av) (hb : x / 2 ^ (64 * l) % 2 ^ 64 = bv) :
    av * 2 ^ p % 18446744073709551616 ||| bv / 2 ^ (64 - p) = x * 2 ^ n / 2 ^ (64 * i) % 2 ^ 64 := by
  subst ha hb hn hi hl
  show (x / 2 ^ (64 * (l + 1)) % 2 ^ 64) * 2 ^ p % 2 ^ 64 ||| x / 2 ^ (64 * l) % 2 ^ 64 / 2 ^ (64 - p) = _
  apply Nat.eq_of_testBit_eq
  intro j
  simp only [Nat.testBit_or, Nat.testBit_mod_two_pow, Nat.testBit_div_two_pow, Nat.testBit_mul_two_pow]
  by_cases hj : j < 64
  · by_cases h1 : p ≤ j
    · have h2 : 64 * s + p ≤ j + 64 * (s + (l + 1)) := by omega
      have h3 : ¬ j + (64 - p) < 64 := by omega
      have h4 : j - p < 64 := by omega
      have h5 : j - p + 64 * (l + 1) = j + 64 * (s + (l + 1)) - (64 * s + p) := by omega
      rw [h5]; simp only [hj, h1, h2, h3, h4, decide_true, decide_false, Bool.true_and, Bool.false_and, Bool.or_false]
    · have h2 : 64 * s + p ≤ j + 64 * (s + (l + 1)) := by omega
      have h3 : j + (64 - p) < 64 := by omega
      have h5 : j + (64 - p) + 64 * l = j + 64 * (s + (l + 1)) - (64 * s + p) := by omega
      rw [h5]; simp only [hj, h1, h2, h3, decide_true, decide_false, Bool.true_and, Bool.false_and, Bool.and_false, Bool.false_or]
  · have h3 : ¬ j + (64 - p) < 64 := by omega
    simp only [hj, h3, decide_false, Bool.false_and, Bool.or_false]
theorem left_limb_first {x n s p m i av : Nat} (hn : n = 64 * s + p) (hi : s + m = i) (hm : m = 0) (ha : x / 2 ^ (64 * m) % 2 ^ 64 = av) :
    av * 2 ^ p % 18446744073709551616 = x * 2 ^ n / 2 ^ (64 * i) % 2 ^ 64 := by
  subst ha hn hi hm
  rw [Nat.mul_zero, Nat.pow_zero, Nat.div_one, Nat.add_zero, Nat.pow_add, Nat.mul_comm (2 ^ (64 * s)), ← Nat.mul_assoc, Nat.mul_div_cancel _ (Nat.two_pow_pos _)]
  show (x % 2 ^ 64) * 2 ^ p % 2 ^ 64 = _
  rw [Nat.mod_mul_mod]
theorem left_start (x n s p : Nat) (hn : n = 64 * s + p) : x * 2 ^ n % 2 ^ (64 * s) = 0 := by
  subst hn
  rw [Nat.pow_add, Nat.mul_comm (2 ^ (64 * s)), ← Nat.mul_assoc]
  exact Nat.mul_mod_left _ _

set_option maxHeartbeats 2000000 in
set_option maxRecDepth 100000 in
theorem left_any (x n : Nat) (hx : x < M256) (hn : n < 256) (w : World) :
    Calls Try.prog 104 #[.agg (dig 4 x), .int .u64 (n : Int)] w fun e w' => e = .returned (.agg (dig 4 (x * 2 ^ n))) ∧ Below w.heap.size w w' := by
  obtain ⟨s, p, hs, hp, hnn, t1, t2⟩ : ∃ s p : Nat, s < 4 ∧ p < 64 ∧ n = 64 * s + p ∧ (n : Int) / 64 = (s : Int) ∧ (n : Int) % 64 = (p : Int) := ⟨n / 64, n % 64, by omega, by omega, by omega, by omega, by omega⟩
  have HX := Lib.hid (And.intro hx hnn)
  clear hx hnn
  go_enter Try.func104, Try.ntmps104
  go_wp2
  simp only [t2]
  go_loopw [8] (fun t wr => ∃ i : Nat, s ≤ i ∧ i ≤ 4 ∧ t = .int .i64 i ∧ Below w.heap.size w wr ∧ Blk wr w.heap.size 42 (dig 4 x) ∧ Blk wr (w.heap.size + 1) 42 (dig 4 0) ∧ Blk wr (w.heap.size + 1 + 1) 42 (dig 4 (x * 2 ^ n % 2 ^ (64 * i)))) (fun t _ => 4 - (intOf t).toNat)
  case atStart =>
    obtain ⟨g0, g1, g2, g3⟩ := three_blocks w 42 42 42 (dig 4 x) (dig 4 0) (dig 4 0)
    refine ⟨s, by omega, by omega, rfl, ?_⟩
    rw [left_start x n s p HX.out.2, ← dig_zero4]
    exact ⟨g0, g1, g2, g3⟩
  case round =>
    obtain ⟨i, hi1, hi2, rfl, hb, h0, h1, h2⟩ := hrel
    by_cases hlt : i < 4
    · obtain ⟨m, hm⟩ : ∃ m, m = i - s := ⟨_, rfl⟩
      have e1 : (i : Int) - (s : Int) = (m : Int) := by omega
      have hm4 : m < 4 := by omega
      obtain ⟨av, hav⟩ : ∃ av, x / 2 ^ (64 * m) % 2 ^ 64 = av := ⟨_, rfl⟩
      have g0 := h0.cell (dig_get hm4)
      rw [hav] at g0
      have la : av < 18446744073709551616 := by rw [← hav]; exact Nat.mod_lt _ (by decide)
      have HA := Lib.hid (And.intro hav hm)
      clear hav hm
      by_cases h3 : s < i
      · obtain ⟨l, hl⟩ : ∃ l, l + 1 = m := ⟨m - 1, by have := HA.out.2; omega⟩
        have hl4 : l < 4 := by omega
        have e2 : (m : Int) - 1 = (l : Int) := by omega
        obtain ⟨bv, hbv⟩ : ∃ bv, x / 2 ^ (64 * l) % 2 ^ 64 = bv := ⟨_, rfl⟩
        have lb : bv < 18446744073709551616 := by rw [← hbv]; exact Nat.mod_lt _ (by decide)
        have HB := Lib.hid (And.intro hbv hl)
        clear hbv hl
        go_wp2_with (refine arm_store_int rfl 40 _ _ rfl rfl rfl u64_size h2 (by rw [dig_size]; omega) ?_; intro w1 hB1 hO1)
        have k1 := (hO1.blk (by omega) h0).cell (dig_get hl4)
        rw [HB.out.1] at k1
        have k2 := hB1.cell (set_get (c := dig 4 (x * 2 ^ n % 2 ^ (64 * i))) (by rw [dig_size]; exact hlt))
        have k3 := hB1.free i
        clear g0
        have u1 : IntKind.i64.wrap (m : Int) = m := IntWalk.i64_in _ ⟨by omega, by omega⟩
        have u2 : IntKind.i64.wrap (l : Int) = (l : Int) := IntWalk.i64_in _ ⟨by omega, by omega⟩
        have u3 : IntKind.u64.wrap (64 - (p : Int)) = 64 - (p : Int) := IntWalk.u64_in _ ⟨by omega, by omega⟩
        have v1 : (m : Int) < 4 := by omega
        have v2 : (l : Int) < 4 := by omega
        go_still_tail 13, (by kernel_rfl)
        go_wp2
        go_roundw
        case rel =>
          obtain ⟨hav, hm⟩ := HA.out
          obtain ⟨hbv, hl⟩ := HB.out
          rw [left_val _ _ _ lb]
          have hs2 := (hB1.set i (.int .u64 ((av * 2 ^ p % 18446744073709551616 ||| bv / 2 ^ (64 - p) : Nat) : Int))).drew
          have hsm : s + m = i := by omega
          rw [Array.setIfInBounds_setIfInBounds, dig_step hlt (left_limb HX.out.2 hp hsm hl hav hbv)] at hs2
          exact ⟨i + 1, by omega, by omega, by go_num, (hb.trans (hO1.below (by omega))).setCell (by simp only; omega) _ |>.drew, ((hO1.blk (by omega) h0).far (by simp only; omega) _).drew, ((hO1.blk (by omega) h1).far (by simp only; omega) _).drew, hs2⟩
        case measure => simp [intOf]; omega
      · go_wp2_with (refine arm_store_int rfl 40 _ _ rfl rfl rfl u64_size h2 (by rw [dig_size]; omega) ?_; intro w1 hB1 hO1)
        go_roundw
        case rel =>
          obtain ⟨hav, hm⟩ := HA.out
          have q1 : IntKind.u64.wrap ((av : Int) * 2 ^ p) = ((av * 2 ^ p % 18446744073709551616 : Nat) : Int) := by rw [IntKind.wrap_u64, Int.natCast_emod, Int.natCast_mul, Int.natCast_pow]; rfl
          have hsm : s + m = i := by omega
          have h3' : m = 0 := by omega
          rw [q1, dig_step hlt (left_limb_first HX.out.2 hsm h3' hav)] at hB1
          exact ⟨i + 1, by omega, by omega, by go_num, hb.trans (hO1.below (by omega)), hO1.blk (by omega) h0, hO1.blk (by omega) h1, hB1⟩
        case measure => simp [intOf]; omega
    · obtain rfl : i = 4 := by omega
      rw [show dig 4 (x * 2 ^ n % 2 ^ (64 * 4)) = dig 4 (x * 2 ^ n) from dig_mod 4 _] at h2
      clear h0
      go_wp2_with (first | (refine arm_load rfl 42 _ rfl rfl (load_limbs (by assumption)) ?_) | (refine arm_store rfl 42 _ _ rfl rfl rfl (store_limbs h1) ?_))
      exact post_cell 4 42 rfl rfl rfl (h1.row _) limbs_type rfl limbs_size (dig_size _ _) ⟨rfl, below_row hb (by omega) _⟩
end Go.Proofs.Ytcdjinjeogodfaa
