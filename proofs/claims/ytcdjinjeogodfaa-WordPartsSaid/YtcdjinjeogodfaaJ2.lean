/- Limbs shifted to the right. -/
import Derived.Test.YtcdjinjeogodfaaE2
import Derived.Test.YtcdjinjeogodfaaV5
import Derived.StillTailTactics
namespace Go.Proofs.Ytcdjinjeogodfaa
open Go.RowKit

theorem right_val (av bv p : Nat) (la : av < 18446744073709551616) : bits BinOp.or IntKind.u64 ((av : Int) / 2 ^ p) (IntKind.u64.wrap ((bv : Int) * 2 ^ (64 - p))) = ((av / 2 ^ p ||| bv * 2 ^ (64 - p) % 18446744073709551616 : Nat) : Int) := by
  have q1 : (av : Int) / 2 ^ p = ((av / 2 ^ p : Nat) : Int) := by push_cast; rfl
  have q2 : IntKind.u64.wrap ((bv : Int) * 2 ^ (64 - p)) = ((bv * 2 ^ (64 - p) % 18446744073709551616 : Nat) : Int) := by rw [IntKind.wrap_u64, Int.natCast_emod, Int.natCast_mul, Int.natCast_pow]; rfl
  rw [q1, q2, u64_or_nat _ _ (Nat.lt_of_le_of_lt (Nat.div_le_self _ _) la) (Nat.mod_lt _ (by decide))]
theorem right_limb {x n s p m i j av bv : Nat} (hn : n = 64 * s + p) (hp : p < 64) (hi : s + m = i) (hj : j = i + 1) (ha : x / 2 ^ (64 * i) % 2 ^ 64 = av) (hb : x / 2 ^ (64 * j) % 2 ^ 64 = bv) :
    av / 2 ^ p ||| bv * 2 ^ (64 - p) % 18446744073709551616 = x / 2 ^ n / 2 ^ (64 * m) % 2 ^ 64 := by
  rw [pow_split n m p s hn, hi, limb_right hp, ha, Nat.div_div_eq_div_mul, ← Nat.pow_add, show 64 * i + 64 = 64 * j by omega, hb]
theorem right_limb_last {x n s p m i av : Nat} (hx : x < M256) (hn : n = 64 * s + p) (hp : p < 64) (hi : s + m = i) (h3 : i = 3) (ha : x / 2 ^ (64 * i) % 2 ^ 64 = av) :
    av / 2 ^ p = x / 2 ^ n / 2 ^ (64 * m) % 2 ^ 64 := by
  subst h3
  rw [pow_split n m p s hn, hi, limb_right_last ?_ hp, ha]
  rw [Nat.div_lt_iff_lt_mul (Nat.two_pow_pos _), ← Nat.pow_add]
  exact hx
theorem right_done {x n s p : Nat} (hx : x < M256) (hn : n = 64 * s + p) (hs : s < 4) : x / 2 ^ n % 2 ^ (64 * (4 - s)) = x / 2 ^ n := by
  apply Nat.mod_eq_of_lt
  rw [Nat.div_lt_iff_lt_mul (Nat.two_pow_pos _), ← Nat.pow_add]
  refine Nat.lt_of_lt_of_le hx (Nat.pow_le_pow_right (by decide) ?_)
  omega
theorem set_get {c : Array Value} {m : Nat} {v : Value} (h : m < c.size) : (c.setIfInBounds m v)[m]? = some v := by simp [h]

set_option maxHeartbeats 2000000 in
set_option maxRecDepth 100000 in
theorem right_any (x n : Nat) (hx : x < M256) (hn : n < 256) (w : World) :
    Calls Try.prog 107 #[.agg (dig 4 x), .int .u64 (n : Int)] w fun e w' => e = .returned (.agg (dig 4 (x / 2 ^ n))) ∧ Below w.heap.size w w' := by
  obtain ⟨s, p, hs, hp, hnn, t1, t2⟩ : ∃ s p : Nat, s < 4 ∧ p < 64 ∧ n = 64 * s + p ∧ (n : Int) / 64 = (s : Int) ∧ (n : Int) % 64 = (p : Int) := ⟨n / 64, n % 64, by omega, by omega, by omega, by omega, by omega⟩
  have HX := Lib.hid (And.intro hx hnn)
  clear hx hnn
  go_enter Try.func107, Try.ntmps107
  go_wp2
  simp only [t2]
  go_loopw [8] (fun t wr => ∃ i : Nat, s ≤ i ∧ i ≤ 4 ∧ t = .int .i64 i ∧ Below w.heap.size w wr ∧ Blk wr w.heap.size 42 (dig 4 x) ∧ Blk wr (w.heap.size + 1) 42 (dig 4 0) ∧ Blk wr (w.heap.size + 1 + 1) 42 (dig 4 (x / 2 ^ n % 2 ^ (64 * (i - s))))) (fun t _ => 4 - (intOf t).toNat)
  case atStart =>
    obtain ⟨g0, g1, g2, g3⟩ := three_blocks w 42 42 42 (dig 4 x) (dig 4 0) (dig 4 0)
    refine ⟨s, by omega, by omega, rfl, ?_⟩
    rw [Nat.sub_self, show x / 2 ^ n % 2 ^ (64 * 0) = 0 by simp [Nat.mod_one], ← dig_zero4]
    exact ⟨g0, g1, g2, g3⟩
  case round =>
    obtain ⟨i, hi1, hi2, rfl, hb, h0, h1, h2⟩ := hrel
    by_cases hlt : i < 4
    · obtain ⟨m, hm⟩ : ∃ m, m = i - s := ⟨_, rfl⟩
      have e1 : (i : Int) - (s : Int) = (m : Int) := by omega
      have hm4 : m < 4 := by omega
      obtain ⟨av, hav⟩ : ∃ av, x / 2 ^ (64 * i) % 2 ^ 64 = av := ⟨_, rfl⟩
      have g0 := h0.cell (dig_get hlt)
      rw [hav] at g0
      rw [← hm] at h2
      have la : av < 18446744073709551616 := by rw [← hav]; exact Nat.mod_lt _ (by decide)
      obtain ⟨yv, hyv⟩ : ∃ yv, yv = x / 2 ^ n % 2 ^ (64 * m) / 2 ^ (64 * m) % 2 ^ 64 := ⟨_, rfl⟩
      have g2 := h2.cell (dig_get hm4)
      rw [← hyv] at g2
      have f2 := h2.free m
      have HA := Lib.hid (And.intro hav hm)
      clear hav hm hyv
      by_cases h3 : i + 1 < 4
      · obtain ⟨j, hj⟩ : ∃ j, j = i + 1 := ⟨_, rfl⟩
        rw [← hj] at h3
        have e2 : (i : Int) + 1 = (j : Int) := by omega
        obtain ⟨bv, hbv⟩ : ∃ bv, x / 2 ^ (64 * j) % 2 ^ 64 = bv := ⟨_, rfl⟩
        have g1 := h0.cell (dig_get h3)
        rw [hbv] at g1
        have lb : bv < 18446744073709551616 := by rw [← hbv]; exact Nat.mod_lt _ (by decide)
        have HB := Lib.hid (And.intro hbv hj)
        clear hbv hj
        go_wp2_with (refine arm_store_int rfl 40 _ _ rfl rfl rfl u64_size h2 (by rw [dig_size]; omega) ?_; intro w1 hB1 hO1)
        have k1 := (hO1.blk (by omega) h0).cell (dig_get h3)
        rw [HB.out.1] at k1
        have k2 := hB1.cell (set_get (c := dig 4 (x / 2 ^ n % 2 ^ (64 * m))) (by rw [dig_size]; exact hm4))
        have k3 := hB1.free m
        clear g0 g1 g2 f2
        have u1 : IntKind.i64.wrap (m : Int) = m := IntWalk.i64_in _ ⟨by omega, by omega⟩
        have u2 : IntKind.i64.wrap (j : Int) = (j : Int) := IntWalk.i64_in _ ⟨by omega, by omega⟩
        have u3 : IntKind.u64.wrap (64 - (p : Int)) = 64 - (p : Int) := IntWalk.u64_in _ ⟨by omega, by omega⟩
        have v1 : (m : Int) < 4 := by omega
        have v2 : (j : Int) < 4 := by omega
        go_still_tail 13, (by kernel_rfl)
        go_wp2
        trace_state
        go_roundw
        case rel =>
          obtain ⟨hav, hm⟩ := HA.out
          obtain ⟨hbv, hj⟩ := HB.out
          rw [right_val _ _ _ la]
          have hs2 := (hB1.set m (.int .u64 ((av / 2 ^ p ||| bv * 2 ^ (64 - p) % 18446744073709551616 : Nat) : Int))).drew
          have hsm : s + m = i := by omega
          rw [Array.setIfInBounds_setIfInBounds, dig_step hm4 (right_limb HX.out.2 hp hsm hj hav hbv), show m + 1 = j - s by omega] at hs2
          exact ⟨j, by omega, by omega, rfl, (hb.trans (hO1.below (by omega))).setCell (by simp only; omega) _ |>.drew, ((hO1.blk (by omega) h0).far (by simp only; omega) _).drew, ((hO1.blk (by omega) h1).far (by simp only; omega) _).drew, hs2⟩
        case measure => simp [intOf]; omega
      · go_wp2_with (refine arm_store_int rfl 40 _ _ rfl rfl rfl u64_size h2 (by rw [dig_size]; omega) ?_; intro w1 hB1 hO1)
        go_roundw
        case rel =>
          obtain ⟨hav, hm⟩ := HA.out
          have q1 : (av : Int) / 2 ^ p = ((av / 2 ^ p : Nat) : Int) := by push_cast; rfl
          have hsm : s + m = i := by omega
          have h3' : i = 3 := by omega
          rw [q1, dig_step hm4 (right_limb_last HX.out.1 HX.out.2 hp hsm h3' hav), show m + 1 = i + 1 - s by omega] at hB1
          exact ⟨i + 1, by omega, by omega, by go_num, hb.trans (hO1.below (by omega)), hO1.blk (by omega) h0, hO1.blk (by omega) h1, hB1⟩
        case measure => simp [intOf]; omega
    · obtain rfl : i = 4 := by omega
      rw [right_done HX.out.1 HX.out.2 hs] at h2
      clear h0
      go_wp2_with (first | (refine arm_load rfl 42 _ rfl rfl (load_limbs (by assumption)) ?_) | (refine arm_store rfl 42 _ _ rfl rfl rfl (store_limbs h1) ?_))
      exact post_cell 4 42 rfl rfl rfl (h1.row _) limbs_type rfl limbs_size (dig_size _ _) ⟨rfl, below_row hb (by omega) _⟩
end Go.Proofs.Ytcdjinjeogodfaa
