/- Products of limbs: times. -/
import Derived.Test.YtcdjinjeogodfaaB1
import Derived.Test.YtcdjinjeogodfaaB3
import Derived.Test.YtcdjinjeogodfaaV4
import Derived.Deep.RegionWith
namespace Go.Proofs.Ytcdjinjeogodfaa
open Go.RowKit

theorem mulAdd_ex (a b c d : Nat) (w : World) (ha : a < 18446744073709551616) (hb : b < 18446744073709551616) (hc : c < 18446744073709551616) (hd : d < 18446744073709551616) :
    Calls Try.prog 101 #[.int .u64 a, .int .u64 b, .int .u64 c, .int .u64 d] w fun e w' => ∃ lo hi : Nat, lo + hi * 2 ^ 64 = a * b + c + d ∧ lo < 18446744073709551616 ∧ hi < 18446744073709551616 ∧ e = .returned (.tuple #[.int .u64 lo, .int .u64 hi]) ∧ w = w' :=
  (mulAdd_any a b c d w ha hb hc hd).mono fun e w' ⟨he, hw⟩ => ⟨_, _, by have := Nat.mod_add_div (a * b + c + d) 18446744073709551616; omega, Nat.mod_lt _ (by decide), (mulAdd_arith a b c d _ ha hb hc hd).2.2.2, he, hw⟩

set_option maxHeartbeats 2000000 in
set_option maxRecDepth 100000 in
theorem times_any (x y : Nat) (hx : x < M256) (hy : y < M256) (w : World) :
    Calls Try.prog 74 #[.agg (dig 4 x), .agg (dig 4 y)] w fun e w' => e = .returned (.agg (dig 8 (x * y))) ∧ Below w.heap.size w w' := by
  have HX := Lib.hid (And.intro hx hy)
  clear hx hy
  go_enter Try.func74, Try.ntmps74
  go_wp2
  go_loopw [9] (fun i wr => ∃ k : Nat, k ≤ 4 ∧ i = .int .i64 k ∧ Below w.heap.size w wr ∧
      Blk wr w.heap.size 42 (dig 4 x) ∧ Blk wr (w.heap.size + 1) 42 (dig 4 y) ∧ Blk wr (w.heap.size + 1 + 1) 53 (dig 8 0) ∧
      Blk wr (w.heap.size + 1 + 1 + 1) 53 (dig 8 (x % 2 ^ (64 * k) * y))) (fun i _ => 4 - (intOf i).toNat)
  case atStart =>
    obtain ⟨g0, g1, g2, g3, g4⟩ := four_blocks w 42 42 53 53 (dig 4 x) (dig 4 y) (dig 8 0) (dig 8 0)
    refine ⟨0, by omega, rfl, ?_⟩
    rw [show x % 2 ^ (64 * 0) * y = 0 by simp [Nat.mod_one], ← dig_zero8]
    exact ⟨g0, g1, g2, g3, g4⟩
  case round =>
    obtain ⟨i, hi, rfl, hb, h0, h1, h2, h3⟩ := hrel
    by_cases hlt : i < 4
    · obtain ⟨wo, hwo⟩ : ∃ wo : World, wo = wr := ⟨_, rfl⟩
      obtain ⟨xi, hxi⟩ : ∃ xi, x / 2 ^ (64 * i) % 2 ^ 64 = xi := ⟨_, rfl⟩
      have lx : xi < 18446744073709551616 := by rw [← hxi]; exact Nat.mod_lt _ (by decide)
      have HXI := Lib.hid hxi
      clear hxi
      have hdi : decide ((i : Int) < 4) = true := by simp; omega
      go_wp2
      go_loopw [7, 12] (fun c j wr => ∃ k cc v : Nat, k ≤ 4 ∧ j = .int .i64 k ∧ c = .int .u64 cc ∧ cc < 18446744073709551616 ∧ v < 2 ^ (64 * (i + 4)) ∧
          v + cc * 2 ^ (64 * (i + k)) = x % 2 ^ (64 * i) * y + x / 2 ^ (64 * i) % 2 ^ 64 * (y % 2 ^ (64 * k)) * 2 ^ (64 * i) ∧ Below w.heap.size w wr ∧
          Blk wr w.heap.size 42 (dig 4 x) ∧ Blk wr (w.heap.size + 1) 42 (dig 4 y) ∧ Blk wr (w.heap.size + 1 + 1) 53 (dig 8 0) ∧
          Blk wr (w.heap.size + 1 + 1 + 1) 53 (dig 8 v)) (fun _ j _ => 4 - (intOf j).toNat)
      case atStart => exact ⟨0, 0, _, by omega, rfl, rfl, by omega, mul_lt HX.out.2, by simp [Nat.mod_one], hb, h0, h1, h2, h3⟩
      case round =>
        clear hb h0 h1 h2 h3
        obtain ⟨k, cc, v, hk, rfl, rfl, hcc, hv, hsum, hb, h0, h1, h2, h3⟩ := hrel
        have HS := Lib.hid (And.intro hv hsum)
        clear hv hsum
        by_cases hltk : k < 4
        · obtain ⟨yj, hyj⟩ : ∃ yj, y / 2 ^ (64 * k) % 2 ^ 64 = yj := ⟨_, rfl⟩
          obtain ⟨pk, hpk⟩ : ∃ pk, v / 2 ^ (64 * (i + k)) % 2 ^ 64 = pk := ⟨_, rfl⟩
          have ly : yj < 18446744073709551616 := by rw [← hyj]; exact Nat.mod_lt _ (by decide)
          have lp : pk < 18446744073709551616 := by rw [← hpk]; exact Nat.mod_lt _ (by decide)
          have g0 := h0.cell (dig_get hlt)
          have g1 := h1.cell (dig_get hltk)
          have g3 := h3.cell (dig_get (show i + k < 8 by omega))
          rw [HXI.out] at g0
          rw [hyj] at g1
          rw [hpk] at g3
          have f3 := h3.free (i + k)
          have HY := Lib.hid (And.intro hyj hpk)
          clear hyj hpk
          go_wp2
          have e1 : IntKind.i64.wrap ((i : Int) + (k : Int)) = (i : Int) + (k : Int) := IntWalk.i64_in _ (by omega)
          have e2 : ((i : Int) + (k : Int)).toNat = i + k := by omega
          have e3 : (0 : Int) ≤ (i : Int) + (k : Int) := by omega
          have e4 : (i : Int) + (k : Int) < 8 := by omega
          go_region_with (first | (go_at_call 101; refine (mulAdd_ex _ _ _ _ _ lx ly lp hcc).mono ?_; rintro e w' ⟨lo, hi2, hT, hlo, hhi, rfl, rfl⟩; have HT := Lib.hid hT; clear hT))
          all_goals go_wp2
          all_goals (
            go_roundw
            case rel =>
              refine ⟨k + 1, hi2, dput v (i + k) lo, by omega, by go_num, rfl, hhi, dput_lt HS.out.1 (by omega) hlo, mul_step (by rw [HXI.out, HY.out.1, HY.out.2]; exact HT.out) HS.out.2, (hb.setCell (by simp only; omega) _).drew, (h0.far (by simp only; omega) _).drew, (h1.far (by simp only; omega) _).drew, (h2.far (by simp only; omega) _).drew, ?_⟩
              rw [← dig_put (by omega) hlo]; exact (h3.set _ _).drew
            case measure => simp [intOf]; omega)
        · have g3 := h3.cell (dig_get (show i + 4 < 8 by omega))
          have f3 := h3.free (i + 4)
          go_wp2
          go_roundw
          case rel =>
            obtain rfl : k = 4 := by omega
            refine ⟨i + 1, by omega, by go_num, (hb.setCell (by simp only; omega) _), (h0.far (by simp only; omega) _), (h1.far (by simp only; omega) _), (h2.far (by simp only; omega) _), ?_⟩
            rw [← mul_row HX.out.2 HS.out.1 HS.out.2, ← dig_put (by omega) hcc]; exact (h3.set _ _)
          case measure => simp [intOf]; omega
    · clear h0 h1
      go_wp2_with (first | (refine arm_load rfl 53 _ rfl rfl (load_wide (by assumption)) ?_) | (refine arm_store rfl 53 _ _ rfl rfl rfl (store_wide (by assumption)) ?_))
      obtain rfl : i = 4 := by omega
      have e : x % 2 ^ (64 * 4) * y = x * y := by rw [← M256_pow, Nat.mod_eq_of_lt HX.out.1]
      rw [e] at *
      exact post_cell 4 53 rfl rfl rfl (h2.row _) wide_type rfl wide_size (dig_size _ _) ⟨rfl, below_row hb (by omega) _⟩
end Go.Proofs.Ytcdjinjeogodfaa
