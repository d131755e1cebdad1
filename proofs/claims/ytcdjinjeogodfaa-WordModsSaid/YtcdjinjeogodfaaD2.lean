/- Quotients of two limbs by one: Div64. -/
import Derived.Test.YtcdjinjeogodfaaDM
import Derived.Deep.DeepCutAuto
import Derived.Deep.CutBlock
namespace Go.Proofs.Ytcdjinjeogodfaa
open Go.RowKit

set_option maxHeartbeats 8000000 in
set_option maxRecDepth 100000 in
theorem div64_big (hi lo y : Nat) (w : World) (hlo : lo < 18446744073709551616) (hyb : y < 18446744073709551616) (hyt : 9223372036854775808 ≤ y) (hh : hi < y) (h0 : 0 < hi) :
    Calls Try.prog 114 #[.int .u64 (hi : Int), .int .u64 (lo : Int), .int .u64 (y : Int)] w (DivPost ((hi * 18446744073709551616 + lo) / y) w) := by
  have hlead := lead_any y w hyb
  have hbl : bitLen y = 64 := by
    have h1 : bitLen y ≤ 64 := by
      have h1 := (bitLen_spec y).2 (by omega)
      have := (Nat.pow_lt_pow_iff_right (by decide : 1 < 2)).1 (Nat.lt_of_le_of_lt h1 (show y < 2 ^ 64 by omega))
      omega
    have h2 := (bitLen_spec y).1
    have h3 : ¬ bitLen y ≤ 63 := fun h => by
      have := Nat.pow_le_pow_right (show 0 < 2 by decide) h
      rw [show (2 : Nat) ^ 63 = 9223372036854775808 by decide] at this
      omega
    omega
  rw [hbl] at hlead
  have HB := Lib.hid hlead
  clear hlead hbl
  obtain ⟨yh, hyh⟩ : ∃ yh, yh = y / 4294967296 := ⟨_, rfl⟩
  obtain ⟨yl, hyl'⟩ : ∃ yl, yl = y % 4294967296 := ⟨_, rfl⟩
  obtain ⟨lh, hlh⟩ : ∃ lh, lh = lo / 4294967296 := ⟨_, rfl⟩
  obtain ⟨ll, hll⟩ : ∃ ll, ll = lo % 4294967296 := ⟨_, rfl⟩
  have hy : y = yh * 4294967296 + yl := by omega
  have hlo2 : lo = lh * 4294967296 + ll := by omega
  have hy0 : 0 < y := by omega
  have hyl : yl < 4294967296 := by omega
  have hllb : ll < 4294967296 := by omega
  have hlhb : lh < 4294967296 := by omega
  have hyh1 : 2147483648 ≤ yh := by omega
  have hyh2 : yh < 4294967296 := by omega
  have t1 : (y : Int) / 4294967296 = (yh : Int) := by omega
  have t2 : bits BinOp.and IntKind.u64 (y : Int) 4294967295 = (yl : Int) := by rw [and_low32 _ (by omega) (by omega)]; omega
  have t3 : (lo : Int) / 18446744073709551616 = 0 := by omega
  have t4 : bits BinOp.or IntKind.u64 (hi : Int) 0 = (hi : Int) := by have := u64_or_nat hi 0 (by omega) (by omega); simpa using this
  have t5 : (lo : Int) / 4294967296 = (lh : Int) := by omega
  have t6 : bits BinOp.and IntKind.u64 (lo : Int) 4294967295 = (ll : Int) := by rw [and_low32 _ (by omega) (by omega)]; omega
  have hst := qd_start (l := lh) hy hyh1 hh hyl hlhb
  obtain ⟨q0, hq0d⟩ : ∃ q0, q0 = hi / yh := ⟨_, rfl⟩
  obtain ⟨r0, hr0d⟩ : ∃ r0, r0 = hi % yh := ⟨_, rfl⟩
  rw [← hq0d, ← hr0d] at hst
  have hr0 : r0 < 4294967296 := by rw [hr0d]; exact Nat.lt_trans (Nat.mod_lt _ (by omega)) hyh2
  have hq0 := hst.2
  have t7 : (hi : Int) / (yh : Int) = (q0 : Int) := by rw [hq0d, Int.natCast_ediv]
  have hs0 := hst.1.sum
  obtain ⟨p0, hp0⟩ : ∃ p0, p0 = q0 * yh := ⟨_, rfl⟩
  have t8 : (q0 : Int) * (yh : Int) = (p0 : Int) := by rw [hp0, Int.natCast_mul]
  rw [← hp0] at hs0
  have t9 : (hi : Int) - (p0 : Int) = (r0 : Int) := by omega
  have hp0b : p0 ≤ hi := by omega
  have HQ0 := Lib.hid hst.1
  have hz : ((hi : Int) == 0) = false := by simp; omega
  have hz2 : ((y : Int) == 0) = false := by simp; omega
  have hz3 : decide ((y : Int) ≤ (hi : Int)) = false := by simp; omega
  have hz4 : ((yh : Int) == 0) = false := by simp; omega
  have HY := Lib.hid (And.intro hy hlo2)
  clear hst hq0d hr0d hyh hyl' hlh hll hs0 hp0 hy hlo2
  have hy := HY.out.1
  have HYY := Lib.hid hy
  clear hy
  go_enter Try.func114, Try.ntmps114
  go_upto_block 0 with (go_at_call 103; with_reducible refine HB.out.mono ?_; rintro e w' ⟨rfl, rfl⟩)
  go_cut [15, 16] (fun s15 s16 wx => ∃ q r : Nat, s15 = .int .u64 q ∧ s16 = .int .u64 r ∧ Hid (q = qd hi lh y) ∧ wx = w)
  case first =>
    go_wp2
    go_loop [15, 16] (fun q r => ∃ q' r' : Nat, q = .int .u64 q' ∧ r = .int .u64 r' ∧ Hid (Qd hi lh y yh yl q' r') ∧ q' ≤ 4294967297 ∧ r' < 4294967296) (fun q _ => (intOf q).toNat)
    case atStart => exact ⟨_, _, rfl, rfl, HQ0, hq0, hr0⟩
    case round =>
      obtain ⟨q, r, rfl, rfl, HQ, hqb, hrb⟩ := hrel
      obtain ⟨m, hm⟩ : ∃ m, m = q * yl := ⟨_, rfl⟩
      have hmb : m ≤ 4294967297 * 4294967295 := by rw [hm]; exact Nat.mul_le_mul hqb (by omega)
      have tm : (q : Int) * (yl : Int) = (m : Int) := by rw [hm, Int.natCast_mul]
      by_cases hA : 4294967296 ≤ q
      · have hd1 : decide (4294967296 ≤ (q : Int)) = true := by simp; omega
        clear tm hmb
        obtain ⟨q1, hq1, HD⟩ := qd_down HQ.out HYY.out hh hlhb (.inl hA)
        have HD := Lib.hid HD
        have tq : (q : Int) - 1 = (q1 : Int) := by omega
        have hq1p : 0 < q := by omega
        have hq1b : q1 ≤ 4294967296 := by omega
        have HQ1 := Lib.hid hq1
        obtain ⟨r1, hr1⟩ : ∃ r1, r1 = r + yh := ⟨_, rfl⟩
        have tr : (r : Int) + (yh : Int) = (r1 : Int) := by omega
        rw [← hr1] at HD
        by_cases hbr : 4294967296 ≤ r1
        · have hd3 : decide (4294967296 ≤ (r1 : Int)) = true := by simp; omega
          have hqe := qd_break HD.out HYY.out hy0 hyl (by omega) hbr
          have HE := Lib.hid hqe
          clear hqe hr1 hq1
          go_wp2
          go_meet
          exact ⟨q1, r1, rfl, rfl, HE, rfl⟩
        · have hd3 : decide (4294967296 ≤ (r1 : Int)) = false := by simp; omega
          clear hr1 hq1
          go_wp2
          go_round
          case rel => exact ⟨q1, r1, rfl, rfl, HD, by omega, by omega⟩
          case measure => have := HQ1.out; simp [intOf]; omega
      · have hd1 : decide (4294967296 ≤ (q : Int)) = false := by simp; omega
        by_cases hBc : 4294967296 * r + lh < m
        · have hd2 : decide (4294967296 * (r : Int) + (lh : Int) < (m : Int)) = true := by simp; omega
          have hc := hBc
          rw [hm] at hc
          have HT := Lib.hid (And.intro tm (And.intro hd1 hd2))
          clear hm
          obtain ⟨q1, hq1, HD⟩ := qd_down HQ.out HYY.out hh hlhb (.inr hc)
          have HD := Lib.hid HD
          have tq : (q : Int) - 1 = (q1 : Int) := by omega
          have hq1p : 0 < q := by omega
          have hq1b : q1 ≤ 4294967296 := by omega
          have HQ1 := Lib.hid hq1
          obtain ⟨r1, hr1⟩ : ∃ r1, r1 = r + yh := ⟨_, rfl⟩
          have tr : (r : Int) + (yh : Int) = (r1 : Int) := by omega
          rw [← hr1] at HD
          by_cases hbr : 4294967296 ≤ r1
          · have hd3 : decide (4294967296 ≤ (r1 : Int)) = true := by simp; omega
            have hqe := qd_break HD.out HYY.out hy0 hyl (by omega) hbr
            have HE := Lib.hid hqe
            clear hqe hr1 hq1
            go_wp2
            go_meet
            exact ⟨q1, r1, rfl, rfl, HE, rfl⟩
          · have hd3 : decide (4294967296 ≤ (r1 : Int)) = false := by simp; omega
            clear hr1 hq1
            go_wp2
            go_round
            case rel => exact ⟨q1, r1, rfl, rfl, HD, by omega, by omega⟩
            case measure => have := HQ1.out; simp [intOf]; omega
        · have hd2 : decide (4294967296 * (r : Int) + (lh : Int) < (m : Int)) = false := by simp; omega
          have hqe := qd_end HQ.out HYY.out hy0 (by rw [← hm]; omega)
          have HE := Lib.hid hqe
          clear hqe hm
          go_wp2
          go_meet
          exact ⟨q, r, rfl, rfl, HE, rfl⟩
  case rest =>
    obtain ⟨q, r, rfl, rfl, HE, hwc⟩ := hcut
    subst hwc
    clear HQ0 hq0 hr0 t7 t8 t9 hp0b
    have hqlt := qd_lt (l := lh) hh hlhb
    rw [← HE.out] at hqlt
    have hre := qd_rest (h := hi) (l := lh) hy0
    rw [← HE.out] at hre
    obtain ⟨u, hu⟩ : ∃ u, u = (hi * 4294967296 + lh) % y := ⟨_, rfl⟩
    rw [← hu] at hre
    have huy := hre.2
    obtain ⟨m, hm⟩ : ∃ m, m = q * y := ⟨_, rfl⟩
    have hre1 := hre.1
    rw [← hm] at hre1
    have tm : (q : Int) * (y : Int) = (m : Int) := by rw [hm, Int.natCast_mul]
    have tu : IntKind.u64.wrap (IntKind.u64.wrap (IntKind.u64.wrap ((hi : Int) * 4294967296) + (lh : Int)) - IntKind.u64.wrap (m : Int)) = (u : Int) := by
      simp only [IntKind.wrap_u64]
      omega
    have hst := qd_start (h := u) (l := ll) HYY.out hyh1 huy hyl hllb
    obtain ⟨q2, hq2d⟩ : ∃ q2, q2 = u / yh := ⟨_, rfl⟩
    obtain ⟨r2, hr2d⟩ : ∃ r2, r2 = u % yh := ⟨_, rfl⟩
    rw [← hq2d, ← hr2d] at hst
    have hr0 : r2 < 4294967296 := by rw [hr2d]; exact Nat.lt_trans (Nat.mod_lt _ (by omega)) hyh2
    have hq0 := hst.2
    have t7 : (u : Int) / (yh : Int) = (q2 : Int) := by rw [hq2d, Int.natCast_ediv]
    have hs0 := hst.1.sum
    obtain ⟨p2, hp2⟩ : ∃ p2, p2 = q2 * yh := ⟨_, rfl⟩
    have t8 : (q2 : Int) * (yh : Int) = (p2 : Int) := by rw [hp2, Int.natCast_mul]
    rw [← hp2] at hs0
    have t9 : (u : Int) - (p2 : Int) = (r2 : Int) := by omega
    have hp2b : p2 ≤ u := by omega
    have HQ0 := Lib.hid hst.1
    have HU := Lib.hid hu
    clear hst hq2d hr2d hs0 hp2 hre hre1 hm hu
    have HU0 := Lib.hid HYY.out
    have HWW := Lib.hid hy0
    go_upto_block 2 with (fail)
    go_cut [18, 16] (fun s18 s16 wx => ∃ q r : Nat, s18 = .int .u64 q ∧ s16 = .int .u64 r ∧ Hid (q = qd u ll y) ∧ wx = wc)
    case first =>
      go_wp2
      go_loop [18, 16] (fun q r => ∃ q' r' : Nat, q = .int .u64 q' ∧ r = .int .u64 r' ∧ Hid (Qd u ll y yh yl q' r') ∧ q' ≤ 4294967297 ∧ r' < 4294967296) (fun q _ => (intOf q).toNat)
      case atStart => exact ⟨_, _, rfl, rfl, HQ0, hq0, hr0⟩
      case round =>
        obtain ⟨q, r, rfl, rfl, HQ, hqb, hrb⟩ := hrel
        obtain ⟨m, hm⟩ : ∃ m, m = q * yl := ⟨_, rfl⟩
        have hmb : m ≤ 4294967297 * 4294967295 := by rw [hm]; exact Nat.mul_le_mul hqb (by omega)
        have tm : (q : Int) * (yl : Int) = (m : Int) := by rw [hm, Int.natCast_mul]
        by_cases hA : 4294967296 ≤ q
        · have hd1 : decide (4294967296 ≤ (q : Int)) = true := by simp; omega
          clear tm hmb
          obtain ⟨q1, hq1, HD⟩ := qd_down HQ.out HYY.out huy hllb (.inl hA)
          have HD := Lib.hid HD
          have tq : (q : Int) - 1 = (q1 : Int) := by omega
          have hq1p : 0 < q := by omega
          have hq1b : q1 ≤ 4294967296 := by omega
          have HQ1 := Lib.hid hq1
          obtain ⟨r1, hr1⟩ : ∃ r1, r1 = r + yh := ⟨_, rfl⟩
          have tr : (r : Int) + (yh : Int) = (r1 : Int) := by omega
          rw [← hr1] at HD
          by_cases hbr : 4294967296 ≤ r1
          · have hd3 : decide (4294967296 ≤ (r1 : Int)) = true := by simp; omega
            have hqe := qd_break HD.out HYY.out hy0 hyl (by omega) hbr
            have HE := Lib.hid hqe
            clear hqe hr1 hq1
            go_wp2
            go_meet
            exact ⟨q1, r1, rfl, rfl, HE, rfl⟩
          · have hd3 : decide (4294967296 ≤ (r1 : Int)) = false := by simp; omega
            clear hr1 hq1
            go_wp2
            go_round
            case rel => exact ⟨q1, r1, rfl, rfl, HD, by omega, by omega⟩
            case measure => have := HQ1.out; simp [intOf]; omega
        · have hd1 : decide (4294967296 ≤ (q : Int)) = false := by simp; omega
          by_cases hBc : 4294967296 * r + ll < m
          · have hd2 : decide (4294967296 * (r : Int) + (ll : Int) < (m : Int)) = true := by simp; omega
            have hc := hBc
            rw [hm] at hc
            have HT := Lib.hid (And.intro tm (And.intro hd1 hd2))
            clear hm
            obtain ⟨q1, hq1, HD⟩ := qd_down HQ.out HYY.out huy hllb (.inr hc)
            have HD := Lib.hid HD
            have tq : (q : Int) - 1 = (q1 : Int) := by omega
            have hq1p : 0 < q := by omega
            have hq1b : q1 ≤ 4294967296 := by omega
            have HQ1 := Lib.hid hq1
            obtain ⟨r1, hr1⟩ : ∃ r1, r1 = r + yh := ⟨_, rfl⟩
            have tr : (r : Int) + (yh : Int) = (r1 : Int) := by omega
            rw [← hr1] at HD
            by_cases hbr : 4294967296 ≤ r1
            · have hd3 : decide (4294967296 ≤ (r1 : Int)) = true := by simp; omega
              have hqe := qd_break HD.out HYY.out hy0 hyl (by omega) hbr
              have HE := Lib.hid hqe
              clear hqe hr1 hq1
              go_wp2
              go_meet
              exact ⟨q1, r1, rfl, rfl, HE, rfl⟩
            · have hd3 : decide (4294967296 ≤ (r1 : Int)) = false := by simp; omega
              clear hr1 hq1
              go_wp2
              go_round
              case rel => exact ⟨q1, r1, rfl, rfl, HD, by omega, by omega⟩
              case measure => have := HQ1.out; simp [intOf]; omega
          · have hd2 : decide (4294967296 * (r : Int) + (ll : Int) < (m : Int)) = false := by simp; omega
            have hqe := qd_end HQ.out HYY.out hy0 (by rw [← hm]; omega)
            have HE := Lib.hid hqe
            clear hqe hm
            go_wp2
            go_meet
            exact ⟨q, r, rfl, rfl, HE, rfl⟩
    case rest =>
      obtain ⟨z, r3, rfl, rfl, HZ, rfl⟩ := hcut
      clear HQ0 hq0 hr0 t7 t8 t9 hp2b
      have hzlt := qd_lt (l := ll) huy hllb
      rw [← HZ.out] at hzlt
      have hres := qd_both (h := hi) (lh := lh) (ll := ll) hy0
      rw [← HY.out.2, ← HE.out, ← HU.out, ← HZ.out] at hres
      have HR := Lib.hid hres
      clear hres
      go_wp2
      go_ret2
      exact ⟨_, ret_two (by rw [HR.out]; omega) rfl, rfl⟩
end Go.Proofs.Ytcdjinjeogodfaa
