/- Products of rows of digits. -/
import Derived.Test.YtcdjinjeogodfaaPA
import Derived.Deep.QuietTactic
import Derived.BigQuiet
namespace Go.Proofs.Ytcdjinjeogodfaa
open Go.RowKit

theorem carry_bound {p q a c : Nat} (hp : p < 65536) (hq : q < 65536) (ha : a < 65536) (hc : c < 65536) : p * q ≤ 4294836225 ∧ (a + c + p * q) / 65536 < 65536 := by
  have h : p * q ≤ 65535 * 65535 := Nat.mul_le_mul (by omega) (by omega)
  omega
theorem mod_big {y k : Nat} (hy : y < M256) (hk : 16 ≤ k) : y % 2 ^ (16 * k) = y := Nat.mod_eq_of_lt (Nat.lt_of_lt_of_le hy (by unfold M256; exact Nat.pow_le_pow_right (by decide) (by omega)))
def MulAt (x y i k cc v : Nat) : Prop := v + cc * 2 ^ (16 * (i + k)) = x % 2 ^ (16 * i) * y + dg x i * (y % 2 ^ (16 * k)) * 2 ^ (16 * i) ∧ (k ≤ 16 → v < 2 ^ (16 * (i + 16)))
theorem mulAt_start {x y i : Nat} (hy : y < M256) : MulAt x y i 0 0 (x % 2 ^ (16 * i) * y) := ⟨by simp [Nat.mod_one], fun _ => gmul_lt hy⟩
theorem mulAt_step {x y i k cc v lo hi : Nat} (hk : k < 16) (hl : lo < 65536) (h : MulAt x y i k cc v) (hT : lo + hi * 65536 = dg x i * dg y k + dg v (i + k) + cc) : MulAt x y i (k + 1) hi (gput v (i + k) lo) :=
  ⟨gmul_step hT h.1, fun _ => gput_lt (h.2 (by omega)) (by omega) hl⟩
theorem mulAt_end {x y i v : Nat} (hy : y < M256) (h : MulAt x y i 16 0 v) : v = x % 2 ^ (16 * (i + 1)) * y := by
  rw [← gmul_row hy, ← h.1]; simp
theorem mulAt_last {x y i cc v : Nat} (hy : y < M256) (h : MulAt x y i 16 cc v) : dg v (i + 16) = 0 ∧ MulAt x y i 17 0 (gput v (i + 16) cc) := by
  have h0 : dg v (i + 16) = 0 := dg_hi (h.2 (by omega)) (by omega)
  refine ⟨h0, ?_, fun h => by omega⟩
  have sp := gput_spec v (i + 16) cc
  rw [h0, Nat.zero_mul, Nat.add_zero, h.1] at sp
  rw [sp, Nat.zero_mul, Nat.add_zero, mod_big hy (k := 16) (by decide), mod_big hy (k := 17) (by decide)]
theorem mulAt_end17 {x y i v : Nat} (hy : y < M256) (h : MulAt x y i 17 0 v) : v = x % 2 ^ (16 * (i + 1)) * y := by
  have h1 := h.1
  rw [mod_big hy (k := 17) (by decide)] at h1
  rw [← gmul_row hy, mod_big hy (k := 16) (by decide), ← h1]; simp
set_option maxHeartbeats 4000000 in
set_option maxRecDepth 100000 in
theorem mul_rows (b1 b2 c1 c2 x y : Nat) (w : World) (h1 : Row w b1 16 x) (h2 : Row w b2 16 y) (hx : x < M256) (hy : y < M256) :
    Calls Try.prog 76 #[.slice (some ⟨b1, 0, none⟩) 16 c1, .slice (some ⟨b2, 0, none⟩) 16 c2] w fun e w' => ∃ b, e = .returned (.slice (some ⟨b, 0, none⟩) 32 32) ∧ w.heap.size ≤ b ∧ Blk w' b 3 (rowd 32 (x * y)) ∧ Below w.heap.size w w' := by
  have HX := Lib.hid (And.intro h1 (And.intro h2 (And.intro hx hy)))
  clear h1 h2 hx hy
  have hS := St.start w
  go_enter Try.func76, Try.ntmps76
  go_wp2_with (first | (refine st_make 32 hS rfl _ _ rfl rfl rfl (by omega) ?_; clear hS; intro w1 b5 hS))
  go_loopw [6] (fun i wr => ∃ k : Nat, k ≤ 16 ∧ i = .int .i64 k ∧ St w wr [(b5, 3, rowd 32 (x % 2 ^ (16 * k) * y))]) (fun i _ => 16 - (intOf i).toNat)
  case atStart => exact ⟨0, by omega, rfl, by rw [show x % 2 ^ (16 * 0) * y = 0 by simp [Nat.mod_one]]; exact hS⟩
  case round =>
    clear hS
    obtain ⟨i, hi, rfl, hS⟩ := hrel
    by_cases hlt : i < 16
    · obtain ⟨wo, hwo⟩ : ∃ wo : World, wo = wr := ⟨_, rfl⟩
      have hd0 : decide ((i : Int) < 16) = true := by simp; omega
      go_wp2
      go_loopw [7, 8] (fun c t wr => ∃ k cc v : Nat, k ≤ 17 ∧ t = .int .i64 k ∧ c = .int .i64 cc ∧ cc < 65536 ∧ Hid (MulAt x y i k cc v) ∧ (k = 17 → cc = 0) ∧ St w wr [(b5, 3, rowd 32 v)]) (fun _ t _ => 18 - (intOf t).toNat)
      case atStart => exact ⟨0, 0, _, by omega, rfl, rfl, by omega, Lib.hid (mulAt_start HX.out.2.2.2), fun h => by omega, hS⟩
      case round =>
        clear hS
        obtain ⟨k, cc, v, hk, rfl, rfl, hcc, HM, h17, hS⟩ := hrel
        by_cases hk16 : k < 16
        · clear h17
          have hdk : decide ((k : Int) < 16) = true := by simp; omega
          obtain ⟨s, hs⟩ : ∃ s, s = i + k := ⟨_, rfl⟩
          have t1 : (i : Int) + (k : Int) = (s : Int) := by omega
          have t1w : IntKind.i64.wrap ((i : Int) + (k : Int)) = (s : Int) := by rw [IntWalk.i64_in _ (by omega)]; omega
          have hs2 : s < 32 := by omega
          have hs3 : (s : Int) < 32 := by omega
          have hi3 : (i : Int) < 16 := by omega
          have hk3 : (k : Int) < 16 := by omega
          have g0 := rf_get (n := 32) (f := dg v) hs2
          have g1 : wr.cell? ⟨b1, i, none⟩ = _ := (hS.below.cell (p := ⟨b1, i, none⟩) HX.out.1.1).trans (HX.out.1.at_ hlt)
          have g2 : wr.cell? ⟨b2, k, none⟩ = _ := (hS.below.cell (p := ⟨b2, k, none⟩) HX.out.2.1.1).trans (HX.out.2.1.at_ hk16)
          have l1 := dg_lt x i
          have l2 := dg_lt y k
          have l3 := dg_lt v s
          have hcb := carry_bound l1 l2 l3 hcc
          have hstep := fun lo hi hl hT => mulAt_step (lo := lo) (hi := hi) hk16 hl HM.out hT
          rw [← hs] at hstep
          have hput := fun lo hl => row_put (n := 32) (v := v) (k := s) (s := lo) hs2 hl
          generalize dg x i = p at *
          generalize dg y k = q at *
          generalize dg v s = a at *
          obtain ⟨m, hm⟩ : ∃ m, m = p * q := ⟨_, rfl⟩
          rw [← hm] at hcb hstep
          have m1 : (p : Int) * (q : Int) = (m : Int) := by rw [hm, Int.natCast_mul]
          have hand : bits BinOp.and IntKind.i64 ((a : Int) + (cc : Int) + (m : Int)) 65535 = (((a + cc + m) % 65536 : Nat) : Int) := by rw [int_and65535]; omega
          have hshr : ((a : Int) + (cc : Int) + (m : Int)) / 65536 = (((a + cc + m) / 65536 : Nat) : Int) := by omega
          have hst := hstep ((a + cc + m) % 65536) ((a + cc + m) / 65536) (Nat.mod_lt _ (by decide)) (by omega)
          have hpt := hput ((a + cc + m) % 65536) (Nat.mod_lt _ (by decide))
          have m2 : IntKind.i64.wrap ((p : Int) * (q : Int)) = (m : Int) := by rw [m1, IntWalk.i64_in _ (by omega)]
          have m3 : IntKind.i64.wrap ((a : Int) + (cc : Int) + (m : Int)) = (a : Int) + (cc : Int) + (m : Int) := IntWalk.i64_in _ (by omega)
          have hm5 : m ≤ 4294836225 := hcb.1
          have G := Lib.hid (And.intro g0 (And.intro hst (And.intro hpt (And.intro hand (And.intro hshr hcb.2)))))
          clear g0 hst hpt hand hshr hcb hstep hput hm m1 hs
          go_wp2_with (first | (refine st_cell hS rfl 3 _ rfl rfl (by repeat (first | exact At.head | apply At.tail)) G.out.1 int3_agg ?_))
          have hSd := fun n => hS.drewN n
          have HS0 := Lib.hid hS
          clear hS
          go_quiet (fail)
          go_wp2_with (first | (refine st_store1 (j := s) (hSd _) rfl 3 _ _ rfl rfl rfl int_size (by repeat (first | exact Upd.head | apply Upd.tail)) (by rw [rf_size]; omega) ?_; clear hSd; intro w1 hS))
          rw [G.out.2.2.2.1, G.out.2.2.1] at hS
          go_roundw
          case rel => exact ⟨k + 1, (a + cc + m) / 65536, _, by omega, by go_num, by rw [G.out.2.2.2.2.1], G.out.2.2.2.2.2, Lib.hid G.out.2.1, fun h => by omega, hS⟩
          case measure => simp [intOf]; omega
        · have hdk : decide ((k : Int) < 16) = false := by simp; omega
          by_cases hc0 : cc = 0
          · have hend : v = x % 2 ^ (16 * (i + 1)) * y := by
              subst hc0
              have : k = 16 ∨ k = 17 := by omega
              rcases this with rfl | rfl
              · exact mulAt_end HX.out.2.2.2 HM.out
              · exact mulAt_end17 HX.out.2.2.2 HM.out
            rw [hend] at hS
            subst hc0
            clear hend h17
            go_wp2
            go_roundw
            case rel => exact ⟨i + 1, by omega, by go_num, hS⟩
            case measure => simp [intOf]; omega
          · obtain rfl : k = 16 := by omega
            clear h17
            have hd1 : decide (0 < (cc : Int)) = true := by simp; omega
            have hd2 : decide (0 < cc) = true := by simp; omega
            have hcp : 0 < cc := by omega
            obtain ⟨s, hs⟩ : ∃ s, s = i + 16 := ⟨_, rfl⟩
            have t1 : (i : Int) + 16 = (s : Int) := by omega
            have hs2 : s < 32 := by omega
            have hl := mulAt_last HX.out.2.2.2 HM.out
            rw [← hs] at hl
            have g0 := rf_get (n := 32) (f := dg v) hs2
            rw [hl.1] at g0
            have hand : bits BinOp.and IntKind.i64 (cc : Int) 65535 = (cc : Int) := by rw [int_and65535]; omega
            have hpt := row_put (n := 32) (v := v) (k := s) (s := cc) hs2 hcc
            have hshr : (cc : Int) / 65536 = 0 := by omega
            have G := Lib.hid (And.intro g0 (And.intro hl.2 (And.intro hpt (And.intro hand hshr))))
            clear g0 hl hpt hand hs hc0 hshr
            go_wp2_with (first | (refine st_cell hS rfl 3 _ rfl rfl (by repeat (first | exact At.head | apply At.tail)) G.out.1 int3_agg ?_) | (refine st_store1 (j := s) hS rfl 3 _ _ rfl rfl rfl int_size (by repeat (first | exact Upd.head | apply Upd.tail)) (by rw [rf_size]; omega) ?_; clear hS; intro w1 hS))
            rw [G.out.2.2.2.1, G.out.2.2.1] at hS
            go_roundw
            case rel => exact ⟨17, 0, _, by omega, by go_num, by rw [G.out.2.2.2.2]; rfl, by omega, Lib.hid G.out.2.1, fun h => rfl, hS⟩
            case measure => simp [intOf]
    · obtain rfl : i = 16 := by omega
      rw [show x % 2 ^ (16 * 16) * y = x * y by rw [show x % 2 ^ (16 * 16) = x from Nat.mod_eq_of_lt HX.out.2.2.1]] at hS
      go_wp2
      go_ret
      exact ⟨b5, rfl, hS.le .head, hS.get .head, hS.below⟩
end Go.Proofs.Ytcdjinjeogodfaa
