/- How many limbs a number has; limbs with one above them. -/
import Derived.Test.YtcdjinjeogodfaaD6
import Derived.Test.YtcdjinjeogodfaaC5
import Derived.Test.YtcdjinjeogodfaaE2
import Derived.StillTailTactics
namespace Go.Proofs.Ytcdjinjeogodfaa
open Go.RowKit

def CountPost (V : Nat) (w : World) (e : Ending) (w' : World) : Prop := ∃ n : Nat, n ≤ 4 ∧ V < 2 ^ (64 * n) ∧ (n ≠ 0 → lm V (n - 1) ≠ 0) ∧ e = .returned (.int .i64 (n : Int)) ∧ Below w.heap.size w w'
theorem count_down {V n1 : Nat} (hV : V < 2 ^ (64 * (n1 + 1))) (h : lm V n1 = 0) : V < 2 ^ (64 * n1) := by
  rw [top_limb hV, Nat.div_eq_zero_iff] at h
  rcases h with h | h
  · exact absurd h (Nat.ne_of_gt (Nat.two_pow_pos _))
  · exact h
set_option maxHeartbeats 1000000 in
set_option maxRecDepth 100000 in
theorem count_any (V : Nat) (w : World) (hV : V < M256) :
    Calls Try.prog 102 #[.agg (dig 4 V)] w (CountPost V w) := by
  have HV := Lib.hid (show V < 2 ^ (64 * 4) from hV)
  clear hV
  have hS := St.start w
  go_enter Try.func102, Try.ntmps102
  go_wp2_with (first | (refine st_box hS rfl _ _ rfl rfl ?_; clear hS; intro w1 b1 hS))
  go_loopw [3] (fun i wr => ∃ k : Nat, k ≤ 4 ∧ i = .int .i64 k ∧ Hid (V < 2 ^ (64 * k)) ∧ St w wr [(b1, 42, dig 4 V)]) (fun i _ => (intOf i).toNat)
  case atStart => exact ⟨4, by omega, rfl, HV, hS⟩
  case round =>
    clear hS
    obtain ⟨k, hk, rfl, HK, hS⟩ := hrel
    rcases Nat.eq_zero_or_pos k with h0 | h0
    · subst h0
      go_wp2
      go_ret
      exact ⟨0, by omega, HK.out, fun h => absurd rfl h, rfl, hS.below⟩
    · obtain ⟨k1, hk1⟩ : ∃ k1, k = k1 + 1 := ⟨k - 1, by omega⟩
      have tk : (k : Int) - 1 = (k1 : Int) := by omega
      have hk4 : k1 < 4 := by omega
      have hd1 : decide (0 < k) = true := by simp; omega
      have hd2 : decide (0 < (k : Int)) = true := by simp; omega
      have hv := HK.out
      rw [hk1] at hv
      have g := (hS.get .head).cell (dig_get (n := 4) (x := V) hk4)
      by_cases hz : lm V k1 = 0
      · have hdn := Lib.hid (count_down hv hz)
        simp only [lm] at hz
        rw [hz] at g
        have HK1 := Lib.hid hk1
        clear hz hv hk1
        go_wp2
        go_roundw
        case rel => exact ⟨k1, by omega, rfl, hdn, hS⟩
        case measure => have := HK1.out; simp [intOf]; omega
      · have HZ := Lib.hid hz
        have hlm : lm V k1 = V / 2 ^ (64 * k1) % 2 ^ 64 := rfl
        simp only [lm] at hz
        generalize V / 2 ^ (64 * k1) % 2 ^ 64 = v at *
        have hd3 : ((v : Int) == 0) = false := by simp; omega
        have HK1 := Lib.hid hk1
        clear hlm hv hk1
        go_wp2
        go_ret
        refine ⟨k, hk, HK.out, fun _ => ?_, rfl, hS.below⟩
        rw [show k - 1 = k1 by have := HK1.out; omega]
        exact HZ.out
theorem range8 (f : Nat → Value) : ((List.range 8).map f).toArray = #[f 0, f 1, f 2, f 3, f 4, f (4 + 1), f (4 + 2), f (4 + 3)] := rfl
theorem digs8 (z : Nat) : dig 8 z = #[.int .u64 ((z / 2 ^ (64 * 0) % 2 ^ 64 : Nat) : Int), .int .u64 ((z / 2 ^ (64 * 1) % 2 ^ 64 : Nat) : Int), .int .u64 ((z / 2 ^ (64 * 2) % 2 ^ 64 : Nat) : Int), .int .u64 ((z / 2 ^ (64 * 3) % 2 ^ 64 : Nat) : Int), .int .u64 ((z / 2 ^ (64 * 4) % 2 ^ 64 : Nat) : Int), .int .u64 ((z / 2 ^ (64 * (4 + 1)) % 2 ^ 64 : Nat) : Int), .int .u64 ((z / 2 ^ (64 * (4 + 2)) % 2 ^ 64 : Nat) : Int), .int .u64 ((z / 2 ^ (64 * (4 + 3)) % 2 ^ 64 : Nat) : Int)] := range8 _
theorem build_wide (x a : Nat) (hx : x < M256) (ha : a < 18446744073709551616) : dig 8 (x + a * 2 ^ 256) = #[.int .u64 ((x / 2 ^ (64 * 0) % 2 ^ 64 : Nat) : Int), .int .u64 ((x / 2 ^ (64 * 1) % 2 ^ 64 : Nat) : Int), .int .u64 ((x / 2 ^ (64 * 2) % 2 ^ 64 : Nat) : Int), .int .u64 ((x / 2 ^ (64 * 3) % 2 ^ 64 : Nat) : Int), .int .u64 (a : Int), .int .u64 0, .int .u64 0, .int .u64 0] := by
  have lo : ∀ i, i < 4 → (x + a * 2 ^ 256) / 2 ^ (64 * i) % 2 ^ 64 = x / 2 ^ (64 * i) % 2 ^ 64 := fun i hi => by
    have e : (2 : Nat) ^ 256 = 2 ^ (64 * i) * (2 ^ 64 * 2 ^ (256 - 64 * i - 64)) := by rw [← Nat.pow_add, ← Nat.pow_add]; congr 1; omega
    rw [e, Nat.mul_left_comm, Nat.add_mul_div_left _ _ (Nat.two_pow_pos _), Nat.mul_left_comm, Nat.add_mul_mod_self_left]
  have hi4 : (x + a * 2 ^ 256) / 2 ^ (64 * 4) = a := by
    rw [show 64 * 4 = 256 by rfl, Nat.add_mul_div_right _ _ (Nat.two_pow_pos _), Nat.div_eq_of_lt (show x < 2 ^ 256 from hx), Nat.zero_add]
  have hi5 : ∀ i, 0 < i → (x + a * 2 ^ 256) / 2 ^ (64 * (4 + i)) % 2 ^ 64 = 0 := fun i hi => by
    rw [show 64 * (4 + i) = 64 * 4 + 64 * i by omega, Nat.pow_add, ← Nat.div_div_eq_div_mul, hi4, Nat.div_eq_of_lt (Nat.lt_of_lt_of_le ha (by rw [show 18446744073709551616 = 2 ^ 64 by decide]; exact Nat.pow_le_pow_right (by decide) (by omega)))]
  have h4 : (x + a * 2 ^ 256) / 2 ^ (64 * 4) % 2 ^ 64 = a := by rw [hi4, Nat.mod_eq_of_lt (by rw [show (2 : Nat) ^ 64 = 18446744073709551616 by decide]; exact ha)]
  have e : dig 8 (x + a * 2 ^ 256) = #[.int .u64 (((x + a * 2 ^ 256) / 2 ^ (64 * 0) % 2 ^ 64 : Nat) : Int), .int .u64 (((x + a * 2 ^ 256) / 2 ^ (64 * 1) % 2 ^ 64 : Nat) : Int), .int .u64 (((x + a * 2 ^ 256) / 2 ^ (64 * 2) % 2 ^ 64 : Nat) : Int), .int .u64 (((x + a * 2 ^ 256) / 2 ^ (64 * 3) % 2 ^ 64 : Nat) : Int), .int .u64 (((x + a * 2 ^ 256) / 2 ^ (64 * 4) % 2 ^ 64 : Nat) : Int), .int .u64 (((x + a * 2 ^ 256) / 2 ^ (64 * (4 + 1)) % 2 ^ 64 : Nat) : Int), .int .u64 (((x + a * 2 ^ 256) / 2 ^ (64 * (4 + 2)) % 2 ^ 64 : Nat) : Int), .int .u64 (((x + a * 2 ^ 256) / 2 ^ (64 * (4 + 3)) % 2 ^ 64 : Nat) : Int)] := digs8 _
  rw [e, lo 0 (by decide), lo 1 (by decide), lo 2 (by decide), lo 3 (by decide), h4, hi5 1 (by decide), hi5 2 (by decide), hi5 3 (by decide)]
  rfl
set_option maxHeartbeats 1000000 in
set_option maxRecDepth 100000 in
theorem wide_any (x a : Nat) (w : World) (hx : x < M256) (ha : a < 18446744073709551616) :
    Calls Try.prog 78 #[.agg (dig 4 x), .int .u64 (a : Int)] w fun e w' => e = .returned (.agg (dig 8 (x + a * 2 ^ 256))) ∧ Below w.heap.size w w' := by
  have hd := build_wide x a hx ha
  have c0 := @dig_get 4 x 0 (by omega)
  have c1 := @dig_get 4 x 1 (by omega)
  have c2 := @dig_get 4 x 2 (by omega)
  have c3 := @dig_get 4 x 3 (by omega)
  generalize x / 2 ^ (64 * 0) % 2 ^ 64 = x0 at *
  generalize x / 2 ^ (64 * 1) % 2 ^ 64 = x1 at *
  generalize x / 2 ^ (64 * 2) % 2 ^ 64 = x2 at *
  generalize x / 2 ^ (64 * 3) % 2 ^ 64 = x3 at *
  generalize dig 8 (x + a * 2 ^ 256) = r at *
  have HD := Lib.hid (And.intro hd (show r.size = 8 by rw [hd]; rfl))
  clear hd hx
  have B0 := (Blk.new w 42 (dig 4 x)).alloc (.cells #[.int .u64 0, .int .u64 0, .int .u64 0, .int .u64 0, .int .u64 0, .int .u64 0, .int .u64 0, .int .u64 0] 53)
  have g0 := B0.cell c0
  have g1 := B0.cell c1
  have g2 := B0.cell c2
  have g3 := B0.cell c3
  clear c0 c1 c2 c3
  go_enter Try.func78, Try.ntmps78
  go_wp2
  refine post_cell (t := 53) (c := r) 4 53 rfl rfl rfl ?_ wide_type rfl wide_size HD.out.2 ⟨rfl, ?_⟩
  · rw [HD.out.1]; exact (two_blocks w 42 53 _ _).2.2
  · exact (two_blocks w 42 53 _ _).1
end Go.Proofs.Ytcdjinjeogodfaa
