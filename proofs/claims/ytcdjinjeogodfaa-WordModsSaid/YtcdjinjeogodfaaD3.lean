/- guessDigit, and Div64 at a high limb of nought. -/
import Derived.Test.YtcdjinjeogodfaaD2
import Derived.Deep.QuietTactic
import Derived.BigQuiet
namespace Go.Proofs.Ytcdjinjeogodfaa
open Go.RowKit

/-- What guessDigit hands back. -/
def guessN (h l t : Nat) : Nat := if t ≤ h then 18446744073709551615 else (h * 18446744073709551616 + l) / t
def DivPostN (n : Nat) (w : World) (e : Ending) (w' : World) : Prop := ∃ (t : Int) (k : Nat), e = .returned (.tuple #[.int .u64 (n : Int), .int .u64 t]) ∧ w' = w.drewN k
set_option maxHeartbeats 1000000 in
set_option maxRecDepth 100000 in
theorem div64_zero (lo y : Nat) (w : World) (hlo : lo < 18446744073709551616) (hyb : y < 18446744073709551616) (hy0 : 0 < y) :
    Calls Try.prog 114 #[.int .u64 0, .int .u64 (lo : Int), .int .u64 (y : Int)] w (DivPostN (lo / y) w) := by
  have hz2 : ((y : Int) == 0) = false := by simp; omega
  have hz3 : decide ((y : Int) ≤ 0) = false := by simp; omega
  obtain ⟨q, hq⟩ : ∃ q, q = lo / y := ⟨_, rfl⟩
  have t1 : (lo : Int) / (y : Int) = (q : Int) := by rw [hq, Int.natCast_ediv]
  have hqb : q ≤ lo := by rw [hq]; exact Nat.div_le_self _ _
  rw [← hq]
  clear hq
  go_enter Try.func114, Try.ntmps114
  go_wp2
  go_quiet (fail)
  go_wp2
  go_ret2
  exact ⟨_, _, rfl, rfl⟩
theorem div64_any (hi lo y : Nat) (w : World) (hlo : lo < 18446744073709551616) (hyb : y < 18446744073709551616) (hyt : 9223372036854775808 ≤ y) (hh : hi < y) :
    Calls Try.prog 114 #[.int .u64 (hi : Int), .int .u64 (lo : Int), .int .u64 (y : Int)] w (DivPostN ((hi * 18446744073709551616 + lo) / y) w) := by
  rcases Nat.eq_zero_or_pos hi with h0 | h0
  · subst h0
    rw [Nat.zero_mul, Nat.zero_add]
    exact div64_zero lo y w hlo hyb (by omega)
  · exact (div64_big hi lo y w hlo hyb hyt hh h0).mono fun e w' ⟨t, he, hw⟩ => ⟨t, 0, he, hw.symm⟩
set_option maxHeartbeats 1000000 in
set_option maxRecDepth 100000 in
theorem guess_any (h l t : Nat) (w : World) (hh : h < 18446744073709551616) (hl : l < 18446744073709551616) (ht : t < 18446744073709551616) (htt : 9223372036854775808 ≤ t) :
    Calls Try.prog 111 #[.int .u64 (h : Int), .int .u64 (l : Int), .int .u64 (t : Int)] w fun e w' => e = .returned (.int .u64 (guessN h l t : Nat)) ∧ ∃ k, w' = w.drewN k := by
  by_cases hc : t ≤ h
  · rw [show guessN h l t = 18446744073709551615 from if_pos hc]
    have hd : decide ((t : Int) ≤ (h : Int)) = true := by simp; omega
    go_enter Try.func111, Try.ntmps111
    go_wp2
    go_ret
    exact ⟨rfl, 0, rfl⟩
  · rw [show guessN h l t = (h * 18446744073709551616 + l) / t from if_neg hc]
    have hd : decide ((t : Int) ≤ (h : Int)) = false := by simp; omega
    have HC := Lib.hid (div64_any h l t w hl ht htt (by omega))
    generalize (h * 18446744073709551616 + l) / t = q at *
    go_enter Try.func111, Try.ntmps111
    go_wp2_with (fail)
    refine HC.out.mono ?_
    rintro e w' ⟨s, k, rfl, rfl⟩
    go_wp2
    go_ret
    exact ⟨rfl, k, rfl⟩
end Go.Proofs.Ytcdjinjeogodfaa
