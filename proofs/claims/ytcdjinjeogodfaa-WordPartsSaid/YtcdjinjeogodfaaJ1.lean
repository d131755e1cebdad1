/- Words as numbers: Int, below. -/
import Derived.Test.YtcdjinjeogodfaaC1
import Derived.Test.YtcdjinjeogodfaaI1
namespace Go.Proofs.Ytcdjinjeogodfaa
open Go.RowKit

theorem len_of_lt {x n : Nat} (h : x < 2 ^ n) : bitLen x ≤ n := by
  by_cases h0 : x = 0
  · subst h0; exact Nat.zero_le _
  · have h1 := (bitLen_spec x).2 h0
    have := (Nat.pow_lt_pow_iff_right (by decide : 1 < 2)).1 (Nat.lt_of_le_of_lt h1 h)
    omega
theorem lt_of_len {x n : Nat} (h : bitLen x ≤ n) : x < 2 ^ n := Nat.lt_of_lt_of_le (bitLen_spec x).1 (Nat.pow_le_pow_right (by decide) h)
theorem run_index_limb {x : Nat} (hx : x < 18446744073709551616) (w : World) : (Instr.index 42 (.agg (dig 4 x)) (.int .i64 0)).run Try.prog w = .ok (.int .u64 (x : Int)) w := by
  have hin : 0 ≤ (0 : Int) ∧ (0 : Int) < (4 : Nat) := by omega
  have hu : Try.prog.underlying 40 = some (.int .u64) := by kernel_rfl
  have hg : (dig 4 x)[0]? = some (.int .u64 (x : Int)) := by
    rw [dig_get (by omega)]
    congr 3
    rw [Nat.mul_zero, Nat.pow_zero, Nat.div_one, Nat.mod_eq_of_lt hx]
  have hp : (part 40 (dig 4 x) (0 * 1)).run Try.prog w = .ok (.int .u64 (x : Int)) w := by
    simp [part, isAgg, run_underlying hu, hg]
  simp only [Instr.index, asIntOf, Sem.run_bind, run_underlying limbs_type, Result.andThen_ok, Sem.run_pure, hin, and_self, if_true, sizeOf_one u64_size]
  exact hp

set_option maxHeartbeats 1000000 in
set_option maxRecDepth 100000 in
theorem int_big (x : Nat) (hx : x < M256) (hb : 63 < bitLen x) (w : World) :
    Calls Try.prog 56 #[.agg (wcells x)] w fun e w' => e = .returned (.tuple #[.int .i64 0, .bool false]) ∧ Below w.heap.size w w' := by
  have HX := Lib.hid hx
  clear hx
  have hS := St.start w
  go_enter Try.func56, Try.ntmps56
  go_wp2_with (first | (refine st_box hS rfl _ _ rfl rfl ?_; clear hS; intro w1 b1 hS) | (refine st_load hS rfl 23 _ rfl rfl (by repeat (first | exact At.head | apply At.tail)) word_type rfl word_size (wf_size _) ?_) | (go_at_call 63; refine (bits_any _ HX.out _).mono ?_; rintro e w1 ⟨rfl, hb⟩; replace hS := hS.call hb; clear hb) | (go_at_call 66; refine (load_any _ _).mono ?_; rintro e w1 ⟨rfl, hb⟩; replace hS := hS.call hb; clear hb))
  go_ret2
  exact ⟨rfl, hS.below⟩
set_option maxHeartbeats 1000000 in
set_option maxRecDepth 100000 in
theorem int_small (x : Nat) (hx : x < M256) (hb : bitLen x ≤ 63) (w : World) :
    Calls Try.prog 56 #[.agg (wcells x)] w fun e w' => e = .returned (.tuple #[.int .i64 (x : Int), .bool true]) ∧ Below w.heap.size w w' := by
  have HX := Lib.hid hx
  clear hx
  have hl : x < 9223372036854775808 := lt_of_len hb
  have hix := fun w => run_index_limb (show x < 18446744073709551616 by omega) w
  have hS := St.start w
  go_enter Try.func56, Try.ntmps56
  go_wp2_with (first | (refine st_box hS rfl _ _ rfl rfl ?_; clear hS; intro w1 b1 hS) | (refine st_load hS rfl 23 _ rfl rfl (by repeat (first | exact At.head | apply At.tail)) word_type rfl word_size (wf_size _) ?_) | (go_at_call 63; refine (bits_any _ HX.out _).mono ?_; rintro e w1 ⟨rfl, hb⟩; replace hS := hS.call hb; clear hb) | (go_at_call 66; refine (load_any _ _).mono ?_; rintro e w1 ⟨rfl, hb⟩; replace hS := hS.call hb; clear hb))
  go_ret2
  exact ⟨rfl, hS.below⟩
set_option maxHeartbeats 1000000 in
set_option maxRecDepth 100000 in
theorem below_yes (k limit : Nat) (hl : limit ≤ 256) (hk : k < limit) (w : World) :
    Calls Try.prog 86 #[.agg (wcells k), .int .u64 (limit : Int)] w fun e w' => e = .returned (.tuple #[.int .u64 (k : Int), .bool true]) ∧ Below w.heap.size w w' := by
  have HX := Lib.hid (show k < M256 by unfold M256; omega)
  have HB := Lib.hid (len_of_lt (show k < 2 ^ 63 by omega))
  have hS := St.start w
  go_enter Try.func86, Try.ntmps86
  go_wp2_with (first | (refine st_box hS rfl _ _ rfl rfl ?_; clear hS; intro w1 b1 hS) | (refine st_load hS rfl 23 _ rfl rfl (by repeat (first | exact At.head | apply At.tail)) word_type rfl word_size (wf_size _) ?_) | (go_at_call 56; refine (int_small _ HX.out HB.out _).mono ?_; rintro e w1 ⟨rfl, hb⟩; replace hS := hS.call hb; clear hb))
  go_ret2
  exact ⟨rfl, hS.below⟩
set_option maxHeartbeats 1000000 in
set_option maxRecDepth 100000 in
theorem below_no (k limit : Nat) (hl : limit ≤ 256) (hx : k < M256) (hk : ¬ k < limit) (w : World) :
    Calls Try.prog 86 #[.agg (wcells k), .int .u64 (limit : Int)] w fun e w' => e = .returned (.tuple #[.int .u64 0, .bool false]) ∧ Below w.heap.size w w' := by
  have HX := Lib.hid hx
  clear hx
  by_cases hb : bitLen k ≤ 63
  · have hk63 : k < 9223372036854775808 := lt_of_len hb
    have HB := Lib.hid hb
    clear hb
    have hS := St.start w
    go_enter Try.func86, Try.ntmps86
    go_wp2_with (first | (refine st_box hS rfl _ _ rfl rfl ?_; clear hS; intro w1 b1 hS) | (refine st_load hS rfl 23 _ rfl rfl (by repeat (first | exact At.head | apply At.tail)) word_type rfl word_size (wf_size _) ?_) | (go_at_call 56; refine (int_small _ HX.out HB.out _).mono ?_; rintro e w1 ⟨rfl, hb⟩; replace hS := hS.call hb; clear hb))
    go_ret2
    exact ⟨rfl, hS.below⟩
  · have HB := Lib.hid (show 63 < bitLen k by omega)
    clear hb
    have hS := St.start w
    go_enter Try.func86, Try.ntmps86
    go_wp2_with (first | (refine st_box hS rfl _ _ rfl rfl ?_; clear hS; intro w1 b1 hS) | (refine st_load hS rfl 23 _ rfl rfl (by repeat (first | exact At.head | apply At.tail)) word_type rfl word_size (wf_size _) ?_) | (go_at_call 56; refine (int_big _ HX.out HB.out _).mono ?_; rintro e w1 ⟨rfl, hb⟩; replace hS := hS.call hb; clear hb))
    go_ret2
    exact ⟨rfl, hS.below⟩
end Go.Proofs.Ytcdjinjeogodfaa
