/- word.Bits. -/
import Derived.Test.YtbbebejdfgakfaaN8
import Derived.Lib.BitFns
import Derived.Laws.MathBits
set_option linter.unusedVariables false
set_option linter.unusedSimpArgs false
namespace Go.Proofs.Ytbbebejdfgakfaa
open Go.RowKit

set_option maxHeartbeats 1000000 in
set_option maxRecDepth 1000000 in
theorem len8_any (x : Nat) (hx : x < 256) (w : World) :
    Calls Try.prog 26 #[.int .u8 x] w fun e w' => e = .returned (.int .i64 (bitLen x : Nat)) ∧ w = w' := by
  have h8 := bitLen_le8 x hx
  go_enter Try.func26, Try.ntmps26
  go_wp2
  go_ret
  refine ⟨ret_int ?_, rfl⟩
  show wrap64 _ = _
  exact (congrArg (fun n : Nat => wrap64 (n : Int)) (len8tab_get x (by first | exact hx | (show x < 256; exact hx)))).trans (IntWalk.wrap64_in _ (by omega))
theorem run_index_word {f : Nat → Nat} {k : Nat} (hk : k < 32) (w : World) : (Instr.index 25 (.agg (bc 32 f)) (.int .i64 (k : Int))).run Try.prog w = .ok (.int .u8 ((f k : Nat) : Int)) w := by
  have hin : 0 ≤ (k : Int) ∧ (k : Int) < (32 : Nat) := by omega
  have hp : (part 5 (bc 32 f) (k * 1)).run Try.prog w = .ok (.int .u8 ((f k : Nat) : Int)) w := by
    have hg := bc_get (n := 32) (f := f) hk
    simp [part, isAgg, run_underlying byte_ty, hg]
  simp only [Instr.index, asIntOf, Sem.run_bind, run_underlying wordN_type, Result.andThen_ok, Sem.run_pure, hin, and_self, if_true, sizeOf_one u8_size, Int.toNat_natCast, hp]
theorem bits_found {x k : Nat} (hk : k < 32) (hx : x < 2 ^ (8 * (32 - k))) (h : byt x k ≠ 0) : bitLen x = 8 * (31 - k) + bitLen (byt x k) := by
  have e := bits_step hk hx
  rw [bitLen_shift x (8 * (31 - k)) (by rw [e]; exact h), e]
theorem bits_none {x : Nat} (hx : x < 2 ^ (8 * (32 - 32))) : bitLen x = 0 := by
  have : x = 0 := by simpa using hx
  subst this; rfl
set_option maxHeartbeats 1000000 in
set_option maxRecDepth 100000 in
theorem bits_any (x : Nat) (hx : x < 2 ^ 256) (w : World) :
    Calls Try.prog 21 #[.agg (bc 32 (byt x))] w fun e w' => e = .returned (.int .i64 (bitLen x : Nat)) ∧ Tch [] w w' := by
  have HX := Lib.hid hx
  clear hx
  have hS := St.start w
  go_enter Try.func21, Try.ntmps21
  go_wp2_with (first | (refine st_box hS rfl _ _ rfl rfl ?_; clear hS; intro w1 b1 hS) | (refine st_load hS rfl 25 _ rfl rfl (by repeat (first | exact At.head | apply At.tail)) wordN_type rfl wordN_size (bc_size _ _) ?_))
  go_loop [6] (fun i => ∃ k : Nat, k ≤ 32 ∧ i = .int .i64 k ∧ Hid (x < 2 ^ (8 * (32 - k)))) (fun i => 32 - (intOf i).toNat)
  case atStart => exact ⟨0, by omega, rfl, Lib.hid (by exact HX.out)⟩
  case round =>
    obtain ⟨k, hk, rfl, HK⟩ := hrel
    by_cases hlt : k < 32
    · have hix := fun wx => run_index_word (f := byt x) hlt wx
      have hbl := byt_lt x k
      by_cases hb : byt x k = 0
      · have HB := Lib.hid (bits_zero hlt HK.out hb)
        rw [hb] at hix
        clear hb hbl
        go_wp2
        go_round
        case rel => exact ⟨k + 1, by omega, by go_num, HB⟩
        case measure => simp [intOf]; omega
      · have HB := Lib.hid (bits_found hlt HK.out hb)
        have h8 := bitLen_le8 _ hbl
        generalize byt x k = b at *
        have hb2 : ((b : Int) != 0) = true := by simp; omega
        go_wp2_with (go_at_call 26; refine (len8_any _ hbl _).mono ?_; rintro e w' ⟨rfl, rfl⟩)
        go_ret
        refine ⟨ret_int ?_, hS.frame⟩
        rw [HB.out]; omega
    · go_wp2
      obtain rfl : k = 32 := by omega
      go_ret
      exact ⟨ret_int (by rw [bits_none HK.out]; rfl), hS.frame⟩
end Go.Proofs.Ytbbebejdfgakfaa
