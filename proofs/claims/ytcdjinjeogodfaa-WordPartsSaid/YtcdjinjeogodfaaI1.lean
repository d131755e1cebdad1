/- How many bits a word has: Len8, Bits; one bit of a row of limbs. -/
import Derived.Test.YtcdjinjeogodfaaE
import Derived.Laws.MathBits
namespace Go.Proofs.Ytcdjinjeogodfaa
open Go.RowKit

set_option maxHeartbeats 1000000 in
set_option maxRecDepth 1000000 in
theorem len8_any (x : Nat) (hx : x < 256) (w : World) :
    Calls Try.prog 96 #[.int .u8 x] w fun e w' => e = .returned (.int .i64 (bitLen x : Nat)) ∧ w = w' := by
  have h8 := bitLen_le8 x hx
  go_enter Try.func96, Try.ntmps96
  go_wp2
  go_ret
  refine ⟨ret_int ?_, rfl⟩
  show wrap64 _ = _
  rw [len8tab_get x, IntWalk.wrap64_in _ (by omega)]
theorem run_index_word {f : Nat → Nat} {k : Nat} (hk : k < 32) (w : World) : (Instr.index 23 (.agg (wf f)) (.int .i64 (k : Int))).run Try.prog w = .ok (.int .u8 ((f k : Nat) : Int)) w := by
  have hin : 0 ≤ (k : Int) ∧ (k : Int) < (32 : Nat) := by omega
  have hu : Try.prog.underlying 5 = some (.int .u8) := by kernel_rfl
  have hp : (part 5 (wf f) (k * 1)).run Try.prog w = .ok (.int .u8 ((f k : Nat) : Int)) w := by
    have hg := wf_get (f := f) hk
    simp [part, isAgg, run_underlying hu, hg]
  simp only [Instr.index, asIntOf, Sem.run_bind, run_underlying word_type, Result.andThen_ok, Sem.run_pure, hin, and_self, if_true, sizeOf_one u8_size, Int.toNat_natCast, hp]

theorem bits_step {x k : Nat} (hk : k < 32) (hx : x < 2 ^ (8 * (32 - k))) : x / 2 ^ (8 * (31 - k)) = byt x k := by
  unfold byt
  rw [Nat.mod_eq_of_lt]
  rw [Nat.div_lt_iff_lt_mul (Nat.two_pow_pos _), show 256 = 2 ^ 8 by rfl, ← Nat.pow_add, show 8 + 8 * (31 - k) = 8 * (32 - k) by omega]
  exact hx
theorem bits_zero {x k : Nat} (hk : k < 32) (hx : x < 2 ^ (8 * (32 - k))) (h : byt x k = 0) : x < 2 ^ (8 * (32 - (k + 1))) := by
  have e := bits_step hk hx
  rw [h, Nat.div_eq_zero_iff] at e
  rcases e with e | e
  · exact absurd e (Nat.ne_of_gt (Nat.two_pow_pos _))
  · rw [show 32 - (k + 1) = 31 - k by omega]; exact e
theorem bits_found {x k : Nat} (hk : k < 32) (hx : x < 2 ^ (8 * (32 - k))) (h : byt x k ≠ 0) : bitLen x = 8 * (31 - k) + bitLen (byt x k) := by
  have e := bits_step hk hx
  rw [bitLen_shift x (8 * (31 - k)) (by rw [e]; exact h), e]
theorem bits_none {x : Nat} (hx : x < 2 ^ (8 * (32 - 32))) : bitLen x = 0 := by
  have : x = 0 := by simpa using hx
  subst this; rfl

set_option maxHeartbeats 1000000 in
set_option maxRecDepth 100000 in
theorem bits_any (x : Nat) (hx : x < M256) (w : World) :
    Calls Try.prog 63 #[.agg (wcells x)] w fun e w' => e = .returned (.int .i64 (bitLen x : Nat)) ∧ Below w.heap.size w w' := by
  have HX := Lib.hid hx
  clear hx
  have hS := St.start w
  go_enter Try.func63, Try.ntmps63
  go_wp2_with (first | (refine st_box hS rfl _ _ rfl rfl ?_; clear hS; intro w1 b1 hS) | (refine st_new hS rfl 23 rfl word_zero ?_; clear hS; intro w1 b1 hS) | (refine st_load hS rfl 23 _ rfl rfl (by repeat (first | exact At.head | apply At.tail)) word_type rfl word_size (wf_size _) ?_) | (refine st_store hS rfl 23 _ _ rfl rfl rfl (by repeat (first | exact Upd.head | apply Upd.tail)) word_size (wf_size _) (wf_size _) (wf_one _) ?_; clear hS; intro w1 hS))
  go_loop [6] (fun i => ∃ k : Nat, k ≤ 32 ∧ i = .int .i64 k ∧ Hid (x < 2 ^ (8 * (32 - k)))) (fun i => 32 - (intOf i).toNat)
  case atStart => exact ⟨0, by omega, rfl, Lib.hid (by have := HX.out; rwa [M256] at this)⟩
  case round =>
    obtain ⟨k, hk, rfl, HK⟩ := hrel
    by_cases hlt : k < 32
    · have hix := fun wx => run_index_word (f := byt x) hlt wx
      have hbl := byt_lt x k
      by_cases hb : byt x k = 0
      · have HB := Lib.hid (bits_zero hlt HK.out hb)
        rw [hb] at hix
        clear hb hbl
        go_wp2
        go_round
        case rel => exact ⟨k + 1, by omega, by go_num, HB⟩
        case measure => simp [intOf]; omega
      · have HB := Lib.hid (bits_found hlt HK.out hb)
        have h8 := bitLen_le8 _ hbl
        generalize byt x k = b at *
        have hb2 : ((b : Int) != 0) = true := by simp; omega
        go_wp2_with (go_at_call 96; refine (len8_any _ hbl _).mono ?_; rintro e w' ⟨rfl, rfl⟩)
        go_ret
        refine ⟨ret_int ?_, hS.below⟩
        rw [HB.out]; omega
    · go_wp2
      obtain rfl : k = 32 := by omega
      go_ret
      exact ⟨ret_int (by rw [bits_none HK.out]; rfl), hS.below⟩
end Go.Proofs.Ytcdjinjeogodfaa
