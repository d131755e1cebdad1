/- word.Int. -/
import Derived.Test.YtlliidfkjlmadaaN12
set_option linter.unusedVariables false
set_option linter.unusedSimpArgs false
namespace Go.Proofs.Ytlliidfkjlmadaa
open Go.RowKit

theorem limbs_ix (x : Nat) (w : World) : (Instr.index 66 (.agg (dig 4 x)) (.int .i64 0)).run Try.prog w = .ok (.int .u64 ((x / 2 ^ (64 * 0) % 2 ^ 64 : Nat) : Int)) w := by
  have hin : 0 ≤ (0 : Int) ∧ (0 : Int) < (4 : Nat) := by omega
  have hg := dig_get (n := 4) (x := x) (i := 0) (by decide)
  have hp : (part 64 (dig 4 x) (0 * 1)).run Try.prog w = .ok (.int .u64 ((x / 2 ^ (64 * 0) % 2 ^ 64 : Nat) : Int)) w := by
    have hu : Try.prog.underlying 64 = some (.int .u64) := by kernel_rfl
    simp [part, isAgg, run_underlying hu, hg]
  simp only [Instr.index, asIntOf, Sem.run_bind, run_underlying limbs_type, Result.andThen_ok, Sem.run_pure, hin, and_self, if_true, sizeOf_one u64_size, Int.toNat_zero, hp]
theorem bl63 {x : Nat} (hx : x < 2 ^ 63) : bitLen x ≤ 63 := by
  by_cases h0 : x = 0
  · subst h0; decide
  · have h := (bitLen_spec x).2 h0
    have h2 : 2 ^ (bitLen x - 1) < 2 ^ 63 := Nat.lt_of_le_of_lt h hx
    have := (Nat.pow_lt_pow_iff_right (by decide : 1 < 2)).1 h2
    omega
theorem bl64 {x : Nat} (hx : ¬ x < 2 ^ 63) : 63 < bitLen x := by
  rcases Nat.lt_or_ge 63 (bitLen x) with h | h
  · exact h
  · exact absurd (Nat.lt_of_lt_of_le (bitLen_spec x).1 (Nat.pow_le_pow_right (by decide) h)) hx
set_option maxHeartbeats 1000000 in
set_option maxRecDepth 100000 in
theorem pInt_any (W : List Nat) (w : World) (hn : W.length = 32) (hl : ∀ x ∈ W, x < 256) : Calls Try.prog 35 #[.agg (wv W)] w (IntP (wInt W) w) := by
  rw [wv_byt hn hl]
  have hx : bval W < 2 ^ 256 := bval_top hn hl
  unfold IntP wInt
  generalize bval W = x at *
  have hS := St.start w
  have HB := Lib.hid (bits_any x hx)
  have HL := Lib.hid (load_any x)
  by_cases h : x < 9223372036854775808
  · rw [if_pos (show x < 2 ^ 63 from h)]
    have hb : ¬ (63 : Int) < ((bitLen x : Nat) : Int) := by
      have := bl63 (show x < 2 ^ 63 from h)
      omega
    have hix := limbs_ix x
    rw [show x / 2 ^ (64 * 0) % 2 ^ 64 = x by rw [Nat.mul_zero, Nat.pow_zero, Nat.div_one, Nat.mod_eq_of_lt (by omega)]] at hix
    clear hx
    generalize bitLen x = bl at *
    go_enter Try.func35, Try.ntmps35
    go_wp2_with (first
      | (refine st_box (L := []) hS rfl 37 _ rfl rfl ?_; clear hS; intro w1 b1 hS)
      | (refine st_load (b := b1) hS rfl 37 _ rfl rfl .head wordN_type rfl wordN_size (bc_size _ _) ?_)
      | (go_at_call 36; go_must (refine (HB.out _).mono ?_; rintro e w2 ⟨rfl, hT2⟩; replace hS := hS.call hT2; clear hT2))
      | (go_at_call 37; go_must (refine (HL.out _).mono ?_; rintro e w3 ⟨rfl, hT3⟩; replace hS := hS.call (Tch.of_below hT3); clear hT3)))
    go_ret2
    exact ⟨rfl, hS.frame⟩
  · rw [if_neg (show ¬ x < 2 ^ 63 from h)]
    have hb : (63 : Int) < ((bitLen x : Nat) : Int) := by
      have := bl64 (show ¬ x < 2 ^ 63 from h)
      omega
    clear hx h
    generalize bitLen x = bl at *
    go_enter Try.func35, Try.ntmps35
    go_wp2_with (first
      | (refine st_box (L := []) hS rfl 37 _ rfl rfl ?_; clear hS; intro w1 b1 hS)
      | (refine st_load (b := b1) hS rfl 37 _ rfl rfl .head wordN_type rfl wordN_size (bc_size _ _) ?_)
      | (go_at_call 36; go_must (refine (HB.out _).mono ?_; rintro e w2 ⟨rfl, hT2⟩; replace hS := hS.call hT2; clear hT2)))
    go_ret2
    exact ⟨rfl, hS.frame⟩
end Go.Proofs.Ytlliidfkjlmadaa
