/- word.Bits. -/
import Derived.Test.YtklpcppdjcedpaaN8
import Derived.Lib.BitFns
import Derived.Laws.MathBits
set_option linter.unusedVariables false
set_option linter.unusedSimpArgs false
namespace Go.Proofs.Ytklpcppdjcedpaa
open Go.RowKit

theorem run_index_word {f : Nat → Nat} {k : Nat} (hk : k < 32) (w : World) : (Instr.index 25 (.agg (bc 32 f)) (.int .i64 (k : Int))).run Try.prog w = .ok (.int .u8 ((f k : Nat) : Int)) w := by
  have hin : 0 ≤ (k : Int) ∧ (k : Int) < (32 : Nat) := by omega
  have hp : (part 5 (bc 32 f) (k * 1)).run Try.prog w = .ok (.int .u8 ((f k : Nat) : Int)) w := by
    have hg := bc_get (n := 32) (f := f) hk
    simp [part, isAgg, run_underlying byte_ty, hg]
  simp only [Instr.index, asIntOf, Sem.run_bind, run_underlying wordN_type, Result.andThen_ok, Sem.run_pure, hin, and_self, if_true, sizeOf_one u8_size, Int.toNat_natCast, hp]
theorem bits_found {x k : Nat} (hk : k < 32) (hx : x < 2 ^ (8 * (32 - k))) (h : byt x k ≠ 0) : bitLen x = 8 * (31 - k) + bitLen (byt x k) := by
  have e := bits_step hk hx
  rw [bitLen_shift x (8 * (31 - k)) (by rw [e]; exact h), e]
theorem bits_none {x : Nat} (hx : x < 2 ^ (8 * (32 - 32))) : bitLen x = 0 := by
  have : x = 0 := by simpa using hx
  subst this; rfl
end Go.Proofs.Ytklpcppdjcedpaa
