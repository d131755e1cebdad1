/- The plain mathematics of a limb's quotient, 32 bits at a time. -/
import Derived.Test.YtcdjinjeogodfaaD1
import Derived.StillTailTactics
namespace Go.Proofs.Ytcdjinjeogodfaa
open Go.RowKit

/-- A digit of 32 bits of a quotient: what Div64's loops look for. -/
def qd (h l y : Nat) : Nat := (h * 4294967296 + l) / y
structure Qd (h l y yh yl q r : Nat) : Prop where
  sum : q * yh + r = h
  le : qd h l y ≤ q
def DivPost (n : Nat) (w : World) (e : Ending) (w' : World) : Prop := ∃ t : Int, e = .returned (.tuple #[.int .u64 (n : Int), .int .u64 t]) ∧ w = w'
theorem qd_lt {h l y : Nat} (hh : h < y) (hl : l < 4294967296) : qd h l y < 4294967296 := by
  unfold qd
  rw [Nat.div_lt_iff_lt_mul (by omega)]
  have := Nat.mul_le_mul_right 4294967296 (show h + 1 ≤ y from hh)
  omega
theorem qd_start {h l y yh yl : Nat} (hy : y = yh * 4294967296 + yl) (hyh : 2147483648 ≤ yh) (hh : h < y) (hyl : yl < 4294967296) (hl : l < 4294967296) : Qd h l y yh yl (h / yh) (h % yh) ∧ h / yh ≤ 4294967297 := by
  have hs := Nat.div_add_mod h yh
  refine ⟨⟨by rw [Nat.mul_comm]; exact hs, ?_⟩, ?_⟩
  · rw [Nat.le_div_iff_mul_le (by omega)]
    have h1 : qd h l y * y ≤ h * 4294967296 + l := Nat.div_mul_le_self _ _
    rw [hy] at h1
    have h2 : qd h l (yh * 4294967296 + yl) * (yh * 4294967296 + yl) = qd h l (yh * 4294967296 + yl) * yh * 4294967296 + qd h l (yh * 4294967296 + yl) * yl := by rw [Nat.mul_add, Nat.mul_assoc]
    rw [h2] at h1
    rw [hy]
    generalize qd h l (yh * 4294967296 + yl) * yh = A at *
    generalize qd h l (yh * 4294967296 + yl) * yl = C at *
    omega
  · have : h / yh < 4294967298 := by
      rw [Nat.div_lt_iff_lt_mul (by omega)]
      omega
    omega
theorem qd_down {h l y yh yl q r : Nat} (H : Qd h l y yh yl q r) (hy : y = yh * 4294967296 + yl) (hh : h < y) (hl : l < 4294967296) (hc : 4294967296 ≤ q ∨ 4294967296 * r + l < q * yl) : ∃ q1, q = q1 + 1 ∧ Qd h l y yh yl q1 (r + yh) := by
  have hlt := qd_lt hh hl
  have hq : qd h l y < q := by
    rcases hc with hc | hc
    · omega
    · rcases Nat.lt_or_ge (qd h l y) q with h1 | h1
      · exact h1
      · exfalso
        have e : qd h l y = q := Nat.le_antisymm H.le h1
        have h2 : qd h l y * y ≤ h * 4294967296 + l := Nat.div_mul_le_self _ _
        rw [e, hy, Nat.mul_add, ← Nat.mul_assoc] at h2
        have h3 := H.sum
        generalize q * yh = A at *
        generalize q * yl = C at *
        omega
  obtain ⟨q1, rfl⟩ : ∃ q1, q = q1 + 1 := ⟨q - 1, by omega⟩
  refine ⟨q1, rfl, ⟨?_, by omega⟩⟩
  have := H.sum
  rw [Nat.add_mul, Nat.one_mul] at this
  omega
theorem qd_end {h l y yh yl q r : Nat} (H : Qd h l y yh yl q r) (hy : y = yh * 4294967296 + yl) (hy0 : 0 < y) (hc : q * yl ≤ 4294967296 * r + l) : q = qd h l y := by
  refine Nat.le_antisymm ?_ H.le
  unfold qd
  rw [Nat.le_div_iff_mul_le hy0, hy, Nat.mul_add, ← Nat.mul_assoc]
  have h3 := H.sum
  generalize q * yh = A at *
  generalize q * yl = C at *
  omega
theorem qd_break {h l y yh yl q r : Nat} (H : Qd h l y yh yl q r) (hy : y = yh * 4294967296 + yl) (hy0 : 0 < y) (hyl : yl < 4294967296) (hq : q ≤ 4294967296) (hr : 4294967296 ≤ r) : q = qd h l y := by
  refine qd_end H hy hy0 ?_
  have : q * yl ≤ 4294967296 * 4294967295 := Nat.mul_le_mul hq (by omega)
  omega
theorem qd_rest {h l y : Nat} (hy0 : 0 < y) : h * 4294967296 + l = qd h l y * y + (h * 4294967296 + l) % y ∧ (h * 4294967296 + l) % y < y :=
  ⟨by unfold qd; have := Nat.div_add_mod (h * 4294967296 + l) y; rw [Nat.mul_comm] at this; omega, Nat.mod_lt _ hy0⟩
theorem qd_both' {h lh ll y B W : Nat} (hW : W = B * B) (hy0 : 0 < y) : (h * W + (lh * B + ll)) / y = (h * B + lh) / y * B + ((h * B + lh) % y * B + ll) / y := by
  have h1 := Nat.div_add_mod (h * B + lh) y
  generalize (h * B + lh) % y = R at *
  generalize (h * B + lh) / y = T at *
  have : h * W + (lh * B + ll) = (R * B + ll) + y * (T * B) := by
    subst hW
    grind
  rw [this, Nat.add_mul_div_left _ _ hy0, Nat.add_comm]
theorem qd_both {h lh ll y : Nat} (hy0 : 0 < y) : (h * 18446744073709551616 + (lh * 4294967296 + ll)) / y = qd h lh y * 4294967296 + qd ((h * 4294967296 + lh) % y) ll y :=
  qd_both' (by decide) hy0
end Go.Proofs.Ytcdjinjeogodfaa
