/- Arrays sliced: what the operation hands back. -/
import Derived.Test.YtcdjinjeogodfaaW
namespace Go.Proofs.Ytcdjinjeogodfaa
open Go.RowKit

section
variable {P : Program} {ty n e b : Nat} {w : World}
theorem sizeOf_one (he : (P.info? e).map (·.size) = some 1) (w : World) : (sizeOf e).run P w = .ok 1 w := by
  cases hq : P.info? e with
  | none => simp [hq] at he
  | some i =>
    have hs : i.size = 1 := by simpa [hq] using he
    simp [sizeOf, typeInfo, hq, hs]
theorem slice_lo {lo : Int} (hu : P.underlying ty = some (.array n e)) (he : (P.info? e).map (·.size) = some 1) (h0 : 0 ≤ lo) (h1 : lo < n) (w : World) :
    (Instr.sliceAt ty (.pointer (some ⟨b, 0, none⟩)) (some (.int .i64 lo)) none none).run P w = .ok (.slice (some ⟨b, lo.toNat, none⟩) (n - lo.toNat) (n - lo.toNat)) w := by
  have hne : ¬ n = lo.toNat := by omega
  have hin : 0 ≤ lo ∧ lo ≤ (n : Int) := ⟨h0, by omega⟩
  have hadd : (⟨b, 0, none⟩ : Addr).add (lo.toNat * 1) = ⟨b, lo.toNat, none⟩ := by unfold Addr.add; split <;> simp_all
  simp only [Instr.sliceAt, Sem.run_bind, run_underlying hu w, Result.andThen_ok, Instr.sureAddr, Instr.sliceBounds, Instr.sliceBound, asIntOf, Sem.run_pure, sizeOf_one he w, hadd, Option.isSome_none, Bool.false_eq_true, if_false, hin, and_self, if_true, hne]
theorem slice_hi {hi : Int} (hu : P.underlying ty = some (.array n e)) (he : (P.info? e).map (·.size) = some 1) (h0 : 0 ≤ hi) (h1 : hi ≤ n) (hn : n ≠ 0) (w : World) :
    (Instr.sliceAt ty (.pointer (some ⟨b, 0, none⟩)) none (some (.int .i64 hi)) none).run P w = .ok (.slice (some ⟨b, 0, none⟩) hi.toNat n) w := by
  have hin : 0 ≤ hi ∧ hi ≤ (n : Int) := ⟨h0, h1⟩
  have hadd : (⟨b, 0, none⟩ : Addr).add (0 * 1) = ⟨b, 0, none⟩ := rfl
  simp only [Instr.sliceAt, Sem.run_bind, run_underlying hu w, Result.andThen_ok, Instr.sureAddr, Instr.sliceBounds, Instr.sliceBound, asIntOf, Sem.run_pure, sizeOf_one he w, hadd, Bool.false_eq_true, if_false, hin, and_self, if_true, hn, Nat.sub_zero]
theorem slice_both {lo hi : Int} (hu : P.underlying ty = some (.array n e)) (he : (P.info? e).map (·.size) = some 1) (h0 : 0 ≤ lo) (h1 : lo ≤ hi) (h2 : hi ≤ n) (h3 : lo < n) (w : World) :
    (Instr.sliceAt ty (.pointer (some ⟨b, 0, none⟩)) (some (.int .i64 lo)) (some (.int .i64 hi)) none).run P w = .ok (.slice (some ⟨b, lo.toNat, none⟩) (hi.toNat - lo.toNat) (n - lo.toNat)) w := by
  have hne : ¬ n = lo.toNat := by omega
  have hin : 0 ≤ hi ∧ hi ≤ (n : Int) := ⟨by omega, h2⟩
  have hin2 : 0 ≤ lo ∧ lo ≤ ((hi.toNat : Nat) : Int) := ⟨h0, by omega⟩
  have hadd : (⟨b, 0, none⟩ : Addr).add (lo.toNat * 1) = ⟨b, lo.toNat, none⟩ := by unfold Addr.add; split <;> simp_all
  simp only [Instr.sliceAt, Sem.run_bind, run_underlying hu w, Result.andThen_ok, Instr.sureAddr, Instr.sliceBounds, Instr.sliceBound, asIntOf, Sem.run_pure, sizeOf_one he w, hadd, Option.isSome_none, Bool.false_eq_true, if_false, hin, hin2, and_self, if_true, hne]
theorem slice_all (hu : P.underlying ty = some (.array n e)) (he : (P.info? e).map (·.size) = some 1) (hn : n ≠ 0) (w : World) :
    (Instr.sliceAt ty (.pointer (some ⟨b, 0, none⟩)) none none none).run P w = .ok (.slice (some ⟨b, 0, none⟩) n n) w := by
  have hadd : (⟨b, 0, none⟩ : Addr).add (0 * 1) = ⟨b, 0, none⟩ := rfl
  simp only [Instr.sliceAt, Sem.run_bind, run_underlying hu w, Result.andThen_ok, Instr.sureAddr, Instr.sliceBounds, Sem.run_pure, sizeOf_one he w, hadd, if_false, hn, Nat.sub_zero]
end
theorem u8_one : (Try.prog.info? 5).map (·.size) = some 1 := u8_size
theorem word_slice {b : Nat} {lo : Int} (h0 : 0 ≤ lo) (h1 : lo < 32) (w : World) :
    (Instr.sliceAt 23 (.pointer (some ⟨b, 0, none⟩)) (some (.int .i64 lo)) none none).run Try.prog w = .ok (.slice (some ⟨b, lo.toNat, none⟩) (32 - lo.toNat) (32 - lo.toNat)) w :=
  slice_lo word_type u8_size h0 h1 w
end Go.Proofs.Ytcdjinjeogodfaa
