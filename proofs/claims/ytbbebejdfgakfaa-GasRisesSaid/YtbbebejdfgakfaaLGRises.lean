/- GasRises: more is never cheaper. -/
import Derived.Test.YtbbebejdfgakfaaD9
set_option linter.unusedVariables false
set_option linter.unusedSimpArgs false
namespace Go.Proofs.Ytbbebejdfgakfaa.GRises
open Go.RowKit
theorem walk (c0 : Array Value) (b0 : Bool) (u0 : Value) (a0 : List Nat) (a1 a2 : Int) (W : World) (l0 : TxIn W c0 b0 u0 a0) (m0 : c0.all (·.oneCell') = true) (_l1 : (Lit.int .i64 a1).wf = true) (l2 : (Lit.int .u8 a2).wf = true) : Calls Try.prog 4 #[.agg c0, .int .i64 a1, .int .u8 a2] W fun e w' => e = .returned (.bool true) ∧ Tch [] W w' := by
  have h : 0 ≤ a2 ∧ a2 ≤ 255 := (by simp [Lit.wf, IntKind.min, IntKind.max, IntKind.bits, IntKind.signed] at l2; omega)
  have h2 := rises_walk c0 b0 u0 a0 a1 a2.toNat W l0 m0 (by omega)
  rwa [show ((a2.toNat : Nat) : Int) = a2 by omega] at h2
end Go.Proofs.Ytbbebejdfgakfaa.GRises
