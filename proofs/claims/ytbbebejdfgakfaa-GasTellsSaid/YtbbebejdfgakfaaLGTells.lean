/- GasTells: all that is paid. -/
import Derived.Test.YtbbebejdfgakfaaD6
set_option linter.unusedVariables false
set_option linter.unusedSimpArgs false
namespace Go.Proofs.Ytbbebejdfgakfaa.GTells
open Go.RowKit
theorem walk (c0 : Array Value) (b0 : Bool) (u0 : Value) (a0 a1 a2 : List Nat) (a3 a4 : Int) (a5 a6 : Bool) (W : World) (l0 : TxIn W c0 b0 u0 a0) (_m0 : c0.all (·.oneCell') = true) (l1 : Wd a1) (l2 : Wd a2) (_l3 : (Lit.int .i64 a3).wf = true) (_l4 : (Lit.int .i64 a4).wf = true) : Calls Try.prog 3 #[.agg c0, .agg (wv a1), .agg (wv a2), .int .i64 a3, .int .i64 a4, .bool a5, .bool a6] W fun e w' => e = .returned (.bool true) ∧ Tch [] W w' := tells_walk c0 b0 u0 a0 a1 a2 a3 a4 a5 a6 W l0 l1 l2
end Go.Proofs.Ytbbebejdfgakfaa.GTells
