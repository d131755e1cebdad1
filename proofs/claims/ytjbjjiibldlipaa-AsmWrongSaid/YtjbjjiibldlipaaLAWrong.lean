/- AsmWrong: for any two numbers. -/
import Derived.Test.YtjbjjiibldlipaaJ12
namespace Go.Proofs.Ytjbjjiibldlipaa.AWrong
open Go.RowKit
theorem walk (a0 a1 : Int) (W : World) (_l0 : (Lit.int .i64 a0).wf = true) (_l1 : (Lit.int .i64 a1).wf = true) :
    Calls Try.prog 5 #[.int .i64 a0, .int .i64 a1] W fun e w' => e = .returned (.bool true) ∧ Tch [] W w' := wrong_walk a0 a1 W
end Go.Proofs.Ytjbjjiibldlipaa.AWrong
