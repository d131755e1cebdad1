/- TrieOrder: the walk, of any arguments. -/
import Derived.Test.YtanmpcgackfpaaaGreatM01
import Derived.Test.YtanmpcgackfpaaaGreatM42
set_option linter.unusedVariables false
set_option linter.unusedSimpArgs false
namespace Go.Proofs.YtanmpcgackfpaaaGreat.TOrder
open Go.RowKit Go.Proofs.YtanmpcgackfpaaaGreat.Tr
theorem walk (v0 : Value) (a0 : List En) (a1 : Int) (v2 : Value) (a2 : List Nat) (W : World) (l0 : PairsAt W v0 a0) (l1 : (Lit.int .i64 a1).wf = true) (l2 : RdA [] W v2 a2) (m2 : a2.length ≤ reachBytes) :
    Calls Tryz.prog 3 #[v0, .int .i64 a1, v2] W fun e w' => e = .returned (.bool true) ∧ Tch [] W w' := by
  have h : -9223372036854775808 ≤ a1 ∧ a1 ≤ 9223372036854775807 := by
    simp [Lit.wf, IntKind.min, IntKind.max, IntKind.bits, IntKind.signed] at l1
    omega
  exact order_walk v0 a0 a1 v2 a2 W l0 l2 h
end Go.Proofs.YtanmpcgackfpaaaGreat.TOrder
