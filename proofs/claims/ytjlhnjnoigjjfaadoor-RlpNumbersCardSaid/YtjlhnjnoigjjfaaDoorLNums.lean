/- RlpNumbers: for any number, word and item. -/
import Derived.Test.YtjlhnjnoigjjfaaDoorN20
namespace Go.Proofs.YtjlhnjnoigjjfaaDoor.Nums
open Go.RowKit
theorem wf_int {n : Int} (h : (Lit.int .i64 n).wf = true) : -9223372036854775808 ≤ n ∧ n ≤ 9223372036854775807 := by
  simp [Lit.wf, IntKind.min, IntKind.max, IntKind.bits, IntKind.signed] at h
  omega
theorem walk (a0 : Int) (a1 : List Nat) (x2 y2 z2 : Value) (k2 : Nat) (a2 : It) (W : World) (l0 : (Lit.int .i64 a0).wf = true) (l1 : a1.length = 32) (m1 : ∀ x ∈ a1, x < 256) (l2 : ItC [] W k2 x2 y2 z2 a2) (m2 : ItR [] W k2 x2 y2 z2) :
    Calls Tryd.prog 3 #[.int .i64 a0, .agg (wv a1), .agg #[x2, y2, z2]] W fun e w' => e = .returned (.bool true) ∧ Tch [] W w' := numbers_any a0 a1 k2 x2 y2 z2 a2 W (wf_int l0).2 l1 m1 l2 m2
end Go.Proofs.YtjlhnjnoigjjfaaDoor.Nums
