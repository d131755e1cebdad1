/- KeccakTurned: for any bytes, number and byte. -/
import Derived.Test.YtaofhbnnldkegaaK21
namespace Go.Proofs.Ytaofhbnnldkegaa.Turn
open Go.RowKit
theorem wf_int {n : Int} (h : (Lit.int .i64 n).wf = true) : -9223372036854775808 ≤ n ∧ n ≤ 9223372036854775807 := by
  simp [Lit.wf, IntKind.min, IntKind.max, IntKind.bits, IntKind.signed] at h
  omega
theorem wf_u8 {n : Int} (h : (Lit.int .u8 n).wf = true) : 0 ≤ n ∧ n ≤ 255 := by
  simp [Lit.wf, IntKind.min, IntKind.max, IntKind.bits, IntKind.signed] at h
  omega
theorem walk (v0 : Value) (a0 : List Nat) (a1 a2 : Int) (W : World) (l0 : RdA [] W v0 a0) (m0 : a0.length ≤ reachBytes) (l1 : (Lit.int .i64 a1).wf = true) (l2 : (Lit.int .u8 a2).wf = true) :
    Calls Try.prog 5 #[v0, .int .i64 a1, .int .u8 a2] W fun e w' => e = .returned (.bool true) ∧ Tch [] W w' := turned_any v0 a0 a1 a2 W l0 (wf_int l1) (wf_u8 l2)
end Go.Proofs.Ytaofhbnnldkegaa.Turn
