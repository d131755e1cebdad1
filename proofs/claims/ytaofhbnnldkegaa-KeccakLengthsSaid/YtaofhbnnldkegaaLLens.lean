/- KeccakLengths: for any number and byte. -/
import Derived.Test.YtaofhbnnldkegaaK19
namespace Go.Proofs.Ytaofhbnnldkegaa.Lens
open Go.RowKit
theorem wf_int {n : Int} (h : (Lit.int .i64 n).wf = true) : -9223372036854775808 ≤ n ∧ n ≤ 9223372036854775807 := by
  simp [Lit.wf, IntKind.min, IntKind.max, IntKind.bits, IntKind.signed] at h
  omega
theorem wf_u8 {n : Int} (h : (Lit.int .u8 n).wf = true) : 0 ≤ n ∧ n ≤ 255 := by
  simp [Lit.wf, IntKind.min, IntKind.max, IntKind.bits, IntKind.signed] at h
  omega
theorem walk (a0 a1 : Int) (W : World) (l0 : (Lit.int .i64 a0).wf = true) (l1 : (Lit.int .u8 a1).wf = true) :
    Calls Try.prog 4 #[.int .i64 a0, .int .u8 a1] W fun e w' => e = .returned (.bool true) ∧ Tch [] W w' := lengths_any a0 a1 W (wf_int l0) (wf_u8 l1)
end Go.Proofs.Ytaofhbnnldkegaa.Lens
