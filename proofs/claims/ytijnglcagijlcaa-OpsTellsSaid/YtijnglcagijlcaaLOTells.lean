/- OpsTells: for any byte and any text. -/
import Derived.Test.YtijnglcagijlcaaO16
namespace Go.Proofs.Ytijnglcagijlcaa.OTells
open Go.RowKit
theorem walk (a0 : Int) (a1 : ByteArray) (W : World) (l0 : (Lit.int .u8 a0).wf = true) :
    Calls Try.prog 3 #[.int .u8 a0, .string a1] W fun e w' => e = .returned (.bool true) ∧ Tch [] W w' := by
  have h : 0 ≤ a0 ∧ a0 < 256 := by
    simp [Lit.wf, IntKind.min, IntKind.max, IntKind.bits, IntKind.signed] at l0
    omega
  obtain ⟨x, rfl⟩ : ∃ x : Nat, a0 = x := ⟨a0.toNat, by omega⟩
  exact opsTells_walk x a1 W (by omega)
end Go.Proofs.Ytijnglcagijlcaa.OTells
