/- The example that every law begins with, and what each operation hands back. -/
import Derived.Test.YtcdjinjeogodfaaC5
import Derived.Test.YtcdjinjeogodfaaG
namespace Go.Proofs.Ytcdjinjeogodfaa
open Go.RowKit

theorem alive_eq : wsub (wint 0) (wint 1) = wint (-1) := by decide +kernel
theorem alive_ne : wint 7 ≠ wint 8 := by decide +kernel
set_option maxHeartbeats 1000000 in
set_option maxRecDepth 100000 in
theorem alive_any (w : World) :
    Calls Try.prog 17 #[] w fun e w' => e = .returned (.bool true) ∧ Below w.heap.size w w' := by
  have hS := St.start w
  go_enter Try.func17, Try.ntmps17
  go_wp2_with (first | (refine st_box hS rfl _ _ rfl rfl ?_; clear hS; intro w1 b1 hS) | (go_at_call 58; refine (of_any _ (by omega) _).mono ?_; rintro e w1 ⟨rfl, hb⟩; replace hS := hS.call hb; clear hb) | (go_at_call 20; refine (sub_any _ _ (wint_lt _) _).mono ?_; rintro e w1 ⟨rfl, hb⟩; replace hS := hS.call hb; clear hb) | (refine st_same rfl _ _ _ rfl rfl rfl (wsub_lt _ _) (alive_eq) ?_) | (refine st_unlike rfl _ _ _ rfl rfl rfl (wint_lt _) (wint_lt _) (alive_ne) ?_))
  go_ret
  exact ⟨rfl, hS.below⟩

end Go.Proofs.Ytcdjinjeogodfaa
