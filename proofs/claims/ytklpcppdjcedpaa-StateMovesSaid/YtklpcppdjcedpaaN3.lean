/- The document's Big. -/
import Derived.Test.YtklpcppdjcedpaaN2
import Derived.Test.YtklpcppdjcedpaaB0
import Derived.Test.YtklpcppdjcedpaaB1
set_option linter.unusedVariables false
set_option linter.unusedSimpArgs false
namespace Go.Proofs.Ytklpcppdjcedpaa
open Go.RowKit

theorem arr_from (b k : Nat) (hk : k ≤ 32) : ∃ p', (∀ w, (Instr.sliceAt 25 (.pointer (some ⟨b, 0, none⟩)) (some (.int .i64 (k : Int))) none none).run Try.prog w = .ok (.slice p' (32 - k) (32 - k)) w) ∧ (k < 32 → p' = some ⟨b, k, none⟩) := by
  have h1 : (0 : Int) ≤ (k : Int) := by omega
  have h2 : (k : Int) ≤ 32 := by omega
  by_cases h : k = 32
  · subst h
    exact ⟨some ⟨b, 0, none⟩, fun w => by go_simp, fun h => by omega⟩
  · have h3 : ¬ 32 = k := fun e => h e.symm
    have h4 : ¬ 32 - k = 0 := by omega
    refine ⟨some ⟨b, k, none⟩, fun w => ?_, fun _ => rfl⟩
    go_simp
theorem RdA.fromWord {X : List Nat} {w : World} {b k : Nat} {t : TypeId} {W : List Nat} {p' : Option Addr} (h : Blk w b t (wv W)) (hn : W.length = 32) (hl : ∀ x ∈ W, x < 256) (hb : b ∉ X) (hk : k ≤ 32) (hp : k < 32 → p' = some ⟨b, k, none⟩) : RdA X w (.slice p' (32 - k) (32 - k)) (W.drop k) :=
  ⟨_, _, by rw [List.length_drop, hn], by rw [List.length_drop]; omega, fun x hx => hl x (List.mem_of_mem_drop hx), fun hne => by
    have hk2 : k < 32 := by
      rcases Nat.lt_or_ge k 32 with h | h
      · exact h
      · exact absurd (List.drop_eq_nil_of_le (by omega)) hne
    refine ⟨b, k, hp hk2, h.lt, hb, fun i hi => ?_⟩
    rw [List.length_drop] at hi
    rw [h.cell (bc_get (by omega))]
    simp⟩
end Go.Proofs.Ytklpcppdjcedpaa
