/- The example's root. -/
import Derived.Test.YtanmpcgackfpaaaGreatM01
import Derived.Test.YtanmpcgackfpaaaGreatM16
import Derived.Test.YtanmpcgackfpaaaGreatM28
set_option linter.unusedVariables false
set_option linter.unusedSimpArgs false
namespace Go.Proofs.YtanmpcgackfpaaaGreat
open Go.RowKit Tr
def dogPs : List En := [([100, 111, 103], [112, 117, 112, 112, 121]), ([100, 111], [118, 101, 114, 98]), ([100, 111, 103, 101], [99, 111, 105, 110]), ([104, 111, 114, 115, 101], [115, 116, 97, 108, 108, 105, 111, 110])]
theorem dogs_may : mayE dogPs = 0 := by decide
theorem HL_of {l m : List Nat} (hm : m.length = 32) (h : ∀ i, i < 32 → hashN l i = m.getD i 0) : HL l = m := by
  unfold HL
  apply List.ext_getElem
  · simp [hm]
  · intro i h1 h2
    have hi : i < 32 := by simpa using h1
    simp only [List.getElem_map, List.getElem_range]
    rw [h i hi, List.getD_eq_getElem?_getD, List.getElem?_eq_getElem h2]
    rfl
theorem dogs_root : enc (nodeT pkT HL 200 (entries dogPs)) = dogrootL := by
  have h := root_dogs HL (HL_of rfl hash_dog0) (HL_of rfl hash_dog1) (HL_of rfl hash_dog2)
  unfold rootB at h
  rw [if_neg (by simp)] at h
  exact h
theorem dogs_rootW : ∀ i, i < 32 → rootW dogPs i = dogrootH.getD i 0 := by
  intro i hi
  unfold rootW
  rw [if_pos dogs_may, dogs_root]
  exact hash_dogroot i hi
theorem none_may : mayE [] = 0 := by decide
theorem none_rootW : ∀ i, i < 32 → rootW [] i = emptyH.getD i 0 := by
  intro i hi
  unfold rootW
  rw [if_pos none_may]
  have : enc (nodeT pkT HL 200 (entries [])) = emptyL := by
    show enc (.str []) = _
    exact enc_empty
  rw [this]
  exact hash_empty i hi
theorem word_rdL {w : World} {b : Nat} {t : TypeId} {f : Nat → Nat} {m : List Nat} (h : Blk w b t (wf f)) (hm : m.length = 32) (hf : ∀ i, i < 32 → f i = m.getD i 0) (hlt : ∀ x ∈ m, x < 256) : RdB w (.slice (some ⟨b, 0, none⟩) 32 32) m := by
  have hlt2 : ∀ i, i < 32 → f i < 256 := fun i hi => by
    rw [hf i hi, List.getD_eq_getElem?_getD, List.getElem?_eq_getElem (by omega)]
    exact hlt _ (List.getElem_mem _)
  have e : (List.range 32).map f = m := by
    apply List.ext_getElem
    · simp [hm]
    · intro i h1 h2
      have hi : i < 32 := by simpa using h1
      simp only [List.getElem_map, List.getElem_range]
      rw [hf i hi, List.getD_eq_getElem?_getD, List.getElem?_eq_getElem h2]
      rfl
  rw [← e]
  exact RdB.blk (n := 32) (f := f) h hlt2
end Go.Proofs.YtanmpcgackfpaaaGreat
