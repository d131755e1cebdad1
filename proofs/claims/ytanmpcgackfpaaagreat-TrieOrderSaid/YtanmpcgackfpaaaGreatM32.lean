/- TrieTwo: the walk, where there is something to show. -/
import Derived.Test.YtanmpcgackfpaaaGreatM01
import Derived.Test.YtanmpcgackfpaaaGreatM09
import Derived.Test.YtanmpcgackfpaaaGreatM27
import Derived.Test.YtanmpcgackfpaaaGreatM31
set_option linter.unusedVariables false
set_option linter.unusedSimpArgs false
namespace Go.Proofs.YtanmpcgackfpaaaGreat
open Go.RowKit Tr
set_option maxRecDepth 100000
theorem own_keptT {w w' : World} {base : Nat} {e : TypeId} {size n : Nat} {v : Value} {xs : List Value} (h : w.ownsRow base e size v n xs) (hT : Tch [] w w') : w'.ownsRow base e size v n xs :=
  h.kept (row := none) ⟨hT.os, hT.tape, hT.output, hT.size, fun k hk _ => hT.block k hk (by simp)⟩ (by cases v.ownBlock <;> simp)
theorem put_get (l : List Value) (j q : Nat) (x y z : Value) (h : j + 3 ≤ l.length) : (l.take j ++ [x, y, z] ++ l.drop (j + 3))[q]? = if q = j then some x else if q = j + 1 then some y else if q = j + 2 then some z else l[q]? := by
  by_cases h1 : q < j
  · rw [List.append_assoc, List.getElem?_append_left (by rw [List.length_take]; omega), List.getElem?_take_of_lt h1, if_neg (by omega), if_neg (by omega), if_neg (by omega)]
  · by_cases h2 : q < j + 3
    · have ht : (l.take j).length = j := by rw [List.length_take]; omega
      rw [List.append_assoc, List.getElem?_append_right (by rw [ht]; omega), List.getElem?_append_left (by rw [ht]; simp; omega), ht]
      rcases (show q = j ∨ q = j + 1 ∨ q = j + 2 by omega) with rfl | rfl | rfl
      · simp
      · simp
      · simp
    · have ht : (l.take j ++ [x, y, z]).length = j + 3 := by rw [List.length_append, List.length_take]; simp; omega
      rw [List.getElem?_append_right (by rw [ht]; omega), List.getElem?_drop, ht, show j + 3 + (q - (j + 3)) = q by omega, if_neg (by omega), if_neg (by omega), if_neg (by omega)]
def Row17 (cur : Array Value) (f : Nat → Value × Value × Value) : Prop := 51 ≤ cur.size ∧ ∀ i, i < 17 → cur[i * 3]? = some (f i).1 ∧ cur[i * 3 + 1]? = some (f i).2.1 ∧ cur[i * 3 + 2]? = some (f i).2.2
theorem Row17.put {cur : Array Value} {f : Nat → Value × Value × Value} {j : Nat} {x y z : Value} (h : Row17 cur f) (hj : j < 17) :
    Row17 (cur.toList.take (j * 3) ++ [x, y, z] ++ cur.toList.drop (j * 3 + 3)).toArray (fun i => if i = j then (x, y, z) else f i) := by
  obtain ⟨hs, h⟩ := h
  have hl : j * 3 + 3 ≤ cur.toList.length := by rw [Array.length_toList]; omega
  refine ⟨?_, fun i hi => ?_⟩
  · simp only [List.size_toArray, List.length_append, List.length_take, List.length_drop, Array.length_toList, List.length_cons, List.length_nil]
    omega
  · obtain ⟨h1, h2, h3⟩ := h i hi
    simp only [List.getElem?_toArray, put_get _ _ _ _ _ _ hl, Array.getElem?_toList]
    by_cases hij : i = j
    · subst hij
      simp
    · simp only [if_neg hij, show ¬ i * 3 = j * 3 by omega, show ¬ i * 3 = j * 3 + 1 by omega, show ¬ i * 3 = j * 3 + 2 by omega, show ¬ i * 3 + 1 = j * 3 by omega, show ¬ i * 3 + 1 = j * 3 + 1 by omega, show ¬ i * 3 + 1 = j * 3 + 2 by omega, show ¬ i * 3 + 2 = j * 3 by omega, show ¬ i * 3 + 2 = j * 3 + 1 by omega, show ¬ i * 3 + 2 = j * 3 + 2 by omega, if_false]
      exact ⟨h1, h2, h3⟩
def ez : Value × Value × Value := (.bool false, .slice none 0 0, .slice none 0 0)
theorem zs_get : ∀ (n i : Nat), i < n → (zs n)[i * 3]? = some ez.1 ∧ (zs n)[i * 3 + 1]? = some ez.2.1 ∧ (zs n)[i * 3 + 2]? = some ez.2.2
  | n + 1, 0, _ => ⟨rfl, rfl, rfl⟩
  | n + 1, i + 1, h => by
    have ih := zs_get n i (by omega)
    have e : zs (n + 1) = [Value.bool false, .slice none 0 0, .slice none 0 0] ++ zs n := by unfold zs; rw [List.replicate_succ]; rfl
    rw [e, show (i + 1) * 3 = i * 3 + 3 by omega]
    refine ⟨?_, ?_, ?_⟩
    · rw [List.getElem?_append_right (by simp)]; simpa using ih.1
    · rw [List.getElem?_append_right (by simp)]; simpa using ih.2.1
    · rw [List.getElem?_append_right (by simp)]; simpa using ih.2.2
theorem Row17.start {cur : Array Value} {cap : Nat} (hcap : 17 ≤ cap) (hcs : cur.size = cap * 3) (htk : cur.toList.take (17 * 3) = zs 17) : Row17 cur (fun _ => ez) := by
  refine ⟨by omega, fun i hi => ?_⟩
  have h := zs_get 17 i hi
  rw [← htk, List.getElem?_take_of_lt (by omega), List.getElem?_take_of_lt (by omega), List.getElem?_take_of_lt (by omega)] at h
  simpa only [Array.getElem?_toList] using h
end Go.Proofs.YtanmpcgackfpaaaGreat
