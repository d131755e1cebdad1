/- A call told to both. -/
import Derived.Test.YtlliidfkjlmadaaIP2
import Derived.Test.YtlliidfkjlmadaaIP3
import Derived.Test.YtlliidfkjlmadaaIP4
import Derived.Test.YtlliidfkjlmadaaIP5
import Derived.Test.YtlliidfkjlmadaaIP6
import Derived.Test.YtlliidfkjlmadaaIP7
import Derived.Test.YtlliidfkjlmadaaIP8
import Derived.Test.YtlliidfkjlmadaaIP9
set_option linter.unusedVariables false
set_option linter.unusedSimpArgs false
namespace Go.Proofs.Ytlliidfkjlmadaa
open Go.RowKit
theorem step_any {w0 w : World} {bm br bs bt : Nat} {vm vr vs vt : Value} {L : List Nat} {Ws : List (List Nat)} {k : Nat} (HQ : Quad w0 w bm br bs bt vm vr vs vt L L Ws Ws) (hk : L.length = 32 * k) (hk2 : k ≤ 32768) (hL : ∀ x ∈ L, x < 256) (hWl : Ws.length ≤ 1024) (hW : ∀ W ∈ Ws, Wd W)
    (way i j : Int) (A N M : List Nat) (vb : Value) (hi : -9223372036854775808 ≤ i ∧ i ≤ 9223372036854775807) (hj : -9223372036854775808 ≤ j ∧ j ≤ 9223372036854775807) (hA : Wd A) (hN : Wd N) (hvb : RdB w0 vb M) (hM : M.length ≤ 500) :
    Calls Try.prog 9 #[.pointer (some ⟨bm, 0, none⟩), .pointer (some ⟨br, 0, none⟩), .pointer (some ⟨bs, 0, none⟩), .pointer (some ⟨bt, 0, none⟩), .agg (actC way i j A N vb)] w (StepP w0 bm br bs bt) := by
  by_cases h0 : way = 0
  · subst h0; exact step0_any HQ hk hk2 hL hWl hW i j A N M vb hi hj hA hN hvb hM
  by_cases h1 : way = 1
  · subst h1; exact step1_any HQ hk hk2 hL hWl hW i j A N M vb hi hj hA hN hvb hM
  by_cases h2 : way = 2
  · subst h2; exact step2_any HQ hk hk2 hL hWl hW i j A N M vb hi hj hA hN hvb hM
  by_cases h3 : way = 3
  · subst h3; exact step3_any HQ hk hk2 hL hWl hW i j A N M vb hi hj hA hN hvb hM
  by_cases h4 : way = 4
  · subst h4; exact step4_any HQ hk hk2 hL hWl hW i j A N M vb hi hj hA hN hvb hM
  by_cases h5 : way = 5
  · subst h5; exact step5_any HQ hk hk2 hL hWl hW i j A N M vb hi hj hA hN hvb hM
  by_cases h6 : way = 6
  · subst h6; exact step6_any HQ hk hk2 hL hWl hW i j A N M vb hi hj hA hN hvb hM
  exact stepO_any HQ hk hk2 hL hWl hW way i j A N M vb hi hj hA hN hvb hM h0 h1 h2 h3 h4 h5 h6
end Go.Proofs.Ytlliidfkjlmadaa
