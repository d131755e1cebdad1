/- The document's part, at any bytes. -/
import Derived.Test.YtnkfkahbkjdnpaaR31
namespace Go.Proofs.Ytnkfkahbkjdnpaa
open Go.RowKit

theorem chk_none {c h n : Nat} {l : List Nat} (e : chk c l h n = none) (hf : ¬ l.length - h < n) : c = 129 ∧ l.getD h 0 < 128 := by
  unfold chk at e
  rw [if_neg hf] at e
  split at e
  · assumption
  · cases e
theorem part_of (j : Nat) (hj32 : j ≤ 32) (ih : ∀ j', j = j' + 1 → PartOK j') : PartOK j := by
  intro v l w hn hv
  cases l with
  | nil => exact part_nil j v w hv
  | cons x r =>
    by_cases hx0 : x < 128
    · exact part_single j v x r w hn hv hx0
    have hx : 128 ≤ x := by omega
    by_cases hg : 192 ≤ x ∧ j = 0
    · exact part_deep j v x r w hn hv hg.1 hg.2
    cases hs : spl (x :: r) with
    | none =>
      by_cases h64 : x % 64 ≤ 55
      · by_cases hf : r.length < x % 64
        · exact part_short_nofit j v x r w hn hv hx hg hs h64 hf
        · have h1 := hs
          rw [spl_cons, if_neg hx0, if_pos h64] at h1
          obtain ⟨h2, h3⟩ := chk_none h1 (by simp only [List.length_cons]; omega)
          simp only [List.getD_cons_succ] at h3
          exact part_short_one j v x r w hn hv hx hg hs h2 (by subst h2; omega) h3
      · by_cases hf : r.length < x % 64 - 55
        · exact part_long_missing j v x r w hn hv hx hg hs (by omega) hf
        · by_cases hy : r.getD 0 0 = 0
          · exact part_long_nought j v x r w hn hv hx hg hs (by omega) (by omega) hy
          · exact part_long_no j v x r w hn hv hx hg hs (by omega) (by omega) hy
    | some hn0 =>
      obtain ⟨h, n0⟩ := hn0
      by_cases hx1 : x < 192
      · by_cases h64 : x % 64 ≤ 55
        · exact part_short_text j v x r w hn hv h n0 _ hx hx1 hs h64 rfl
        · exact part_long_text j v x r w hn hv h n0 _ hx hx1 hs (by omega) rfl
      · have hj : j = (j - 1) + 1 := by omega
        by_cases h64 : x % 64 ≤ 55
        · exact part_list_short j v x r w hn hv h n0 (j - 1) _ hx (by omega) hj hj32 (ih _ hj) hs h64 rfl
        · exact part_list_long j v x r w hn hv h n0 (j - 1) _ hx (by omega) hj hj32 (ih _ hj) hs (by omega) rfl
theorem part_any : ∀ j, j ≤ 32 → PartOK j := by
  intro j
  induction j with
  | zero => exact fun h => part_of 0 h (fun j' e => by omega)
  | succ j ih => exact fun h => part_of (j + 1) h (fun j' e => by
      obtain rfl : j = j' := by omega
      exact ih (by omega))
end Go.Proofs.Ytnkfkahbkjdnpaa
