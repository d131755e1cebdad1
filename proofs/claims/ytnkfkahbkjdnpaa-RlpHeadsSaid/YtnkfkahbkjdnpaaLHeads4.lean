/- The law RlpHeads: for every number, bytes or a list. No condition. -/
import Derived.Test.YtnkfkahbkjdnpaaLHeads3
namespace Go.Proofs.Ytnkfkahbkjdnpaa.Heads
open Go.RowKit

set_option maxHeartbeats 4000000 in
set_option maxRecDepth 100000 in
theorem out (n : Int) (q : Bool) (hn : -9223372036854775808 ≤ n ∧ n ≤ 9223372036854775807) (h : n < 0 ∨ 70000 < n) (w : World) : Calls Try.prog 7 #[.int .i64 n, .bool q] w fun e w' => e = .returned (.bool true) ∧ Tch [] w w' := by
  rcases h with h | h
  · go_enter Try.func7, Try.ntmps7
    go_wp2_with (go_at_call 10; refine (alive_any _).mono ?_; rintro e w1 ⟨rfl, hT⟩)
    go_ret
    exact ⟨rfl, hT⟩
  · have h2 : ¬ n < 0 := by omega
    go_enter Try.func7, Try.ntmps7
    go_wp2_with (go_at_call 10; refine (alive_any _).mono ?_; rintro e w1 ⟨rfl, hT⟩)
    go_ret
    exact ⟨rfl, hT⟩
theorem wf_int {n : Int} (h : (Lit.int .i64 n).wf = true) : -9223372036854775808 ≤ n ∧ n ≤ 9223372036854775807 := by
  simp [Lit.wf, IntKind.min, IntKind.max, IntKind.bits, IntKind.signed] at h
  omega
theorem walk (n : Int) (q : Bool) (w : World) (hn : (Lit.int .i64 n).wf = true) : Calls Try.prog 7 #[.int .i64 n, .bool q] w fun e w' => e = .returned (.bool true) ∧ Tch [] w w' := by
  have h1 := wf_int hn
  by_cases h : n < 0 ∨ 70000 < n
  · exact out n q h1 h w
  · obtain ⟨N, rfl⟩ := Int.eq_ofNat_of_zero_le (show 0 ≤ n by omega)
    have hN : N ≤ 70000 := by omega
    cases q with
    | false =>
      by_cases h55 : N ≤ 55
      · exact bytes_small N hN h55 w
      · exact bytes_great N hN (by omega) w
    | true =>
      by_cases h55 : N ≤ 55
      · exact list_small N hN h55 w
      · by_cases h7 : N ≤ 700
        · exact list_great N hN (by omega) h7 w
        · exact list_many N hN (by omega) (by omega) w
end Go.Proofs.Ytnkfkahbkjdnpaa.Heads
