/- gas: mathematics, and the small functions. -/
import Derived.Test.YtbbebejdfgakfaaI2
set_option linter.unusedVariables false
set_option linter.unusedSimpArgs false
namespace Go.Proofs.Ytbbebejdfgakfaa
open Go.RowKit
set_option maxRecDepth 100000
set_option maxHeartbeats 1000000

def wordsG (n : Int) : Int := if n < 0 then 0 else (n + 31) / 32
def shareG (n : Int) : Int := if n < 0 then 0 else n - n / 64
def callG (v t : Bool) : Int := if v then (if t then 9000 else 34000) else 0
def logG (n : Int) : Int := if n < 0 then 0 else 8 * n
def dataG : List Nat → Nat
  | [] => 0
  | x :: r => (if x = 0 then 4 else 16) + dataG r
def makeG (m : Bool) : Nat := if m then 53000 else 21000
def expG (x : Nat) : Int := 50 * (((bitLen x + 7) / 8 : Nat) : Int)
def storeG (U V : List Nat) : Int := if U = zs32 ∧ V ≠ zs32 then 20000 else 5000
theorem wordsG_neg {n : Int} (h : n < 0) : wordsG n = 0 := if_pos h
theorem shareG_neg {n : Int} (h : n < 0) : shareG n = 0 := if_pos h
theorem wordsG_nat (k : Nat) : wordsG (k : Int) = (((k + 31) / 32 : Nat) : Int) := by unfold wordsG; rw [if_neg (by omega)]; omega
theorem shareG_nat (k : Nat) : shareG (k : Int) = ((k - k / 64 : Nat) : Int) := by unfold shareG; rw [if_neg (by omega)]; omega
theorem dataG_append (a b : List Nat) : dataG (a ++ b) = dataG a + dataG b := by
  induction a with
  | nil => simp [dataG]
  | cons x r ih => simp only [List.cons_append, dataG, ih]; omega
theorem dataG_le (a : List Nat) : dataG a ≤ 16 * a.length := by
  induction a with
  | nil => simp [dataG]
  | cons x r ih => simp only [dataG, List.length_cons]; split <;> omega
theorem dataG_one (x : Nat) : dataG [x] = if x = 0 then 4 else 16 := by simp [dataG]
theorem dataG_take {L : List Nat} {k : Nat} (h : k < L.length) : dataG (L.take (k + 1)) = dataG (L.take k) + if L.getD k 0 = 0 then 4 else 16 := by
  rw [List.take_add_one, dataG_append, List.getElem?_eq_getElem h, Option.toList_some, dataG_one, List.getD_eq_getElem?_getD, List.getElem?_eq_getElem h, Option.getD_some]
theorem quo64 (k : Nat) : (k : Int).tdiv 64 = ((k / 64 : Nat) : Int) := by rw [Int.tdiv_eq_ediv_of_nonneg (by omega)]; omega
theorem quo32 (k : Nat) : (k : Int).tdiv 32 = ((k / 32 : Nat) : Int) := by rw [Int.tdiv_eq_ediv_of_nonneg (by omega)]; omega
theorem rem32 (k : Nat) : (k : Int).tmod 32 = ((k % 32 : Nat) : Int) := by rw [Int.tmod_eq_emod_of_nonneg (by omega)]; omega
theorem rwordsG_any (n : Int) (w : World) (hn : n ≤ 4503599627370496) : Calls Try.prog 7 #[.int .i64 n] w fun e w' => e = .returned (.int .i64 (wordsG n)) ∧ w' = w := by
  by_cases h0 : n < 0
  · rw [wordsG_neg h0]
    go_enter Try.func7, Try.ntmps7
    go_wp2
    go_ret
    exact ⟨rfl, rfl⟩
  obtain ⟨k, rfl⟩ : ∃ k : Nat, n = k := ⟨n.toNat, by omega⟩
  rw [wordsG_nat]
  have ht := quo32 k
  have hm := rem32 k
  by_cases h : 0 < k % 32
  · have h1 : (0 : Int) < (k : Int).tmod 32 := by omega
    go_enter Try.func7, Try.ntmps7
    go_wp2
    go_ret
    refine ⟨ret_int ?_, rfl⟩
    omega
  · have h1 : ¬ (0 : Int) < (k : Int).tmod 32 := by omega
    go_enter Try.func7, Try.ntmps7
    go_wp2
    go_ret
    refine ⟨ret_int ?_, rfl⟩
    omega
theorem pwordsG_any (n : Int) (w : World) (hn : n ≤ 4503599627370496) : Calls Try.prog 6 #[.int .i64 n] w fun e w' => e = .returned (.int .i64 (wordsG n)) ∧ w' = w := by
  by_cases h0 : n < 0
  · rw [wordsG_neg h0]
    go_enter Try.func6, Try.ntmps6
    go_wp2
    go_ret
    exact ⟨rfl, rfl⟩
  obtain ⟨k, rfl⟩ : ∃ k : Nat, n = k := ⟨n.toNat, by omega⟩
  rw [wordsG_nat]
  have ht := quo32 k
  have hm := rem32 k
  by_cases h : 0 < k % 32
  · have h1 : ((k : Int).tmod 32 != 0) = true := by simp; omega
    go_enter Try.func6, Try.ntmps6
    go_wp2
    go_ret
    refine ⟨ret_int ?_, rfl⟩
    omega
  · have h1 : ((k : Int).tmod 32 != 0) = false := by simp; omega
    go_enter Try.func6, Try.ntmps6
    go_wp2
    go_ret
    refine ⟨ret_int ?_, rfl⟩
    omega
theorem rshareG_any (n : Int) (w : World) (hn : n ≤ 4503599627370496) : Calls Try.prog 15 #[.int .i64 n] w fun e w' => e = .returned (.int .i64 (shareG n)) ∧ w' = w := by
  by_cases h0 : n < 0
  · rw [shareG_neg h0]
    go_enter Try.func15, Try.ntmps15
    go_wp2
    go_ret
    exact ⟨rfl, rfl⟩
  obtain ⟨k, rfl⟩ : ∃ k : Nat, n = k := ⟨n.toNat, by omega⟩
  rw [shareG_nat]
  have ht := quo64 k
  go_enter Try.func15, Try.ntmps15
  go_wp2
  go_ret
  refine ⟨ret_int ?_, rfl⟩
  omega
theorem pshareG_any (n : Int) (w : World) (hn : n ≤ 4503599627370496) : Calls Try.prog 14 #[.int .i64 n] w fun e w' => e = .returned (.int .i64 (shareG n)) ∧ w' = w := by
  by_cases h0 : n < 0
  · rw [shareG_neg h0]
    go_enter Try.func14, Try.ntmps14
    go_wp2
    go_ret
    exact ⟨rfl, rfl⟩
  obtain ⟨k, rfl⟩ : ∃ k : Nat, n = k := ⟨n.toNat, by omega⟩
  rw [shareG_nat]
  have ht := quo64 k
  go_enter Try.func14, Try.ntmps14
  go_wp2
  go_ret
  refine ⟨ret_int ?_, rfl⟩
  omega
theorem rcallG_any (v t : Bool) (w : World) : Calls Try.prog 17 #[.bool v, .bool t] w fun e w' => e = .returned (.int .i64 (callG v t)) ∧ w' = w := by
  cases v <;> cases t
  all_goals
    go_enter Try.func17, Try.ntmps17
    go_wp2
    go_ret
    exact ⟨rfl, rfl⟩
theorem pcallG_any (v t : Bool) (w : World) : Calls Try.prog 16 #[.bool v, .bool t] w fun e w' => e = .returned (.int .i64 (callG v t)) ∧ w' = w := by
  cases v <;> cases t
  all_goals
    go_enter Try.func16, Try.ntmps16
    go_wp2
    go_ret
    exact ⟨rfl, rfl⟩
theorem plogG_any (t n : Int) (w : World) (hn : n ≤ 1125899906842624) : Calls Try.prog 18 #[.int .i64 t, .int .i64 n] w fun e w' => e = .returned (.int .i64 (logG n)) ∧ w' = w := by
  by_cases h0 : n < 0
  · have h1 : max n 0 = 0 := by omega
    rw [show logG n = 0 from if_pos h0]
    go_enter Try.func18, Try.ntmps18
    go_wp2
    go_ret
    first | exact ⟨rfl, rfl⟩ | (refine ⟨ret_int ?_, rfl⟩; omega)
  · have h1 : max n 0 = n := by omega
    rw [show logG n = 8 * n from if_neg h0]
    go_enter Try.func18, Try.ntmps18
    go_wp2
    go_ret
    refine ⟨ret_int ?_, rfl⟩
    omega
end Go.Proofs.Ytbbebejdfgakfaa
