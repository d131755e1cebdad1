/- What belongs to a PUSH, where a code may be jumped to: ops.follow, ops.Jumps, the document's own and Jumps. -/
import Derived.Test.YtjbjjiibldlipaaO1
namespace Go.Proofs.Ytjbjjiibldlipaa
open Go.RowKit

/-- How many bytes belong to an instruction. -/
def fol (x : Nat) : Nat := if 96 ≤ x ∧ x ≤ 127 then x - 95 else 0
theorem own_any (x : Nat) (w : World) (hx : x < 256) : Calls Try.prog 19 #[.int .u8 (x : Int)] w fun e w' => e = .returned (.int .i64 ((fol x : Nat) : Int)) ∧ w = w' := by
  by_cases h1 : 96 ≤ x
  · have hd : (96 : Int) ≤ (x : Int) := by omega
    by_cases h2 : x < 128
    · have hd2 : (x : Int) < 128 := by omega
      have e0 : fol x = x - 95 := by unfold fol; rw [if_pos (by omega)]
      rw [e0]
      go_enter Try.func19, Try.ntmps19
      go_wp2
      go_ret
      exact ⟨ret_int (by omega), rfl⟩
    · have hd2 : ¬ (x : Int) < 128 := by omega
      have e0 : fol x = 0 := by unfold fol; rw [if_neg (by omega)]
      rw [e0]
      go_enter Try.func19, Try.ntmps19
      go_wp2
      go_ret
      exact ⟨rfl, rfl⟩
  · have hd : ¬ (96 : Int) ≤ (x : Int) := by omega
    have e0 : fol x = 0 := by unfold fol; rw [if_neg (by omega)]
    rw [e0]
    go_enter Try.func19, Try.ntmps19
    go_wp2
    go_ret
    exact ⟨rfl, rfl⟩
/-- The places from k on, in at most f steps. -/
def jmpF (l : List Nat) : Nat → Nat → List Nat
  | 0, _ => []
  | f + 1, k => if k < l.length then (if l.getD k 0 = 91 then [k] else []) ++ jmpF l f (k + (1 + fol (l.getD k 0))) else []
def jmp (l : List Nat) : List Nat := jmpF l l.length 0
theorem jmpF_end {l : List Nat} : ∀ {f k : Nat}, l.length ≤ k → jmpF l f k = []
  | 0, _, _ => rfl
  | f + 1, k, h => by unfold jmpF; rw [if_neg (by omega)]
theorem jmpF_fuel {l : List Nat} : ∀ {f g k : Nat}, l.length - k ≤ f → l.length - k ≤ g → jmpF l f k = jmpF l g k
  | 0, g, k, h, _ => by rw [jmpF_end (k := k) (by omega), jmpF_end (k := k) (by omega)]
  | f + 1, 0, k, _, h => by rw [jmpF_end (k := k) (by omega), jmpF_end (k := k) (by omega)]
  | f + 1, g + 1, k, h1, h2 => by
    unfold jmpF
    by_cases hk : k < l.length
    · rw [if_pos hk, if_pos hk, jmpF_fuel (f := f) (g := g) (by omega) (by omega)]
    · rw [if_neg hk, if_neg hk]
theorem jmpF_step {l : List Nat} {k : Nat} (h : k < l.length) : jmpF l l.length k = (if l.getD k 0 = 91 then [k] else []) ++ jmpF l l.length (k + (1 + fol (l.getD k 0))) := by
  rw [jmpF_fuel (f := l.length) (g := l.length + 1) (by omega) (by omega)]
  conv => lhs; unfold jmpF
  rw [if_pos h]
theorem jmp_len {l acc : List Nat} {k : Nat} (h : acc ++ jmpF l l.length k = jmp l) : acc.length ≤ l.length := by
  have h1 : ∀ f k, (jmpF l f k).length ≤ f := by
    intro f
    induction f with
    | zero => intro k; exact Nat.le_refl 0
    | succ f ih =>
      intro k
      unfold jmpF
      split
      · rw [List.length_append]
        have := ih (k + (1 + fol (l.getD k 0)))
        split
        · rw [List.length_singleton]; omega
        · rw [List.length_nil]; omega
      · simp
  have h2 := congrArg List.length h
  rw [List.length_append] at h2
  have := h1 l.length 0
  unfold jmp at h2
  omega
theorem fol_le (x : Nat) (hx : x < 256) : fol x ≤ 32 := by unfold fol; split <;> omega
theorem own_allocI {w : World} {B n : Nat} {v : Value} {l : List Value} (h : w.ownsRow B 3 1 v n l) (o : Obj) : (w.alloc o).ownsRow B 3 1 v n l := h.alloc o
end Go.Proofs.Ytjbjjiibldlipaa
