/- The plain mathematics of hexadecimal text: digits, their values, pairs of them, leading noughts. No Go in sight. -/
import Derived.Test.YtjbjjiibldlipaaA1
import Derived.Laws.MathBits
namespace Go.Proofs.Ytjbjjiibldlipaa
open Go.RowKit

/-- The value of a digit, if it is one. -/
def hv (c : Nat) : Option Nat := if 48 ≤ c ∧ c ≤ 57 then some (c - 48) else if 97 ≤ c ∧ c ≤ 102 then some (c - 87) else none
def isHex (c : UInt8) : Bool := (hv c.toNat).isSome
def dv (c : UInt8) : Nat := (hv c.toNat).getD 0
/-- The digit of a value below 16. -/
def hch (v : Nat) : UInt8 := if v < 10 then UInt8.ofNat (48 + v) else UInt8.ofNat (87 + v)
theorem hv_lt {c v : Nat} (h : hv c = some v) : v < 16 := by
  unfold hv at h
  split at h
  · obtain rfl := Option.some.inj h; omega
  · split at h
    · obtain rfl := Option.some.inj h; omega
    · simp at h
theorem hv_ascii {c v : Nat} (h : hv c = some v) : c < 128 := by
  unfold hv at h
  split at h
  · omega
  · split at h
    · omega
    · simp at h
theorem dv_lt (c : UInt8) : dv c < 16 := by
  unfold dv
  cases h : hv c.toNat with
  | none => simp
  | some v => simpa using hv_lt h
theorem isHex_some {c : UInt8} (h : isHex c = true) : hv c.toNat = some (dv c) := by
  unfold isHex at h; unfold dv
  cases hq : hv c.toNat with
  | none => simp [hq] at h
  | some v => rfl
theorem isHex_none {c : UInt8} (h : isHex c = false) : hv c.toNat = none := by
  unfold isHex at h
  cases hq : hv c.toNat with
  | none => rfl
  | some v => simp [hq] at h
theorem hch_nat (v : Nat) (h : v < 16) : (hch v).toNat = if v < 10 then 48 + v else 87 + v := by
  unfold hch
  split <;> (simp; omega)
theorem hch_hv (v : Nat) (h : v < 16) : hv (hch v).toNat = some v := by
  rw [hch_nat v h]; unfold hv
  by_cases h1 : v < 10
  · rw [if_pos h1, if_pos (by omega)]; congr 1; omega
  · rw [if_neg h1, if_neg (by omega), if_pos (by omega)]; congr 1; omega
theorem isHex_hch (v : Nat) (h : v < 16) : isHex (hch v) = true := by unfold isHex; rw [hch_hv v h]; rfl
theorem dv_hch (v : Nat) (h : v < 16) : dv (hch v) = v := by unfold dv; rw [hch_hv v h]; rfl
theorem hch_dv {c : UInt8} (h : isHex c = true) : hch (dv c) = c := by
  have h1 := isHex_some h
  have h2 := dv_lt c
  apply UInt8.toNat_inj.1
  rw [hch_nat _ h2]
  unfold hv at h1
  split at h1
  · have := Option.some.inj h1; rw [if_pos (by omega)]; omega
  · split at h1
    · have := Option.some.inj h1; rw [if_neg (by omega)]; omega
    · simp at h1
theorem hch_zero {v : Nat} (h : v < 16) : hch v = 48 ↔ v = 0 := by
  constructor
  · intro e
    have := hch_nat v h
    rw [e] at this
    have h48 : (48 : UInt8).toNat = 48 := rfl
    rw [h48] at this
    split at this <;> omega
  · rintro rfl; rfl
/-- The value of the digit at a place of a row of digits. -/
def dg (l : List UInt8) (i : Nat) : Nat := dv (l.getD i 0)
theorem dg_lt (l : List UInt8) (i : Nat) : dg l i < 16 := dv_lt _
/-- The bytes of k pairs of digits. -/
def prs (l : List UInt8) (k : Nat) : List Nat := (List.range k).map fun i => 16 * dg l (2 * i) + dg l (2 * i + 1)
theorem prs_length (l : List UInt8) (k : Nat) : (prs l k).length = k := by simp [prs]
theorem prs_succ (l : List UInt8) (k : Nat) : prs l (k + 1) = prs l k ++ [16 * dg l (2 * k) + dg l (2 * k + 1)] := by simp [prs, List.range_succ]
theorem prs_lt (l : List UInt8) (k : Nat) : ∀ x ∈ prs l k, x < 256 := by
  intro x hx
  obtain ⟨i, _, rfl⟩ := List.mem_map.1 hx
  have := dg_lt l (2 * i); have := dg_lt l (2 * i + 1); omega
/-- Are they digits, all of them? -/
def allHex (l : List UInt8) : Bool := l.all isHex
/-- The digits of a row of bytes. -/
def hexOf (L : List Nat) : List UInt8 := L.flatMap fun x => [hch (x / 16), hch (x % 16)]
theorem hexOf_nil : hexOf [] = [] := rfl
theorem hexOf_snoc (L : List Nat) (x : Nat) : hexOf (L ++ [x]) = hexOf L ++ [hch (x / 16), hch (x % 16)] := by simp [hexOf]
theorem hexOf_length (L : List Nat) : (hexOf L).length = 2 * L.length := by
  induction L with
  | nil => rfl
  | cons x L ih =>
    have : hexOf (x :: L) = [hch (x / 16), hch (x % 16)] ++ hexOf L := rfl
    rw [this, List.length_append, ih, List.length_cons, List.length_cons, List.length_cons, List.length_nil]; omega
theorem hexOf_get (L : List Nat) (i : Nat) (h : i < L.length) : (hexOf L)[2 * i]? = some (hch (L[i] / 16)) ∧ (hexOf L)[2 * i + 1]? = some (hch (L[i] % 16)) := by
  induction L generalizing i with
  | nil => simp at h
  | cons x L ih =>
    have e : hexOf (x :: L) = hch (x / 16) :: hch (x % 16) :: hexOf L := rfl
    rw [e]
    cases i with
    | zero => exact ⟨rfl, rfl⟩
    | succ i =>
      have hi : i < L.length := by simpa using h
      have := ih i hi
      rw [show 2 * (i + 1) = 2 * i + 1 + 1 by omega, List.getElem?_cons_succ, List.getElem?_cons_succ, List.getElem?_cons_succ, List.getElem?_cons_succ]
      exact this
theorem allHex_hexOf (L : List Nat) (h : ∀ x ∈ L, x < 256) : allHex (hexOf L) = true := by
  induction L with
  | nil => rfl
  | cons x L ih =>
    have e : hexOf (x :: L) = hch (x / 16) :: hch (x % 16) :: hexOf L := rfl
    have hx := h x List.mem_cons_self
    unfold allHex at *
    rw [e, List.all_cons, List.all_cons, isHex_hch _ (by omega), isHex_hch _ (by omega), ih fun y hy => h y (List.mem_cons_of_mem _ hy)]
    rfl
theorem prs_hexOf (L : List Nat) (h : ∀ x ∈ L, x < 256) : prs (hexOf L) L.length = L := by
  apply List.ext_getElem (by rw [prs_length])
  intro i h1 h2
  have := hexOf_get L i h2
  have hx := h L[i] (List.getElem_mem h2)
  simp only [prs, List.getElem_map, List.getElem_range, dg, List.getD_eq_getElem?_getD, this.1, this.2, Option.getD_some]
  rw [dv_hch _ (by omega), dv_hch _ (by omega)]; omega
theorem hexOf_prs (l : List UInt8) (h : allHex l = true) (k : Nat) (hk : 2 * k = l.length) : hexOf (prs l k) = l := by
  apply List.ext_getElem? 
  intro i
  by_cases hi : i < l.length
  · have hl : ∀ j, j < l.length → hch (dg l j) = l.getD j 0 := by
      intro j hj
      unfold dg
      apply hch_dv
      have : l.getD j 0 = l[j] := by simp [hj]
      rw [this]
      exact (List.all_eq_true.1 h) _ (List.getElem_mem hj)
    have g := hexOf_get (prs l k) (i / 2) (by rw [prs_length]; omega)
    have e : (prs l k)[i / 2]'(by rw [prs_length]; omega) = 16 * dg l (2 * (i / 2)) + dg l (2 * (i / 2) + 1) := by simp [prs]
    have b0 := dg_lt l (2 * (i / 2)); have b1 := dg_lt l (2 * (i / 2) + 1)
    rw [e, show (16 * dg l (2 * (i / 2)) + dg l (2 * (i / 2) + 1)) / 16 = dg l (2 * (i / 2)) by omega, show (16 * dg l (2 * (i / 2)) + dg l (2 * (i / 2) + 1)) % 16 = dg l (2 * (i / 2) + 1) by omega] at g
    rcases Nat.mod_two_eq_zero_or_one i with hm | hm
    · rw [show 2 * (i / 2) = i by omega] at g
      rw [g.1, hl i hi]; simp [hi]
    · rw [show 2 * (i / 2) + 1 = i by omega] at g
      rw [g.2, hl i hi]; simp [hi]
  · rw [List.getElem?_eq_none (by rw [hexOf_length, prs_length]; omega), List.getElem?_eq_none (by omega)]
/-- Leading noughts gone, but for a last digit. -/
def strip : List UInt8 → List UInt8
  | [] => []
  | [c] => [c]
  | c :: d :: r => if c = 48 then strip (d :: r) else c :: d :: r
theorem strip_drop (l : List UInt8) (k : Nat) (h : ∀ j, j < k → l[j]? = some 48) (hk : k < l.length) (h1 : k + 1 = l.length ∨ l[k]? ≠ some 48) : strip l = l.drop k := by
  induction k generalizing l with
  | zero =>
    match l, hk, h1 with
    | [c], _, _ => rfl
    | c :: d :: r, _, h1 =>
      have : c ≠ 48 := by
        rcases h1 with h1 | h1
        · simp at h1
        · intro e; subst e; exact h1 rfl
      simp [strip, this]
  | succ k ih =>
    match l, hk, h, h1 with
    | [c], hk, _, _ => simp at hk
    | c :: d :: r, hk, h, h1 =>
      have hc : c = 48 := by have := h 0 (by omega); simpa using this
      subst hc
      have := ih (d :: r) (fun j hj => by have := h (j + 1) (by omega); simpa using this) (by simpa using hk) (by rcases h1 with h1 | h1; left; simpa using h1; right; simpa using h1)
      simp [strip, this]
/-- No leading nought, but for the one digit 0. -/
def slim (l : List UInt8) : Bool := match l with | [] => false | [_] => true | c :: _ :: _ => c != 48
theorem slim_strip (l : List UInt8) (h : l ≠ []) : slim (strip l) = true := by
  match l, h with
  | [c], _ => rfl
  | c :: d :: r, _ =>
    by_cases hc : c = 48
    · simp only [strip, hc, if_true]; exact slim_strip (d :: r) (by simp)
    · simp [strip, hc, slim]
termination_by l.length
/-- Noughts ahead of a row. -/
def pad (n : Nat) (l : List UInt8) : List UInt8 := List.replicate n 48 ++ l
theorem pad_zero (l : List UInt8) : pad 0 l = l := rfl
theorem pad_succ (n : Nat) (l : List UInt8) : pad (n + 1) l = 48 :: pad n l := rfl
theorem pad_length (n : Nat) (l : List UInt8) : (pad n l).length = n + l.length := by simp [pad]
theorem strip_pad (n : Nat) (l : List UInt8) (h : l ≠ []) : strip (pad n l) = strip l := by
  induction n with
  | zero => rfl
  | succ n ih =>
    have : ∃ d r, pad n l = d :: r := by
      cases hq : pad n l with
      | nil => have := pad_length n l; rw [hq, List.length_nil] at this; exact absurd (List.length_eq_zero_iff.1 (show l.length = 0 by omega)) h
      | cons d r => exact ⟨d, r, rfl⟩
    obtain ⟨d, r, e⟩ := this
    rw [pad_succ, e, strip, if_pos rfl, ← e, ih]
theorem strip_slim (l : List UInt8) (h : slim l = true) : strip l = l := by
  match l, h with
  | [c], _ => rfl
  | c :: d :: r, h =>
    have : c ≠ 48 := by simpa [slim] using h
    simp [strip, this]
theorem strip_eq_iff (l : List UInt8) (h : l ≠ []) : strip l = l ↔ slim l = true :=
  ⟨fun e => by rw [← e]; exact slim_strip l h, strip_slim l⟩
theorem allHex_pad (n : Nat) (l : List UInt8) : allHex (pad n l) = allHex l := by
  induction n with
  | zero => rfl
  | succ n ih => rw [pad_succ]; unfold allHex at *; rw [List.all_cons, ih, show isHex 48 = true from rfl, Bool.true_and]
theorem dg_pad (n : Nat) (l : List UInt8) (i : Nat) : dg (pad n l) i = if i < n then 0 else dg l (i - n) := by
  unfold dg pad
  by_cases h : i < n
  · rw [if_pos h, List.getD_eq_getElem?_getD, List.getElem?_append_left (by simpa using h), List.getElem?_replicate, if_pos h]; rfl
  · rw [if_neg h, List.getD_eq_getElem?_getD, List.getElem?_append_right (by simpa using h), List.length_replicate, ← List.getD_eq_getElem?_getD]
theorem strip_length_le (l : List UInt8) : (strip l).length ≤ l.length := by
  match l with
  | [] => simp [strip]
  | [c] => simp [strip]
  | c :: d :: r =>
    unfold strip
    split
    · exact Nat.le_trans (strip_length_le (d :: r)) (by simp)
    · exact Nat.le_refl _
termination_by l.length
theorem allHex_strip (l : List UInt8) (h : allHex l = true) : allHex (strip l) = true := by
  match l with
  | [] => exact h
  | [c] => exact h
  | c :: d :: r =>
    unfold strip
    split
    · exact allHex_strip (d :: r) (by unfold allHex at *; rw [List.all_cons] at h; simp only [Bool.and_eq_true] at h; exact h.2)
    · exact h
termination_by l.length
end Go.Proofs.Ytjbjjiibldlipaa
