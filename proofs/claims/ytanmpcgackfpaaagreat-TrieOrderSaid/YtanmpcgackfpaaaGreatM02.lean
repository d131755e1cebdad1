/- The plain mathematics of the hash: rounds, the sponge, and two hashes reckoned out. No function of the program is walked here. -/
import Derived.Test.YtanmpcgackfpaaaGreatM01
import Derived.Laws.BitsAll
import Derived.Lib.BitFns
set_option linter.unusedVariables false
set_option linter.unusedSimpArgs false
namespace Go.Proofs.YtanmpcgackfpaaaGreat
section
def posL : List Nat := [1, 10, 7, 11, 17, 18, 3, 5, 16, 8, 21, 24, 4, 15, 23, 19, 13, 12, 2, 20, 14, 22, 9, 6, 1]
def pos (t : Nat) : Nat := posL.getD t 0
def turnOf (t : Nat) : Nat := (t + 1) * (t + 2) / 2 % 64
def srcL : List Nat := [0, 6, 12, 18, 24, 3, 9, 10, 16, 22, 1, 7, 13, 19, 20, 4, 5, 11, 17, 23, 2, 8, 14, 15, 21]
def rotL : List Nat := [0, 44, 43, 21, 14, 28, 20, 3, 45, 61, 1, 6, 25, 8, 18, 27, 36, 10, 15, 56, 62, 55, 39, 41, 2]
def src (j : Nat) : Nat := srcL.getD j 0
def rot (j : Nat) : Nat := rotL.getD j 0
def tinL : List Nat := [99, 23, 17, 5, 11, 6, 22, 1, 8, 21, 0, 2, 16, 15, 19, 12, 7, 3, 4, 14, 18, 9, 20, 13, 10]
def tin (p : Nat) : Nat := tinL.getD p 99
theorem pos_lt : ∀ t, t < 25 → pos t < 25 := by decide
theorem pos_step : ∀ t, t < 24 → pos (t + 1) = pos t / 5 + 5 * ((2 * (pos t % 5) + 3 * (pos t / 5)) % 5) := by decide
theorem pos_src : ∀ t, t < 24 → src (pos (t + 1)) = pos t ∧ rot (pos (t + 1)) = turnOf t ∧ tin (pos (t + 1)) = t ∧ 0 < turnOf t ∧ turnOf t < 64 := by decide
theorem tin_eq : ∀ p, p < 25 → ∀ t, t < 24 → (tin p = t ↔ p = pos (t + 1)) := by decide
theorem tin_lt : ∀ p, p < 25 → p ≠ 0 → tin p < 24 := by decide
theorem src_lt : ∀ j, j < 25 → src j < 25 ∧ rot j < 64 := by decide
def rolN (x n : Nat) : Nat := x * 2 ^ n % 2 ^ 64 ||| x / 2 ^ (64 - n)
def colN (A : Nat → Nat) (x : Nat) : Nat := A x ^^^ A (x + 5) ^^^ A (x + 10) ^^^ A (x + 15) ^^^ A (x + 20)
def dltN (A : Nat → Nat) (x : Nat) : Nat := colN A ((x + 4) % 5) ^^^ rolN (colN A ((x + 1) % 5)) 1
def thetaN (A : Nat → Nat) (i : Nat) : Nat := A i ^^^ dltN A (i % 5)
def piN (T : Nat → Nat) (j : Nat) : Nat := if rot j = 0 then T (src j) else rolN (T (src j)) (rot j)
def andnN (x y : Nat) : Nat := x &&& (18446744073709551615 - y)
def chiN (B : Nat → Nat) (j : Nat) : Nat := B j ^^^ andnN (B (5 * (j / 5) + (j % 5 + 2) % 5)) (B (5 * (j / 5) + (j % 5 + 1) % 5))
def mixN (A : Nat → Nat) (j : Nat) : Nat := chiN (piN (thetaN A)) j
def roundN (A : Nat → Nat) (rc : Nat) (j : Nat) : Nat := if j = 0 then mixN A 0 ^^^ rc else mixN A j
def rcL : List Nat := [0x0000000000000001, 0x0000000000008082, 0x800000000000808A, 0x8000000080008000,
    0x000000000000808B, 0x0000000080000001, 0x8000000080008081, 0x8000000000008009,
    0x000000000000008A, 0x0000000000000088, 0x0000000080008009, 0x000000008000000A,
    0x000000008000808B, 0x800000000000008B, 0x8000000000008089, 0x8000000000008003,
    0x8000000000008002, 0x8000000000000080, 0x000000000000800A, 0x800000008000000A,
    0x8000000080008081, 0x8000000000008080, 0x0000000080000001, 0x8000000080008008]
def rc (k : Nat) : Nat := rcL.getD k 0
def perN (A : Nat → Nat) : Nat → (Nat → Nat)
  | 0 => A
  | k + 1 => roundN (perN A k) (rc k)
def permN (A : Nat → Nat) : Nat → Nat := perN A 24
def lstep (l : Nat) : Nat := if 128 ≤ l then 2 * l % 256 ^^^ 113 else 2 * l % 256
def lit (l : Nat) : Nat → Nat
  | 0 => l
  | j + 1 => lstep (lit l j)
def iacc (l : Nat) : Nat → Nat
  | 0 => 0
  | j + 1 => if lit l j % 2 = 1 then iacc l j ^^^ 2 ^ (2 ^ j - 1) else iacc l j
def lrd : Nat → Nat
  | 0 => 1
  | k + 1 => lit (lrd k) 7
theorem iota_is : ∀ k, k < 24 → iacc (lrd k) 7 = rc k := by decide +kernel
theorem lstep_lt (l : Nat) : lstep l < 256 := by
  unfold lstep; split
  · exact Nat.xor_lt_two_pow (n := 8) (Nat.mod_lt _ (by decide)) (by decide)
  · exact Nat.mod_lt _ (by decide)
theorem lit_lt {l : Nat} (h : l < 256) : ∀ j, lit l j < 256
  | 0 => h
  | j + 1 => lstep_lt (lit l j)
theorem lrd_lt : ∀ k, lrd k < 256
  | 0 => by decide
  | k + 1 => lit_lt (lrd_lt k) 7
def Lan (A : Nat → Nat) : Prop := ∀ p, A p < 18446744073709551616
theorem x64 {a b : Nat} (ha : a < 18446744073709551616) (hb : b < 18446744073709551616) : a ^^^ b < 18446744073709551616 := Nat.xor_lt_two_pow (n := 64) ha hb
theorem qj5 {x n : Nat} (hx : x < 18446744073709551616) : rolN x n < 18446744073709551616 :=
  Nat.or_lt_two_pow (n := 64) (Nat.mod_lt _ (by decide)) (Nat.lt_of_le_of_lt (Nat.div_le_self _ _) hx)
theorem colN_lt {A : Nat → Nat} (h : Lan A) (x : Nat) : colN A x < 18446744073709551616 := x64 (x64 (x64 (x64 (h _) (h _)) (h _)) (h _)) (h _)
theorem dltN_lt {A : Nat → Nat} (h : Lan A) (x : Nat) : dltN A x < 18446744073709551616 := x64 (colN_lt h _) (qj5 (colN_lt h _))
theorem theta_lan {A : Nat → Nat} (h : Lan A) : Lan (thetaN A) := fun p => x64 (h p) (dltN_lt h _)
theorem pi_lan {A : Nat → Nat} (h : Lan A) : Lan (piN A) := fun p => by unfold piN; split; exact h _; exact qj5 (h _)
theorem andnN_lt {x y : Nat} (h : x < 18446744073709551616) : andnN x y < 18446744073709551616 := Nat.lt_of_le_of_lt Nat.and_le_left h
theorem chi_lan {A : Nat → Nat} (h : Lan A) : Lan (chiN A) := fun p => x64 (h p) (andnN_lt (h _))
theorem mix_lan {A : Nat → Nat} (h : Lan A) : Lan (mixN A) := chi_lan (pi_lan (theta_lan h))
theorem round_lan {A : Nat → Nat} {r : Nat} (h : Lan A) (hr : r < 18446744073709551616) : Lan (roundN A r) := fun p => by unfold roundN; split; exact x64 (mix_lan h 0) hr; exact mix_lan h p
theorem rc_lt (k : Nat) : rc k < 18446744073709551616 := by
  unfold rc
  by_cases h : k < 24
  · exact (show ∀ k, k < 24 → rcL.getD k 0 < 18446744073709551616 by decide) k h
  · rw [List.getD_eq_getElem?_getD, List.getElem?_eq_none (by simp [rcL]; omega)]; decide
theorem per_lan {A : Nat → Nat} (h : Lan A) : ∀ k, Lan (perN A k)
  | 0 => h
  | k + 1 => round_lan (per_lan h k) (rc_lt k)
theorem perm_lan {A : Nat → Nat} (h : Lan A) : Lan (permN A) := per_lan h 24
def xorAt (A : Nat → Nat) (p v : Nat) : Nat → Nat := fun q => if q = p / 8 then A q ^^^ v * 2 ^ (8 * (p % 8)) else A q
structure Sp where
  A : Nat → Nat
  t : Nat
def abs1 (s : Sp) (v : Nat) : Sp := if s.t + 1 = 136 then ⟨permN (xorAt s.A s.t v), 0⟩ else ⟨xorAt s.A s.t v, s.t + 1⟩
def absL (s : Sp) (l : List Nat) : Sp := l.foldl abs1 s
def sp0 : Sp := ⟨fun _ => 0, 0⟩
def finN (s : Sp) : Nat → Nat := permN (xorAt (xorAt s.A s.t 1) 135 128)
def outN (A : Nat → Nat) (i : Nat) : Nat := A (i / 8) / 2 ^ (8 * (i % 8)) % 256
def hashN (l : List Nat) : Nat → Nat := outN (finN (absL sp0 l))
theorem qj2 (A : Nat → Nat) (i : Nat) : outN A i < 256 := Nat.mod_lt _ (by decide)
theorem shifted_lt {v r : Nat} (hv : v < 256) (hr : r < 8) : v * 2 ^ (8 * r) < 18446744073709551616 := by
  have h1 : 2 ^ (8 * r) ≤ 2 ^ 56 := Nat.pow_le_pow_right (by decide) (by omega)
  have h2 : v * 2 ^ (8 * r) ≤ 255 * 2 ^ 56 := Nat.mul_le_mul (by omega) h1
  omega
theorem xorAt_lan {A : Nat → Nat} {p v : Nat} (h : Lan A) (hv : v < 256) : Lan (xorAt A p v) := fun q => by
  unfold xorAt; split
  · exact x64 (h q) (shifted_lt hv (Nat.mod_lt _ (by decide)))
  · exact h q
def SpOk (s : Sp) : Prop := Lan s.A ∧ s.t < 136
theorem sp0_ok : SpOk sp0 := ⟨fun _ => Nat.zero_lt_succ _, Nat.zero_lt_succ _⟩
theorem abs1_ok {s : Sp} {v : Nat} (h : SpOk s) (hv : v < 256) : SpOk (abs1 s v) := by
  unfold abs1; split
  · exact ⟨perm_lan (xorAt_lan h.1 hv), Nat.zero_lt_succ _⟩
  · exact ⟨xorAt_lan h.1 hv, by have := h.2; show s.t + 1 < 136; omega⟩
theorem absL_ok {s : Sp} : ∀ {l : List Nat}, SpOk s → (∀ v ∈ l, v < 256) → SpOk (absL s l)
  | [], h, _ => h
  | v :: l, h, hl => absL_ok (s := abs1 s v) (l := l) (abs1_ok h (hl v (by simp))) (fun x hx => hl x (by simp [hx]))
theorem qi3 (s : Sp) (l m : List Nat) : absL s (l ++ m) = absL (absL s l) m := by simp [absL, List.foldl_append]
def joinN (b : Nat → Nat) : Nat := b 0 ||| b 1 * 2 ^ 8 ||| b 2 * 2 ^ 16 ||| b 3 * 2 ^ 24 ||| b 4 * 2 ^ 32 ||| b 5 * 2 ^ 40 ||| b 6 * 2 ^ 48 ||| b 7 * 2 ^ 56
theorem or_is_xor {x y k : Nat} (h : x < 2 ^ k) : x ||| y * 2 ^ k = x ^^^ y * 2 ^ k := by
  apply Nat.eq_of_testBit_eq
  intro i
  rw [Nat.testBit_or, Nat.testBit_xor]
  by_cases hi : i < k
  · have : (y * 2 ^ k).testBit i = false := by rw [Nat.testBit_mul_two_pow]; simp; omega
    rw [this]; simp
  · have : x.testBit i = false := Nat.testBit_lt_two_pow (Nat.lt_of_lt_of_le h (Nat.pow_le_pow_right (by decide) (by omega)))
    rw [this]; simp
theorem qg1 {x v k : Nat} (h : x < 2 ^ k) (hv : v < 2 ^ 8) : x ||| v * 2 ^ k < 2 ^ (k + 8) :=
  Nat.or_lt_two_pow (Nat.lt_of_lt_of_le h (Nat.pow_le_pow_right (by decide) (by omega))) (by rw [Nat.pow_add, Nat.mul_comm (2 ^ k)]; exact Nat.mul_lt_mul_of_pos_right hv (Nat.two_pow_pos _))
theorem joinN_lt {b : Nat → Nat} (h : ∀ i, i < 8 → b i < 256) : joinN b < 18446744073709551616 := by
  have h0 : b 0 < 2 ^ 8 := h 0 (by decide)
  exact qg1 (qg1 (qg1 (qg1 (qg1 (qg1 (qg1 h0 (h 1 (by decide))) (h 2 (by decide))) (h 3 (by decide))) (h 4 (by decide))) (h 5 (by decide))) (h 6 (by decide))) (h 7 (by decide))
theorem joinN_xor {b : Nat → Nat} (h : ∀ i, i < 8 → b i < 256) (x : Nat) :
    x ^^^ joinN b = x ^^^ b 0 * 2 ^ (8 * 0) ^^^ b 1 * 2 ^ (8 * 1) ^^^ b 2 * 2 ^ (8 * 2) ^^^ b 3 * 2 ^ (8 * 3) ^^^ b 4 * 2 ^ (8 * 4) ^^^ b 5 * 2 ^ (8 * 5) ^^^ b 6 * 2 ^ (8 * 6) ^^^ b 7 * 2 ^ (8 * 7) := by
  have h0 : b 0 < 2 ^ 8 := h 0 (by decide)
  have h1 := qg1 h0 (h 1 (by decide))
  have h2 := qg1 h1 (h 2 (by decide))
  have h3 := qg1 h2 (h 3 (by decide))
  have h4 := qg1 h3 (h 4 (by decide))
  have h5 := qg1 h4 (h 5 (by decide))
  have h6 := qg1 h5 (h 6 (by decide))
  unfold joinN
  rw [or_is_xor h6, or_is_xor h5, or_is_xor h4, or_is_xor h3, or_is_xor h2, or_is_xor h1, or_is_xor h0]
  simp only [Nat.mul_zero, Nat.pow_zero, Nat.mul_one, Nat.xor_assoc]
theorem two_xor {A : Nat → Nat} {p v : Nat} (q : Nat) : xorAt A p v q = if q = p / 8 then A q ^^^ v * 2 ^ (8 * (p % 8)) else A q := rfl
theorem abs1_in {s : Sp} {v : Nat} (h : s.t + 1 < 136) : abs1 s v = ⟨xorAt s.A s.t v, s.t + 1⟩ := by unfold abs1; rw [if_neg (by omega)]
def abs8 (s : Sp) (b : Nat → Nat) : Sp :=
  if s.t + 8 = 136 then ⟨permN fun q => if q = s.t / 8 then s.A q ^^^ joinN b else s.A q, 0⟩ else ⟨fun q => if q = s.t / 8 then s.A q ^^^ joinN b else s.A q, s.t + 8⟩
theorem abs1_at (A : Nat → Nat) {t v u : Nat} (h : t + 1 < 136) (hu : u = t + 1) : abs1 ⟨A, t⟩ v = ⟨xorAt A t v, u⟩ := by subst hu; exact abs1_in (s := ⟨A, t⟩) h
theorem abs1_full (A : Nat → Nat) {t v : Nat} (h : t = 135) : abs1 ⟨A, t⟩ v = ⟨permN (xorAt A t v), 0⟩ := by subst h; rfl
theorem xor8 {A : Nat → Nat} {t : Nat} {b : Nat → Nat} (h8 : t % 8 = 0) (hb : ∀ i, i < 8 → b i < 256) :
    xorAt (xorAt (xorAt (xorAt (xorAt (xorAt (xorAt (xorAt A t (b 0)) (t + 1) (b 1)) (t + 2) (b 2)) (t + 3) (b 3)) (t + 4) (b 4)) (t + 5) (b 5)) (t + 6) (b 6)) (t + 7) (b 7) = fun q => if q = t / 8 then A q ^^^ joinN b else A q := by
  funext q
  simp only [two_xor]
  rw [show (t + 1) / 8 = t / 8 by omega, show (t + 2) / 8 = t / 8 by omega, show (t + 3) / 8 = t / 8 by omega, show (t + 4) / 8 = t / 8 by omega, show (t + 5) / 8 = t / 8 by omega, show (t + 6) / 8 = t / 8 by omega, show (t + 7) / 8 = t / 8 by omega,
    show (t + 1) % 8 = 1 by omega, show (t + 2) % 8 = 2 by omega, show (t + 3) % 8 = 3 by omega, show (t + 4) % 8 = 4 by omega, show (t + 5) % 8 = 5 by omega, show (t + 6) % 8 = 6 by omega, show (t + 7) % 8 = 7 by omega, h8]
  by_cases hq : q = t / 8
  · simp only [if_pos hq]; rw [joinN_xor hb]
  · simp only [if_neg hq]
theorem qh5 (s : Sp) (v : Nat) (l : List Nat) : absL s (v :: l) = absL (abs1 s v) l := rfl
theorem absL_nil (s : Sp) : absL s [] = s := rfl
theorem abs8_is {s : Sp} {b : Nat → Nat} (h8 : s.t % 8 = 0) (ht : s.t < 136) (hb : ∀ i, i < 8 → b i < 256) : absL s [b 0, b 1, b 2, b 3, b 4, b 5, b 6, b 7] = abs8 s b := by
  obtain ⟨A, t⟩ := s
  have h8' : t % 8 = 0 := h8
  have ht' : t < 136 := ht
  have key := xor8 (A := A) h8' hb
  rw [qh5, qh5, qh5, qh5, qh5, qh5, qh5, qh5, absL_nil]
  rw [abs1_at A (u := t + 1) (by omega) rfl, abs1_at _ (u := t + 2) (by omega) rfl, abs1_at _ (u := t + 3) (by omega) rfl, abs1_at _ (u := t + 4) (by omega) rfl, abs1_at _ (u := t + 5) (by omega) rfl, abs1_at _ (u := t + 6) (by omega) rfl, abs1_at _ (u := t + 7) (by omega) rfl]
  unfold abs8
  by_cases h : t = 128
  · rw [abs1_full _ (by omega), key, if_pos (show t + 8 = 136 by omega)]
  · rw [abs1_at _ (u := t + 8) (by omega) (by omega), key, if_neg (show ¬ t + 8 = 136 by omega)]
theorem xorAt_zero (A : Nat → Nat) (p : Nat) : xorAt A p 0 = A := by funext q; rw [two_xor]; simp
theorem zeros_in {A : Nat → Nat} : ∀ {n t : Nat}, t + n < 136 → absL ⟨A, t⟩ (List.replicate n 0) = ⟨A, t + n⟩
  | 0, t, _ => rfl
  | n + 1, t, h => by
    rw [List.replicate_succ]
    show absL (abs1 ⟨A, t⟩ 0) (List.replicate n 0) = _
    rw [abs1_at A (u := t + 1) (by omega) rfl, xorAt_zero, zeros_in (by omega)]
    congr 1; omega
theorem xor_both (A : Nat → Nat) (p : Nat) : xorAt (xorAt A p 1) p 128 = xorAt A p 129 := by
  funext q
  simp only [two_xor]
  split
  · rw [Nat.xor_assoc, ← Nat.shiftLeft_eq, ← Nat.shiftLeft_eq, ← Nat.shiftLeft_eq, ← Nat.shiftLeft_xor_distrib]; rfl
  · rfl
def padL (t : Nat) : List Nat := if t = 135 then [129] else 1 :: (List.replicate (134 - t) 0 ++ [128])
theorem pad_is {s : Sp} (h : s.t < 136) : absL s (padL s.t) = ⟨finN s, 0⟩ := by
  obtain ⟨A, t⟩ := s
  simp only at h
  unfold padL finN
  simp only
  by_cases ht : t = 135
  · subst ht
    rw [if_pos rfl, xor_both]
    show abs1 ⟨A, 135⟩ 129 = _
    unfold abs1; rw [if_pos rfl]
  · rw [if_neg ht]
    show absL (abs1 ⟨A, t⟩ 1) _ = _
    rw [abs1_at A (u := t + 1) (by omega) rfl, qi3, zeros_in (by omega)]
    show abs1 ⟨xorAt A t 1, t + 1 + (134 - t)⟩ 128 = _
    rw [show t + 1 + (134 - t) = 135 by omega]
    unfold abs1; rw [if_pos rfl]
theorem absL_t {s : Sp} : ∀ {l : List Nat}, s.t < 136 → (absL s l).t = (s.t + l.length) % 136
  | [], h => by show s.t = _; simp; omega
  | v :: l, h => by
    show (absL (abs1 s v) l).t = _
    have h1 : (abs1 s v).t = (s.t + 1) % 136 := by unfold abs1; split <;> simp only <;> omega
    rw [absL_t (by rw [h1]; omega), h1, List.length_cons]; omega
theorem hash_padded (l : List Nat) : hashN l = outN (absL sp0 (l ++ padL (l.length % 136))).A := by
  have ht : (absL sp0 l).t = l.length % 136 := by rw [absL_t (by decide)]; simp [sp0]
  rw [qi3, ← ht, pad_is (by rw [ht]; omega)]
  rfl
/-! ### Reckoned out, with numbers that stand as numerals at each step -/
def forceN {α : Type} (n : Nat) (k : Nat → α) : α := match n with | 0 => k 0 | m + 1 => k (m + 1)
theorem forceN_eq {α : Type} (n : Nat) (k : Nat → α) : forceN n k = k n := by cases n <;> rfl
def forceL {α : Type} : List Nat → (List Nat → α) → α
  | [], k => k []
  | x :: xs, k => forceN x fun v => forceL xs fun vs => k (v :: vs)
theorem forceL_eq {α : Type} : ∀ (l : List Nat) (k : List Nat → α), forceL l k = k l
  | [], _ => rfl
  | x :: xs, k => by rw [forceL, forceN_eq, forceL_eq xs]
def ofL (l : List Nat) : Nat → Nat := fun i => l.getD i 0
def toL (A : Nat → Nat) : List Nat := (List.range 25).map A
theorem ofL_toL {A : Nat → Nat} (i : Nat) (h : i < 25) : ofL (toL A) i = A i := by
  unfold ofL toL; rw [List.getD_eq_getElem?_getD]; simp [h]
def Al (A B : Nat → Nat) : Prop := ∀ i, i < 25 → A i = B i
theorem round_al {A B : Nat → Nat} {r : Nat} (h : Al A B) : Al (roundN A r) (roundN B r) := by
  have hc : ∀ x, x < 5 → colN A x = colN B x := fun x hx => by unfold colN; rw [h x (by omega), h (x + 5) (by omega), h (x + 10) (by omega), h (x + 15) (by omega), h (x + 20) (by omega)]
  have ht : Al (thetaN A) (thetaN B) := fun i hi => by unfold thetaN dltN; rw [h i hi, hc _ (Nat.mod_lt _ (by decide)), hc _ (Nat.mod_lt _ (by decide))]
  have hp : Al (piN (thetaN A)) (piN (thetaN B)) := fun j hj => by unfold piN; rw [ht _ (src_lt j hj).1]
  have hm : Al (mixN A) (mixN B) := fun j hj => by unfold mixN chiN; rw [hp j hj, hp (5 * (j / 5) + (j % 5 + 2) % 5) (by omega), hp (5 * (j / 5) + (j % 5 + 1) % 5) (by omega)]
  intro j hj
  unfold roundN
  rw [hm 0 (by decide), hm j hj]
def roundF {α : Type} (l : List Nat) (r : Nat) (k : List Nat → α) : α := forceL (toL (roundN (ofL l) r)) k
def perF : Nat → List Nat → List Nat
  | 0, l => l
  | n + 1, l => roundF l (rc (23 - n)) (perF n)
theorem perF_is : ∀ (n : Nat), n ≤ 24 → ∀ (l : List Nat) (A : Nat → Nat), Al (ofL l) (perN A (24 - n)) → Al (ofL (perF n l)) (permN A)
  | 0, _, l, A, h => h
  | n + 1, hn, l, A, h => by
    show Al (ofL (roundF l (rc (23 - n)) (perF n))) _
    unfold roundF
    rw [forceL_eq]
    refine perF_is n (by omega) _ A fun i hi => ?_
    rw [ofL_toL i hi]
    have e : 24 - n = (24 - (n + 1)) + 1 := by omega
    rw [e]
    show _ = roundN (perN A (24 - (n + 1))) (rc (24 - (n + 1))) i
    rw [show 24 - (n + 1) = 23 - n by omega] at h ⊢
    exact round_al h i hi
end
section
open Go.RowKit
theorem rol_bits {x k : Nat} (hx : x < 18446744073709551616) : bits BinOp.or IntKind.u64 (IntKind.u64.wrap ((x : Int) * 2 ^ k)) ((x : Int) / 2 ^ (64 - k)) = ((rolN x k : Nat) : Int) := by
  have e1 : IntKind.u64.wrap ((x : Int) * 2 ^ k) = ((x * 2 ^ k % 2 ^ 64 : Nat) : Int) := by
    rw [IntKind.wrap_u64, show (x : Int) * 2 ^ k = ((x * 2 ^ k : Nat) : Int) by rw [Int.natCast_mul, Int.natCast_pow]; rfl]
    generalize x * 2 ^ k = y
    omega
  have e2 : (x : Int) / 2 ^ (64 - k) = ((x / 2 ^ (64 - k) : Nat) : Int) := by rw [Int.natCast_ediv, Int.natCast_pow]; rfl
  have h1 : x * 2 ^ k % 2 ^ 64 < 18446744073709551616 := Nat.mod_lt _ (by decide)
  have h2 : x / 2 ^ (64 - k) < 18446744073709551616 := Nat.lt_of_le_of_lt (Nat.div_le_self _ _) hx
  rw [e1, e2]
  exact u64_or_nat _ _ h1 h2
set_option maxHeartbeats 4000000 in
set_option maxRecDepth 100000 in
theorem qc5 (x k : Nat) (hx : x < 18446744073709551616) (hk0 : 0 < k) (hk : k < 64) (w : World) :
    Calls Tryz.prog 127 #[.int .u64 (x : Int), .int .i64 (k : Int)] w fun e w' => e = .returned (.int .u64 ((rolN x k : Nat) : Int)) ∧ w = w' := by
  have hand : bits BinOp.and IntKind.u64 (k : Int) 63 = (k : Int) := by
    rw [show (63 : Int) = ((63 : Nat) : Int) from rfl, u64_and_nat k 63 (by omega) (by decide), show (63 : Nat) = 2 ^ 6 - 1 from rfl, Nat.and_two_pow_sub_one_eq_mod, Nat.mod_eq_of_lt (by omega)]
  have HB := hQz (rol_bits (k := k) hx)
  go_enter Tryz.func127, Tryz.ntmps127
  go_wp2
  go_ret
  exact ⟨ret_int HB.out, rfl⟩
set_option maxHeartbeats 4000000 in
set_option maxRecDepth 100000 in
theorem rol_any (x k : Nat) (hx : x < 18446744073709551616) (hk0 : 0 < k) (hk : k < 64) (w : World) :
    Calls Tryz.prog 54 #[.int .u64 (x : Int), .int .u64 (k : Int)] w fun e w' => e = .returned (.int .u64 ((rolN x k : Nat) : Int)) ∧ w = w' := by
  have HB := hQz (rol_bits (k := k) hx)
  have hk1 : ((k : Int) == 0) = false := by simp; omega
  go_enter Tryz.func54, Tryz.ntmps54
  go_wp2
  go_ret
  exact ⟨ret_int HB.out, rfl⟩
theorem results_tmp5 {fn : Func} {t u v x y : Tmp} (h : fn.results = #[.tmp t, .tmp u, .tmp v, .tmp x, .tmp y]) (tmps : Array Value) (P : Program) (w : World) :
    (results fn tmps).run P w = .ok (.tuple #[tmps.getD t undef, tmps.getD u undef, tmps.getD v undef, tmps.getD x undef, tmps.getD y undef]) w := by
  simp [results, h]
theorem mix_bits {a b c : Nat} (ha : a < 18446744073709551616) (hb : b < 18446744073709551616) (hc : c < 18446744073709551616) : bits BinOp.xor IntKind.u64 (a : Int) (bits BinOp.andNot IntKind.u64 (c : Int) (b : Int)) = ((a ^^^ andnN c b : Nat) : Int) := by
  rw [u64_andNot_nat c b hc hb]
  exact u64_xor_nat a _ ha (andnN_lt hc)
set_option maxHeartbeats 4000000 in
set_option maxRecDepth 100000 in
theorem mixrow_any (a b c d e : Nat) (ha : a < 18446744073709551616) (hb : b < 18446744073709551616) (hc : c < 18446744073709551616) (hd : d < 18446744073709551616) (he : e < 18446744073709551616) (w : World) :
    Calls Tryz.prog 128 #[.int .u64 (a : Int), .int .u64 (b : Int), .int .u64 (c : Int), .int .u64 (d : Int), .int .u64 (e : Int)] w fun r w' => r = .returned (.tuple #[.int .u64 ((a ^^^ andnN c b : Nat) : Int), .int .u64 ((b ^^^ andnN d c : Nat) : Int), .int .u64 ((c ^^^ andnN e d : Nat) : Int), .int .u64 ((d ^^^ andnN a e : Nat) : Int), .int .u64 ((e ^^^ andnN b a : Nat) : Int)]) ∧ w = w' := by
  have H := hQz (And.intro ha (And.intro hb (And.intro hc (And.intro hd he))))
  clear ha hb hc hd he
  go_enter Tryz.func128, Tryz.ntmps128
  go_wp2
  refine bodyPost_ret (results_tmp5 rfl _ _ _) rfl ⟨?_, rfl⟩
  obtain ⟨ha, hb, hc, hd, he⟩ := H.out
  rw [← mix_bits ha hb hc, ← mix_bits hb hc hd, ← mix_bits hc hd he, ← mix_bits hd he ha, ← mix_bits he ha hb]
  rfl
end
section
open Go.RowKit
inductive It where
  | str (l : List Nat)
  | lst (l : List It)
def be (n : Nat) : List Nat := if h : n = 0 then [] else be (n / 256) ++ [n % 256]
termination_by n
decreasing_by omega
theorem be_zero : be 0 = [] := by unfold be; simp
theorem be_pos {n : Nat} (h : 0 < n) : be n = be (n / 256) ++ [n % 256] := by rw [be, dif_neg (by omega)]
theorem be_lt (n : Nat) : ∀ x ∈ be n, x < 256 := by
  induction n using Nat.strongRecOn with
  | _ n ih =>
    intro x hx
    rcases Nat.eq_zero_or_pos n with h | h
    · subst h; rw [be_zero] at hx; simp at hx
    · rw [be_pos h] at hx
      rcases List.mem_append.1 hx with hx | hx
      · exact ih _ (by omega) x hx
      · have := List.mem_singleton.1 hx; omega
theorem be_one {n : Nat} (h0 : 0 < n) (h : n < 256) : be n = [n] := by rw [be_pos h0, show n / 256 = 0 by omega, be_zero, Nat.mod_eq_of_lt h]; rfl
def lsz (n : Nat) : Nat := (be n).length
theorem lsz_one {n : Nat} (h0 : 0 < n) (h : n < 256) : lsz n = 1 := by unfold lsz; rw [be_one h0 h]; rfl
theorem lsz_step {n : Nat} (h : 0 < n) : lsz n = lsz (n / 256) + 1 := by unfold lsz; rw [be_pos h, List.length_append]; rfl
theorem lsz_two {n : Nat} (h0 : 256 ≤ n) (h : n < 65536) : lsz n = 2 := by rw [lsz_step (by omega), lsz_one (by omega) (by omega)]
theorem lsz_three {n : Nat} (h0 : 65536 ≤ n) (h : n < 16777216) : lsz n = 3 := by rw [lsz_step (by omega), lsz_two (by omega) (by omega)]
theorem lsz_four {n : Nat} (h0 : 16777216 ≤ n) (h : n < 4294967296) : lsz n = 4 := by rw [lsz_step (by omega), lsz_three (by omega) (by omega)]
theorem lsz_le {n : Nat} (h : n < 4294967296) : lsz n ≤ 4 := by
  rcases Nat.eq_zero_or_pos n with h0 | h0
  · subst h0; unfold lsz; rw [be_zero]; simp
  rcases Nat.lt_or_ge n 256 with h1 | h1
  · rw [lsz_one h0 h1]; omega
  rcases Nat.lt_or_ge n 65536 with h2 | h2
  · rw [lsz_two h1 h2]; omega
  rcases Nat.lt_or_ge n 16777216 with h3 | h3
  · rw [lsz_three h2 h3]; omega
  · rw [lsz_four h3 h]; omega
def hd (base n : Nat) : List Nat := if n ≤ 55 then [base + n] else (base + 55 + lsz n) :: be n
def hsz (n : Nat) : Nat := if n ≤ 55 then 1 else 1 + lsz n
theorem qe6 (base n : Nat) : (hd base n).length = hsz n := by
  unfold hd hsz; split
  · rfl
  · rw [List.length_cons]; unfold lsz; omega
theorem hsz_le {n : Nat} (h : n < 4294967296) : hsz n ≤ 5 := by
  have := lsz_le h
  unfold hsz; split <;> omega
theorem hsz_pos (n : Nat) : 0 < hsz n := by unfold hsz; split <;> omega
def single (l : List Nat) : Bool := match l with | [x] => decide (x < 128) | _ => false
def encS (l : List Nat) : List Nat := if single l then l else hd 128 l.length ++ l
mutual
def enc : It → List Nat
  | .str l => encS l
  | .lst l => hd 192 (encs l).length ++ encs l
def encs : List It → List Nat
  | [] => []
  | x :: r => enc x ++ encs r
end
theorem qj6 (l m : List It) : encs (l ++ m) = encs l ++ encs m := by
  induction l with
  | nil => simp [encs]
  | cons x r ih => simp [encs, ih]
theorem encs_one (x : It) : encs [x] = enc x := by simp [encs]
theorem qf4 (l : List Nat) : enc (.str l) = encS l := by rw [enc]
theorem qi5 (l : List It) : enc (.lst l) = hd 192 (encs l).length ++ encs l := by rw [enc]
theorem encS_pos (l : List Nat) : 0 < (encS l).length := by
  unfold encS; split
  · rename_i h
    cases l with
    | nil => simp [single] at h
    | cons a r => simp
  · rw [List.length_append, qe6]; have := hsz_pos l.length; omega
theorem enc_pos (t : It) : 0 < (enc t).length := by
  cases t with
  | str l => rw [qf4]; exact encS_pos l
  | lst l => rw [qi5, List.length_append, qe6]; have := hsz_pos (encs l).length; omega
theorem encs_len (l : List It) : l.length ≤ (encs l).length := by
  induction l with
  | nil => simp
  | cons x r ih => simp only [encs, List.length_cons, List.length_append]; have := enc_pos x; omega
mutual
def dep : It → Nat
  | .str _ => 0
  | .lst l => deps l + 1
def deps : List It → Nat
  | [] => 0
  | x :: r => max (dep x) (deps r)
end
theorem qg4 (l : List Nat) : dep (.str l) = 0 := by rw [dep]
theorem dep_lst (l : List It) : dep (.lst l) = deps l + 1 := by rw [dep]
theorem deps_mem {l : List It} {x : It} (h : x ∈ l) : dep x ≤ deps l := by
  induction l with
  | nil => simp at h
  | cons y r ih =>
    rw [deps]
    rcases List.mem_cons.1 h with rfl | h
    · omega
    · have := ih h; omega
theorem deps_append (l m : List It) : deps (l ++ m) = max (deps l) (deps m) := by
  induction l with
  | nil => simp [deps]
  | cons x r ih => simp only [List.cons_append, deps, ih]; omega
theorem bitLen_pos {n : Nat} (h : 0 < n) (h64 : n < 2 ^ 64) : 0 < Lib.bitLen n := by
  rw [Lib.bitLen_half n (by omega) h64]; omega
theorem lsz_bits {n : Nat} (h0 : 0 < n) (hn : n < 4294967296) : (Lib.bitLen n + 7) / 8 = lsz n := by
  rcases Nat.lt_or_ge n 256 with h1 | h1
  · rw [lsz_one h0 h1]
    have := Lib.bitLen_le n 8 (by omega) (by omega)
    have := bitLen_pos h0 (by omega)
    omega
  rcases Nat.lt_or_ge n 65536 with h2 | h2
  · rw [lsz_two h1 h2, Lib.bitLen_shift8 n h1 (by omega)]
    have := Lib.bitLen_le (n / 256) 8 (by omega) (by omega)
    have := bitLen_pos (n := n / 256) (by omega) (by omega)
    omega
  rcases Nat.lt_or_ge n 16777216 with h3 | h3
  · rw [lsz_three h2 h3, Lib.bitLen_shift16 n h2 (by omega)]
    have := Lib.bitLen_le (n / 65536) 8 (by omega) (by omega)
    have := bitLen_pos (n := n / 65536) (by omega) (by omega)
    omega
  · rw [lsz_four h3 hn, Lib.bitLen_shift24 n h3 (by omega)]
    have := Lib.bitLen_le (n / 16777216) 8 (by omega) (by omega)
    have := bitLen_pos (n := n / 16777216) (by omega) (by omega)
    omega
theorem tab_get : ∀ i : Fin 256, ∀ h, (Lib.len8tab[i.val]'h).toNat = Lib.bitLen i.val := by decide +kernel
theorem tab_getn (i : Nat) (h : i < Lib.len8tab.size) : (Lib.len8tab[i]'h).toNat = Lib.bitLen i := tab_get ⟨i, by rw [Lib.len8tab_size] at h; exact h⟩ h
set_option maxHeartbeats 4000000 in
set_option maxRecDepth 100000 in
theorem len64_int (x : Int) (w : World) (h0 : 0 ≤ x) (h1 : x ≤ 4294967295) :
    Calls Tryz.prog 97 #[.int .u64 x] w fun e w' => e = .returned (.int .i64 ((Lib.bitLen x.toNat : Nat) : Int)) ∧ w = w' := by
  have hsz := Lib.len8tab_size
  go_enter Tryz.func97, Tryz.ntmps97
  go_wp2
  all_goals (go_ret; refine ⟨congrArg Ending.returned (congrArg (Value.int IntKind.i64) ?_), rfl⟩; simp only [tab_getn])
  all_goals first
    | (have e : (x / 65536 / 256).toNat = x.toNat / 16777216 := by omega
       have l := Lib.bitLen_le (x.toNat / 16777216) 8 (by omega) (by omega)
       simp only [e]
       have s := Lib.bitLen_shift24 x.toNat (by omega) (by omega)
       generalize Lib.bitLen (x.toNat / 16777216) = z at *
       rw [s, IntWalk.wrap64_in (z : Int) (by omega), IntWalk.wrap64_in _ (by omega)]
       omega)
    | (have e : (x / 65536).toNat = x.toNat / 65536 := by omega
       have l := Lib.bitLen_le (x.toNat / 65536) 8 (by omega) (by omega)
       simp only [e]
       have s := Lib.bitLen_shift16 x.toNat (by omega) (by omega)
       generalize Lib.bitLen (x.toNat / 65536) = z at *
       rw [s, IntWalk.wrap64_in (z : Int) (by omega), IntWalk.wrap64_in _ (by omega)]
       omega)
    | (have e : (x / 256).toNat = x.toNat / 256 := by omega
       have l := Lib.bitLen_le (x.toNat / 256) 8 (by omega) (by omega)
       simp only [e]
       have s := Lib.bitLen_shift8 x.toNat (by omega) (by omega)
       generalize Lib.bitLen (x.toNat / 256) = z at *
       rw [s, IntWalk.wrap64_in (z : Int) (by omega), IntWalk.wrap64_in _ (by omega)]
       omega)
    | (have l := Lib.bitLen_le x.toNat 8 (by omega) (by omega)
       generalize Lib.bitLen x.toNat = z at *
       first
         | (rw [IntWalk.wrap64_in (z : Int) (by omega), IntWalk.wrap64_in _ (by omega)]; omega)
         | (rw [IntWalk.wrap64_in (z : Int) (by omega), IntWalk.wrap64_in (z : Int) (by omega)]; done)
         | (simp only [IntWalk.wrap64_in (z : Int) (by omega)]; done))
set_option maxHeartbeats 1000000 in
theorem len_any (x : Nat) (w : World) (h1 : x < 4294967296) :
    Calls Tryz.prog 52 #[.int .u64 (x : Int)] w fun e w' => e = .returned (.int .i64 ((Lib.bitLen x : Nat) : Int)) ∧ w = w' := by
  have hl := len64_int (x : Int) w (by omega) (by omega)
  rw [Int.toNat_natCast] at hl
  go_enter Tryz.func52, Tryz.ntmps52
  go_wp2_with (go_at_call 97; refine hl.mono ?_; rintro e w' ⟨rfl, rfl⟩)
  go_ret
  exact ⟨rfl, rfl⟩
set_option maxHeartbeats 1000000 in
theorem lengthSize_any (n : Nat) (w : World) (h0 : 0 < n) (h1 : n < 4294967296) :
    Calls Tryz.prog 140 #[.int .i64 (n : Int)] w fun e w' => e = .returned (.int .i64 ((lsz n : Nat) : Int)) ∧ w = w' := by
  have hl := len_any n w h1
  have hb := Lib.bitLen_le n 32 (by omega) (by omega)
  have hz := hQz (lsz_bits h0 h1)
  generalize Lib.bitLen n = L at *
  go_enter Tryz.func140, Tryz.ntmps140
  go_wp2_with (go_at_call 52; refine hl.mono ?_; rintro e w' ⟨rfl, rfl⟩)
  go_ret
  refine ⟨ret_int ?_, rfl⟩
  have := hz.out
  omega
set_option maxHeartbeats 1000000 in
theorem headSize_any (n : Nat) (w : World) (h1 : n < 4294967296) :
    Calls Tryz.prog 131 #[.int .i64 (n : Int)] w fun e w' => e = .returned (.int .i64 ((hsz n : Nat) : Int)) ∧ w = w' := by
  by_cases h : n ≤ 55
  · have hz := hQz (show hsz n = 1 by unfold hsz; rw [if_pos h])
    go_enter Tryz.func131, Tryz.ntmps131
    go_wp2_with (fail)
    go_ret
    refine ⟨ret_int ?_, rfl⟩
    rw [hz.out]; rfl
  · have hz := hQz (show hsz n = 1 + lsz n by unfold hsz; rw [if_neg h])
    have hl := lengthSize_any n w (by omega) h1
    have h4 := lsz_le h1
    generalize lsz n = L at *
    go_enter Tryz.func131, Tryz.ntmps131
    go_wp2_with (go_at_call 140; refine hl.mono ?_; rintro e w' ⟨rfl, rfl⟩)
    go_ret
    refine ⟨ret_int ?_, rfl⟩
    rw [hz.out]; omega
end
section
open Go.RowKit
theorem ql7 : (Tryz.prog.info? 3).map (·.size) = some 1 := by kernel_rfl
def gro (r : Int) : Array Value := #[.int .i64 r]
set_option maxHeartbeats 1000000 in
set_option maxRecDepth 100000 in
theorem spend_any (g : Nat) (r : Int) (n : Nat) (t : TypeId) (w : World) (hr : -100000000 ≤ r ∧ r ≤ 100000000) (hn : n ≤ 100000000) (hB : Blk w g t (gro r)) :
    Calls Tryz.prog 130 #[.pointer (some ⟨g, 0, none⟩), .int .i64 (n : Int)] w fun e w' => e = .returned (.bool (decide (0 ≤ r - n))) ∧ Tch [g] w w' ∧ Blk w' g t (gro (r - n)) := by
  have hc := hB.cell (j := 0) (v := .int .i64 r) rfl
  have hf := hB.free 0
  have hset := hB.set 0 (.int .i64 (r - n))
  have HB := hQz hset
  clear hB hset
  go_enter Tryz.func130, Tryz.ntmps130
  go_wp2
  go_ret
  refine ⟨ret_bool ?_, (Tch.refl _ _).only (Only.setCell w ⟨g, 0, none⟩ _) (.inr (by simp)), HB.out⟩
  exact decide_eq_decide.2 (by omega)
set_option maxHeartbeats 1000000 in
set_option maxRecDepth 100000 in
theorem putByte_any (b n n0 x : Nat) (t : TypeId) (f : Nat → Nat) (w : World) (hn : 0 < n) (hn0 : n ≤ n0) (hm : n0 ≤ 100000000) (hx : x < 256) (hB : Blk w b t (bc n0 f)) :
    Calls Tryz.prog 132 #[.slice (some ⟨b, 0, none⟩) n n0, .int .u8 (x : Int)] w fun e w' => e = .returned (.slice (some ⟨b, 0, none⟩) (n - 1) n0) ∧ Tch [b] w w' ∧ Blk w' b t (bc n0 (wr f (n - 1) [x])) := by
  obtain ⟨m, rfl⟩ : ∃ m, n = m + 1 := ⟨n - 1, by omega⟩
  rw [Nat.add_sub_cancel]
  have hc := hB.cell (j := m) (bc_get (by omega))
  have hf := hB.free m
  have hset := hB.set m (.int .u8 x)
  rw [bc_set (by omega), ← wr_one] at hset
  have HB := hQz hset
  clear hB hset
  go_enter Tryz.func132, Tryz.ntmps132
  go_wp2
  go_ret
  exact ⟨rfl, (Tch.refl _ _).only (Only.setCell w ⟨b, m, none⟩ _) (.inr (by simp)), HB.out⟩
def PutPost (b n n0 : Nat) (t : TypeId) (f : Nat → Nat) (w : World) (l : List Nat) (e : Ending) (w' : World) : Prop :=
  e = .returned (.slice (some ⟨b, 0, none⟩) (n - l.length) n0) ∧ Tch [b] w w' ∧ Blk w' b t (bc n0 (wr f (n - l.length) l))
theorem putpost_cons {b n n0 x : Nat} {t : TypeId} {f : Nat → Nat} {w w1 w2 : World} {l : List Nat} {e : Ending} (hl : l.length < n) (hT : Tch [b] w w1)
    (h : e = .returned (.slice (some ⟨b, 0, none⟩) (n - l.length - 1) n0) ∧ Tch [b] w1 w2 ∧ Blk w2 b t (bc n0 (wr (wr f (n - l.length) l) (n - l.length - 1) [x]))) : PutPost b n n0 t f w (x :: l) e w2 := by
  have e1 : n - (x :: l).length = n - l.length - 1 := by simp; omega
  refine ⟨by rw [e1]; exact h.1, hT.trans h.2.1, ?_⟩
  have := wr_wr f (n - l.length - 1) [x] l
  rw [show n - l.length - 1 + [x].length = n - l.length by simp; omega] at this
  rw [e1]
  have h3 := h.2.2
  rw [this] at h3
  exact h3
set_option maxHeartbeats 1000000 in
set_option maxRecDepth 100000 in
theorem putHead_any (b n n0 k m : Nat) (t : TypeId) (f : Nat → Nat) (w : World) (hn : hsz m ≤ n) (hn0 : n ≤ n0) (hm : n0 ≤ 100000000) (hmm : m ≤ 100000000) (hk : k ≤ 192) (hB : Blk w b t (bc n0 f)) :
    Calls Tryz.prog 133 #[.slice (some ⟨b, 0, none⟩) n n0, .int .u8 (k : Int), .int .i64 (m : Int)] w (PutPost b n n0 t f w (hd k m)) := by
  have h1 := hsz_pos m
  by_cases h : m ≤ 55
  · have hx : ((k : Int) + (m : Int)) = ((k + m : Nat) : Int) := by omega
    have hp := (putByte_any b n n0 (k + m) t f w (by omega) hn0 hm (by omega) hB).mono (R' := PutPost b n n0 t f w (hd k m)) (fun e w' h2 => by
      have : hd k m = [k + m] := by unfold hd; rw [if_pos h]
      rw [this]
      exact ⟨h2.1, h2.2.1, h2.2.2⟩)
    rw [← hx] at hp
    have HP := hQz hp
    clear hp hB hn hn0 hm h1 hx
    go_enter Tryz.func133, Tryz.ntmps133
    go_wp2_with (go_at_call 132; refine HP.out.mono ?_; rintro e w' ⟨rfl, h2⟩)
    go_ret
    exact ⟨rfl, h2⟩
  · have hz : hsz m = 1 + lsz m := by unfold hsz; rw [if_neg h]
    have hl := lengthSize_any m w (by omega) (by omega)
    have h4 := lsz_le (n := m) (by omega)
    have hhd : hd k m = (k + 55 + lsz m) :: be m := by unfold hd; rw [if_neg h]
    have hbl : (be m).length = lsz m := rfl
    have hpos : ∀ (L : Nat) (w1 : World), L = n - lsz m → Tch [b] w w1 → Blk w1 b t (bc n0 (wr f L (be m))) → Calls Tryz.prog 132 #[.slice (some ⟨b, 0, none⟩) L n0, .int .u8 ((k : Int) + 55 + (lsz m : Int))] w1 (PutPost b n n0 t f w (hd k m)) := fun L w1 hL hT hB1 => by
      have := putByte_any b L n0 (k + 55 + lsz m) t _ w1 (by omega) (by omega) hm (by omega) hB1
      rw [show (((k + 55 + lsz m : Nat) : Nat) : Int) = (k : Int) + 55 + (lsz m : Int) by omega] at this
      refine this.mono fun e w' h2 => ?_
      rw [hhd]
      refine putpost_cons (by omega) hT ?_
      rw [hbl, ← hL]; exact h2
    have hstep : ∀ (q L : Nat) (w1 : World) (tl : List Nat), 0 < q → be m = be q ++ tl → L = n - tl.length → Tch [b] w w1 → Blk w1 b t (bc n0 (wr f L tl)) → Calls Tryz.prog 132 #[.slice (some ⟨b, 0, none⟩) L n0, .int .u8 ((q : Int) % 256)] w1 (fun e w' => e = .returned (.slice (some ⟨b, 0, none⟩) (L - 1) n0) ∧ ∃ tl, Hid (be m = be (q / 256) ++ tl) ∧ Hid (L - 1 = n - tl.length) ∧ Tch [b] w w' ∧ Blk w' b t (bc n0 (wr f (L - 1) tl))) := fun q L w1 tl hq hbe hL hT hB1 => by
      have hlen := congrArg List.length hbe
      rw [List.length_append, be_pos hq, List.length_append] at hlen
      simp only [List.length_singleton, hbl] at hlen
      have := putByte_any b L n0 (q % 256) t _ w1 (by omega) (by omega) hm (by omega) hB1
      rw [show ((q % 256 : Nat) : Int) = (q : Int) % 256 by omega] at this
      refine this.mono fun e w' h2 => ⟨h2.1, (q % 256) :: tl, hQz (by rw [hbe, be_pos hq]; simp), hQz (by simp; omega), hT.trans h2.2.1, ?_⟩
      have e3 := wr_wr f (L - 1) [q % 256] tl
      rw [show L - 1 + [q % 256].length = L by simp; omega] at e3
      have h3 := h2.2.2
      rw [e3] at h3
      exact h3
    have HP := hQz hpos
    have HS := hQz hstep
    have h0 : Tch [b] w w ∧ Blk w b t (bc n0 (wr f n [])) := ⟨Tch.refl _ _, by rw [wr_nil]; exact hB⟩
    have H0 := hQz h0
    clear hpos hstep hhd hbl h0 hB
    have HZ := hQz (And.intro hz hn)
    clear hz hn
    have hm55 : ¬ ((m : Int) ≤ 55) := by omega
    generalize hsv : lsz m = s at *
    go_enter Tryz.func133, Tryz.ntmps133
    go_wp2_with (go_at_call 140; refine hl.mono ?_; rintro e w' ⟨rfl, rfl⟩)
    clear hl
    go_loopw [0, 2] (fun sv qv wr' => ∃ (q L : Nat) (tl : List Nat), q ≤ m ∧ Hid (be m = be q ++ tl) ∧ Hid (L = n - tl.length) ∧ L ≤ n ∧ sv = .slice (some ⟨b, 0, none⟩) L n0 ∧ qv = .int .i64 (q : Int) ∧ Hid (Tch [b] w wr' ∧ Blk wr' b t (bc n0 (wr f L tl)))) (fun _ qv _ => (intOf qv).toNat)
    case atStart => exact ⟨m, n, [], Nat.le_refl _, hQz (by simp), hQz (by simp), Nat.le_refl _, rfl, rfl, H0⟩
    case round =>
      obtain ⟨q, L, tl, hq, hbe, hL, hLn, rfl, rfl, hW⟩ := hrel
      by_cases hq0 : 0 < q
      · have hc := HS.out q L _ tl hq0 hbe.out hL.out hW.out.1 hW.out.2
        have HC := hQz hc
        clear hc
        go_wp2_with (go_at_call 132; refine HC.out.mono ?_; rintro e w' ⟨rfl, tl2, h21, h22, h23, h24⟩)
        go_roundw
        case rel => exact ⟨q / 256, L - 1, tl2, by omega, h21, h22, by omega, rfl, by go_num, hQz ⟨h23, h24⟩⟩
        case measure => simp [intOf]; omega
      · obtain rfl : q = 0 := by omega
        have htl : tl = be m := by have := hbe.out; rw [be_zero, List.nil_append] at this; exact this.symm
        have hc := HP.out L _ (by rw [hL.out, htl, ← hsv]; rfl) hW.out.1 (by rw [← htl]; exact hW.out.2)
        have HC := hQz hc
        clear hc
        go_wp2_with (go_at_call 132; refine HC.out.mono ?_; rintro e w' ⟨rfl, h2⟩)
        go_ret
        exact ⟨rfl, h2⟩
end
end Go.Proofs.YtanmpcgackfpaaaGreat
