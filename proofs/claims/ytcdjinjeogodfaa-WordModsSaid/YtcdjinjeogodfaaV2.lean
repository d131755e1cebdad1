/- The plain mathematics of a word's bytes. -/
import Derived.Test.YtcdjinjeogodfaaV
namespace Go.Proofs.Ytcdjinjeogodfaa

/-- How many words there are. -/
def M256 : Nat := 2 ^ 256
/-- The byte of x with the number i, the highest one being 0. -/
def byt (x i : Nat) : Nat := x / 2 ^ (8 * (31 - i)) % 256
/-- 32 bytes, as they are told. -/
def wf (f : Nat → Nat) : Array Value := ((List.range 32).map fun i => Value.int .u8 ((f i : Nat) : Int)).toArray
/-- A word's 32 bytes, the highest first. -/
abbrev wcells (x : Nat) : Array Value := wf (byt x)
theorem wf_size (f : Nat → Nat) : (wf f).size = 32 := by simp [wf]
theorem wf_get {f : Nat → Nat} {i : Nat} (h : i < 32) : (wf f)[i]? = some (Value.int .u8 ((f i : Nat) : Int)) := by simp [wf, h]
theorem wf_none {f : Nat → Nat} {i : Nat} (h : 32 ≤ i) : (wf f)[i]? = none := by rw [Array.getElem?_eq_none]; rw [wf_size]; exact h
theorem wf_set {f : Nat → Nat} {k v : Nat} (h : k < 32) : (wf f).setIfInBounds k (.int .u8 (v : Int)) = wf (fun i => if i = k then v else f i) := by
  apply Array.ext_getElem?
  intro i
  rw [Array.getElem?_setIfInBounds]
  by_cases hi : i < 32
  · rw [wf_get hi, wf_get hi]
    by_cases hk : k = i
    · subst hk; simp [wf_size, h]
    · rw [if_neg hk, if_neg (fun e => hk e.symm)]
  · rw [wf_none (by omega), wf_none (by omega), if_neg (by omega)]
theorem wf_congr {f g : Nat → Nat} (h : ∀ i, i < 32 → f i = g i) : wf f = wf g := by
  apply Array.ext_getElem?
  intro i
  by_cases hi : i < 32
  · rw [wf_get hi, wf_get hi, h i hi]
  · rw [wf_none (by omega), wf_none (by omega)]
theorem byt_lt (x i : Nat) : byt x i < 256 := Nat.mod_lt _ (by omega)
theorem byt_testBit (x i j : Nat) : (byt x i).testBit j = (decide (j < 8) && x.testBit (8 * (31 - i) + j)) := by
  unfold byt
  rw [show 256 = 2 ^ 8 by rfl, Nat.testBit_mod_two_pow, Nat.testBit_div_two_pow]
  congr 2; omega
theorem byt_and (x y i : Nat) : byt x i &&& byt y i = byt (x &&& y) i := by
  apply Nat.eq_of_testBit_eq; intro j
  simp only [Nat.testBit_and, byt_testBit]
  cases decide (j < 8) <;> simp
theorem byt_or (x y i : Nat) : byt x i ||| byt y i = byt (x ||| y) i := by
  apply Nat.eq_of_testBit_eq; intro j
  simp only [Nat.testBit_or, byt_testBit]
  cases decide (j < 8) <;> simp
theorem byt_xor (x y i : Nat) : byt x i ^^^ byt y i = byt (x ^^^ y) i := by
  apply Nat.eq_of_testBit_eq; intro j
  simp only [Nat.testBit_xor, byt_testBit]
  cases decide (j < 8) <;> simp
theorem byt_not {x i : Nat} (hx : x < M256) (hi : i < 32) : 255 - byt x i = byt (M256 - (x + 1)) i := by
  unfold M256 at *
  apply Nat.eq_of_testBit_eq; intro j
  have h := byt_lt x i
  rw [show 255 - byt x i = 2 ^ 8 - (byt x i + 1) by omega, Nat.testBit_two_pow_sub_succ (by omega), byt_testBit, byt_testBit, Nat.testBit_two_pow_sub_succ hx]
  by_cases hj : j < 8
  · have : 8 * (31 - i) + j < 256 := by omega
    simp [hj, this]
  · simp [hj]
/-- Two words of the same bytes are one. -/
theorem eq_of_byt {x y : Nat} (hx : x < M256) (hy : y < M256) (h : ∀ i, i < 32 → byt x i = byt y i) : x = y := by
  apply Nat.eq_of_testBit_eq
  intro j
  by_cases hj : j < 256
  · have e := congrArg (·.testBit (j % 8)) (h (31 - j / 8) (by omega))
    simp only [byt_testBit] at e
    have hj8 : j % 8 < 8 := Nat.mod_lt _ (by omega)
    have hq : 8 * (31 - (31 - j / 8)) + j % 8 = j := by omega
    simpa [hj8, hq] using e
  · have h1 : x < 2 ^ j := Nat.lt_of_lt_of_le hx (Nat.pow_le_pow_right (by omega) (by omega))
    have h2 : y < 2 ^ j := Nat.lt_of_lt_of_le hy (Nat.pow_le_pow_right (by omega) (by omega))
    rw [Nat.testBit_lt_two_pow h1, Nat.testBit_lt_two_pow h2]
theorem wcells_inj {x y : Nat} (hx : x < M256) (hy : y < M256) (h : wcells x = wcells y) : x = y := by
  refine eq_of_byt hx hy fun i hi => ?_
  have e := congrArg (·[i]?) h
  simp only [wf_get hi, Option.some.injEq, Value.int.injEq, true_and] at e
  exact_mod_cast e
/-- The limb of a row of limbs that a byte lies in. -/
theorem byt_limb {x k j : Nat} (hk : k < 4) (hj : j < 8) : byt x (24 - 8 * k + j) = (x / 2 ^ (64 * k) % 2 ^ 64) / 2 ^ (8 * (7 - j)) % 256 := by
  apply Nat.eq_of_testBit_eq; intro i
  rw [byt_testBit, show 256 = 2 ^ 8 by rfl, Nat.testBit_mod_two_pow, Nat.testBit_div_two_pow, Nat.testBit_mod_two_pow, Nat.testBit_div_two_pow]
  by_cases hi : i < 8
  · have h1 : i + 8 * (7 - j) < 64 := by omega
    have h2 : 8 * (31 - (24 - 8 * k + j)) + i = i + 8 * (7 - j) + 64 * k := by omega
    simp [hi, h1, h2]
  · simp [hi]
theorem byt_mod_lo {x k i : Nat} (h : 31 - i < 8 * k) : byt (x % 2 ^ (64 * k)) i = byt x i := by
  apply Nat.eq_of_testBit_eq; intro j
  rw [byt_testBit, byt_testBit, Nat.testBit_mod_two_pow]
  by_cases hj : j < 8
  · have : 8 * (31 - i) + j < 64 * k := by omega
    simp [hj, this]
  · simp [hj]
theorem byt_mod_hi {x k i : Nat} (h : 8 * k ≤ 31 - i) : byt (x % 2 ^ (64 * k)) i = 0 := by
  apply Nat.eq_of_testBit_eq; intro j
  rw [byt_testBit, Nat.testBit_mod_two_pow, Nat.zero_testBit]
  by_cases hj : j < 8
  · have : ¬ 8 * (31 - i) + j < 64 * k := by omega
    simp [this]
  · simp [hj]
/-- Eight bytes are a limb. -/
theorem limb_of_bytes (y : Nat) (hy : y < 2 ^ 64) :
    y / 2 ^ 56 % 256 * 2 ^ 56 + y / 2 ^ 48 % 256 * 2 ^ 48 + y / 2 ^ 40 % 256 * 2 ^ 40 + y / 2 ^ 32 % 256 * 2 ^ 32 + y / 2 ^ 24 % 256 * 2 ^ 24 + y / 2 ^ 16 % 256 * 2 ^ 16 + y / 2 ^ 8 % 256 * 2 ^ 8 + y % 256 = y := by
  omega
end Go.Proofs.Ytcdjinjeogodfaa
