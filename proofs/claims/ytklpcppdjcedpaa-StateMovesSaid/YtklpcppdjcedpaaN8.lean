/- The document's Int on words of bytes. -/
import Derived.Test.YtklpcppdjcedpaaN5
set_option linter.unusedVariables false
set_option linter.unusedSimpArgs false
namespace Go.Proofs.Ytklpcppdjcedpaa
open Go.RowKit

theorem foldl_bval (W : List Nat) : ∀ a, W.foldl (fun a x => a * 256 + x) a = a * 256 ^ W.length + bval W := by
  induction W with
  | nil => intro a; simp [bval]
  | cons x r ih =>
    intro a
    rw [List.foldl_cons, ih, show bval (x :: r) = r.foldl (fun a x => a * 256 + x) (0 * 256 + x) from rfl, ih, List.length_cons, Nat.pow_succ, Nat.zero_mul, Nat.zero_add, Nat.add_mul, Nat.add_assoc, Nat.mul_assoc, Nat.mul_comm 256]
theorem bval_cons (x : Nat) (r : List Nat) : bval (x :: r) = x * 256 ^ r.length + bval r := by
  rw [show bval (x :: r) = r.foldl (fun a x => a * 256 + x) (0 * 256 + x) from rfl, foldl_bval, Nat.zero_mul, Nat.zero_add]
theorem bval_lt : ∀ (W : List Nat), (∀ x ∈ W, x < 256) → bval W < 256 ^ W.length
  | [], _ => by simp [bval]
  | x :: r, h => by
    have h1 := bval_lt r fun y hy => h y (List.mem_cons_of_mem _ hy)
    have h2 := h x List.mem_cons_self
    rw [bval_cons, List.length_cons, Nat.pow_succ]
    have h3 : x * 256 ^ r.length ≤ 255 * 256 ^ r.length := Nat.mul_le_mul_right _ (by omega)
    omega
theorem bval_digit : ∀ (W : List Nat), (∀ x ∈ W, x < 256) → ∀ i, i < W.length → bval W / 256 ^ (W.length - 1 - i) % 256 = W.getD i 0
  | [], _, i, hi => by simp at hi
  | x :: r, h, 0, _ => by
    have h1 := bval_lt r fun y hy => h y (List.mem_cons_of_mem _ hy)
    have h2 := h x List.mem_cons_self
    rw [bval_cons, List.length_cons, Nat.add_sub_cancel, Nat.sub_zero, Nat.mul_comm, Nat.mul_add_div (Nat.pow_pos (by decide)), Nat.div_eq_of_lt h1, Nat.add_zero, Nat.mod_eq_of_lt h2]; rfl
  | x :: r, h, i + 1, hi => by
    have hi' : i < r.length := by simpa using hi
    have h1 := bval_digit r (fun y hy => h y (List.mem_cons_of_mem _ hy)) i hi'
    rw [bval_cons, List.length_cons, Nat.add_sub_cancel, show r.length - (i + 1) = r.length - 1 - i by omega]
    have e : x * 256 ^ r.length = 256 ^ (r.length - 1 - i) * (256 * (x * 256 ^ i)) := by
      have : r.length = (r.length - 1 - i) + 1 + i := by omega
      conv => lhs; rw [this, Nat.pow_add, Nat.pow_add]
      rw [Nat.pow_one, Nat.mul_left_comm x, Nat.mul_assoc]
    rw [e, Nat.mul_add_div (Nat.pow_pos (by decide)), Nat.mul_add_mod, h1]; rfl
/-- The byte of x with the number i, the highest one being 0. -/
def byt (x i : Nat) : Nat := x / 2 ^ (8 * (31 - i)) % 256
theorem byt_lt (x i : Nat) : byt x i < 256 := Nat.mod_lt _ (by omega)
theorem byt_bval {W : List Nat} (hn : W.length = 32) (hl : ∀ x ∈ W, x < 256) {i : Nat} (hi : i < 32) : W.getD i 0 = byt (bval W) i := by
  rw [← bval_digit W hl i (by omega), hn]
  unfold byt
  rw [Nat.pow_mul]
theorem wv_byt {W : List Nat} (hn : W.length = 32) (hl : ∀ x ∈ W, x < 256) : wv W = bc 32 (byt (bval W)) := bc_congr fun i hi => byt_bval hn hl hi
theorem bval_top {W : List Nat} (hn : W.length = 32) (hl : ∀ x ∈ W, x < 256) : bval W < 2 ^ (8 * (32 - 0)) := by
  have := bval_lt W hl
  rw [hn] at this
  exact this
theorem bits_step {x k : Nat} (hk : k < 32) (hx : x < 2 ^ (8 * (32 - k))) : x / 2 ^ (8 * (31 - k)) = byt x k := by
  unfold byt
  rw [Nat.mod_eq_of_lt]
  rw [Nat.div_lt_iff_lt_mul (Nat.two_pow_pos _), show 256 = 2 ^ 8 by rfl, ← Nat.pow_add, show 8 + 8 * (31 - k) = 8 * (32 - k) by omega]
  exact hx
theorem bits_zero {x k : Nat} (hk : k < 32) (hx : x < 2 ^ (8 * (32 - k))) (h : byt x k = 0) : x < 2 ^ (8 * (32 - (k + 1))) := by
  have e := bits_step hk hx
  rw [h, Nat.div_eq_zero_iff] at e
  rcases e with e | e
  · exact absurd e (Nat.ne_of_gt (Nat.two_pow_pos _))
  · rw [show 32 - (k + 1) = 31 - k by omega]; exact e
theorem int_or_nat (a b : Nat) (ha : a < 9223372036854775808) (hb : b < 9223372036854775808) : bits BinOp.or IntKind.i64 (a : Int) (b : Int) = ((a ||| b : Nat) : Int) := by
  have hl : a ||| b < 2 ^ 63 := Nat.or_lt_two_pow (n := 63) (by omega) (by omega)
  have key : (BitVec.ofInt 64 (a : Int) ||| BitVec.ofInt 64 (b : Int)).toNat = a ||| b := by
    rw [BitVec.toNat_or, BitVec.toNat_ofInt, BitVec.toNat_ofInt]
    congr 1 <;> omega
  show IntKind.i64.wrap ((BitVec.ofInt 64 (a : Int) ||| BitVec.ofInt 64 (b : Int)).toNat : Nat) = _
  rw [key, IntKind.wrap_i64]
  omega
theorem or_joined {a b k : Nat} (hb : b < 2 ^ k) : a * 2 ^ k ||| b = a * 2 ^ k + b := by
  rw [← Nat.shiftLeft_eq, Nat.shiftLeft_add_eq_or_of_lt hb]
theorem low_byte {x i : Nat} (hx : x < 2 ^ 64) (hi : i < 24) : byt x i = 0 := by
  unfold byt
  rw [Nat.div_eq_of_lt (Nat.lt_of_lt_of_le hx (Nat.pow_le_pow_right (by decide) (by omega)))]
theorem byte_or {x k : Nat} (hk : k < 32) : x / 2 ^ (8 * (32 - k)) * 256 + byt x k = x / 2 ^ (8 * (32 - (k + 1))) := by
  unfold byt
  rw [show 8 * (32 - k) = 8 * (31 - k) + 8 by omega, show 32 - (k + 1) = 31 - k by omega, Nat.pow_add, ← Nat.div_div_eq_div_mul]
  generalize x / 2 ^ (8 * (31 - k)) = y
  rw [show 2 ^ 8 = 256 by rfl]
  omega
theorem or_byteN {a b : Nat} (ha : a * 256 + b < 9223372036854775808) (hb : b < 256) : bits BinOp.or IntKind.i64 ((a : Int) * 256) (b : Int) = ((a * 256 + b : Nat) : Int) := by
  have := int_or_nat (a * 256) b (Nat.lt_of_le_of_lt (Nat.le_add_right _ _) ha) (Nat.lt_of_lt_of_le hb (by decide))
  rw [show a * 256 ||| b = a * 256 + b from or_joined (k := 8) hb] at this
  rw [← this, Int.natCast_mul]; rfl
theorem top24 {x : Nat} (hx : x < 2 ^ 64) : byt x 24 = x / 2 ^ 56 := by
  unfold byt
  rw [show 8 * (31 - 24) = 56 by rfl, Nat.mod_eq_of_lt]
  refine Nat.div_lt_of_lt_mul ?_
  rw [show 2 ^ 56 * 256 = 2 ^ 64 by decide]; exact hx
end Go.Proofs.Ytklpcppdjcedpaa
