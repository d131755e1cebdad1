/- The plain mathematics of sums, differences and products, 16 bits at a time. -/
import Derived.Test.YtcdjinjeogodfaaS1
import Derived.Test.YtcdjinjeogodfaaV4
namespace Go.Proofs.Ytcdjinjeogodfaa
open Go.RowKit

/-- The carry of x + y behind k digits. -/
def cr (x y k : Nat) : Nat := (x % 2 ^ (16 * k) + y % 2 ^ (16 * k)) / 2 ^ (16 * k)
theorem cr_zero (x y : Nat) : cr x y 0 = 0 := by simp [cr, Nat.mod_one]
theorem cr_le (x y k : Nat) : cr x y k ≤ 1 := by
  unfold cr
  have hP := Nat.two_pow_pos (16 * k)
  have l1 := Nat.mod_lt x hP
  have l2 := Nat.mod_lt y hP
  have : (x % 2 ^ (16 * k) + y % 2 ^ (16 * k)) / 2 ^ (16 * k) < 2 := by rw [Nat.div_lt_iff_lt_mul hP]; omega
  omega
theorem cr_step (x y k : Nat) : cr x y (k + 1) = (cr x y k + dg x k + dg y k) / 65536 := by
  unfold cr
  rw [mod_split, mod_split, show 2 ^ (16 * (k + 1)) = 2 ^ (16 * k) * 65536 by rw [show 16 * (k + 1) = 16 * k + 16 by omega, Nat.pow_add], ← Nat.div_div_eq_div_mul]
  have hP := Nat.two_pow_pos (16 * k)
  generalize 2 ^ (16 * k) = P at *
  rw [show x % P + P * dg x k + (y % P + P * dg y k) = x % P + y % P + P * (dg x k + dg y k) by rw [Nat.mul_add]; omega, Nat.add_mul_div_left _ _ hP, Nat.add_assoc]
theorem dg_add (x y k : Nat) : dg (x + y) k = (cr x y k + dg x k + dg y k) % 65536 := by
  unfold cr dg
  have hP := Nat.two_pow_pos (16 * k)
  generalize 2 ^ (16 * k) = P at *
  have h1 := Nat.mod_add_div x P
  have h2 := Nat.mod_add_div y P
  have h3 : (x + y) / P = (x % P + y % P) / P + (x / P + y / P) := by
    conv => lhs; rw [← h1, ← h2]
    rw [show x % P + P * (x / P) + (y % P + P * (y / P)) = x % P + y % P + P * (x / P + y / P) by rw [Nat.mul_add]; omega, Nat.add_mul_div_left _ _ hP]
  rw [h3]
  omega
theorem dg_top {x y : Nat} (hx : x < M256) (hy : y < M256) : dg (x + y) 16 = cr x y 16 := by
  rw [dg_add, dg_hi (k := 16) hx (by omega), dg_hi (k := 16) hy (by omega)]
  have := cr_le x y 16
  omega
/-- The borrow of x - y behind k digits. -/
def bw (x y k : Nat) : Nat := if x % 2 ^ (16 * k) < y % 2 ^ (16 * k) then 1 else 0
theorem bw_zero (x y : Nat) : bw x y 0 = 0 := by simp [bw, Nat.mod_one]
theorem bw_le (x y k : Nat) : bw x y k ≤ 1 := by unfold bw; split <;> omega
theorem bw_sum {x y z k n : Nat} (hz : (z + y) % 2 ^ (16 * n) = x % 2 ^ (16 * n)) (hk : k ≤ n) : z % 2 ^ (16 * k) + y % 2 ^ (16 * k) = x % 2 ^ (16 * k) + 2 ^ (16 * k) * bw x y k := by
  have hd : 2 ^ (16 * k) ∣ 2 ^ (16 * n) := Nat.pow_dvd_pow 2 (by omega)
  have h1 : (z + y) % 2 ^ (16 * k) = x % 2 ^ (16 * k) := by
    rw [← Nat.mod_mod_of_dvd (z + y) hd, hz, Nat.mod_mod_of_dvd x hd]
  have hP : 0 < 2 ^ (16 * k) := Nat.two_pow_pos _
  unfold bw
  rw [Nat.add_mod] at h1
  generalize 2 ^ (16 * k) = P at *
  have l1 := Nat.mod_lt x hP
  have l2 := Nat.mod_lt y hP
  have l3 := Nat.mod_lt z hP
  generalize x % P = a at *
  generalize y % P = b at *
  generalize z % P = c at *
  by_cases h : c + b < P
  · rw [Nat.mod_eq_of_lt h] at h1
    rw [if_neg (by omega)]; omega
  · have e : (c + b) % P = c + b - P := by
      rw [Nat.mod_eq_sub_mod (by omega), Nat.mod_eq_of_lt (by omega)]
    rw [e] at h1
    rw [if_pos (by omega)]; omega
theorem bw_step {x y z k n : Nat} (hz : (z + y) % 2 ^ (16 * n) = x % 2 ^ (16 * n)) (hk : k < n) : bw x y k + dg z k + dg y k = dg x k + 65536 * bw x y (k + 1) := by
  have h1 := bw_sum hz (Nat.le_of_lt hk)
  have h2 := bw_sum hz (Nat.succ_le_of_lt hk)
  rw [Nat.succ_eq_add_one, mod_split, mod_split, mod_split, show 2 ^ (16 * (k + 1)) = 2 ^ (16 * k) * 65536 by rw [show 16 * (k + 1) = 16 * k + 16 by omega, Nat.pow_add]] at h2
  have hP : 0 < 2 ^ (16 * k) := Nat.two_pow_pos _
  generalize 2 ^ (16 * k) = P at *
  have h3 : P * (bw x y k + dg z k + dg y k) = P * (dg x k + 65536 * bw x y (k + 1)) := by
    rw [Nat.mul_add, Nat.mul_add, Nat.mul_add, ← Nat.mul_assoc]; omega
  exact Nat.eq_of_mul_eq_mul_left hP h3
/-- v with the digit number k put to s. -/
def gput (v k s : Nat) : Nat := v % 2 ^ (16 * k) + s * 2 ^ (16 * k) + v / (2 ^ (16 * k) * 65536) * (2 ^ (16 * k) * 65536)
theorem gput_spec (v k s : Nat) : gput v k s + dg v k * 2 ^ (16 * k) = v + s * 2 ^ (16 * k) := by
  have h := split3 v (2 ^ (16 * k)) 65536
  unfold gput dg
  omega
theorem gput_lt {v k s m : Nat} (hv : v < 2 ^ (16 * m)) (hk : k < m) (hs : s < 65536) : gput v k s < 2 ^ (16 * m) := by
  unfold gput
  have hQ : 0 < 2 ^ (16 * k) := Nat.two_pow_pos _
  have e : 2 ^ (16 * m) = 2 ^ (16 * k) * 65536 * 2 ^ (16 * (m - k - 1)) := by rw [show 65536 = 2 ^ 16 by rfl, ← Nat.pow_add, ← Nat.pow_add]; congr 1; omega
  have h1 := Nat.mod_lt v hQ
  have h2 : v / (2 ^ (16 * k) * 65536) < 2 ^ (16 * (m - k - 1)) := by
    rw [Nat.div_lt_iff_lt_mul (Nat.mul_pos hQ (by decide)), Nat.mul_comm, ← e]; exact hv
  have h3 : (v / (2 ^ (16 * k) * 65536) + 1) * (2 ^ (16 * k) * 65536) ≤ 2 ^ (16 * (m - k - 1)) * (2 ^ (16 * k) * 65536) := Nat.mul_le_mul_right _ h2
  rw [Nat.mul_comm (2 ^ (16 * (m - k - 1))), ← e, Nat.add_mul, Nat.one_mul] at h3
  have h4 : (s + 1) * 2 ^ (16 * k) ≤ 65536 * 2 ^ (16 * k) := Nat.mul_le_mul_right _ hs
  rw [Nat.add_mul, Nat.one_mul, Nat.mul_comm 65536] at h4
  omega
theorem dg_of_mod {x y i : Nat} (h : x % 2 ^ (16 * (i + 1)) = y % 2 ^ (16 * (i + 1))) : dg x i = dg y i := by
  rw [← dg_mod_lo (show i < i + 1 by omega), h, dg_mod_lo (by omega)]
theorem dg_gput (v k s i : Nat) (hs : s < 65536) : dg (gput v k s) i = if i = k then s else dg v i := by
  have hQ : 0 < 2 ^ (16 * k) := Nat.two_pow_pos _
  by_cases hk : i = k
  · subst hk
    rw [if_pos rfl]
    unfold dg gput
    rw [aux1, Nat.add_mul_div_left _ _ hQ, Nat.div_eq_of_lt (Nat.mod_lt _ hQ), Nat.zero_add, Nat.add_mul_mod_self_left, Nat.mod_eq_of_lt hs]
  · rw [if_neg hk]
    have sp := gput_spec v k s
    rcases Nat.lt_or_ge i k with hlt | hge
    · apply dg_of_mod
      have e : 2 ^ (16 * k) = 2 ^ (16 * (i + 1)) * 2 ^ (16 * (k - i - 1)) := by rw [← Nat.pow_add]; congr 1; omega
      have h1 := congrArg (· % 2 ^ (16 * (i + 1))) sp
      simp only [e, Nat.mul_left_comm _ (2 ^ (16 * (i + 1))), Nat.add_mul_mod_self_left] at h1
      exact h1
    · unfold dg
      have e : 2 ^ (16 * i) = 2 ^ (16 * k) * 65536 * 2 ^ (16 * (i - k - 1)) := by rw [show 65536 = 2 ^ 16 by rfl, ← Nat.pow_add, ← Nat.pow_add]; congr 1; omega
      rw [e, ← Nat.div_div_eq_div_mul, ← Nat.div_div_eq_div_mul v]
      have h4 : (s + 1) * 2 ^ (16 * k) ≤ 65536 * 2 ^ (16 * k) := Nat.mul_le_mul_right _ hs
      rw [Nat.add_mul, Nat.one_mul, Nat.mul_comm 65536] at h4
      have h1 := Nat.mod_lt v hQ
      have : gput v k s / (2 ^ (16 * k) * 65536) = v / (2 ^ (16 * k) * 65536) := by
        unfold gput
        rw [Nat.add_mul_div_right _ _ (Nat.mul_pos hQ (by decide)), Nat.div_eq_of_lt (by omega), Nat.zero_add]
      rw [this]
theorem row_put {n v k s : Nat} (h : k < n) (hs : s < 65536) : (rowd n v).setIfInBounds k (.int .i64 (s : Int)) = rowd n (gput v k s) := by
  rw [rf_set h]
  exact rf_congr fun i _ => (dg_gput v k s i hs).symm
/-- One digit of x times one digit of y. -/
theorem gmul_step {x y i j v c lo hi : Nat} (hT : lo + hi * 65536 = dg x i * dg y j + dg v (i + j) + c)
    (h : v + c * 2 ^ (16 * (i + j)) = x % 2 ^ (16 * i) * y + dg x i * (y % 2 ^ (16 * j)) * 2 ^ (16 * i)) :
    gput v (i + j) lo + hi * 2 ^ (16 * (i + (j + 1))) = x % 2 ^ (16 * i) * y + dg x i * (y % 2 ^ (16 * (j + 1))) * 2 ^ (16 * i) := by
  have sp := gput_spec v (i + j) lo
  have e1 : 2 ^ (16 * (i + (j + 1))) = 65536 * 2 ^ (16 * (i + j)) := by rw [show 16 * (i + (j + 1)) = 16 + 16 * (i + j) by omega, Nat.pow_add]
  have e2 : 2 ^ (16 * (i + j)) = 2 ^ (16 * j) * 2 ^ (16 * i) := by rw [show 16 * (i + j) = 16 * j + 16 * i by omega, Nat.pow_add]
  rw [mod_split, e1]
  generalize x % 2 ^ (16 * i) * y = S at *
  generalize dg x i = xi at *
  generalize dg y j = yj at *
  generalize dg v (i + j) = pk at *
  generalize y % 2 ^ (16 * j) = yl at *
  rw [e2] at *
  generalize 2 ^ (16 * j) = J at *
  generalize 2 ^ (16 * i) = I at *
  clear e1 e2
  grind
theorem gmul_row {x y i : Nat} (hy : y < M256) : x % 2 ^ (16 * i) * y + dg x i * (y % 2 ^ (16 * 16)) * 2 ^ (16 * i) = x % 2 ^ (16 * (i + 1)) * y := by
  rw [show y % 2 ^ (16 * 16) = y from Nat.mod_eq_of_lt hy, mod_split]
  generalize x % 2 ^ (16 * i) = A
  generalize dg x i = xi
  generalize 2 ^ (16 * i) = I
  grind
theorem gmul_lt {x y i : Nat} (hy : y < M256) : x % 2 ^ (16 * i) * y < 2 ^ (16 * (i + 16)) := by
  have h1 := Nat.mod_lt x (Nat.two_pow_pos (16 * i))
  have hM : M256 = 2 ^ (16 * 16) := rfl
  rw [show 16 * (i + 16) = 16 * i + 16 * 16 by omega, Nat.pow_add, ← hM]
  generalize M256 = M at *
  exact Nat.mul_lt_mul'' h1 hy
theorem word_step2 {x k : Nat} (hk : k < 16) {u v : Int} (hu : u = ((byt x (31 - 2 * k) : Nat) : Int)) (hv : v = ((byt x (30 - 2 * k) : Nat) : Int)) :
    ((wf fun j => if 31 < j + 2 * k then byt x j else byt 0 j).setIfInBounds (31 - 2 * k) (.int .u8 u)).setIfInBounds (30 - 2 * k) (.int .u8 v) = wf fun j => if 31 < j + 2 * (k + 1) then byt x j else byt 0 j := by
  rw [hu, hv, wf_set (by omega), wf_set (by omega)]
  refine wf_congr fun i hi => ?_
  by_cases h1 : i = 30 - 2 * k
  · rw [if_pos h1, if_pos (by omega), h1]
  · rw [if_neg h1]
    by_cases h2 : i = 31 - 2 * k
    · rw [if_pos h2, if_pos (by omega), h2]
    · rw [if_neg h2]
      by_cases h3 : 31 < i + 2 * k
      · rw [if_pos h3, if_pos (by omega)]
      · rw [if_neg h3, if_neg (by omega)]
/-- A list of digits. -/
def rl (n x : Nat) : List Value := (List.range n).map fun i => Value.int .i64 ((dg x i : Nat) : Int)
theorem rl_succ (n x : Nat) : rl (n + 1) x = rl n x ++ [.int .i64 ((dg x n : Nat) : Int)] := by simp [rl, List.range_succ]
theorem rl_get {n x i : Nat} (h : i < n) : (rl n x)[i]? = some (.int .i64 ((dg x i : Nat) : Int)) := by simp [rl, h]
end Go.Proofs.Ytcdjinjeogodfaa
