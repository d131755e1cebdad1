/- Items and their bytes, as plain mathematics; how many bytes a length has. -/
import Derived.Test.YthchmnhoombecaaGreatG1
import Derived.Test.YthchmnhoombecaaGreatB0
import Derived.Lib.BitFns
namespace Go.Proofs.YthchmnhoombecaaGreat
open Go.RowKit

/-- An item: bytes, or a list of items. -/
inductive It where
  | str (l : List Nat)
  | lst (l : List It)
/-- A number's bytes, without leading noughts. -/
def be (n : Nat) : List Nat := if h : n = 0 then [] else be (n / 256) ++ [n % 256]
termination_by n
decreasing_by omega
theorem be_zero : be 0 = [] := by unfold be; simp
theorem be_pos {n : Nat} (h : 0 < n) : be n = be (n / 256) ++ [n % 256] := by rw [be, dif_neg (by omega)]
theorem be_lt (n : Nat) : ∀ x ∈ be n, x < 256 := by
  induction n using Nat.strongRecOn with
  | _ n ih =>
    intro x hx
    rcases Nat.eq_zero_or_pos n with h | h
    · subst h; rw [be_zero] at hx; simp at hx
    · rw [be_pos h] at hx
      rcases List.mem_append.1 hx with hx | hx
      · exact ih _ (by omega) x hx
      · have := List.mem_singleton.1 hx; omega
theorem be_one {n : Nat} (h0 : 0 < n) (h : n < 256) : be n = [n] := by rw [be_pos h0, show n / 256 = 0 by omega, be_zero, Nat.mod_eq_of_lt h]; rfl
/-- How many bytes these are. -/
def lsz (n : Nat) : Nat := (be n).length
theorem lsz_one {n : Nat} (h0 : 0 < n) (h : n < 256) : lsz n = 1 := by unfold lsz; rw [be_one h0 h]; rfl
theorem lsz_step {n : Nat} (h : 0 < n) : lsz n = lsz (n / 256) + 1 := by unfold lsz; rw [be_pos h, List.length_append]; rfl
theorem lsz_two {n : Nat} (h0 : 256 ≤ n) (h : n < 65536) : lsz n = 2 := by rw [lsz_step (by omega), lsz_one (by omega) (by omega)]
theorem lsz_three {n : Nat} (h0 : 65536 ≤ n) (h : n < 16777216) : lsz n = 3 := by rw [lsz_step (by omega), lsz_two (by omega) (by omega)]
theorem lsz_four {n : Nat} (h0 : 16777216 ≤ n) (h : n < 4294967296) : lsz n = 4 := by rw [lsz_step (by omega), lsz_three (by omega) (by omega)]
theorem lsz_le {n : Nat} (h : n < 4294967296) : lsz n ≤ 4 := by
  rcases Nat.eq_zero_or_pos n with h0 | h0
  · subst h0; unfold lsz; rw [be_zero]; simp
  rcases Nat.lt_or_ge n 256 with h1 | h1
  · rw [lsz_one h0 h1]; omega
  rcases Nat.lt_or_ge n 65536 with h2 | h2
  · rw [lsz_two h1 h2]; omega
  rcases Nat.lt_or_ge n 16777216 with h3 | h3
  · rw [lsz_three h2 h3]; omega
  · rw [lsz_four h3 h]; omega
theorem lsz_pos {n : Nat} (h : 0 < n) : 0 < lsz n := by rw [lsz_step h]; omega
/-- The head of n bytes. -/
def hd (base n : Nat) : List Nat := if n ≤ 55 then [base + n] else (base + 55 + lsz n) :: be n
def hsz (n : Nat) : Nat := if n ≤ 55 then 1 else 1 + lsz n
theorem hd_length (base n : Nat) : (hd base n).length = hsz n := by
  unfold hd hsz; split
  · rfl
  · rw [List.length_cons]; unfold lsz; omega
theorem hsz_le {n : Nat} (h : n < 4294967296) : hsz n ≤ 5 := by
  have := lsz_le h
  unfold hsz; split <;> omega
theorem hsz_pos (n : Nat) : 0 < hsz n := by unfold hsz; split <;> omega
def single (l : List Nat) : Bool := match l with | [x] => decide (x < 128) | _ => false
/-- The bytes of an item. -/
def encS (l : List Nat) : List Nat := if single l then l else hd 128 l.length ++ l
mutual
def enc : It → List Nat
  | .str l => encS l
  | .lst l => hd 192 (encs l).length ++ encs l
def encs : List It → List Nat
  | [] => []
  | x :: r => enc x ++ encs r
end
theorem encs_append (l m : List It) : encs (l ++ m) = encs l ++ encs m := by
  induction l with
  | nil => simp [encs]
  | cons x r ih => simp [encs, ih]
theorem encs_one (x : It) : encs [x] = enc x := by simp [encs]
theorem enc_str (l : List Nat) : enc (.str l) = encS l := by rw [enc]
theorem enc_lst (l : List It) : enc (.lst l) = hd 192 (encs l).length ++ encs l := by rw [enc]
theorem encS_pos (l : List Nat) : 0 < (encS l).length := by
  unfold encS; split
  · rename_i h
    cases l with
    | nil => simp [single] at h
    | cons a r => simp
  · rw [List.length_append, hd_length]; have := hsz_pos l.length; omega
theorem enc_pos (t : It) : 0 < (enc t).length := by
  cases t with
  | str l => rw [enc_str]; exact encS_pos l
  | lst l => rw [enc_lst, List.length_append, hd_length]; have := hsz_pos (encs l).length; omega
theorem encs_len (l : List It) : l.length ≤ (encs l).length := by
  induction l with
  | nil => simp
  | cons x r ih => simp only [encs, List.length_cons, List.length_append]; have := enc_pos x; omega
mutual
/-- How deep lists stand in an item. -/
def dep : It → Nat
  | .str _ => 0
  | .lst l => deps l + 1
def deps : List It → Nat
  | [] => 0
  | x :: r => max (dep x) (deps r)
end
theorem dep_str (l : List Nat) : dep (.str l) = 0 := by rw [dep]
theorem dep_lst (l : List It) : dep (.lst l) = deps l + 1 := by rw [dep]
theorem deps_mem {l : List It} {x : It} (h : x ∈ l) : dep x ≤ deps l := by
  induction l with
  | nil => simp at h
  | cons y r ih =>
    rw [deps]
    rcases List.mem_cons.1 h with rfl | h
    · omega
    · have := ih h; omega
theorem deps_append (l m : List It) : deps (l ++ m) = max (deps l) (deps m) := by
  induction l with
  | nil => simp [deps]
  | cons x r ih => simp only [List.cons_append, deps, ih]; omega
theorem bitLen_pos {n : Nat} (h : 0 < n) (h64 : n < 2 ^ 64) : 0 < Lib.bitLen n := by
  rw [Lib.bitLen_half n (by omega) h64]; omega
theorem lsz_bits {n : Nat} (h0 : 0 < n) (hn : n < 4294967296) : (Lib.bitLen n + 7) / 8 = lsz n := by
  rcases Nat.lt_or_ge n 256 with h1 | h1
  · rw [lsz_one h0 h1]
    have := Lib.bitLen_le n 8 (by omega) (by omega)
    have := bitLen_pos h0 (by omega)
    omega
  rcases Nat.lt_or_ge n 65536 with h2 | h2
  · rw [lsz_two h1 h2, Lib.bitLen_shift8 n h1 (by omega)]
    have := Lib.bitLen_le (n / 256) 8 (by omega) (by omega)
    have := bitLen_pos (n := n / 256) (by omega) (by omega)
    omega
  rcases Nat.lt_or_ge n 16777216 with h3 | h3
  · rw [lsz_three h2 h3, Lib.bitLen_shift16 n h2 (by omega)]
    have := Lib.bitLen_le (n / 65536) 8 (by omega) (by omega)
    have := bitLen_pos (n := n / 65536) (by omega) (by omega)
    omega
  · rw [lsz_four h3 hn, Lib.bitLen_shift24 n h3 (by omega)]
    have := Lib.bitLen_le (n / 16777216) 8 (by omega) (by omega)
    have := bitLen_pos (n := n / 16777216) (by omega) (by omega)
    omega
theorem tab_get : ∀ i : Fin 256, ∀ h, (Lib.len8tab[i.val]'h).toNat = Lib.bitLen i.val := by decide +kernel
theorem tab_getn (i : Nat) (h : i < Lib.len8tab.size) : (Lib.len8tab[i]'h).toNat = Lib.bitLen i := tab_get ⟨i, by rw [Lib.len8tab_size] at h; exact h⟩ h
set_option maxHeartbeats 4000000 in
set_option maxRecDepth 100000 in
theorem len64_int (x : Int) (w : World) (h0 : 0 ≤ x) (h1 : x ≤ 4294967295) :
    Calls Tryz.prog 81 #[.int .u64 x] w fun e w' => e = .returned (.int .i64 ((Lib.bitLen x.toNat : Nat) : Int)) ∧ w = w' := by
  have hsz := Lib.len8tab_size
  go_enter Tryz.func81, Tryz.ntmps81
  go_wp2
  all_goals (go_ret; refine ⟨congrArg Ending.returned (congrArg (Value.int IntKind.i64) ?_), rfl⟩; simp only [tab_getn])
  all_goals first
    | (have e : (x / 65536 / 256).toNat = x.toNat / 16777216 := by omega
       have l := Lib.bitLen_le (x.toNat / 16777216) 8 (by omega) (by omega)
       simp only [e]
       have s := Lib.bitLen_shift24 x.toNat (by omega) (by omega)
       generalize Lib.bitLen (x.toNat / 16777216) = z at *
       rw [s, IntWalk.wrap64_in (z : Int) (by omega), IntWalk.wrap64_in _ (by omega)]
       omega)
    | (have e : (x / 65536).toNat = x.toNat / 65536 := by omega
       have l := Lib.bitLen_le (x.toNat / 65536) 8 (by omega) (by omega)
       simp only [e]
       have s := Lib.bitLen_shift16 x.toNat (by omega) (by omega)
       generalize Lib.bitLen (x.toNat / 65536) = z at *
       rw [s, IntWalk.wrap64_in (z : Int) (by omega), IntWalk.wrap64_in _ (by omega)]
       omega)
    | (have e : (x / 256).toNat = x.toNat / 256 := by omega
       have l := Lib.bitLen_le (x.toNat / 256) 8 (by omega) (by omega)
       simp only [e]
       have s := Lib.bitLen_shift8 x.toNat (by omega) (by omega)
       generalize Lib.bitLen (x.toNat / 256) = z at *
       rw [s, IntWalk.wrap64_in (z : Int) (by omega), IntWalk.wrap64_in _ (by omega)]
       omega)
    | (have l := Lib.bitLen_le x.toNat 8 (by omega) (by omega)
       generalize Lib.bitLen x.toNat = z at *
       first
         | (rw [IntWalk.wrap64_in (z : Int) (by omega), IntWalk.wrap64_in _ (by omega)]; omega)
         | (rw [IntWalk.wrap64_in (z : Int) (by omega), IntWalk.wrap64_in (z : Int) (by omega)]; done)
         | (simp only [IntWalk.wrap64_in (z : Int) (by omega)]; done))
set_option maxHeartbeats 1000000 in
theorem len_any (x : Nat) (w : World) (h1 : x < 4294967296) :
    Calls Tryz.prog 55 #[.int .u64 (x : Int)] w fun e w' => e = .returned (.int .i64 ((Lib.bitLen x : Nat) : Int)) ∧ w = w' := by
  have hl := len64_int (x : Int) w (by omega) (by omega)
  rw [Int.toNat_natCast] at hl
  go_enter Tryz.func55, Tryz.ntmps55
  go_wp2_with (go_at_call 81; refine hl.mono ?_; rintro e w' ⟨rfl, rfl⟩)
  go_ret
  exact ⟨rfl, rfl⟩
set_option maxHeartbeats 1000000 in
theorem lengthSize_any (n : Nat) (w : World) (h0 : 0 < n) (h1 : n < 4294967296) :
    Calls Tryz.prog 128 #[.int .i64 (n : Int)] w fun e w' => e = .returned (.int .i64 ((lsz n : Nat) : Int)) ∧ w = w' := by
  have hl := len_any n w h1
  have hb := Lib.bitLen_le n 32 (by omega) (by omega)
  have hz := Lib.hid (lsz_bits h0 h1)
  generalize Lib.bitLen n = L at *
  go_enter Tryz.func128, Tryz.ntmps128
  go_wp2_with (go_at_call 55; refine hl.mono ?_; rintro e w' ⟨rfl, rfl⟩)
  go_ret
  refine ⟨ret_int ?_, rfl⟩
  have := hz.out
  omega
set_option maxHeartbeats 1000000 in
theorem headSize_any (n : Nat) (w : World) (h1 : n < 4294967296) :
    Calls Tryz.prog 100 #[.int .i64 (n : Int)] w fun e w' => e = .returned (.int .i64 ((hsz n : Nat) : Int)) ∧ w = w' := by
  by_cases h : n ≤ 55
  · have hz := Lib.hid (show hsz n = 1 by unfold hsz; rw [if_pos h])
    go_enter Tryz.func100, Tryz.ntmps100
    go_wp2_with (fail)
    go_ret
    refine ⟨ret_int ?_, rfl⟩
    rw [hz.out]; rfl
  · have hz := Lib.hid (show hsz n = 1 + lsz n by unfold hsz; rw [if_neg h])
    have hl := lengthSize_any n w (by omega) h1
    have h4 := lsz_le h1
    generalize lsz n = L at *
    go_enter Tryz.func100, Tryz.ntmps100
    go_wp2_with (go_at_call 128; refine hl.mono ?_; rintro e w' ⟨rfl, rfl⟩)
    go_ret
    refine ⟨ret_int ?_, rfl⟩
    rw [hz.out]; omega
end Go.Proofs.YthchmnhoombecaaGreat
