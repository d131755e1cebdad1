/- The document's way of the hash, as plain mathematics: padded bytes, taken in by blocks of 136. -/
import Derived.Test.YthchmnhoombecaaGreatKa2
namespace Go.Proofs.YthchmnhoombecaaGreat

/-- Bytes laid over lanes, the first i of them. -/
def xr (A : Nat → Nat) (f : Nat → Nat) : Nat → (Nat → Nat)
  | 0 => A
  | i + 1 => xorAt (xr A f i) i (f i)
theorem xr_congr {A f g : Nat → Nat} : ∀ {n : Nat}, (∀ i, i < n → f i = g i) → xr A f n = xr A g n
  | 0, _ => rfl
  | n + 1, h => by
    show xorAt (xr A f n) n (f n) = xorAt (xr A g n) n (g n)
    rw [xr_congr (n := n) (fun i hi => h i (by omega)), h n (by omega)]
theorem xr_lan {A f : Nat → Nat} (hA : Lan A) (hf : ∀ i, f i < 256) : ∀ n, Lan (xr A f n)
  | 0 => hA
  | n + 1 => xorAt_lan (xr_lan hA hf n) (hf n)
theorem absL_in (A : Nat → Nat) (l : List Nat) (hl : l.length = 136) : ∀ i, i ≤ 135 → absL ⟨A, 0⟩ (l.take i) = ⟨xr A (fun i => l.getD i 0) i, i⟩
  | 0, _ => by simp [absL_nil, xr]
  | i + 1, hi => by
    have hlt : i < l.length := by omega
    rw [List.take_succ_eq_append_getElem hlt, absL_append, absL_in A l hl i (by omega), absL_cons, absL_nil, abs1_in (by show i + 1 < 136; omega)]
    show Sp.mk (xorAt _ i l[i]) (i + 1) = ⟨xorAt _ i (l.getD i 0), i + 1⟩
    rw [List.getD_eq_getElem?_getD, List.getElem?_eq_getElem hlt]; rfl
theorem absL_blk (A : Nat → Nat) (l : List Nat) (hl : l.length = 136) : absL ⟨A, 0⟩ l = ⟨permN (xr A (fun i => l.getD i 0) 136), 0⟩ := by
  have h1 : l = l.take 135 ++ [l.getD 135 0] := by
    have := List.take_succ_eq_append_getElem (l := l) (i := 135) (by omega)
    rw [show 135 + 1 = l.length by omega, List.take_length] at this
    rw [List.getD_eq_getElem?_getD, List.getElem?_eq_getElem (by omega)]
    exact this
  conv => lhs; rw [h1]
  rw [absL_append, absL_in A l hl 135 (by omega), absL_cons, absL_nil, abs1_full _ rfl]
  rfl
/-- The lanes behind so many blocks. -/
def stN (M : List Nat) : Nat → (Nat → Nat)
  | 0 => fun _ => 0
  | j + 1 => permN (xr (stN M j) (fun i => M.getD (136 * j + i) 0) 136)
theorem getD_lt {M : List Nat} (h : ∀ x ∈ M, x < 256) (i : Nat) : M.getD i 0 < 256 := by
  rw [List.getD_eq_getElem?_getD]
  cases hq : M[i]? with
  | none => exact (by decide : (0 : Nat) < 256)
  | some y => exact h y (List.mem_of_getElem? hq)
theorem stN_lan {M : List Nat} (h : ∀ x ∈ M, x < 256) : ∀ j, Lan (stN M j)
  | 0 => fun _ => Nat.zero_lt_succ _
  | j + 1 => perm_lan (xr_lan (stN_lan h j) (fun i => getD_lt h _) 136)
theorem absL_st (M : List Nat) : ∀ j, 136 * j ≤ M.length → absL sp0 (M.take (136 * j)) = ⟨stN M j, 0⟩
  | 0, _ => by simp [absL_nil, stN, sp0]
  | j + 1, h => by
    have e : M.take (136 * (j + 1)) = M.take (136 * j) ++ (M.drop (136 * j)).take 136 := by
      rw [show 136 * (j + 1) = 136 * j + 136 by omega, List.take_add]
    have hl : ((M.drop (136 * j)).take 136).length = 136 := by rw [List.length_take, List.length_drop]; omega
    rw [e, absL_append, absL_st M j (by omega), absL_blk _ _ hl]
    show Sp.mk _ 0 = Sp.mk (permN (xr (stN M j) (fun i => M.getD (136 * j + i) 0) 136)) 0
    rw [xr_congr (g := fun i => M.getD (136 * j + i) 0)]
    intro i hi
    simp only [List.getD_eq_getElem?_getD, List.getElem?_take, hi, if_true, List.getElem?_drop]
theorem padL_len {t : Nat} (h : t < 136) : (padL t).length = 136 - t := by
  unfold padL
  split
  · rename_i e; subst e; rfl
  · simp; omega
/-- The bytes, padded. -/
def padded (l : List Nat) : List Nat := l ++ padL (l.length % 136)
theorem padded_len (l : List Nat) : (padded l).length = 136 * (l.length / 136 + 1) := by
  unfold padded
  rw [List.length_append, padL_len (Nat.mod_lt _ (by decide))]
  have := Nat.mod_lt l.length (show 0 < 136 by decide)
  omega
theorem padded_lt {l : List Nat} (h : ∀ x ∈ l, x < 256) : ∀ x ∈ padded l, x < 256 := by
  intro x hx
  rcases List.mem_append.1 hx with hx | hx
  · exact h x hx
  · unfold padL at hx
    split at hx
    · simp at hx; omega
    · simp at hx
      rcases hx with hx | ⟨_, hx⟩ | hx <;> omega
theorem hash_st (l : List Nat) : hashN l = outN (stN (padded l) (l.length / 136 + 1)) := by
  rw [hash_padded]
  have h := absL_st (padded l) (l.length / 136 + 1) (Nat.le_of_eq (padded_len l).symm)
  rw [← padded_len, List.take_length] at h
  show outN (absL sp0 (padded l)).A = _
  rw [h]
/-- The bytes and what is put behind them before the last bit: one 1, then noughts. -/
def part1 (l : List Nat) (k : Nat) : List Nat := l ++ 1 :: List.replicate k 0
theorem part1_len (l : List Nat) (k : Nat) : (part1 l k).length = l.length + 1 + k := by unfold part1; simp; omega
theorem part1_lt {l : List Nat} (h : ∀ x ∈ l, x < 256) (k : Nat) : ∀ x ∈ part1 l k, x < 256 := by
  intro x hx
  unfold part1 at hx
  simp at hx
  rcases hx with hx | hx | ⟨_, hx⟩
  · exact h x hx
  · omega
  · omega
theorem part1_snoc (l : List Nat) (k : Nat) : part1 l k ++ [0] = part1 l (k + 1) := by
  unfold part1
  rw [List.append_assoc, List.cons_append, ← List.replicate_succ']
theorem part1_zero (l : List Nat) : l ++ [1] = part1 l 0 := rfl
/-- The last byte's top bit set. -/
theorem part1_set (l : List Nat) (k : Nat) (hk : (l.length + 1 + k) % 136 = 0) (hk2 : k < 136) : (part1 l k).set (l.length + k) ((part1 l k).getD (l.length + k) 0 ||| 128) = padded l := by
  unfold part1 padded
  have ht : l.length % 136 = 135 - k := by omega
  rw [ht, List.set_append_right _ _ (by omega), Nat.add_sub_cancel_left, List.getD_eq_getElem?_getD, List.getElem?_append_right (by omega), Nat.add_sub_cancel_left]
  congr 1
  unfold padL
  cases k with
  | zero => rfl
  | succ k =>
    rw [if_neg (by omega), List.getElem?_cons_succ, List.getElem?_replicate, if_pos (by omega), List.set_cons_succ, show 134 - (135 - (k + 1)) = k by omega]
    congr 1
    rw [List.replicate_succ', List.set_append_right _ _ (by simp), List.length_replicate, Nat.sub_self]
    rfl
end Go.Proofs.YthchmnhoombecaaGreat
