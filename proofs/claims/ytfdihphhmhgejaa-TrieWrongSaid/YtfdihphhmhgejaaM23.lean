/- Two pairs whose keys begin unlike, as plain mathematics. No function of the program. -/
import Derived.Test.YtfdihphhmhgejaaM22
set_option linter.unusedVariables false
set_option linter.unusedSimpArgs false
namespace Go.Proofs.Ytfdihphhmhgejaa

namespace Tr
def leaf2 (n : Nat) (v : List Nat) : It := .lst [.str [48 + n], .str v]
theorem encS_len {v : List Nat} (h : v.length ≤ 55) : (encS v).length ≤ v.length + 1 := by
  unfold encS
  split
  · omega
  · rw [List.length_append]
    unfold hd
    rw [if_pos h]
    simp; omega
theorem leaf2_short {n : Nat} {v : List Nat} (hn : n < 16) (hv : v.length ≤ 20) : (enc (leaf2 n v)).length < 32 := by
  unfold leaf2
  rw [enc_lst]
  have h1 : encs [.str [48 + n], .str v] = [48 + n] ++ encS v := by
    rw [show encs [.str [48 + n], .str v] = enc (.str [48 + n]) ++ (enc (.str v) ++ encs []) by simp [encs], enc_str, enc_str]
    have : encS [48 + n] = [48 + n] := by unfold encS single; rw [if_pos (by simp; omega)]
    rw [this]
    simp [encs]
  rw [h1]
  have h2 := encS_len (v := v) (by omega)
  rw [List.length_append, List.length_append]
  unfold hd
  rw [if_pos (by simp; omega)]
  simp; omega
theorem refI_leaf2 (H : List Nat → List Nat) {n : Nat} {v : List Nat} (hn : n < 16) (hv : v.length ≤ 20) : refI H (leaf2 n v) = leaf2 n v := by
  unfold refI
  rw [if_pos (leaf2_short hn hv)]
theorem pkT_one (n : Nat) : pkT [n] true = [48 + n] := by simp [pkT, frT, jnT]
/-- THE LIST OF TWO. -/
theorem two_list (H : List Nat → List Nat) (f a1 a2 b1 b2 : Nat) (x y : List Nat) (hab : a1 ≠ b1) (ha : a2 < 16) (hb : b2 < 16) (hx : x.length ≤ 20) (hy : y.length ≤ 20) :
    nodeT pkT H (f + 2) [([a1, a2], x), ([b1, b2], y)] = .lst ((List.range 16).map (fun d => if d = a1 then leaf2 a2 x else if d = b1 then leaf2 b2 y else .str []) ++ [.str []]) := by
  unfold nodeT
  have hc : cpAll [a1, a2] [([b1, b2], y)] = 0 := by simp [cpAll, cp, hab]
  simp only [hc, Nat.lt_irrefl, if_false]
  have ho : own [([a1, a2], x), ([b1, b2], y)] = [] := by simp [own]
  rw [ho]
  congr 2
  apply List.map_congr_left
  intro d _
  by_cases h1 : d = a1
  · subst h1
    have hh : heads d [([d, a2], x), ([b1, b2], y)] = [([d, a2], x)] := by simp [heads, Ne.symm hab]
    rw [hh, if_neg (by simp), if_pos rfl]
    show refI H (nodeT pkT H (f + 1) [([a2], x)]) = _
    have : nodeT pkT H (f + 1) [([a2], x)] = leaf2 a2 x := by
      show It.lst [.str (pkT [a2] true), .str x] = _
      rw [pkT_one]; rfl
    rw [this, refI_leaf2 H ha hx]
  · rw [if_neg h1]
    by_cases h2 : d = b1
    · subst h2
      have hh : heads d [([a1, a2], x), ([d, b2], y)] = [([d, b2], y)] := by simp [heads, hab]
      rw [hh, if_neg (by simp), if_pos rfl]
      show refI H (nodeT pkT H (f + 1) [([b2], y)]) = _
      have : nodeT pkT H (f + 1) [([b2], y)] = leaf2 b2 y := by
        show It.lst [.str (pkT [b2] true), .str y] = _
        rw [pkT_one]; rfl
      rw [this, refI_leaf2 H hb hy]
    · have hh : heads d [([a1, a2], x), ([b1, b2], y)] = [] := by simp [heads, Ne.symm h1, Ne.symm h2]
      rw [hh, if_pos rfl, if_neg h2]
end Tr
end Go.Proofs.Ytfdihphhmhgejaa

/- The program's fork, as plain mathematics: the entries that are left when the digits below d are done. No function of the program. -/
namespace Go.Proofs.Ytfdihphhmhgejaa

namespace Tr
def geD (d : Nat) (p : List Nat) : Bool := match p with | [] => false | x :: _ => decide (d ≤ x)
/-- Those whose path begins with d or more. -/
def fromD (d : Nat) (l : List En) : List En := l.filter fun e => geD d e.1
theorem geD_iff {d : Nat} {p : List Nat} : geD d p = true ↔ ∃ x r, p = x :: r ∧ d ≤ x := by
  cases p with
  | nil => simp [geD]
  | cons y s => simp [geD]
theorem fromD_step (d : Nat) {l : List En} (hs : Sorted l) :
    (fromD d l).takeWhile (fun e => e.1.head? == some d) = heads d l ∧ (fromD d l).dropWhile (fun e => e.1.head? == some d) = fromD (d + 1) l := by
  have h := heads_while d (fromD d l) (hs.filter _) (fun e he => geD_iff.1 (List.mem_filter.1 he).2)
  refine ⟨h.1.trans ?_, h.2.1.trans ?_⟩
  · unfold heads fromD
    rw [List.filter_filter]
    apply List.filter_congr
    intro e _
    cases hp : e.1 with
    | nil => simp [geD]
    | cons y s =>
      by_cases hy : y = d
      · subst hy; simp [geD]
      · simp [geD, hy]
  · unfold fromD
    rw [List.filter_filter]
    apply List.filter_congr
    intro e _
    cases hp : e.1 with
    | nil => simp [geD]
    | cons y s =>
      by_cases hy : y = d
      · subst hy; simp [geD]
      · have : (decide (d ≤ y)) = decide (d + 1 ≤ y) := by
          by_cases h1 : d ≤ y
          · rw [decide_eq_true h1, decide_eq_true (by omega)]
          · rw [decide_eq_false h1, decide_eq_false (by omega)]
        simp [geD, hy, this]
theorem fromD_first {e : En} {l : List En} (h : Sorted (e :: l)) : fromD 0 (e :: l) = if e.1 = [] then l else e :: l := by
  obtain ⟨h1, _⟩ := List.pairwise_cons.1 h
  have hne : ∀ y ∈ l, geD 0 y.1 = true := by
    intro y hy
    have := h1 y hy
    cases hq : y.1 with
    | nil =>
      rw [hq] at this
      cases he : e.1 with
      | nil => rw [he] at this; exact this.elim
      | cons x r => rw [he] at this; exact this.elim
    | cons z s => simp [geD]
  unfold fromD
  rw [List.filter_cons, List.filter_eq_self.2 hne]
  by_cases h0 : e.1 = []
  · rw [if_pos h0, h0]; rfl
  · rw [if_neg h0, if_pos (by cases he : e.1 with | nil => exact absurd he h0 | cons x r => simp [geD])]
theorem fromD_all {l : List En} (h : ∀ e ∈ l, ∀ x ∈ e.1, x < 16) : fromD 16 l = [] := by
  unfold fromD
  rw [List.filter_eq_nil_iff]
  intro e he hg
  obtain ⟨x, r, hx, h16⟩ := geD_iff.1 hg
  have := h e he x (by rw [hx]; exact List.mem_cons_self)
  omega
theorem heads_len {d : Nat} {l : List En} : (heads d l).length ≤ l.length := List.length_filter_le _ _
theorem take_heads (d : Nat) {l : List En} (hs : Sorted l) : (fromD d l).take (heads d l).length = heads d l ∧ (fromD d l).drop (heads d l).length = fromD (d + 1) l := by
  obtain ⟨h1, h2⟩ := fromD_step d hs
  have h3 := List.takeWhile_append_dropWhile (p := fun e : En => e.1.head? == some d) (l := fromD d l)
  rw [h1, h2] at h3
  constructor
  · conv => lhs; rw [← h3]
    simp
  · conv => lhs; rw [← h3]
    simp
end Tr
end Go.Proofs.Ytfdihphhmhgejaa

/- What is wrong with pairs, as plain mathematics: keys that occur twice, seen at the sorted paths. No function of the program. -/
namespace Go.Proofs.Ytfdihphhmhgejaa

namespace Tr
def nibT (l : List Nat) : List Nat := l.flatMap fun x => [x / 16, x % 16]
theorem nibT_inj : ∀ {a b : List Nat}, nibT a = nibT b → a = b
  | [], [], _ => rfl
  | [], y :: b, h => by simp [nibT] at h
  | x :: a, [], h => by simp [nibT] at h
  | x :: a, y :: b, h => by
    have h' : x / 16 :: x % 16 :: nibT a = y / 16 :: y % 16 :: nibT b := h
    simp only [List.cons.injEq] at h'
    obtain ⟨h1, h2, h3⟩ := h'
    rw [nibT_inj h3, show x = y by omega]
theorem nibT_len : ∀ l : List Nat, (nibT l).length = 2 * l.length
  | [] => rfl
  | x :: l => by
    show (x / 16 :: x % 16 :: nibT l).length = 2 * (x :: l).length
    rw [List.length_cons, List.length_cons, List.length_cons, nibT_len l]; omega
theorem nibT_lt {l : List Nat} (h : ∀ x ∈ l, x < 256) : ∀ x ∈ nibT l, x < 16 := by
  intro x hx
  obtain ⟨y, hy, hm⟩ := List.mem_flatMap.1 hx
  have := h y hy
  simp at hm
  rcases hm with rfl | rfl <;> omega
/-- The entries of pairs. -/
def entries (l : List En) : List En := l.map fun p => (nibT p.1, p.2)
theorem entries_apart {l : List En} : Apart (entries l) ↔ Apart l := by
  unfold entries Apart
  rw [List.pairwise_map]
  exact ⟨fun h => h.imp fun hn e => hn (congrArg nibT e), fun h => h.imp fun hn e => hn (nibT_inj e)⟩
/-- No two neighbours alike in a sorted list: no two alike. -/
theorem unlike_iff {l m : List En} (h : (entries l).Perm m) (hm : m.Pairwise (fun a b => ¬ lt b.1 a.1)) : Unlike m ↔ Apart l := by
  constructor
  · intro hu
    exact entries_apart.1 ((sorted_of hm hu).apart.perm h.symm)
  · intro ha
    exact unlike_of_apart ((entries_apart.2 ha).perm h)
/-- A pair that is too long. -/
def longP (p : En) : Bool := decide (64 < p.1.length) || decide (1048576 < p.2.length)
def Empty' (l : List En) : Bool := l.any fun p => p.2.isEmpty
instance : DecidablePred Apart := fun l => by unfold Apart; infer_instance
/-- The error's number. -/
def mayE (l : List En) : Nat := if 100000 < l.length ∨ l.any longP = true then 3 else if Empty' l = true ∨ ¬ Apart l then 1 else 0
theorem mayE_ok {l : List En} (h : mayE l = 0) : l.length ≤ 100000 ∧ (∀ p ∈ l, p.1.length ≤ 64 ∧ p.2.length ≤ 1048576) ∧ (∀ p ∈ l, p.2 ≠ []) ∧ Apart l := by
  unfold mayE at h
  split at h
  · cases h
  · rename_i h1
    split at h
    · cases h
    · rename_i h2
      refine ⟨by omega, fun p hp => ?_, fun p hp e => ?_, ?_⟩
      · have h3 : ¬ l.any longP = true := fun h => h1 (.inr h)
        have h4 : longP p = false := by
          cases hq : longP p with
          | false => rfl
          | true => exact absurd (List.any_eq_true.2 ⟨p, hp, hq⟩) h3
        unfold longP at h4
        simp at h4
        exact h4
      · exact h2 (.inl (List.any_eq_true.2 ⟨p, hp, by simp [e]⟩))
      · exact Decidable.byContradiction fun h => h2 (.inr h)
theorem longest_entries {l : List En} (h : ∀ p ∈ l, p.1.length ≤ 64) : longest (entries l) ≤ 128 := longest_le.2 fun e he => by
  obtain ⟨p, hp, rfl⟩ := List.mem_map.1 he
  have h1 := h p hp
  have := nibT_len p.1
  show (nibT p.1).length ≤ 128
  omega
/-- THE BYTES WHOSE HASH IS THE ROOT. -/
def rootB (H : List Nat → List Nat) (l : List En) : List Nat := if l = [] then [128] else enc (nodeT pkT H 200 (entries l))
/-- The example's. -/
theorem root_dogs (H : List Nat → List Nat) (h0 : H n0 = d0) (h1 : H n1 = d1) (h2 : H n2 = d2) :
    rootB H [([100, 111, 103], [112, 117, 112, 112, 121]), ([100, 111], [118, 101, 114, 98]), ([100, 111, 103, 101], [99, 111, 105, 110]), ([104, 111, 114, 115, 101], [115, 116, 97, 108, 108, 105, 111, 110])] = dogroot := by
  unfold rootB
  rw [if_neg (by simp)]
  have hp : (entries [([100, 111, 103], [112, 117, 112, 112, 121]), ([100, 111], [118, 101, 114, 98]), ([100, 111, 103, 101], [99, 111, 105, 110]), ([104, 111, 114, 115, 101], [115, 116, 97, 108, 108, 105, 111, 110])]).Perm dogs := List.Perm.swap _ _ _
  have ha : Apart dogs := by decide
  have hs : Sorted dogs := by
    unfold Sorted dogs
    simp [lt]
  rw [nodeT_perm pkT H 200 _ _ (ha.perm hp.symm) hp, ← item_build pkT H 200 dogs hs, buildT_fuel 200 12 dogs (by decide) (by decide) hs, item_build pkT H 12 dogs hs]
  exact ex_root H h0 h1 h2
end Tr
end Go.Proofs.Ytfdihphhmhgejaa
