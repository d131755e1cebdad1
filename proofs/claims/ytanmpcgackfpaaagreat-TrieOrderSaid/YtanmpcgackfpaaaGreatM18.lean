/- The example of the tries, as plain mathematics. No function of the program. -/
import Derived.Test.YtanmpcgackfpaaaGreatM01
import Derived.Test.YtanmpcgackfpaaaGreatM17
set_option linter.unusedVariables false
set_option linter.unusedSimpArgs false
namespace Go.Proofs.YtanmpcgackfpaaaGreat
section
namespace Tr
def jnT : List Nat → List Nat
  | x :: y :: r => (16 * x + y) :: jnT r
  | _ => []
def frT (l : List Nat) (leaf : Bool) : List Nat := if l.length % 2 = 1 then [bif leaf then 3 else 1] else [bif leaf then 2 else 0, 0]
def pkT (l : List Nat) (leaf : Bool) : List Nat := jnT (frT l leaf ++ l)
def dogs : List En := [([6, 4, 6, 15], [118, 101, 114, 98]), ([6, 4, 6, 15, 6, 7], [112, 117, 112, 112, 121]), ([6, 4, 6, 15, 6, 7, 6, 5], [99, 111, 105, 110]), ([6, 8, 6, 15, 7, 2, 7, 3, 6, 5], [115, 116, 97, 108, 108, 105, 111, 110])]
def n0 : List Nat := [243, 128, 128, 128, 128, 128, 128, 222, 23, 220, 128, 128, 128, 128, 128, 128, 198, 53, 132, 99, 111, 105, 110, 128, 128, 128, 128, 128, 128, 128, 128, 128, 133, 112, 117, 112, 112, 121, 128, 128, 128, 128, 128, 128, 128, 128, 128, 132, 118, 101, 114, 98]
def n1 : List Nat := [228, 130, 0, 111, 160, 212, 59, 135, 253, 205, 66, 23, 1, 60, 204, 146, 208, 70, 98, 225, 45, 54, 228, 204, 37, 220, 105, 0, 119, 205, 130, 26, 25, 86, 252, 62, 54]
def n2 : List Nat := [248, 64, 128, 128, 128, 128, 160, 148, 169, 249, 91, 216, 150, 152, 228, 218, 24, 18, 224, 81, 128, 83, 129, 59, 77, 91, 135, 202, 175, 107, 60, 111, 165, 126, 158, 80, 192, 255, 104, 128, 128, 128, 207, 133, 32, 111, 114, 115, 101, 136, 115, 116, 97, 108, 108, 105, 111, 110, 128, 128, 128, 128, 128, 128, 128, 128]
def d0 : List Nat := [212, 59, 135, 253, 205, 66, 23, 1, 60, 204, 146, 208, 70, 98, 225, 45, 54, 228, 204, 37, 220, 105, 0, 119, 205, 130, 26, 25, 86, 252, 62, 54]
def d1 : List Nat := [148, 169, 249, 91, 216, 150, 152, 228, 218, 24, 18, 224, 81, 128, 83, 129, 59, 77, 91, 135, 202, 175, 107, 60, 111, 165, 126, 158, 80, 192, 255, 104]
def d2 : List Nat := [189, 62, 229, 7, 230, 198, 124, 254, 252, 169, 143, 132, 190, 71, 193, 187, 192, 9, 49, 95, 171, 196, 64, 93, 180, 186, 50, 25, 3, 116, 87, 42]
def dogroot : List Nat := [226, 22, 160, 189, 62, 229, 7, 230, 198, 124, 254, 252, 169, 143, 132, 190, 71, 193, 187, 192, 9, 49, 95, 171, 196, 64, 93, 180, 186, 50, 25, 3, 116, 87, 42]
theorem range16 : List.range 16 = [0, 1, 2, 3, 4, 5, 6, 7, 8, 9, 10, 11, 12, 13, 14, 15] := by decide
theorem be_64 : be 64 = [64] := by rw [be_pos (by decide), show 64 / 256 = 0 from rfl, be_zero]; rfl
theorem lsz_64 : lsz 64 = 1 := by unfold lsz; rw [be_64]; rfl
set_option maxHeartbeats 4000000 in
set_option maxRecDepth 100000 in
theorem ex_root (H : List Nat → List Nat) (h0 : H n0 = d0) (h1 : H n1 = d1) (h2 : H n2 = d2) : enc (nodeT pkT H 12 dogs) = dogroot := by
  unfold n0 d0 at h0
  unfold n1 d1 at h1
  unfold n2 d2 at h2
  simp [dogs, dogroot, nodeT, range16, rests, heads, own, cpAll, cp, refI, qf4, qi5, encs, encS, single, hd, pkT, jnT, frT, be_64, lsz_64, h0, h1, h2]
end Tr
end
section
namespace Tr
def geD (d : Nat) (p : List Nat) : Bool := match p with | [] => false | x :: _ => decide (d ≤ x)
def fromD (d : Nat) (l : List En) : List En := l.filter fun e => geD d e.1
theorem geD_iff {d : Nat} {p : List Nat} : geD d p = true ↔ ∃ x r, p = x :: r ∧ d ≤ x := by
  cases p with
  | nil => simp [geD]
  | cons y s => simp [geD]
theorem fromD_step (d : Nat) {l : List En} (hs : Sorted l) :
    (fromD d l).takeWhile (fun e => e.1.head? == some d) = heads d l ∧ (fromD d l).dropWhile (fun e => e.1.head? == some d) = fromD (d + 1) l := by
  have h := heads_while d (fromD d l) (hs.filter _) (fun e he => geD_iff.1 (List.mem_filter.1 he).2)
  refine ⟨h.1.trans ?_, h.2.1.trans ?_⟩
  · unfold heads fromD
    rw [List.filter_filter]
    apply List.filter_congr
    intro e _
    cases hp : e.1 with
    | nil => simp [geD]
    | cons y s =>
      by_cases hy : y = d
      · subst hy; simp [geD]
      · simp [geD, hy]
  · unfold fromD
    rw [List.filter_filter]
    apply List.filter_congr
    intro e _
    cases hp : e.1 with
    | nil => simp [geD]
    | cons y s =>
      by_cases hy : y = d
      · subst hy; simp [geD]
      · have : (decide (d ≤ y)) = decide (d + 1 ≤ y) := by
          by_cases h1 : d ≤ y
          · rw [decide_eq_true h1, decide_eq_true (by omega)]
          · rw [decide_eq_false h1, decide_eq_false (by omega)]
        simp [geD, hy, this]
theorem fromD_first {e : En} {l : List En} (h : Sorted (e :: l)) : fromD 0 (e :: l) = if e.1 = [] then l else e :: l := by
  obtain ⟨h1, _⟩ := List.pairwise_cons.1 h
  have hne : ∀ y ∈ l, geD 0 y.1 = true := by
    intro y hy
    have := h1 y hy
    cases hq : y.1 with
    | nil =>
      rw [hq] at this
      cases he : e.1 with
      | nil => rw [he] at this; exact this.elim
      | cons x r => rw [he] at this; exact this.elim
    | cons z s => simp [geD]
  unfold fromD
  rw [List.filter_cons, List.filter_eq_self.2 hne]
  by_cases h0 : e.1 = []
  · rw [if_pos h0, h0]; rfl
  · rw [if_neg h0, if_pos (by cases he : e.1 with | nil => exact absurd he h0 | cons x r => simp [geD])]
theorem heads_len {d : Nat} {l : List En} : (heads d l).length ≤ l.length := List.length_filter_le _ _
theorem take_heads (d : Nat) {l : List En} (hs : Sorted l) : (fromD d l).take (heads d l).length = heads d l ∧ (fromD d l).drop (heads d l).length = fromD (d + 1) l := by
  obtain ⟨h1, h2⟩ := fromD_step d hs
  have h3 := List.takeWhile_append_dropWhile (p := fun e : En => e.1.head? == some d) (l := fromD d l)
  rw [h1, h2] at h3
  constructor
  · conv => lhs; rw [← h3]
    simp
  · conv => lhs; rw [← h3]
    simp
end Tr
end
section
namespace Tr
def nibT (l : List Nat) : List Nat := l.flatMap fun x => [x / 16, x % 16]
theorem nibT_inj : ∀ {a b : List Nat}, nibT a = nibT b → a = b
  | [], [], _ => rfl
  | [], y :: b, h => by simp [nibT] at h
  | x :: a, [], h => by simp [nibT] at h
  | x :: a, y :: b, h => by
    have h' : x / 16 :: x % 16 :: nibT a = y / 16 :: y % 16 :: nibT b := h
    simp only [List.cons.injEq] at h'
    obtain ⟨h1, h2, h3⟩ := h'
    rw [nibT_inj h3, show x = y by omega]
theorem nibT_len : ∀ l : List Nat, (nibT l).length = 2 * l.length
  | [] => rfl
  | x :: l => by
    show (x / 16 :: x % 16 :: nibT l).length = 2 * (x :: l).length
    rw [List.length_cons, List.length_cons, List.length_cons, nibT_len l]; omega
theorem nibT_lt {l : List Nat} (h : ∀ x ∈ l, x < 256) : ∀ x ∈ nibT l, x < 16 := by
  intro x hx
  obtain ⟨y, hy, hm⟩ := List.mem_flatMap.1 hx
  have := h y hy
  simp at hm
  rcases hm with rfl | rfl <;> omega
def entries (l : List En) : List En := l.map fun p => (nibT p.1, p.2)
theorem qd8 {l : List En} : Apart (entries l) ↔ Apart l := by
  unfold entries Apart
  rw [List.pairwise_map]
  exact ⟨fun h => h.imp fun hn e => hn (congrArg nibT e), fun h => h.imp fun hn e => hn (nibT_inj e)⟩
theorem unlike_iff {l m : List En} (h : (entries l).Perm m) (hm : m.Pairwise (fun a b => ¬ lt b.1 a.1)) : Unlike m ↔ Apart l := by
  constructor
  · intro hu
    exact qd8.1 ((sorted_of hm hu).apart.perm h.symm)
  · intro ha
    exact unlike_of_apart ((qd8.2 ha).perm h)
def longP (p : En) : Bool := decide (64 < p.1.length) || decide (1048576 < p.2.length)
def Empty' (l : List En) : Bool := l.any fun p => p.2.isEmpty
instance : DecidablePred Apart := fun l => by unfold Apart; infer_instance
def mayE (l : List En) : Nat := if 100000 < l.length ∨ l.any longP = true then 3 else if Empty' l = true ∨ ¬ Apart l then 1 else 0
theorem mayE_ok {l : List En} (h : mayE l = 0) : l.length ≤ 100000 ∧ (∀ p ∈ l, p.1.length ≤ 64 ∧ p.2.length ≤ 1048576) ∧ (∀ p ∈ l, p.2 ≠ []) ∧ Apart l := by
  unfold mayE at h
  split at h
  · cases h
  · rename_i h1
    split at h
    · cases h
    · rename_i h2
      refine ⟨by omega, fun p hp => ?_, fun p hp e => ?_, ?_⟩
      · have h3 : ¬ l.any longP = true := fun h => h1 (.inr h)
        have h4 : longP p = false := by
          cases hq : longP p with
          | false => rfl
          | true => exact absurd (List.any_eq_true.2 ⟨p, hp, hq⟩) h3
        unfold longP at h4
        simp at h4
        exact h4
      · exact h2 (.inl (List.any_eq_true.2 ⟨p, hp, by simp [e]⟩))
      · exact Decidable.byContradiction fun h => h2 (.inr h)
theorem longest_entries {l : List En} (h : ∀ p ∈ l, p.1.length ≤ 64) : longest (entries l) ≤ 128 := qd2.2 fun e he => by
  obtain ⟨p, hp, rfl⟩ := List.mem_map.1 he
  have h1 := h p hp
  have := nibT_len p.1
  show (nibT p.1).length ≤ 128
  omega
def rootB (H : List Nat → List Nat) (l : List En) : List Nat := if l = [] then [128] else enc (nodeT pkT H 200 (entries l))
theorem root_dogs (H : List Nat → List Nat) (h0 : H n0 = d0) (h1 : H n1 = d1) (h2 : H n2 = d2) :
    rootB H [([100, 111, 103], [112, 117, 112, 112, 121]), ([100, 111], [118, 101, 114, 98]), ([100, 111, 103, 101], [99, 111, 105, 110]), ([104, 111, 114, 115, 101], [115, 116, 97, 108, 108, 105, 111, 110])] = dogroot := by
  unfold rootB
  rw [if_neg (by simp)]
  have hp : (entries [([100, 111, 103], [112, 117, 112, 112, 121]), ([100, 111], [118, 101, 114, 98]), ([100, 111, 103, 101], [99, 111, 105, 110]), ([104, 111, 114, 115, 101], [115, 116, 97, 108, 108, 105, 111, 110])]).Perm dogs := List.Perm.swap _ _ _
  have ha : Apart dogs := by decide
  have hs : Sorted dogs := by
    unfold Sorted dogs
    simp [lt]
  rw [qh2 pkT H 200 _ _ (ha.perm hp.symm) hp, ← qh1 pkT H 200 dogs hs, buildT_fuel 200 12 dogs (by decide) (by decide) hs, qh1 pkT H 12 dogs hs]
  exact ex_root H h0 h1 h2
end Tr
end
section
namespace Tr
instance ltDec : ∀ a b : List Nat, Decidable (lt a b)
  | [], [] => isFalse fun h => h
  | [], _ :: _ => isTrue trivial
  | _ :: _, [] => isFalse fun h => h
  | x :: a, y :: b => by
    have := ltDec a b
    unfold lt
    infer_instance
def cmpN (a b : List Nat) : Int := if lt a b then -1 else if lt b a then 1 else 0
theorem cmp_neg {a b : List Nat} : cmpN a b < 0 ↔ lt a b := by
  unfold cmpN
  by_cases h : lt a b
  · rw [if_pos h]; simp [h]
  · rw [if_neg h]
    by_cases k : lt b a
    · rw [if_pos k]; simp [h]
    · rw [if_neg k]; simp [h]
theorem cmp_nil_nil : cmpN [] [] = 0 := by decide
theorem cmp_cons (x y : Nat) (a b : List Nat) : cmpN (x :: a) (y :: b) = if x < y then -1 else if y < x then 1 else cmpN a b := by
  unfold cmpN
  by_cases h : x < y
  · rw [if_pos h, if_pos (show lt (x :: a) (y :: b) from .inl h)]
  · rw [if_neg h]
    by_cases k : y < x
    · rw [if_pos k, if_neg (show ¬ lt (x :: a) (y :: b) from fun q => by rcases q with q | q <;> omega), if_pos (show lt (y :: b) (x :: a) from .inl k)]
    · rw [if_neg k]
      obtain rfl : x = y := by omega
      have e : ∀ p q : List Nat, lt (x :: p) (x :: q) ↔ lt p q := fun p q => ⟨fun h => by rcases h with h | h; exact absurd h (Nat.lt_irrefl _); exact h.2, fun h => .inr ⟨rfl, h⟩⟩
      simp only [e]
theorem not_lt_trans {a b c : List Nat} (h : ¬ lt a b) (k : ¬ lt b c) : ¬ lt a c := by
  intro hac
  rcases lt_total a b with q | q | q
  · exact h q
  · subst q; exact k hac
  · exact k (lt_trans q hac)
end Tr
end
end Go.Proofs.YtanmpcgackfpaaaGreat
