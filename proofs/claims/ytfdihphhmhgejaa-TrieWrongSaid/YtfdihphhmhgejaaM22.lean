/- Tries as plain mathematics: the tree that the program builds, its lists. No function of the program. -/
import Derived.Test.YtfdihphhmhgejaaM21
set_option linter.unusedVariables false
set_option linter.unusedSimpArgs false
namespace Go.Proofs.Ytfdihphhmhgejaa

namespace Tr
/-- The program's tree. -/
inductive TN where
  | nil : TN
  | leaf (p v : List Nat) : TN
  | ext (p : List Nat) (s : TN) : TN
  | branch (s : Nat → TN) (v : List Nat) : TN
section
variable (pk : List Nat → Bool → List Nat) (H : List Nat → List Nat)
/-- A node's list. -/
def itemT : TN → It
  | .nil => .str []
  | .leaf p v => .lst [.str (pk p true), .str v]
  | .ext p s => .lst [.str (pk p false), refI H (itemT s)]
  | .branch s v => .lst ((List.range 16).map (fun d => refI H (itemT (s d))) ++ [.str v])
/-- What is built of sorted entries. -/
def buildT : Nat → List En → TN
  | 0, _ => .nil
  | _ + 1, [] => .nil
  | _ + 1, [e] => .leaf e.1 e.2
  | f + 1, e :: e2 :: l =>
    let n := cp e.1 ((e2 :: l).getLast (by simp)).1
    if 0 < n then .ext (e.1.take n) (buildT f (rests n (e :: e2 :: l)))
    else .branch (fun d => buildT f (rests 1 (heads d (e :: e2 :: l)))) (if e.1 = [] then e.2 else [])
theorem buildT_nil (f : Nat) : buildT f [] = .nil := by cases f <;> rfl
theorem refI_nil : refI H (.str []) = .str [] := by
  unfold refI
  rw [if_pos (by rw [enc_str]; decide)]
theorem cp_last {e e2 : En} {l : List En} (h : Sorted (e :: e2 :: l)) : cp e.1 ((e2 :: l).getLast (by simp)).1 = cpAll e.1 (e2 :: l) := by
  have hl := List.dropLast_concat_getLast (l := e2 :: l) (by simp)
  rw [← hl] at h
  have := cp_ends h
  rw [hl] at this
  exact this
/-- THE PROGRAM's LISTS ARE THE DOCUMENT's, of sorted entries. -/
theorem item_build : ∀ (f : Nat) (l : List En), Sorted l → itemT pk H (buildT f l) = nodeT pk H f l
  | 0, _, _ => rfl
  | f + 1, [], _ => rfl
  | f + 1, [e], _ => rfl
  | f + 1, e :: e2 :: l, hs => by
    have hc := cp_last hs
    unfold buildT nodeT
    simp only [hc]
    by_cases hn : 0 < cpAll e.1 (e2 :: l)
    · rw [if_pos hn, if_pos hn]
      have hsh : Share (e :: e2 :: l) (cpAll e.1 (e2 :: l)) := share_iff.1 (Nat.le_refl _)
      show It.lst _ = _
      rw [item_build f _ (hs.rests hsh)]
    · rw [if_neg hn, if_neg hn, own_first hs]
      show It.lst _ = _
      congr 2
      apply List.map_congr_left
      intro d _
      by_cases h0 : heads d (e :: e2 :: l) = []
      · rw [if_pos h0]
        show refI H (itemT pk H (buildT f (rests 1 (heads d (e :: e2 :: l))))) = _
        rw [h0, show rests 1 [] = [] from rfl, buildT_nil]
        exact refI_nil H
      · rw [if_neg h0, item_build f _ (hs.heads.rests (heads_share _))]
end
/-- How long the longest path is. -/
def longest (l : List En) : Nat := l.foldl (fun n e => max n e.1.length) 0
theorem longest_le {l : List En} {m : Nat} : longest l ≤ m ↔ ∀ e ∈ l, e.1.length ≤ m := by
  have key : ∀ (l : List En) (k : Nat), l.foldl (fun n e => max n e.1.length) k ≤ m ↔ k ≤ m ∧ ∀ e ∈ l, e.1.length ≤ m := by
    intro l
    induction l with
    | nil => intro k; simp
    | cons e l ih => intro k; rw [List.foldl_cons, ih]; simp only [List.mem_cons, forall_eq_or_imp, Nat.max_le, and_assoc]
  unfold longest
  rw [key]
  exact ⟨fun h => h.2, fun h => ⟨Nat.zero_le _, h⟩⟩
theorem longest_rests {n f : Nat} {l : List En} (hn : 0 < n) (hs : Share l n) (h : longest l < f + 1) : longest (rests n l) < f ∨ l = [] := by
  cases l with
  | nil => exact .inr rfl
  | cons e l =>
    refine .inl ?_
    have hlen := (hs e List.mem_cons_self).1
    have h1 := longest_le.1 (Nat.le_of_lt_succ h) e List.mem_cons_self
    have : longest (rests n (e :: l)) ≤ f - 1 := longest_le.2 fun x hx => by
      obtain ⟨y, hy, rfl⟩ := List.mem_map.1 hx
      have h2 := longest_le.1 (Nat.le_of_lt_succ h) y hy
      have h3 := (hs y hy).1
      show (y.1.drop n).length ≤ f - 1
      rw [List.length_drop]; omega
    omega
/-- Fuel that is enough is as good as any. -/
theorem buildT_fuel : ∀ (f g : Nat) (l : List En), longest l < f → longest l < g → Sorted l → buildT f l = buildT g l
  | 0, _, _, h, _, _ => by omega
  | _, 0, _, _, h, _ => by omega
  | f + 1, g + 1, [], _, _, _ => rfl
  | f + 1, g + 1, [e], _, _, _ => rfl
  | f + 1, g + 1, e :: e2 :: l, hf, hg, hs => by
    have hc := cp_last hs
    unfold buildT
    simp only [hc]
    by_cases hn : 0 < cpAll e.1 (e2 :: l)
    · rw [if_pos hn, if_pos hn]
      have hsh : Share (e :: e2 :: l) (cpAll e.1 (e2 :: l)) := share_iff.1 (Nat.le_refl _)
      rw [buildT_fuel f g _ ((longest_rests hn hsh hf).resolve_right (by simp)) ((longest_rests hn hsh hg).resolve_right (by simp)) (hs.rests hsh)]
    · rw [if_neg hn, if_neg hn]
      congr 1
      funext d
      by_cases h0 : heads d (e :: e2 :: l) = []
      · rw [h0, show rests 1 [] = [] from rfl, buildT_nil, buildT_nil]
      · have hsub : ∀ k, longest (e :: e2 :: l) < k → longest (heads d (e :: e2 :: l)) < k := fun k hk => by
          have : longest (heads d (e :: e2 :: l)) ≤ longest (e :: e2 :: l) := longest_le.2 fun x hx => longest_le.1 (Nat.le_refl _) x ((List.mem_filter.1 hx).1)
          omega
        exact buildT_fuel f g _ ((longest_rests (by decide) (heads_share _) (hsub _ hf)).resolve_right h0) ((longest_rests (by decide) (heads_share _) (hsub _ hg)).resolve_right h0) (hs.heads.rests (heads_share _))
end Tr
end Go.Proofs.Ytfdihphhmhgejaa

/- Tries as plain mathematics: the order of paths; sorted entries; what is hashed, in its order. No function of the program. -/
namespace Go.Proofs.Ytfdihphhmhgejaa

namespace Tr
theorem lt_trans : ∀ {a b c : List Nat}, lt a b → lt b c → lt a c
  | [], [], _, h, _ => h.elim
  | [], _ :: _, [], _, h => h.elim
  | [], _ :: _, _ :: _, _, _ => trivial
  | _ :: _, [], _, h, _ => h.elim
  | _ :: _, _ :: _, [], _, h => h.elim
  | x :: a, y :: b, z :: c, h, k => by
    rcases h with h | ⟨rfl, h⟩
    · rcases k with k | ⟨rfl, _⟩
      · exact .inl (by omega)
      · exact .inl h
    · rcases k with k | ⟨rfl, k⟩
      · exact .inl k
      · exact .inr ⟨rfl, lt_trans h k⟩
theorem lt_total : ∀ (a b : List Nat), lt a b ∨ a = b ∨ lt b a
  | [], [] => .inr (.inl rfl)
  | [], _ :: _ => .inl trivial
  | _ :: _, [] => .inr (.inr trivial)
  | x :: a, y :: b => by
    rcases Nat.lt_trichotomy x y with h | h | h
    · exact .inl (.inl h)
    · subst h
      rcases lt_total a b with k | k | k
      · exact .inl (.inr ⟨rfl, k⟩)
      · exact .inr (.inl (by rw [k]))
      · exact .inr (.inr (.inr ⟨rfl, k⟩))
    · exact .inr (.inr (.inl h))
/-- No two neighbours have one path. -/
def Unlike : List En → Prop
  | a :: b :: l => a.1 ≠ b.1 ∧ Unlike (b :: l)
  | _ => True
/-- Sorted, and no two neighbours alike: strictly sorted. -/
theorem sorted_of : ∀ {l : List En}, l.Pairwise (fun a b => ¬ lt b.1 a.1) → Unlike l → Sorted l
  | [], _, _ => List.Pairwise.nil
  | [e], _, _ => List.pairwise_singleton _ _
  | e :: e2 :: l, h, hu => by
    obtain ⟨h1, h2⟩ := List.pairwise_cons.1 h
    have hs := sorted_of h2 hu.2
    have h12 : lt e.1 e2.1 := by
      rcases lt_total e.1 e2.1 with k | k | k
      · exact k
      · exact absurd k hu.1
      · exact absurd k (h1 e2 List.mem_cons_self)
    refine List.pairwise_cons.2 ⟨fun x hx => ?_, hs⟩
    rcases List.mem_cons.1 hx with rfl | hx
    · exact h12
    · exact lt_trans h12 ((List.pairwise_cons.1 hs).1 x hx)
theorem unlike_of_apart : ∀ {l : List En}, Apart l → Unlike l
  | [], _ => trivial
  | [_], _ => trivial
  | e :: e2 :: l, h => by
    obtain ⟨h1, h2⟩ := List.pairwise_cons.1 h
    exact ⟨h1 e2 List.mem_cons_self, unlike_of_apart h2⟩
/-- WHAT THE DOCUMENT SAYS OF ANY ORDER, the program makes of the sorted one. -/
theorem build_any (pk : List Nat → Bool → List Nat) (H : List Nat → List Nat) {l m : List En} (h : l.Perm m) (ha : Apart l) (hm : m.Pairwise (fun a b => ¬ lt b.1 a.1)) (f : Nat) : itemT pk H (buildT f m) = nodeT pk H f l := by
  have hs : Sorted m := sorted_of hm (unlike_of_apart (ha.perm h))
  rw [item_build pk H f m hs]
  exact (nodeT_perm pk H f l m ha h).symm
section
variable (pk : List Nat → Bool → List Nat) (H : List Nat → List Nat)
/-- What is hashed below a node, the deepest first. -/
def below : TN → List (List Nat)
  | .nil => []
  | .leaf _ _ => []
  | .ext _ s => below s ++ (if (enc (itemT pk H s)).length < 32 then [] else [enc (itemT pk H s)])
  | .branch s _ => (List.range 16).flatMap fun d => below (s d) ++ (if (enc (itemT pk H (s d))).length < 32 then [] else [enc (itemT pk H (s d))])
end
end Tr
end Go.Proofs.Ytfdihphhmhgejaa

/- The example of the tries, as plain mathematics. No function of the program. -/
namespace Go.Proofs.Ytfdihphhmhgejaa

namespace Tr
def jnT : List Nat → List Nat
  | x :: y :: r => (16 * x + y) :: jnT r
  | _ => []
def frT (l : List Nat) (leaf : Bool) : List Nat := if l.length % 2 = 1 then [bif leaf then 3 else 1] else [bif leaf then 2 else 0, 0]
/-- How a path is packed. -/
def pkT (l : List Nat) (leaf : Bool) : List Nat := jnT (frT l leaf ++ l)
def dogs : List En := [([6, 4, 6, 15], [118, 101, 114, 98]), ([6, 4, 6, 15, 6, 7], [112, 117, 112, 112, 121]), ([6, 4, 6, 15, 6, 7, 6, 5], [99, 111, 105, 110]), ([6, 8, 6, 15, 7, 2, 7, 3, 6, 5], [115, 116, 97, 108, 108, 105, 111, 110])]
def n0 : List Nat := [243, 128, 128, 128, 128, 128, 128, 222, 23, 220, 128, 128, 128, 128, 128, 128, 198, 53, 132, 99, 111, 105, 110, 128, 128, 128, 128, 128, 128, 128, 128, 128, 133, 112, 117, 112, 112, 121, 128, 128, 128, 128, 128, 128, 128, 128, 128, 132, 118, 101, 114, 98]
def n1 : List Nat := [228, 130, 0, 111, 160, 212, 59, 135, 253, 205, 66, 23, 1, 60, 204, 146, 208, 70, 98, 225, 45, 54, 228, 204, 37, 220, 105, 0, 119, 205, 130, 26, 25, 86, 252, 62, 54]
def n2 : List Nat := [248, 64, 128, 128, 128, 128, 160, 148, 169, 249, 91, 216, 150, 152, 228, 218, 24, 18, 224, 81, 128, 83, 129, 59, 77, 91, 135, 202, 175, 107, 60, 111, 165, 126, 158, 80, 192, 255, 104, 128, 128, 128, 207, 133, 32, 111, 114, 115, 101, 136, 115, 116, 97, 108, 108, 105, 111, 110, 128, 128, 128, 128, 128, 128, 128, 128]
def d0 : List Nat := [212, 59, 135, 253, 205, 66, 23, 1, 60, 204, 146, 208, 70, 98, 225, 45, 54, 228, 204, 37, 220, 105, 0, 119, 205, 130, 26, 25, 86, 252, 62, 54]
def d1 : List Nat := [148, 169, 249, 91, 216, 150, 152, 228, 218, 24, 18, 224, 81, 128, 83, 129, 59, 77, 91, 135, 202, 175, 107, 60, 111, 165, 126, 158, 80, 192, 255, 104]
def d2 : List Nat := [189, 62, 229, 7, 230, 198, 124, 254, 252, 169, 143, 132, 190, 71, 193, 187, 192, 9, 49, 95, 171, 196, 64, 93, 180, 186, 50, 25, 3, 116, 87, 42]
def dogroot : List Nat := [226, 22, 160, 189, 62, 229, 7, 230, 198, 124, 254, 252, 169, 143, 132, 190, 71, 193, 187, 192, 9, 49, 95, 171, 196, 64, 93, 180, 186, 50, 25, 3, 116, 87, 42]
theorem range16 : List.range 16 = [0, 1, 2, 3, 4, 5, 6, 7, 8, 9, 10, 11, 12, 13, 14, 15] := by decide
theorem be_64 : be 64 = [64] := by rw [be_pos (by decide), show 64 / 256 = 0 from rfl, be_zero]; rfl
theorem lsz_64 : lsz 64 = 1 := by unfold lsz; rw [be_64]; rfl
set_option maxHeartbeats 4000000 in
set_option maxRecDepth 100000 in
theorem ex_root (H : List Nat → List Nat) (h0 : H n0 = d0) (h1 : H n1 = d1) (h2 : H n2 = d2) : enc (nodeT pkT H 12 dogs) = dogroot := by
  unfold n0 d0 at h0
  unfold n1 d1 at h1
  unfold n2 d2 at h2
  simp [dogs, dogroot, nodeT, range16, rests, heads, own, cpAll, cp, refI, enc_str, enc_lst, encs, encS, single, hd, pkT, jnT, frT, be_64, lsz_64, h0, h1, h2]
end Tr
end Go.Proofs.Ytfdihphhmhgejaa
