/- Tries as plain mathematics: the document's lists of nodes, by fuel, over a packing of paths and a hash that are left open; the order of the entries makes no difference. No function of the program. -/
import Derived.Test.YtanmpcgackfpaaaGreatM01
import Derived.Test.YtanmpcgackfpaaaGreatM02
set_option linter.unusedVariables false
set_option linter.unusedSimpArgs false
namespace Go.Proofs.YtanmpcgackfpaaaGreat
section
namespace Tr
def cp : List Nat → List Nat → Nat
  | x :: a, y :: b => if x = y then cp a b + 1 else 0
  | _, _ => 0
theorem le_cp : ∀ {n : Nat} {a b : List Nat}, n ≤ cp a b ↔ n ≤ a.length ∧ n ≤ b.length ∧ a.take n = b.take n
  | 0, a, b => by simp
  | n + 1, [], b => by simp [cp]
  | n + 1, x :: a, [] => by simp [cp]
  | n + 1, x :: a, y :: b => by
    unfold cp
    by_cases h : x = y
    · subst h
      rw [if_pos rfl, Nat.add_le_add_iff_right, le_cp]
      simp
    · rw [if_neg h]
      simp [h]
abbrev En := List Nat × List Nat
def cpAll (p : List Nat) (l : List En) : Nat := l.foldl (fun n e => min n (cp p e.1)) p.length
theorem le_fold (p : List Nat) : ∀ (l : List En) (m n : Nat), n ≤ l.foldl (fun n e => min n (cp p e.1)) m ↔ n ≤ m ∧ ∀ e ∈ l, n ≤ cp p e.1
  | [], m, n => by simp
  | e :: l, m, n => by
    rw [List.foldl_cons, le_fold p l]
    simp only [List.mem_cons, forall_eq_or_imp, Nat.le_min, and_assoc]
theorem le_cpAll {p : List Nat} {l : List En} {n : Nat} : n ≤ cpAll p l ↔ n ≤ p.length ∧ ∀ e ∈ l, n ≤ e.1.length ∧ p.take n = e.1.take n := by
  unfold cpAll
  rw [le_fold]
  constructor
  · rintro ⟨h1, h2⟩
    exact ⟨h1, fun e he => (le_cp.1 (h2 e he)).2⟩
  · rintro ⟨h1, h2⟩
    exact ⟨h1, fun e he => le_cp.2 ⟨h1, h2 e he⟩⟩
def Share (l : List En) (n : Nat) : Prop := ∀ a ∈ l, n ≤ a.1.length ∧ ∀ b ∈ l, a.1.take n = b.1.take n
theorem qg3 {e : En} {l : List En} {n : Nat} : n ≤ cpAll e.1 l ↔ Share (e :: l) n := by
  rw [le_cpAll]
  constructor
  · rintro ⟨h1, h2⟩ a ha
    have key : ∀ x ∈ e :: l, n ≤ x.1.length ∧ e.1.take n = x.1.take n := by
      intro x hx
      rcases List.mem_cons.1 hx with rfl | hx
      · exact ⟨h1, rfl⟩
      · exact h2 x hx
    exact ⟨(key a ha).1, fun b hb => (key a ha).2.symm.trans (key b hb).2⟩
  · intro h
    exact ⟨(h e List.mem_cons_self).1, fun x hx => ⟨(h x (List.mem_cons_of_mem _ hx)).1, (h e List.mem_cons_self).2 x (List.mem_cons_of_mem _ hx)⟩⟩
theorem share_perm {l m : List En} (h : l.Perm m) {n : Nat} : Share l n ↔ Share m n := by
  unfold Share
  constructor
  · intro k a ha
    exact ⟨(k a (h.mem_iff.2 ha)).1, fun b hb => (k a (h.mem_iff.2 ha)).2 b (h.mem_iff.2 hb)⟩
  · intro k a ha
    exact ⟨(k a (h.mem_iff.1 ha)).1, fun b hb => (k a (h.mem_iff.1 ha)).2 b (h.mem_iff.1 hb)⟩
theorem cpAll_perm {e f : En} {l m : List En} (h : (e :: l).Perm (f :: m)) : cpAll e.1 l = cpAll f.1 m := by
  apply Nat.le_antisymm
  · exact qg3.2 ((share_perm h).1 (qg3.1 (Nat.le_refl _)))
  · exact qg3.2 ((share_perm h).2 (qg3.1 (Nat.le_refl _)))
section
variable (pk : List Nat → Bool → List Nat) (H : List Nat → List Nat)
def rests (n : Nat) (l : List En) : List En := l.map fun e => (e.1.drop n, e.2)
def heads (d : Nat) (l : List En) : List En := l.filter fun e => e.1.head? == some d
def own (l : List En) : List Nat := ((l.find? fun e => e.1.isEmpty).map (·.2)).getD []
def refI (i : It) : It := if (enc i).length < 32 then i else .str (H (enc i))
def nodeT : Nat → List En → It
  | 0, _ => .str []
  | _ + 1, [] => .str []
  | _ + 1, [e] => .lst [.str (pk e.1 true), .str e.2]
  | f + 1, e :: e2 :: l =>
    let n := cpAll e.1 (e2 :: l)
    if 0 < n then .lst [.str (pk (e.1.take n) false), refI H (nodeT f (rests n (e :: e2 :: l)))]
    else .lst ((List.range 16).map (fun d => if heads d (e :: e2 :: l) = [] then .str [] else refI H (nodeT f (rests 1 (heads d (e :: e2 :: l))))) ++ [.str (own (e :: e2 :: l))])
theorem rests_perm {n : Nat} {l m : List En} (h : l.Perm m) : (rests n l).Perm (rests n m) := h.map _
theorem heads_perm {d : Nat} {l m : List En} (h : l.Perm m) : (heads d l).Perm (heads d m) := h.filter _
def Apart (l : List En) : Prop := l.Pairwise fun a b => a.1 ≠ b.1
theorem Apart.perm {l m : List En} (h : Apart l) (k : l.Perm m) : Apart m := (k.pairwise_iff fun h => Ne.symm h).1 h
theorem Apart.eq : ∀ {l : List En}, Apart l → ∀ {a b : En}, a ∈ l → b ∈ l → a.1 = b.1 → a = b
  | [], _, a, _, ha, _, _ => by cases ha
  | x :: l, h, a, b, ha, hb, e => by
    obtain ⟨h1, h2⟩ := List.pairwise_cons.1 h
    rcases List.mem_cons.1 ha with ha1 | ha1
    · rcases List.mem_cons.1 hb with hb1 | hb1
      · rw [ha1, hb1]
      · exact absurd (ha1 ▸ e) (h1 b hb1)
    · rcases List.mem_cons.1 hb with hb1 | hb1
      · exact absurd (hb1 ▸ e.symm) (h1 a ha1)
      · exact Apart.eq h2 ha1 hb1 e
theorem own_perm {l m : List En} (ha : Apart l) (h : l.Perm m) : own l = own m := by
  have hm := ha.perm h
  have key : ∀ {l : List En}, Apart l → ∀ e ∈ l, e.1 = [] → own l = e.2 := by
    intro l ha e he h0
    unfold own
    cases hf : l.find? fun e => e.1.isEmpty with
    | none => exact absurd (List.find?_eq_none.1 hf e he) (by simp [h0])
    | some x =>
      have hx := List.find?_some hf
      have hxm := List.mem_of_find?_eq_some hf
      have hx0 : x.1 = [] := by simpa using hx
      rw [ha.eq hxm he (hx0.trans h0.symm)]
      rfl
  by_cases hex : ∃ e ∈ l, e.1 = []
  · obtain ⟨e, he, h0⟩ := hex
    rw [key ha e he h0, key hm e (h.mem_iff.1 he) h0]
  · have none_of : ∀ {l : List En}, (¬ ∃ e ∈ l, e.1 = []) → own l = [] := by
      intro l hn
      unfold own
      cases hf : l.find? fun e => e.1.isEmpty with
      | none => rfl
      | some x =>
        have hx := List.find?_some hf
        exact absurd ⟨x, List.mem_of_find?_eq_some hf, by simpa using hx⟩ hn
    rw [none_of hex, none_of fun ⟨e, he, h0⟩ => hex ⟨e, h.mem_iff.2 he, h0⟩]
theorem Apart.rests {n : Nat} {l : List En} (h : Apart l) (hs : Share l n) : Apart (rests n l) := by
  unfold Tr.rests Apart
  rw [List.pairwise_map]
  refine List.Pairwise.imp_of_mem (fun {a b} ha hb hab e => ?_) h
  apply hab
  rw [← List.take_append_drop n a.1, ← List.take_append_drop n b.1, (hs a ha).2 b hb]
  exact congrArg _ e
theorem qc6 {d : Nat} (l : List En) : Share (heads d l) 1 := by
  intro a ha
  have h1 : ∀ x ∈ heads d l, ∃ r, x.1 = d :: r := by
    intro x hx
    have := (List.mem_filter.1 hx).2
    cases hq : x.1 with
    | nil => simp [hq] at this
    | cons y r =>
      rw [hq] at this
      have : y = d := by simpa using this
      exact ⟨r, by rw [this]⟩
  obtain ⟨r, hr⟩ := h1 a ha
  refine ⟨by rw [hr]; simp, fun b hb => ?_⟩
  obtain ⟨s, hs⟩ := h1 b hb
  rw [hr, hs]; rfl
theorem Apart.heads {d : Nat} {l : List En} (h : Apart l) : Apart (heads d l) := h.filter _
theorem qh2 : ∀ (f : Nat) (l m : List En), Apart l → l.Perm m → nodeT pk H f l = nodeT pk H f m
  | 0, _, _, _, _ => rfl
  | f + 1, [], m, _, h => by rw [h.symm.eq_nil]
  | f + 1, [e], m, _, h => by rw [List.perm_singleton.1 h.symm]
  | f + 1, e :: e2 :: l, m, ha, h => by
    have hlen := h.length_eq
    match m, h, hlen with
    | x :: x2 :: m, h, _ =>
      have hc := cpAll_perm h
      unfold nodeT
      simp only [hc]
      by_cases hn : 0 < cpAll x.1 (x2 :: m)
      · rw [if_pos hn, if_pos hn]
        have hs : Share (e :: e2 :: l) (cpAll x.1 (x2 :: m)) := qg3.1 (by rw [hc]; exact Nat.le_refl _)
        rw [qh2 f _ _ (ha.rests hs) (rests_perm h), (hs e List.mem_cons_self).2 x (h.mem_iff.2 List.mem_cons_self)]
      · rw [if_neg hn, if_neg hn, own_perm ha h]
        congr 2
        apply List.map_congr_left
        intro d _
        have hp := heads_perm (d := d) h
        by_cases h0 : heads d (e :: e2 :: l) = []
        · rw [if_pos h0, if_pos (by rw [h0] at hp; exact hp.symm.eq_nil)]
        · rw [if_neg h0, if_neg (fun h1 => h0 (by rw [h1] at hp; exact hp.eq_nil)), qh2 f _ _ (ha.heads.rests (qc6 _)) (rests_perm hp)]
end
end Tr
end
section
namespace Tr
def lt : List Nat → List Nat → Prop
  | [], [] => False
  | [], _ :: _ => True
  | _ :: _, [] => False
  | x :: a, y :: b => x < y ∨ (x = y ∧ lt a b)
theorem lt_irrefl : ∀ a : List Nat, ¬ lt a a
  | [], h => h
  | x :: a, h => by
    rcases h with h | h
    · exact absurd h (Nat.lt_irrefl _)
    · exact lt_irrefl a h.2
theorem lt_ne {a b : List Nat} (h : lt a b) : a ≠ b := fun e => lt_irrefl a (by rw [← e] at h; exact h)
def Sorted (l : List En) : Prop := l.Pairwise fun a b => lt a.1 b.1
theorem Sorted.apart {l : List En} (h : Sorted l) : Apart l := h.imp lt_ne
theorem between : ∀ (n : Nat) (a x b : List Nat), lt a x → lt x b → n ≤ cp a b → n ≤ x.length ∧ a.take n = x.take n
  | 0, _, _, _, _, _, _ => by simp
  | n + 1, [], x, b, _, _, h => by simp [cp] at h
  | n + 1, s :: a, x, [], _, _, h => by simp [cp] at h
  | n + 1, s :: a, [], t :: b, h1, _, _ => h1.elim
  | n + 1, s :: a, y :: x, t :: b, h1, h2, h => by
    unfold cp at h
    by_cases hst : s = t
    · subst hst
      rw [if_pos rfl, Nat.add_le_add_iff_right] at h
      have hsy : s = y := by
        rcases h1 with h1 | h1
        · rcases h2 with h2 | h2 <;> omega
        · exact h1.1
      subst hsy
      have h1' : lt a x := by rcases h1 with h1 | h1; exact absurd h1 (Nat.lt_irrefl _); exact h1.2
      have h2' : lt x b := by rcases h2 with h2 | h2; exact absurd h2 (Nat.lt_irrefl _); exact h2.2
      obtain ⟨h3, h4⟩ := between n a x b h1' h2' h
      exact ⟨by simpa using h3, by simp [h4]⟩
    · rw [if_neg hst] at h; omega
theorem cp_ends {e z : En} {l : List En} (h : Sorted (e :: (l ++ [z]))) : cp e.1 z.1 = cpAll e.1 (l ++ [z]) := by
  obtain ⟨h1, h2⟩ := List.pairwise_cons.1 h
  have h3 := (List.pairwise_append.1 h2).2.2
  apply Nat.le_antisymm
  · rw [le_cpAll]
    have hz := le_cp.1 (Nat.le_refl (cp e.1 z.1))
    refine ⟨hz.1, fun x hx => ?_⟩
    rcases List.mem_append.1 hx with hx | hx
    · exact between _ e.1 x.1 z.1 (h1 x (List.mem_append_left _ hx)) (h3 x hx z (by simp)) (Nat.le_refl _)
    · rw [List.mem_singleton.1 hx]; exact hz.2
  · have := (le_cpAll.1 (Nat.le_refl (cpAll e.1 (l ++ [z]))))
    exact le_cp.2 ⟨this.1, this.2 z (by simp)⟩
theorem Sorted.rests {n : Nat} : ∀ {l : List En}, Sorted l → Share l n → Sorted (rests n l)
  | l, h, hs => by
    unfold Tr.rests Sorted
    rw [List.pairwise_map]
    refine List.Pairwise.imp_of_mem (fun {a b} ha hb hab => ?_) h
    have key : ∀ (n : Nat) (p q : List Nat), n ≤ p.length → p.take n = q.take n → n ≤ q.length → lt p q → lt (p.drop n) (q.drop n) := by
      intro n
      induction n with
      | zero => intro p q _ _ _ h; simpa using h
      | succ n ih =>
        intro p q h1 h2 h3 h4
        match p, q, h1, h2, h3, h4 with
        | x :: p, y :: q, h1, h2, h3, h4 =>
          simp only [List.take_succ_cons, List.cons.injEq] at h2
          obtain ⟨rfl, h2⟩ := h2
          have h4' : lt p q := by rcases h4 with h4 | h4; exact absurd h4 (Nat.lt_irrefl _); exact h4.2
          simpa using ih p q (by simpa using h1) h2 (by simpa using h3) h4'
    exact key n a.1 b.1 (hs a ha).1 ((hs a ha).2 b hb) (hs b hb).1 hab
theorem Sorted.heads {d : Nat} {l : List En} (h : Sorted l) : Sorted (heads d l) := h.filter _
theorem heads_while (d : Nat) : ∀ (l : List En), Sorted l → (∀ e ∈ l, ∃ x r, e.1 = x :: r ∧ d ≤ x) →
    l.takeWhile (fun e => e.1.head? == some d) = heads d l ∧ l.dropWhile (fun e => e.1.head? == some d) = l.filter (fun e => !(e.1.head? == some d)) ∧ ∀ e ∈ l.dropWhile (fun e => e.1.head? == some d), ∃ x r, e.1 = x :: r ∧ d + 1 ≤ x
  | [], _, _ => by simp [Tr.heads]
  | e :: l, hs, hd => by
    obtain ⟨h1, h2⟩ := List.pairwise_cons.1 hs
    obtain ⟨x, r, hx, hxd⟩ := hd e List.mem_cons_self
    have ih := heads_while d l h2 (fun e he => hd e (List.mem_cons_of_mem _ he))
    unfold Tr.heads at ih ⊢
    by_cases hq : x = d
    · subst hq
      have ht : (e.1.head? == some x) = true := by rw [hx]; simp
      simp only [List.takeWhile_cons, List.dropWhile_cons, List.filter_cons, ht, if_true, Bool.not_true, Bool.false_eq_true, if_false]
      exact ⟨by rw [ih.1], ih.2.1, ih.2.2⟩
    · have hf : (e.1.head? == some d) = false := by rw [hx]; simp [hq]
      have hall : ∀ y ∈ l, ∃ z s, y.1 = z :: s ∧ d + 1 ≤ z := by
        intro y hy
        obtain ⟨z, s, hz, hzd⟩ := hd y (List.mem_cons_of_mem _ hy)
        have := h1 y hy
        rw [hx, hz] at this
        refine ⟨z, s, hz, ?_⟩
        rcases this with h | h <;> omega
      have hnone : l.filter (fun e => e.1.head? == some d) = [] := by
        rw [List.filter_eq_nil_iff]
        intro y hy
        obtain ⟨z, s, hz, hzd⟩ := hall y hy
        rw [hz]; simp; omega
      have hkeep : l.filter (fun e => !(e.1.head? == some d)) = l := by
        rw [List.filter_eq_self]
        intro y hy
        obtain ⟨z, s, hz, hzd⟩ := hall y hy
        rw [hz]; simp; omega
      simp only [List.takeWhile_cons, List.dropWhile_cons, List.filter_cons, hf, Bool.false_eq_true, if_false, Bool.not_false, if_true]
      refine ⟨hnone.symm, by rw [hkeep], fun y hy => ?_⟩
      rcases List.mem_cons.1 hy with h | h
      · subst h; exact ⟨x, r, hx, by omega⟩
      · exact hall y h
theorem own_first {e : En} {l : List En} (h : Sorted (e :: l)) : own (e :: l) = if e.1 = [] then e.2 else [] := by
  obtain ⟨h1, _⟩ := List.pairwise_cons.1 h
  unfold own
  by_cases h0 : e.1 = []
  · rw [if_pos h0, List.find?_cons, h0]; rfl
  · rw [if_neg h0, List.find?_cons]
    have : e.1.isEmpty = false := by simp [h0]
    rw [this]
    have hn : l.find? (fun e => e.1.isEmpty) = none := by
      rw [List.find?_eq_none]
      intro y hy
      have := h1 y hy
      cases hq : y.1 with
      | nil =>
        rw [hq] at this
        cases he : e.1 with
        | nil => exact absurd he h0
        | cons x r => rw [he] at this; exact this.elim
      | cons z s => simp
    simp [hn]
end Tr
end
section
namespace Tr
inductive TN where
  | nil : TN
  | leaf (p v : List Nat) : TN
  | ext (p : List Nat) (s : TN) : TN
  | branch (s : Nat → TN) (v : List Nat) : TN
section
variable (pk : List Nat → Bool → List Nat) (H : List Nat → List Nat)
def itemT : TN → It
  | .nil => .str []
  | .leaf p v => .lst [.str (pk p true), .str v]
  | .ext p s => .lst [.str (pk p false), refI H (itemT s)]
  | .branch s v => .lst ((List.range 16).map (fun d => refI H (itemT (s d))) ++ [.str v])
def buildT : Nat → List En → TN
  | 0, _ => .nil
  | _ + 1, [] => .nil
  | _ + 1, [e] => .leaf e.1 e.2
  | f + 1, e :: e2 :: l =>
    let n := cp e.1 ((e2 :: l).getLast (by simp)).1
    if 0 < n then .ext (e.1.take n) (buildT f (rests n (e :: e2 :: l)))
    else .branch (fun d => buildT f (rests 1 (heads d (e :: e2 :: l)))) (if e.1 = [] then e.2 else [])
theorem qk0 (f : Nat) : buildT f [] = .nil := by cases f <;> rfl
theorem refI_nil : refI H (.str []) = .str [] := by
  unfold refI
  rw [if_pos (by rw [qf4]; decide)]
theorem cp_last {e e2 : En} {l : List En} (h : Sorted (e :: e2 :: l)) : cp e.1 ((e2 :: l).getLast (by simp)).1 = cpAll e.1 (e2 :: l) := by
  have hl := List.dropLast_concat_getLast (l := e2 :: l) (by simp)
  rw [← hl] at h
  have := cp_ends h
  rw [hl] at this
  exact this
theorem qh1 : ∀ (f : Nat) (l : List En), Sorted l → itemT pk H (buildT f l) = nodeT pk H f l
  | 0, _, _ => rfl
  | f + 1, [], _ => rfl
  | f + 1, [e], _ => rfl
  | f + 1, e :: e2 :: l, hs => by
    have hc := cp_last hs
    unfold buildT nodeT
    simp only [hc]
    by_cases hn : 0 < cpAll e.1 (e2 :: l)
    · rw [if_pos hn, if_pos hn]
      have hsh : Share (e :: e2 :: l) (cpAll e.1 (e2 :: l)) := qg3.1 (Nat.le_refl _)
      show It.lst _ = _
      rw [qh1 f _ (hs.rests hsh)]
    · rw [if_neg hn, if_neg hn, own_first hs]
      show It.lst _ = _
      congr 2
      apply List.map_congr_left
      intro d _
      by_cases h0 : heads d (e :: e2 :: l) = []
      · rw [if_pos h0]
        show refI H (itemT pk H (buildT f (rests 1 (heads d (e :: e2 :: l))))) = _
        rw [h0, show rests 1 [] = [] from rfl, qk0]
        exact refI_nil H
      · rw [if_neg h0, qh1 f _ (hs.heads.rests (qc6 _))]
end
def longest (l : List En) : Nat := l.foldl (fun n e => max n e.1.length) 0
theorem qd2 {l : List En} {m : Nat} : longest l ≤ m ↔ ∀ e ∈ l, e.1.length ≤ m := by
  have key : ∀ (l : List En) (k : Nat), l.foldl (fun n e => max n e.1.length) k ≤ m ↔ k ≤ m ∧ ∀ e ∈ l, e.1.length ≤ m := by
    intro l
    induction l with
    | nil => intro k; simp
    | cons e l ih => intro k; rw [List.foldl_cons, ih]; simp only [List.mem_cons, forall_eq_or_imp, Nat.max_le, and_assoc]
  unfold longest
  rw [key]
  exact ⟨fun h => h.2, fun h => ⟨Nat.zero_le _, h⟩⟩
theorem qd7 {n f : Nat} {l : List En} (hn : 0 < n) (hs : Share l n) (h : longest l < f + 1) : longest (rests n l) < f ∨ l = [] := by
  cases l with
  | nil => exact .inr rfl
  | cons e l =>
    refine .inl ?_
    have hlen := (hs e List.mem_cons_self).1
    have h1 := qd2.1 (Nat.le_of_lt_succ h) e List.mem_cons_self
    have : longest (rests n (e :: l)) ≤ f - 1 := qd2.2 fun x hx => by
      obtain ⟨y, hy, rfl⟩ := List.mem_map.1 hx
      have h2 := qd2.1 (Nat.le_of_lt_succ h) y hy
      have h3 := (hs y hy).1
      show (y.1.drop n).length ≤ f - 1
      rw [List.length_drop]; omega
    omega
theorem buildT_fuel : ∀ (f g : Nat) (l : List En), longest l < f → longest l < g → Sorted l → buildT f l = buildT g l
  | 0, _, _, h, _, _ => by omega
  | _, 0, _, _, h, _ => by omega
  | f + 1, g + 1, [], _, _, _ => rfl
  | f + 1, g + 1, [e], _, _, _ => rfl
  | f + 1, g + 1, e :: e2 :: l, hf, hg, hs => by
    have hc := cp_last hs
    unfold buildT
    simp only [hc]
    by_cases hn : 0 < cpAll e.1 (e2 :: l)
    · rw [if_pos hn, if_pos hn]
      have hsh : Share (e :: e2 :: l) (cpAll e.1 (e2 :: l)) := qg3.1 (Nat.le_refl _)
      rw [buildT_fuel f g _ ((qd7 hn hsh hf).resolve_right (by simp)) ((qd7 hn hsh hg).resolve_right (by simp)) (hs.rests hsh)]
    · rw [if_neg hn, if_neg hn]
      congr 1
      funext d
      by_cases h0 : heads d (e :: e2 :: l) = []
      · rw [h0, show rests 1 [] = [] from rfl, qk0, qk0]
      · have hsub : ∀ k, longest (e :: e2 :: l) < k → longest (heads d (e :: e2 :: l)) < k := fun k hk => by
          have : longest (heads d (e :: e2 :: l)) ≤ longest (e :: e2 :: l) := qd2.2 fun x hx => qd2.1 (Nat.le_refl _) x ((List.mem_filter.1 hx).1)
          omega
        exact buildT_fuel f g _ ((qd7 (by decide) (qc6 _) (hsub _ hf)).resolve_right h0) ((qd7 (by decide) (qc6 _) (hsub _ hg)).resolve_right h0) (hs.heads.rests (qc6 _))
end Tr
end
section
namespace Tr
theorem lt_trans : ∀ {a b c : List Nat}, lt a b → lt b c → lt a c
  | [], [], _, h, _ => h.elim
  | [], _ :: _, [], _, h => h.elim
  | [], _ :: _, _ :: _, _, _ => trivial
  | _ :: _, [], _, h, _ => h.elim
  | _ :: _, _ :: _, [], _, h => h.elim
  | x :: a, y :: b, z :: c, h, k => by
    rcases h with h | ⟨rfl, h⟩
    · rcases k with k | ⟨rfl, _⟩
      · exact .inl (by omega)
      · exact .inl h
    · rcases k with k | ⟨rfl, k⟩
      · exact .inl k
      · exact .inr ⟨rfl, lt_trans h k⟩
theorem lt_total : ∀ (a b : List Nat), lt a b ∨ a = b ∨ lt b a
  | [], [] => .inr (.inl rfl)
  | [], _ :: _ => .inl trivial
  | _ :: _, [] => .inr (.inr trivial)
  | x :: a, y :: b => by
    rcases Nat.lt_trichotomy x y with h | h | h
    · exact .inl (.inl h)
    · subst h
      rcases lt_total a b with k | k | k
      · exact .inl (.inr ⟨rfl, k⟩)
      · exact .inr (.inl (by rw [k]))
      · exact .inr (.inr (.inr ⟨rfl, k⟩))
    · exact .inr (.inr (.inl h))
def Unlike : List En → Prop
  | a :: b :: l => a.1 ≠ b.1 ∧ Unlike (b :: l)
  | _ => True
theorem sorted_of : ∀ {l : List En}, l.Pairwise (fun a b => ¬ lt b.1 a.1) → Unlike l → Sorted l
  | [], _, _ => List.Pairwise.nil
  | [e], _, _ => List.pairwise_singleton _ _
  | e :: e2 :: l, h, hu => by
    obtain ⟨h1, h2⟩ := List.pairwise_cons.1 h
    have hs := sorted_of h2 hu.2
    have h12 : lt e.1 e2.1 := by
      rcases lt_total e.1 e2.1 with k | k | k
      · exact k
      · exact absurd k hu.1
      · exact absurd k (h1 e2 List.mem_cons_self)
    refine List.pairwise_cons.2 ⟨fun x hx => ?_, hs⟩
    rcases List.mem_cons.1 hx with rfl | hx
    · exact h12
    · exact lt_trans h12 ((List.pairwise_cons.1 hs).1 x hx)
theorem unlike_of_apart : ∀ {l : List En}, Apart l → Unlike l
  | [], _ => trivial
  | [_], _ => trivial
  | e :: e2 :: l, h => by
    obtain ⟨h1, h2⟩ := List.pairwise_cons.1 h
    exact ⟨h1 e2 List.mem_cons_self, unlike_of_apart h2⟩
section
variable (pk : List Nat → Bool → List Nat) (H : List Nat → List Nat)
def below : TN → List (List Nat)
  | .nil => []
  | .leaf _ _ => []
  | .ext _ s => below s ++ (if (enc (itemT pk H s)).length < 32 then [] else [enc (itemT pk H s)])
  | .branch s _ => (List.range 16).flatMap fun d => below (s d) ++ (if (enc (itemT pk H (s d))).length < 32 then [] else [enc (itemT pk H (s d))])
end
end Tr
end
end Go.Proofs.YtanmpcgackfpaaaGreat
