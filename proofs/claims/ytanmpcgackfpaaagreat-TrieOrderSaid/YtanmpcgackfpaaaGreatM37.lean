/- A trie's list tells its pairs, where no two unlike lists that are hashed have one hash. No function of the program. -/
import Derived.Test.YtanmpcgackfpaaaGreatM01
import Derived.Test.YtanmpcgackfpaaaGreatM14
import Derived.Test.YtanmpcgackfpaaaGreatM18
import Derived.Test.YtanmpcgackfpaaaGreatM36
set_option linter.unusedVariables false
set_option linter.unusedSimpArgs false
namespace Go.Proofs.YtanmpcgackfpaaaGreat
section
namespace Tr
theorem jnT_inj : ∀ a b : List Nat, a.length % 2 = 0 → b.length % 2 = 0 → (∀ x ∈ a, x < 16) → (∀ x ∈ b, x < 16) → jnT a = jnT b → a = b
  | [], [], _, _, _, _, _ => rfl
  | [], [_], _, h, _, _, _ => by simp at h
  | [_], _, h, _, _, _, _ => by simp at h
  | _ :: _ :: _, [_], _, h, _, _, _ => by simp at h
  | [], x :: y :: r, _, _, _, _, h => by simp [jnT] at h
  | x :: y :: r, [], _, _, _, _, h => by simp [jnT] at h
  | x :: y :: r, x' :: y' :: r', ha, hb, ga, gb, h => by
    simp only [jnT, List.cons.injEq] at h
    have h1 := ga x (by simp)
    have h2 := ga y (by simp)
    have h3 := gb x' (by simp)
    have h4 := gb y' (by simp)
    have e1 : x = x' := by omega
    have e2 : y = y' := by omega
    have e3 := jnT_inj r r' (by simp only [List.length_cons] at ha; omega) (by simp only [List.length_cons] at hb; omega) (fun z hz => ga z (by simp [hz])) (fun z hz => gb z (by simp [hz])) h.2
    rw [e1, e2, e3]
theorem pkT_inj {l m : List Nat} {b c : Bool} (hl : ∀ x ∈ l, x < 16) (hm : ∀ x ∈ m, x < 16) (h : pkT l b = pkT m c) : l = m ∧ b = c := by
  have hev : ∀ (l : List Nat) (b : Bool), (frT l b ++ l).length % 2 = 0 := fun l b => by
    unfold frT
    rw [List.length_append]
    split <;> simp <;> omega
  have hn : ∀ (l : List Nat) (b : Bool), (∀ x ∈ l, x < 16) → ∀ x ∈ frT l b ++ l, x < 16 := fun l b hl x hx => by
    rcases List.mem_append.1 hx with hx | hx
    · unfold frT at hx
      split at hx <;> cases b <;> simp at hx <;> omega
    · exact hl x hx
  have h1 := jnT_inj _ _ (hev l b) (hev m c) (hn l b hl) (hn m c hm) h
  unfold frT at h1
  split at h1 <;> split at h1 <;> cases b <;> cases c <;> simp_all
theorem enc_inj {a b : It} (ha : (enc a).length ≤ 16777216) (da : dep a ≤ 32) (db : dep b ≤ 32) (h : enc a = enc b) : a = b := by
  have h1 := enc_dec 32 a [] ha
  have h2 := enc_dec 32 b [] (by rw [← h]; exact ha)
  rw [if_pos da] at h1
  rw [if_pos db, ← h, h1] at h2
  injection h2 with h2
  injection h2
def Same : TN → TN → Prop
  | .nil, .nil => True
  | .leaf p u, .leaf q v => p = q ∧ u = v
  | .ext p s, .ext q t => p = q ∧ Same s t
  | .branch s u, .branch t v => u = v ∧ ∀ d, d < 16 → Same (s d) (t d)
  | _, _ => False
def prs : TN → List En
  | .nil => []
  | .leaf p u => [(p, u)]
  | .ext p s => (prs s).map fun e => (p ++ e.1, e.2)
  | .branch s u => (if u = [] then [] else [([], u)]) ++ (List.range 16).flatMap fun d => (prs (s d)).map fun e => (d :: e.1, e.2)
theorem same_prs : ∀ {S T : TN}, Same S T → prs S = prs T
  | .nil, .nil, _ => rfl
  | .leaf p u, .leaf q v, h => by rw [h.1, h.2]
  | .ext p s, .ext q t, h => by
    have := same_prs h.2
    show (prs s).map _ = (prs t).map _
    rw [h.1, this]
  | .branch s u, .branch t v, h => by
    show _ ++ (List.range 16).flatMap _ = _ ++ (List.range 16).flatMap _
    rw [h.1]
    congr 1
    simp only [List.flatMap_def]
    congr 1
    apply List.map_congr_left
    intro d hd
    rw [same_prs (h.2 d (List.mem_range.1 hd))]
  | .nil, .leaf _ _, h => h.elim
  | .nil, .ext _ _, h => h.elim
  | .nil, .branch _ _, h => h.elim
  | .leaf _ _, .nil, h => h.elim
  | .leaf _ _, .ext _ _, h => h.elim
  | .leaf _ _, .branch _ _, h => h.elim
  | .ext _ _, .nil, h => h.elim
  | .ext _ _, .leaf _ _, h => h.elim
  | .ext _ _, .branch _ _, h => h.elim
  | .branch _ _, .nil, h => h.elim
  | .branch _ _, .leaf _ _, h => h.elim
  | .branch _ _, .ext _ _, h => h.elim
theorem str32_len {l : List Nat} (h : l.length = 32) : (enc (.str l)).length = 33 := by
  match l, h with
  | [], h => simp at h
  | [_], h => simp at h
  | x :: y :: r, h =>
    rw [qf4]
    unfold encS
    rw [if_neg (by simp [single]), List.length_append, h]
    rfl
variable {S : List Nat → Prop}
theorem refI_inj (hi : ∀ x y, S x → S y → HL x = HL y → x = y) {a b : It} (la : (enc a).length ≤ 901000) (lb : (enc b).length ≤ 901000) (da : dep a ≤ 32) (db : dep b ≤ 32) (sa : ∀ x ∈ selfE a, S x) (sb : ∀ x ∈ selfE b, S x) (h : refI HL a = refI HL b) : a = b := by
  unfold refI at h
  unfold selfE at sa sb
  by_cases h1 : (enc a).length < 32 <;> by_cases h2 : (enc b).length < 32
  · rw [if_pos h1, if_pos h2] at h; exact h
  · rw [if_pos h1, if_neg h2] at h
    rw [h, str32_len (HL_len _)] at h1
    omega
  · rw [if_neg h1, if_pos h2] at h
    rw [← h, str32_len (HL_len _)] at h2
    omega
  · rw [if_neg h1, if_neg h2] at h
    rw [if_neg h1] at sa
    rw [if_neg h2] at sb
    injection h with h
    exact enc_inj (by omega) da db (hi _ _ (sa _ (List.mem_singleton_self _)) (sb _ (List.mem_singleton_self _)) h)
theorem tree_inj (hi : ∀ x y, S x → S y → HL x = HL y → x = y) : ∀ {T U : TN}, WT T → WT U → (∀ x ∈ below pkT HL T, S x) → (∀ x ∈ below pkT HL U, S x) → itemT pkT HL T = itemT pkT HL U → Same T U
  | .nil, .nil, _, _, _, _, _ => trivial
  | .leaf p u, .leaf q v, hT, hU, _, _, h => by
    simp only [itemT, It.lst.injEq, List.cons.injEq, It.str.injEq, and_true] at h
    exact ⟨(pkT_inj hT.2.1 hU.2.1 h.1).1, h.2⟩
  | .ext p s, .ext q t, hT, hU, sT, sU, h => by
    simp only [itemT, It.lst.injEq, List.cons.injEq, It.str.injEq, and_true] at h
    have e := refI_inj hi (ql5 HL_len hT.2.2) (ql5 HL_len hU.2.2) (qk2 _) (qk2 _) (fun x hx => sT x (List.mem_append_right _ hx)) (fun x hx => sU x (List.mem_append_right _ hx)) h.2
    exact ⟨(pkT_inj hT.2.1 hU.2.1 h.1).1, tree_inj hi hT.2.2 hU.2.2 (fun x hx => sT x (List.mem_append_left _ hx)) (fun x hx => sU x (List.mem_append_left _ hx)) e⟩
  | .branch s u, .branch t v, hT, hU, sT, sU, h => by
    simp only [itemT, It.lst.injEq] at h
    have h1 := List.append_inj h (by simp)
    have h2 : u = v := by have := h1.2; simpa using this
    refine ⟨h2, fun d hd => ?_⟩
    have e : refI HL (itemT pkT HL (s d)) = refI HL (itemT pkT HL (t d)) := by
      have h3 := congrArg (fun l => l[d]?) h1.1
      simpa [hd] using h3
    have m1 : ∀ x ∈ below pkT HL (s d) ++ selfE (itemT pkT HL (s d)), S x := fun x hx => sT x (List.mem_flatMap.2 ⟨d, List.mem_range.2 hd, hx⟩)
    have m2 : ∀ x ∈ below pkT HL (t d) ++ selfE (itemT pkT HL (t d)), S x := fun x hx => sU x (List.mem_flatMap.2 ⟨d, List.mem_range.2 hd, hx⟩)
    have e2 := refI_inj hi (ql5 HL_len (hT.2 d hd)) (ql5 HL_len (hU.2 d hd)) (qk2 _) (qk2 _) (fun x hx => m1 x (List.mem_append_right _ hx)) (fun x hx => m2 x (List.mem_append_right _ hx)) e
    exact tree_inj hi (hT.2 d hd) (hU.2 d hd) (fun x hx => m1 x (List.mem_append_left _ hx)) (fun x hx => m2 x (List.mem_append_left _ hx)) e2
  | .nil, .leaf _ _, _, _, _, _, h => by simp [itemT] at h
  | .nil, .ext _ _, _, _, _, _, h => by simp [itemT] at h
  | .nil, .branch _ _, _, _, _, _, h => by simp [itemT] at h
  | .leaf _ _, .nil, _, _, _, _, h => by simp [itemT] at h
  | .ext _ _, .nil, _, _, _, _, h => by simp [itemT] at h
  | .branch _ _, .nil, _, _, _, _, h => by simp [itemT] at h
  | .leaf p u, .ext q t, hT, hU, _, _, h => by
    simp only [itemT, It.lst.injEq, List.cons.injEq, It.str.injEq, and_true] at h
    exact absurd (pkT_inj hT.2.1 hU.2.1 h.1).2 (by decide)
  | .ext q t, .leaf p u, hT, hU, _, _, h => by
    simp only [itemT, It.lst.injEq, List.cons.injEq, It.str.injEq, and_true] at h
    exact absurd (pkT_inj hT.2.1 hU.2.1 h.1).2 (by decide)
  | .leaf _ _, .branch _ _, _, _, _, _, h => by
    have := congrArg (fun i => match i with | .lst l => l.length | _ => 0) h
    simp [itemT] at this
  | .branch _ _, .leaf _ _, _, _, _, _, h => by
    have := congrArg (fun i => match i with | .lst l => l.length | _ => 0) h
    simp [itemT] at this
  | .ext _ _, .branch _ _, _, _, _, _, h => by
    have := congrArg (fun i => match i with | .lst l => l.length | _ => 0) h
    simp [itemT] at this
  | .branch _ _, .ext _ _, _, _, _, _, h => by
    have := congrArg (fun i => match i with | .lst l => l.length | _ => 0) h
    simp [itemT] at this
theorem prs_build : ∀ (f : Nat) (l : List En), Sorted l → longest l < f → (∀ e ∈ l, e.2 ≠ [] ∧ ∀ x ∈ e.1, x < 16) → ∀ e, e ∈ prs (buildT f l) ↔ e ∈ l
  | 0, l, _, h, _, _ => absurd h (Nat.not_lt_zero _)
  | f + 1, [], _, _, _, e => by simp [buildT, prs]
  | f + 1, [e0], _, _, _, e => by simp [buildT, prs]
  | f + 1, e0 :: e2 :: l, hs, hf, hv, e => by
    have hc := cp_last hs
    unfold buildT
    simp only [hc]
    by_cases hn : 0 < cpAll e0.1 (e2 :: l)
    · rw [if_pos hn]
      have hsh : Share (e0 :: e2 :: l) (cpAll e0.1 (e2 :: l)) := qg3.1 (Nat.le_refl _)
      generalize cpAll e0.1 (e2 :: l) = n at hn hsh
      have hl : longest (rests n (e0 :: e2 :: l)) < f := (qd7 hn hsh hf).resolve_right (by simp)
      have hr := fun q => prs_build f (rests n (e0 :: e2 :: l)) (hs.rests hsh) hl (fun y hy => by
        unfold rests at hy
        obtain ⟨z, hz, rfl⟩ := List.mem_map.1 hy
        exact ⟨(hv z hz).1, fun x hx => (hv z hz).2 x (List.mem_of_mem_drop hx)⟩) q
      show e ∈ (prs _).map _ ↔ _
      rw [List.mem_map]
      have htk : ∀ z ∈ e0 :: e2 :: l, e0.1.take n ++ z.1.drop n = z.1 := fun z hz => by
        rw [((hsh e0 List.mem_cons_self).2 z hz), List.take_append_drop]
      constructor
      · rintro ⟨q, hq, rfl⟩
        have h1 := (hr q).1 hq
        unfold rests at h1
        obtain ⟨z, hz, rfl⟩ := List.mem_map.1 h1
        have e5 : ((e0.1.take n ++ z.1.drop n, z.2) : En) = z := by rw [htk z hz]
        exact e5.symm ▸ hz
      · intro he
        refine ⟨(e.1.drop n, e.2), (hr _).2 (List.mem_map.2 ⟨e, he, rfl⟩), ?_⟩
        show (e0.1.take n ++ e.1.drop n, e.2) = e
        rw [htk e he]
    · rw [if_neg hn]
      have hown : ∀ y ∈ e0 :: e2 :: l, y.1 = [] → y = e0 := fun y hy h0 => by
        rcases List.mem_cons.1 hy with h | h
        · exact h
        · have := (List.pairwise_cons.1 hs).1 y h
          rw [h0] at this
          cases hq : e0.1 with
          | nil => rw [hq] at this; exact this.elim
          | cons x r => rw [hq] at this; exact this.elim
      have hb : ∀ d q, q ∈ prs (buildT f (rests 1 (heads d (e0 :: e2 :: l)))) ↔ (d :: q.1, q.2) ∈ e0 :: e2 :: l := fun d q => by
        by_cases h0 : heads d (e0 :: e2 :: l) = []
        · rw [h0, show rests 1 ([] : List En) = [] from rfl, qk0]
          constructor
          · intro h; simp [prs] at h
          · intro h
            have : (d :: q.1, q.2) ∈ heads d (e0 :: e2 :: l) := List.mem_filter.2 ⟨h, by simp⟩
            rw [h0] at this; simp at this
        · have hlh : longest (heads d (e0 :: e2 :: l)) < f + 1 := by
            have := qd2.1 (show longest (e0 :: e2 :: l) ≤ f by omega)
            have := qd2.2 (fun (z : En) (hz : z ∈ heads d (e0 :: e2 :: l)) => this z (List.mem_filter.1 hz).1)
            omega
          have hl : longest (rests 1 (heads d (e0 :: e2 :: l))) < f := (qd7 (by decide) (qc6 _) hlh).resolve_right h0
          have hr := prs_build f (rests 1 (heads d (e0 :: e2 :: l))) (hs.heads.rests (qc6 _)) hl (fun y hy => by
            unfold rests at hy
            obtain ⟨z, hz, rfl⟩ := List.mem_map.1 hy
            have hz' := (List.mem_filter.1 hz).1
            exact ⟨(hv z hz').1, fun x hx => (hv z hz').2 x (List.mem_of_mem_drop hx)⟩) q
          rw [hr]
          constructor
          · intro h
            unfold rests at h
            obtain ⟨⟨z1, z2⟩, hz, rfl⟩ := List.mem_map.1 h
            obtain ⟨hz1, hz2⟩ := List.mem_filter.1 hz
            cases z1 with
            | nil => simp at hz2
            | cons x r =>
              have : x = d := by simpa using hz2
              subst this
              exact hz1
          · intro h
            exact List.mem_map.2 ⟨(d :: q.1, q.2), List.mem_filter.2 ⟨h, by simp⟩, rfl⟩
      show e ∈ (if (if e0.1 = [] then e0.2 else []) = [] then ([] : List En) else [(([], if e0.1 = [] then e0.2 else []) : En)]) ++ (List.range 16).flatMap (fun d => (prs (buildT f (rests 1 (heads d (e0 :: e2 :: l))))).map fun e => (d :: e.1, e.2)) ↔ _
      rw [List.mem_append, List.mem_flatMap]
      constructor
      · rintro (h | ⟨d, hd, h⟩)
        · by_cases h0 : e0.1 = []
          · rw [if_pos h0, if_neg (hv e0 List.mem_cons_self).1, List.mem_singleton] at h
            rw [h, ← h0]
            exact List.mem_cons_self
          · rw [if_neg h0, if_pos rfl] at h; simp at h
        · obtain ⟨q, hq, rfl⟩ := List.mem_map.1 h
          exact (hb d q).1 hq
      · intro he
        cases hq : e.1 with
        | nil =>
          have := hown e he hq
          subst this
          refine .inl ?_
          rw [if_pos hq, if_neg (hv e List.mem_cons_self).1, List.mem_singleton, ← hq]
        | cons x r =>
          refine .inr ⟨x, List.mem_range.2 ((hv e he).2 x (by rw [hq]; simp)), List.mem_map.2 ⟨(r, e.2), (hb x (r, e.2)).2 ?_, ?_⟩⟩
          · have e6 : ((x :: r, e.2) : En) = e := by rw [← hq]
            exact e6.symm ▸ he
          · show (x :: r, e.2) = e
            rw [← hq]
theorem nodeT_inj (hi : ∀ x y, S x → S y → HL x = HL y → x = y) {l m : List En} (hl : Sorted l) (hm : Sorted m) (gl : ∀ e ∈ l, e.1.length ≤ 128 ∧ (∀ x ∈ e.1, x < 16) ∧ e.2.length ≤ 900000) (gm : ∀ e ∈ m, e.1.length ≤ 128 ∧ (∀ x ∈ e.1, x < 16) ∧ e.2.length ≤ 900000) (vl : ∀ e ∈ l, e.2 ≠ []) (vm : ∀ e ∈ m, e.2 ≠ [])
    (sl : ∀ x ∈ below pkT HL (buildT 200 l) ++ [enc (itemT pkT HL (buildT 200 l))], S x) (sm : ∀ x ∈ below pkT HL (buildT 200 m) ++ [enc (itemT pkT HL (buildT 200 m))], S x) (h : HL (enc (itemT pkT HL (buildT 200 l))) = HL (enc (itemT pkT HL (buildT 200 m)))) : ∀ e, e ∈ l ↔ e ∈ m := by
  have wl := build_WT 200 l gl
  have wm := build_WT 200 m gm
  have e1 := hi _ _ (sl _ (List.mem_append_right _ (List.mem_singleton_self _))) (sm _ (List.mem_append_right _ (List.mem_singleton_self _))) h
  have e2 := enc_inj (Nat.le_trans (ql5 HL_len wl) (by decide)) (qk2 _) (qk2 _) e1
  have e3 := same_prs (tree_inj hi wl wm (fun x hx => sl x (List.mem_append_left _ hx)) (fun x hx => sm x (List.mem_append_left _ hx)) e2)
  have f1 : longest l < 200 := by have := qd2.2 (fun e he => (gl e he).1); omega
  have f2 : longest m < 200 := by have := qd2.2 (fun e he => (gm e he).1); omega
  intro e
  rw [← prs_build 200 l hl f1 (fun e he => ⟨vl e he, (gl e he).2.1⟩) e, e3, prs_build 200 m hm f2 (fun e he => ⟨vm e he, (gm e he).2.1⟩) e]
end Tr
end
section
namespace Tr
section
variable (pk : List Nat → Bool → List Nat) (H : List Nat → List Nat)
def selfT (it : It) : List (List Nat) := if (enc it).length < 32 then [] else [enc it]
def nodeE : Nat → List En → List (List Nat)
  | 0, _ => []
  | _ + 1, [] => []
  | _ + 1, [_] => []
  | f + 1, e :: e2 :: l =>
    let n := cpAll e.1 (e2 :: l)
    if 0 < n then nodeE f (rests n (e :: e2 :: l)) ++ selfT (nodeT pk H f (rests n (e :: e2 :: l)))
    else (List.range 16).flatMap fun d => if heads d (e :: e2 :: l) = [] then [] else nodeE f (rests 1 (heads d (e :: e2 :: l))) ++ selfT (nodeT pk H f (rests 1 (heads d (e :: e2 :: l))))
theorem flatMap_same {α β : Type} {f g : α → List β} : ∀ {l : List α}, (∀ x ∈ l, f x = g x) → l.flatMap f = l.flatMap g
  | [], _ => rfl
  | x :: l, h => by rw [List.flatMap_cons, List.flatMap_cons, h x List.mem_cons_self, flatMap_same fun y hy => h y (List.mem_cons_of_mem _ hy)]
theorem nodeE_perm : ∀ (f : Nat) (l m : List En), Apart l → l.Perm m → nodeE pk H f l = nodeE pk H f m
  | 0, _, _, _, _ => rfl
  | f + 1, [], m, _, h => by rw [h.symm.eq_nil]
  | f + 1, [e], m, _, h => by rw [List.perm_singleton.1 h.symm]
  | f + 1, e :: e2 :: l, m, ha, h => by
    have hlen := h.length_eq
    match m, h, hlen with
    | x :: x2 :: m, h, _ =>
      have hc := cpAll_perm h
      unfold nodeE
      simp only [hc]
      by_cases hn : 0 < cpAll x.1 (x2 :: m)
      · rw [if_pos hn, if_pos hn]
        have hs : Share (e :: e2 :: l) (cpAll x.1 (x2 :: m)) := qg3.1 (by rw [hc]; exact Nat.le_refl _)
        rw [nodeE_perm f _ _ (ha.rests hs) (rests_perm h), qh2 pk H f _ _ (ha.rests hs) (rests_perm h)]
      · rw [if_neg hn, if_neg hn]
        refine flatMap_same fun d _ => ?_
        have hp := heads_perm (d := d) h
        by_cases h0 : heads d (e :: e2 :: l) = []
        · rw [if_pos h0, if_pos (by rw [h0] at hp; exact hp.symm.eq_nil)]
        · rw [if_neg h0, if_neg (fun h1 => h0 (by rw [h1] at hp; exact hp.eq_nil)), nodeE_perm f _ _ (ha.heads.rests (qc6 _)) (rests_perm hp), qh2 pk H f _ _ (ha.heads.rests (qc6 _)) (rests_perm hp)]
theorem nodeE_below : ∀ (f : Nat) (l : List En), Sorted l → nodeE pk H f l = below pk H (buildT f l)
  | 0, _, _ => rfl
  | f + 1, [], _ => rfl
  | f + 1, [e], _ => rfl
  | f + 1, e :: e2 :: l, hs => by
    have hc := cp_last hs
    unfold buildT nodeE
    simp only [hc]
    by_cases hn : 0 < cpAll e.1 (e2 :: l)
    · rw [if_pos hn, if_pos hn]
      have hsh : Share (e :: e2 :: l) (cpAll e.1 (e2 :: l)) := qg3.1 (Nat.le_refl _)
      rw [nodeE_below f _ (hs.rests hsh), ← qh1 pk H f _ (hs.rests hsh)]
      rfl
    · rw [if_neg hn, if_neg hn]
      show _ = (List.range 16).flatMap _
      refine flatMap_same fun d _ => ?_
      by_cases h0 : heads d (e :: e2 :: l) = []
      · have hb : buildT f (rests 1 (heads d (e :: e2 :: l))) = .nil := by rw [h0]; exact qk0 f
        rw [if_pos h0]
        show [] = below pk H (buildT f (rests 1 (heads d (e :: e2 :: l)))) ++ (if (enc (itemT pk H (buildT f (rests 1 (heads d (e :: e2 :: l)))))).length < 32 then [] else [enc (itemT pk H (buildT f (rests 1 (heads d (e :: e2 :: l)))))])
        rw [hb]
        show [] = [] ++ (if (enc (It.str [])).length < 32 then [] else [enc (It.str [])])
        rw [if_pos (by rw [qf4]; decide)]
        rfl
      · rw [if_neg h0, nodeE_below f _ (hs.heads.rests (qc6 _)), ← qh1 pk H f _ (hs.heads.rests (qc6 _))]
        rfl
def allE (l : List En) : List (List Nat) := nodeE pk H 200 (entries l) ++ [enc (nodeT pk H 200 (entries l))]
end
theorem sort_ex : ∀ l : List En, Apart l → ∃ m, l.Perm m ∧ Sorted m := by
  intro l ha
  have key : ∀ l : List En, ∃ m, l.Perm m ∧ m.Pairwise (fun a b => ¬ lt b.1 a.1) := by
    intro l
    induction l with
    | nil => exact ⟨[], List.Perm.refl _, List.Pairwise.nil⟩
    | cons e l ih =>
      obtain ⟨m, h1, h2⟩ := ih
      have ins : ∀ m : List En, m.Pairwise (fun a b => ¬ lt b.1 a.1) → ∃ k, (e :: m).Perm k ∧ k.Pairwise (fun a b => ¬ lt b.1 a.1) := by
        intro m
        induction m with
        | nil => exact fun _ => ⟨[e], List.Perm.refl _, List.pairwise_singleton _ _⟩
        | cons x m ih2 =>
          intro hm
          obtain ⟨hx, hm2⟩ := List.pairwise_cons.1 hm
          by_cases hlt : lt x.1 e.1
          · obtain ⟨k, k1, k2⟩ := ih2 hm2
            refine ⟨x :: k, (List.Perm.swap _ _ _).trans (k1.cons x), List.pairwise_cons.2 ⟨fun y hy => ?_, k2⟩⟩
            rcases List.mem_cons.1 (k1.mem_iff.2 hy) with rfl | hy
            · exact fun h => lt_irrefl _ (lt_trans hlt h)
            · exact hx y hy
          · refine ⟨e :: x :: m, List.Perm.refl _, List.pairwise_cons.2 ⟨fun y hy => ?_, hm⟩⟩
            rcases List.mem_cons.1 hy with rfl | hy
            · exact hlt
            · exact not_lt_trans (hx y hy) hlt
      obtain ⟨k, k1, k2⟩ := ins m h2
      exact ⟨k, (h1.cons e).trans k1, k2⟩
  obtain ⟨m, h1, h2⟩ := key l
  exact ⟨m, h1, sorted_of h2 (unlike_of_apart (ha.perm h1))⟩
end Tr
end
section
open Go.RowKit Tr
set_option maxRecDepth 100000
def PairsX (X : List Nat) (w : World) (v : Value) (ps : List En) : Prop := ∃ p c, v = .slice p ps.length c ∧ ps.length ≤ c ∧ (ps ≠ [] → ∃ b o, p = some ⟨b, o, none⟩ ∧ b < w.heap.size ∧ b ∉ X ∧
  ∀ i (h : i < ps.length), ∃ kv vv, w.cell? ⟨b, o + i * 2, none⟩ = some kv ∧ w.cell? ⟨b, o + i * 2 + 1, none⟩ = some vv ∧ RdA X w kv ps[i].1 ∧ RdA X w vv ps[i].2)
theorem PairsX.tch {X : List Nat} {w w' : World} {v : Value} {ps : List En} (h : PairsX X w v ps) (hT : Tch X w w') : PairsX X w' v ps := by
  obtain ⟨p, c, h1, h2, h3⟩ := h
  refine ⟨p, c, h1, h2, fun hn => ?_⟩
  obtain ⟨b, o, h4, h5, h5x, h6⟩ := h3 hn
  refine ⟨b, o, h4, Nat.lt_of_lt_of_le h5 hT.size, h5x, fun i hi => ?_⟩
  obtain ⟨kv, vv, g0, g1, g2, g3⟩ := h6 i hi
  exact ⟨kv, vv, by rw [hT.cell (p := ⟨b, o + i * 2, none⟩) h5 h5x]; exact g0, by rw [hT.cell (p := ⟨b, o + i * 2 + 1, none⟩) h5 h5x]; exact g1, g2.tch hT, g3.tch hT⟩
theorem PairsX.mono {X Y : List Nat} {w : World} {v : Value} {ps : List En} (h : PairsX X w v ps) (hX : ∀ y ∈ Y, y ∈ X ∨ w.heap.size ≤ y) : PairsX Y w v ps := by
  obtain ⟨p, c, h1, h2, h3⟩ := h
  refine ⟨p, c, h1, h2, fun hn => ?_⟩
  obtain ⟨b, o, h4, h5, h5x, h6⟩ := h3 hn
  refine ⟨b, o, h4, h5, fun hb => (hX b hb).elim h5x (fun q => by omega), fun i hi => ?_⟩
  obtain ⟨kv, vv, g0, g1, g2, g3⟩ := h6 i hi
  exact ⟨kv, vv, g0, g1, g2.mono hX, g3.mono hX⟩
theorem PairsX.at {X : List Nat} {w : World} {v : Value} {ps : List En} (h : PairsX X w v ps) : PairsAt w v ps := by
  obtain ⟨p, c, h1, h2, h3⟩ := h
  refine ⟨p, c, h1, h2, fun hn => ?_⟩
  obtain ⟨b, o, h4, h5, h5x, h6⟩ := h3 hn
  refine ⟨b, o, h4, h5, fun i hi => ?_⟩
  obtain ⟨kv, vv, g0, g1, g2, g3⟩ := h6 i hi
  exact ⟨kv, vv, g0, g1, g2.rdB, g3.rdB⟩
theorem PairsAt.x0 {w : World} {v : Value} {ps : List En} (h : PairsAt w v ps) : PairsX [] w v ps := by
  obtain ⟨p, c, h1, h2, h3⟩ := h
  refine ⟨p, c, h1, h2, fun hn => ?_⟩
  obtain ⟨b, o, h4, h5, h6⟩ := h3 hn
  refine ⟨b, o, h4, h5, by simp, fun i hi => ?_⟩
  obtain ⟨kv, vv, g0, g1, g2, g3⟩ := h6 i hi
  exact ⟨kv, vv, g0, g1, g2.rdA0, g3.rdA0⟩
theorem RdA.shape' {X : List Nat} {w : World} {v : Value} {l : List Nat} (h : RdA X w v l) : ∃ p c, v = .slice p l.length c := ⟨_, _, h.choose_spec.choose_spec.1⟩
def RdEX (X : List Nat) (w : World) (xs : List VV) (es : List En) : Prop := xs.length = es.length ∧ ∀ i (h : i < xs.length) (h2 : i < es.length), RdA X w xs[i].1 es[i].1 ∧ RdA X w xs[i].2 es[i].2
theorem RdEX.snoc {X : List Nat} {w : World} {xs : List VV} {es : List En} {x : VV} {e : En} (h : RdEX X w xs es) (h1 : RdA X w x.1 e.1) (h2 : RdA X w x.2 e.2) : RdEX X w (xs ++ [x]) (es ++ [e]) := by
  refine ⟨by rw [List.length_append, List.length_append, h.1]; rfl, fun i hi hj => ?_⟩
  rcases Nat.lt_or_ge i xs.length with hlt | hge
  · rw [List.getElem_append_left hlt, List.getElem_append_left (by rw [← h.1]; exact hlt)]
    exact h.2 i hlt _
  · have hlen := h.1
    rw [List.length_append] at hi
    have : i = xs.length := by simp at hi; omega
    subst this
    rw [List.getElem_append_right (Nat.le_refl _), List.getElem_append_right (by omega)]
    simp only [Nat.sub_self, List.getElem_cons_zero, hlen]
    exact ⟨h1, h2⟩
theorem pairs_ownX {X : List Nat} {w wr : World} {v : Value} {xs : List VV} {es : List En} (hown : wr.ownsRow w.heap.size 93 2 v es.length (vCells xs)) (hr : RdEX X w xs es) (hT : Tch [] w wr) (hX : ∀ x ∈ X, x < w.heap.size) : PairsX X wr v es := by
  have hl : xs.length = es.length := hr.1
  rcases hown.2 with ⟨rfl, h0⟩ | ⟨g, cap, cur, rfl, hg, hB, hcap, _, hcs, htk⟩
  · refine ⟨none, 0, by rw [h0], by omega, fun hne => absurd (List.eq_nil_of_length_eq_zero h0) hne⟩
  · refine ⟨_, cap, rfl, hcap, fun _ => ⟨g, 0, rfl, (Array.getElem?_eq_some_iff.1 hB).1, fun hm => by have := hX g hm; omega, fun i hi => ?_⟩⟩
    have hB' : Blk wr g 93 cur := hB
    have hxi : i < xs.length := by omega
    obtain ⟨c0, c1⟩ := vCells_get xs i hxi
    have hb : i * 2 + 1 < es.length * 2 := by omega
    rw [← htk, List.getElem?_take_of_lt (by omega), Array.getElem?_toList] at c0 c1
    have h3 := hr.2 i hxi hi
    exact ⟨_, _, by rw [Nat.zero_add]; exact hB'.cell c0, by rw [Nat.zero_add]; exact hB'.cell c1, h3.1.tch (hT.mono (by simp)), h3.2.tch (hT.mono (by simp))⟩
set_option maxHeartbeats 4000000 in
theorem rest_anyX (X : List Nat) (v : Value) (es : List En) (r : Nat) (w : World) (hv : PairsX X w v es) (hX : ∀ x ∈ X, x < w.heap.size) (hn : es.length ≤ 100000) (hr : ∀ e ∈ es, r ≤ e.1.length) (hL : ∀ e ∈ es, e.1.length ≤ 4611686018427387904) :
    Calls Tryz.prog 69 #[v, .int .i64 (r : Int)] w fun e w' => Tch [] w w' ∧ ∃ v', e = .returned v' ∧ PairsX X w' v' (rests r es) := by
  obtain ⟨p, cl, rfl, hcl, hat⟩ := hv
  obtain ⟨n, hn'⟩ : ∃ n, n = es.length := ⟨_, rfl⟩
  rw [← hn'] at hcl hn ⊢
  have HN := hQz (And.intro hn' (And.intro hat (And.intro hr hL)))
  have HXX := hQz hX
  clear hn' hat hr hL hX
  go_enter Tryz.func69, Tryz.ntmps69
  go_wp2
  go_loopw [5, 6] (fun s5 s6 wr => ∃ (k : Nat) (ov : Value), ov = s5 ∧ s6 = .int .i64 (k : Int) ∧ k ≤ n ∧ Tch [] w wr ∧ Hid (∃ xs : List VV, wr.ownsRow w.heap.size 93 2 ov k (vCells xs) ∧ RdEX X w xs (rests r (es.take k)))) (fun _ i _ => n - (intOf i).toNat)
  case atStart => exact ⟨0, _, rfl, rfl, Nat.zero_le _, Tch.refl _ _, hQz ⟨[], ⟨rfl, .inl ⟨rfl, rfl⟩⟩, rfl, fun i h => absurd h (by simp)⟩⟩
  case round =>
    obtain ⟨k, ov, rfl, rfl, hk, hT, HI⟩ := hrel
    by_cases hlt : k < n
    · have d1 : (k : Int) < (n : Int) := by omega
      obtain ⟨xs, hown, hrd⟩ := HI.out
      have hke : k < es.length := by rw [← HN.out.1]; exact hlt
      obtain ⟨bl, ol, rfl, hbl, hblX, hcells⟩ := HN.out.2.1 (by intro e; rw [e] at hke; simp at hke)
      obtain ⟨kv, vv, g0, g1, g2, g3⟩ := hcells k hke
      obtain ⟨p1, c1, rfl⟩ := g2.shape'
      obtain ⟨p2, c2, rfl⟩ := g3.shape'
      have hrk := HN.out.2.2.1 _ (List.getElem_mem hke)
      have hLk := HN.out.2.2.2 _ (List.getElem_mem hke)
      obtain ⟨n1, hn1⟩ : ∃ n1, n1 = es[k].1.length := ⟨_, rfl⟩
      obtain ⟨n2, hn2⟩ : ∃ n2, n2 = es[k].2.length := ⟨_, rfl⟩
      rw [← hn1] at g0 g2 hrk
      rw [← hn2] at g1 g3
      have hcap1 : n1 ≤ c1 := by
        obtain ⟨p', c', h1, h2, _⟩ := g2
        injection h1 with _ _ h3
        rw [← hn1] at h2
        omega
      obtain ⟨q1, d1', hsl, hq1, hq2⟩ := qf6 p1 n1 c1 r hrk hcap1
      have HSL := hQz hsl
      have HK := hQz hlt
      have HC0 := hQz (fun (w' : World) (h : Tch [] w w') => show w'.cell? ⟨bl, ol + k * 2, none⟩ = some (.slice p1 n1 c1) from (h.cell (p := ⟨bl, ol + k * 2, none⟩) hbl (by simp)).trans g0)
      have HC1 := hQz (fun (w' : World) (h : Tch [] w w') => show w'.cell? ⟨bl, ol + k * 2 + 1, none⟩ = some (.slice p2 n2 c2) from (h.cell (p := ⟨bl, ol + k * 2 + 1, none⟩) hbl (by simp)).trans g1)
      have hX1 : RdA X w (.slice q1 (n1 - r) d1') (es[k].1.drop r) := hq2 X w _ g2
      have HX := hQz (And.intro hX1 g3)
      clear hcells g0 g1 g2 hsl hq1 hq2 hX1 hcap1 hrk hLk
      go_upto_region 5 with (fail)
      have hownU : wr.drew.ownsRow w.heap.size 93 2 ov k (vCells xs) := own_eq hown (fun g hg => rfl)
      refine wp_region_held_drew (S := fun w' => Tch [] w w') (by kernel_rfl) hT.drew (fun hC => ?_)
      generalize World.drew wr = u0 at hC hownU ⊢
      refine qa0 (v := ov) 0 rfl (by kernel_rfl) (by kernel_rfl) (by kernel_rfl) (fun _ _ _ h => h) hC rfl (fun w' hw' => qb2 (.inl rfl) rfl) ?_
      try simp only [Act.put, ppA, ppB, ppC]
      refine qa0 (v := .slice (some ⟨bl, ol, none⟩) n cl) 1 rfl (by kernel_rfl) (by kernel_rfl) (by kernel_rfl) (fun _ _ _ h => h) hC rfl (fun w' hw' => qb2 (.inl rfl) rfl) ?_
      try simp only [Act.put, ppA, ppB, ppC]
      refine qa0 (v := .int .i64 (k : Int)) 2 rfl (by kernel_rfl) (by kernel_rfl) (by kernel_rfl) (fun _ _ _ h => h) hC rfl (fun w' hw' => qb2 (.inl rfl) rfl) ?_
      try simp only [Act.put, ppA, ppB, ppC]
      refine qa0 (v := .pointer (some ⟨bl, ol + k * 2, none⟩)) 3 rfl (by kernel_rfl) (by kernel_rfl) (by kernel_rfl) (fun _ _ _ h => h) hC rfl (fun w' hw' => x_idxR _ _ rfl rfl rfl HK.out) ?_
      try simp only [Act.put, ppA, ppB, ppC]
      refine qa0 (v := .pointer (some ⟨bl, ol + k * 2, none⟩)) 4 rfl (by kernel_rfl) (by kernel_rfl) (by kernel_rfl) (fun _ _ _ h => h) hC rfl (fun w' hw' => x_fa _ _ _ rfl rfl (fa_R0 _ _ _)) ?_
      try simp only [Act.put, ppA, ppB, ppC]
      refine qa0 (v := .slice p1 n1 c1) 5 rfl (by kernel_rfl) (by kernel_rfl) (by kernel_rfl) (fun _ _ _ h => h) hC rfl (fun w' hw' => qe2 _ _ rfl rfl (HC0.out w' hw') qa9) ?_
      try simp only [Act.put, ppA, ppB, ppC]
      refine qa0 (v := .int .i64 (r : Int)) 6 rfl (by kernel_rfl) (by kernel_rfl) (by kernel_rfl) (fun _ _ _ h => h) hC rfl (fun w' hw' => qb2 (.inl rfl) rfl) ?_
      try simp only [Act.put, ppA, ppB, ppC]
      refine qa0 (v := .slice q1 (n1 - r) d1') 7 rfl (by kernel_rfl) (by kernel_rfl) (by kernel_rfl) (fun _ _ _ h => h) hC rfl (fun w' hw' => x_from _ _ _ rfl rfl rfl (HSL.out _)) ?_
      try simp only [Act.put, ppA, ppB, ppC]
      refine qa0 (v := .slice (some ⟨bl, ol, none⟩) n cl) 8 rfl (by kernel_rfl) (by kernel_rfl) (by kernel_rfl) (fun _ _ _ h => h) hC rfl (fun w' hw' => qb2 (.inl rfl) rfl) ?_
      try simp only [Act.put, ppA, ppB, ppC]
      refine qa0 (v := .int .i64 (k : Int)) 9 rfl (by kernel_rfl) (by kernel_rfl) (by kernel_rfl) (fun _ _ _ h => h) hC rfl (fun w' hw' => qb2 (.inl rfl) rfl) ?_
      try simp only [Act.put, ppA, ppB, ppC]
      refine qa0 (v := .pointer (some ⟨bl, ol + k * 2, none⟩)) 10 rfl (by kernel_rfl) (by kernel_rfl) (by kernel_rfl) (fun _ _ _ h => h) hC rfl (fun w' hw' => x_idxR _ _ rfl rfl rfl HK.out) ?_
      try simp only [Act.put, ppA, ppB, ppC]
      refine qa0 (v := .pointer (some ⟨bl, ol + k * 2 + 1, none⟩)) 11 rfl (by kernel_rfl) (by kernel_rfl) (by kernel_rfl) (fun _ _ _ h => h) hC rfl (fun w' hw' => x_fa _ _ _ rfl rfl (fa_R1 _ _ _)) ?_
      try simp only [Act.put, ppA, ppB, ppC]
      refine qa0 (v := .slice p2 n2 c2) 12 rfl (by kernel_rfl) (by kernel_rfl) (by kernel_rfl) (fun _ _ _ h => h) hC rfl (fun w' hw' => qe2 _ _ rfl rfl (HC1.out w' hw') qa9) ?_
      try simp only [Act.put, ppA, ppB, ppC]
      refine qa0 (v := .agg #[.slice q1 (n1 - r) d1', .slice p2 n2 c2]) 13 rfl (by kernel_rfl) (by kernel_rfl) (by kernel_rfl) (fun _ _ _ h => h) hC rfl (fun w' hw' => x_buildR ⟨_, _, rfl, rfl, rfl⟩ (build_R _ _ _ _ _ _ _)) ?_
      try simp only [Act.put, ppA, ppB, ppC]
      refine qa6 14 (by kernel_rfl) ?_
      refine held_bsR rfl rfl rfl (by rfl) ?_
      have hTa : Tch [] u0 (u0.alloc (.cells #[.slice q1 (n1 - r) d1', .slice p2 n2 c2] 93)) := (Tch.refl _ _).alloc _
      refine ⟨hC.trans hTa, ?_⟩
      try simp only [Act.put, ppA, ppB, ppC]
      refine qa6 15 (by kernel_rfl) ?_
      refine held_appR (base := w.heap.size) (v := ov) (c := #[.slice q1 (n1 - r) d1', .slice p2 n2 c2]) _ _ rfl rfl rfl rfl rfl hownU hC.size rfl (pair2_one _ _ _ _ _ _) (by omega) ?_
      intro v' u1 hown' hT1
      have hT2 : Tch [] w u1 := hC.fresh hT1 (fun x hx => (hownU.lt x (by simpa using hx)).1)
      refine ⟨hT2, ?_⟩
      try simp only [Act.put, ppA, ppB, ppC]
      refine qa0 (v := v') 16 rfl (by kernel_rfl) (by kernel_rfl) (by kernel_rfl) (fun _ _ _ h => h) hT2 rfl (fun w' hw' => qb2 (.inr rfl) rfl) ?_
      try simp only [Act.put, ppA, ppB, ppC]
      refine wpAnyH_done (by kernel_rfl) ?_ _
      have HFN := hQz (show ∃ ys : List VV, u1.ownsRow w.heap.size 93 2 v' (k + 1) (vCells ys) ∧ RdEX X w ys (rests r (es.take (k + 1))) from ⟨xs ++ [(.slice q1 (n1 - r) d1', .slice p2 n2 c2)], by rw [vCells_snoc]; exact hown', by rw [rests_snoc hke]; exact hrd.snoc HX.out.1 HX.out.2⟩)
      clear HC0 HC1 HSL HX hC hownU hT1 hTa hown' hown hrd g3 hn1 hn2 hke HI hT hbl
      go_wp2
      go_roundw
      case rel => exact ⟨k + 1, v', rfl, by go_num, by omega, hT2, HFN⟩
      case measure => simp [intOf]; omega
    · have d1 : ¬ (k : Int) < (n : Int) := by omega
      have hkn : k = n := by omega
      have HF := hQz (show ∃ xs : List VV, wr.ownsRow w.heap.size 93 2 ov es.length (vCells xs) ∧ RdEX X w xs (rests r es) from by
        obtain ⟨xs, h1, h2⟩ := HI.out
        refine ⟨xs, by rw [← HN.out.1, ← hkn]; exact h1, ?_⟩
        rw [hkn, HN.out.1, List.take_length] at h2
        exact h2)
      clear HI hkn
      go_wp2
      go_ret
      obtain ⟨xs, h1, h2⟩ := HF.out
      have hl : (rests r es).length = es.length := by simp [rests]
      exact ⟨hT, _, rfl, pairs_ownX (by rw [hl]; exact h1) h2 hT HXX.out⟩
end
section
open Go.RowKit
def NewPost (w : World) (r : Option (List Nat)) (e : Ending) (w' : World) : Prop := Tch [] w w' ∧ ∃ v, e = .returned (.tuple #[v, .bool r.isSome]) ∧ ∀ X : List Nat, (∀ x ∈ X, x < w.heap.size) → RdA X w' v (r.getD [])
theorem newpost_no {w w' : World} {r : Option (List Nat)} (hr : r = none) (hT : Tch [] w w') : NewPost w r (.returned (.tuple #[.slice none 0 0, .bool false])) w' := by
  subst hr; exact ⟨hT, _, rfl, fun X _ => ⟨none, 0, rfl, Nat.le_refl _, by simp, fun h => absurd rfl h⟩⟩
theorem newpost_yes {w w' : World} {r : Option (List Nat)} {v : Value} {l : List Nat} (hr : r = some l) (hT : Tch [] w w') (hv : ∀ X : List Nat, (∀ x ∈ X, x < w.heap.size) → RdA X w' v l) : NewPost w r (.returned (.tuple #[v, .bool true])) w' := by
  subst hr; exact ⟨hT, _, rfl, hv⟩
theorem own_newA {w : World} {B n : Nat} {v : Value} {l : List Nat} (h : w.ownsRow B 5 1 v n (nb l)) (hl : ∀ x ∈ l, x < 256) (X : List Nat) (hX : ∀ x ∈ X, x < B) : RdA X w v l := by
  obtain ⟨p, c, h1, h2, h3, h4⟩ := RdB.own h hl
  refine ⟨p, c, h1, h2, h3, fun hne => ?_⟩
  obtain ⟨b, o, h5, h6, h7⟩ := h4 hne
  refine ⟨b, o, h5, h6, fun hb => ?_, h7⟩
  have h8 := (h.lt b (by rw [h1, h5]; rfl)).1
  have := hX b hb
  omega
set_option maxHeartbeats 4000000 in
set_option maxRecDepth 100000 in
theorem refJoin_new (v : Value) (l : List Nat) (w : World) (hm : l.length ≤ 1000000) (hv : RdA [] w v l) :
    Calls Tryz.prog 59 #[v] w (NewPost w (joinL l)) := by
  obtain ⟨i0, hi, hz0, hz1, hz2⟩ := info_parts A_info
  obtain ⟨_, n, c', rfl⟩ := qb3 hv
  have hlen := hv.len
  obtain ⟨_, _, hq, hcap, hb, hc⟩ := id hv
  cases hq
  have HC := hQz hc
  have HB := hQz hb
  clear hc hb hv hlen
  rcases Nat.mod_two_eq_zero_or_one l.length with hp | hp
  · have hpar : ((l.length : Int) % 2 != 0) = false := by rw [bne_eq_false_iff_eq]; omega
    obtain ⟨N, hN⟩ : ∃ N, l.length ≤ 2 * N ∧ 2 * N ≤ l.length := ⟨l.length / 2, by omega, by omega⟩
    go_enter Tryz.func59, Tryz.ntmps59
    go_wp2
    go_loopw [4, 5] (fun u i wr => ∃ k : Nat, k ≤ N ∧ i = .int .i64 ((2 * k : Nat) : Int) ∧ wr.ownsRow w.heap.size 5 1 u k (nb (jn (l.take (2 * k)))) ∧ Tch [] w wr ∧ Hid (allN (l.take (2 * k)) = true)) (fun _ i _ => l.length - (intOf i).toNat)
    case atStart => exact ⟨0, Nat.zero_le _, rfl, ⟨rfl, .inl ⟨rfl, rfl⟩⟩, Tch.refl _ _, hQz rfl⟩
    case round =>
      obtain ⟨k, hk, rfl, hown, hT, HA⟩ := hrel
      by_cases hlt : k < N
      · have hne : l ≠ [] := by intro e; subst e; simp at hN; omega
        obtain ⟨b, o, rfl, hbw, hbX, hc⟩ := HC.out hne
        have h0 : 2 * k < l.length := by omega
        have h1 : 2 * k + 1 < l.length := by omega
        have hx := HB.out (l.getD (2 * k) 0) (by rw [List.getD_eq_getElem?_getD, List.getElem?_eq_getElem h0]; exact List.getElem_mem h0)
        have hy := HB.out (l.getD (2 * k + 1) 0) (by rw [List.getD_eq_getElem?_getD, List.getElem?_eq_getElem h1]; exact List.getElem_mem h1)
        have hck := (hT.cell (p := ⟨b, o + 2 * k, none⟩) hbw hbX).trans (hc _ h0)
        have hck1 := (hT.cell (p := ⟨b, o + (2 * k + 1), none⟩) hbw hbX).trans (hc _ h1)
        have hst := jn_one h1
        have hal := fun a b => allN_step h1 HA.out a b
        have hb0 := fun h => joinL_no (l := l) (j := 2 * k) h0 h
        have hb1 := fun h => joinL_no (l := l) (j := 2 * k + 1) h1 h
        obtain ⟨x, hxx⟩ : ∃ x, x = l.getD (2 * k) 0 := ⟨_, rfl⟩
        obtain ⟨y, hyy⟩ : ∃ y, y = l.getD (2 * k + 1) 0 := ⟨_, rfl⟩
        rw [← hxx] at hck hx hst hal hb0
        rw [← hyy] at hck1 hy hst hal hb1
        have HST := hQz hst
        have HAL := hQz hal
        have HB0 := hQz hb0
        have HB1 := hQz hb1
        have HE := hQz (And.intro hxx hyy)
        clear hc hxx hyy hst hal hb0 hb1
        have q1 : (0 : Int) ≤ 2 * (k : Int) := by omega
        have q2 : 2 * (k : Int) < (l.length : Int) := by omega
        have q3 : (2 * (k : Int)).toNat = 2 * k := by omega
        have q4 : (0 : Int) ≤ 2 * (k : Int) + 1 := by omega
        have q5 : 2 * (k : Int) + 1 < (l.length : Int) := by omega
        have q6 : (2 * (k : Int) + 1).toNat = 2 * k + 1 := by omega
        have q7 : IntKind.i64.wrap (2 * (k : Int) + 1) = 2 * (k : Int) + 1 := by rw [IntKind.wrap_i64]; omega
        by_cases hx15 : 15 < x
        · have hd : (15 : Int) < (x : Int) := by omega
          go_wp2
          go_ret2
          exact newpost_no (HB0.out hx15) hT
        · have hd : ¬ (15 : Int) < (x : Int) := by omega
          by_cases hy15 : 15 < y
          · have hd1 : (15 : Int) < (y : Int) := by omega
            go_wp2
            go_ret2
            exact newpost_no (HB1.out hy15) hT
          · have hd1 : ¬ (15 : Int) < (y : Int) := by omega
            have hsw := shl_wrap x (by omega)
            have hso := shl_or x y (by omega) (by omega)
            have hxy : 16 * x + y < 256 := by omega
            have hne : u4.ownBlock ≠ some b := fun e => by have := (hown.lt b e).1; omega
            have hpr := hT.size
            have hbr : b < wr.heap.size := by omega
            go_wp2
            go_region_held3 (fun w' => w'.cell? ⟨b, o + 2 * k, none⟩ = some (.int .u8 (x : Int)) ∧ w'.cell? ⟨b, o + (2 * k + 1), none⟩ = some (.int .u8 (y : Int)))
              (first
                | go_keep
                | (go_split_ands
                   refine ⟨?_, ?_⟩ <;> (rw [hgrow.cell_far _ (by simp; omega) (Ne.symm hne)]; assumption)))
              ((refine step_append_lies _ (by rfl) _ _ _ (by rfl) w.heap.size 5 i0 _ 1 1 qb5 hi hz0 hz1 hz2 rfl (by omega) u4 _ _ (by rfl) ((hown.alloc _).drew) ⟨wr.heap.size, 0, none⟩ 1 1 [.int .u8 (16 * (x : Int) + (y : Int))] (by rfl) (by rfl) (World.news_of_block (cs := #[.int .u8 (16 * (x : Int) + (y : Int))]) (t := 5) (fr := (0, 0)) (heap_alloc_new wr (.cells #[.int .u8 (16 * (x : Int) + (y : Int))] 5))) (by simp [Value.oneCell']) (by omega) (by unfold maxLen; omega) (by omega) (by simp; omega) (wr.heap.size + 1) (by simp) ?_; intro gg cap w1 hown1 hgrow hat hlt1))
            all_goals
              have hown2 : w1.ownsRow w.heap.size 5 1 (.slice (some ⟨gg, 0, none⟩) (k + 1) cap) (k + 1) (nb (jn (l.take (2 * (k + 1))))) := by
                rw [HST.out]; exact hown1
              have hb2 : Tch [] w w1 := Tch.of_below (((hT.below.alloc hT.size _).drew).grown hgrow (by simp; omega) (fun g hg => (hown.lt g hg).1))
              clear hown1 hgrow hat hlt1 hck hown hT
              go_wp2
              go_roundw
              case rel => exact ⟨k + 1, hlt, by go_num, hown2, hb2, hQz (HAL.out (by omega) (by omega))⟩
              case measure => simp [intOf]; omega
      · obtain rfl : k = N := by omega
        have htk : l.take (2 * k) = l := List.take_of_length_le (by omega)
        have HR := hQz (And.intro (show joinL l = some (jn l) by unfold joinL; rw [if_pos ⟨hp, by have := HA.out; rwa [htk] at this⟩]) (And.intro (jn_lt l (by have := HA.out; rwa [htk] at this)) (show (jn l).length = k by rw [jn_length]; omega)))
        rw [htk] at hown
        clear htk
        go_wp2
        go_ret2
        exact newpost_yes HR.out.1 hT (fun X hX => own_newA (l := jn l) (by rw [← HR.out.2.2] at hown; exact hown) HR.out.2.1 X hX)
  · have hpar : ((l.length : Int) % 2 != 0) = true := by rw [bne_iff_ne]; omega
    have HJ := hQz (show joinL l = none by unfold joinL; rw [if_neg (fun h => by omega)])
    go_enter Tryz.func59, Tryz.ntmps59
    go_wp2
    go_ret2
    exact newpost_no HJ.out (Tch.refl _ _)
set_option maxHeartbeats 4000000 in
set_option maxRecDepth 100000 in
theorem refPack_evenN (v : Value) (l : List Nat) (leaf : Bool) (w : World) (hm : l.length ≤ 100000) (hv : RdA [] w v l) (hp : l.length % 2 = 0) :
    Calls Tryz.prog 64 #[v, .bool leaf] w (NewPost w (packL l leaf)) := by
  obtain ⟨_, n, c', rfl⟩ := qb3 hv
  have hlen := hv.len
  have HV := hQz hv
  have hpar : ((n : Int) % 2 == 1) = false := by rw [beq_eq_false_iff_ne]; omega
  have HF := hQz (fr_even leaf hp)
  have hjoin := fun (u : Value) (w1 : World) (hu : RdA [] w1 u (fr l leaf ++ l)) => refJoin_new u (fr l leaf ++ l) w1 (by rw [List.length_append, fr_even leaf hp]; simp; omega) hu
  have HJ := hQz hjoin
  have HLT := hQz (show ∀ x ∈ fr l leaf ++ l, x < 256 from fun x hx => (List.mem_append.1 hx).elim (fun h => Nat.lt_of_lt_of_le (fr_lt l leaf x h) (by decide)) (hv.lt x))
  have HL := hQz (And.intro hlen hm)
  clear hv hjoin hp hlen
  cases leaf with
  | true =>
    go_enter Tryz.func64, Tryz.ntmps64
    go_wp2_with (first
      | (at_builtin; go_must (refine qj3 (w0 := w) (l := [2, 0]) (m := l) (ty := 5) rfl _ _ rfl rfl rfl (own_lit [2, 0] (Nat.le_refl _) (by simp) _ rfl) ((Tch.refl [] w).alloc _) ((HV.out.tch ((Tch.refl [] w).alloc _)).rdB) (by have := HL.out; simp; omega) ?_; intro v' w3 hown' hT'))
      | (go_at_call 59; go_must (have hu := HJ.out _ _ ((RdB.own (l := fr l true ++ l) (by rw [HF.out]; exact hown') HLT.out).rdA (by simp)); (with_reducible refine hu.mono ?_); rintro e w4 ⟨hT4, v4, rfl, hv4⟩)))
    go_ret2
    exact ⟨hT'.trans hT4, _, rfl, fun X hX => hv4 X (fun x hx => Nat.lt_of_lt_of_le (hX x hx) hT'.size)⟩
  | false =>
    go_enter Tryz.func64, Tryz.ntmps64
    go_wp2_with (first
      | (at_builtin; go_must (refine qj3 (w0 := w) (l := [0, 0]) (m := l) (ty := 5) rfl _ _ rfl rfl rfl (own_lit [0, 0] (Nat.le_refl _) (by simp) _ rfl) ((Tch.refl [] w).alloc _) ((HV.out.tch ((Tch.refl [] w).alloc _)).rdB) (by have := HL.out; simp; omega) ?_; intro v' w3 hown' hT'))
      | (go_at_call 59; go_must (have hu := HJ.out _ _ ((RdB.own (l := fr l false ++ l) (by rw [HF.out]; exact hown') HLT.out).rdA (by simp)); (with_reducible refine hu.mono ?_); rintro e w4 ⟨hT4, v4, rfl, hv4⟩)))
    go_ret2
    exact ⟨hT'.trans hT4, _, rfl, fun X hX => hv4 X (fun x hx => Nat.lt_of_lt_of_le (hX x hx) hT'.size)⟩
set_option maxHeartbeats 4000000 in
set_option maxRecDepth 100000 in
theorem refPack_oddN (v : Value) (l : List Nat) (leaf : Bool) (w : World) (hm : l.length ≤ 100000) (hv : RdA [] w v l) (hp : l.length % 2 = 1) :
    Calls Tryz.prog 64 #[v, .bool leaf] w (NewPost w (packL l leaf)) := by
  obtain ⟨_, n, c', rfl⟩ := qb3 hv
  have hlen := hv.len
  have HV := hQz hv
  have hpar : ((n : Int) % 2 == 1) = true := by rw [beq_iff_eq]; omega
  have HF := hQz (fr_odd leaf hp)
  have hjoin := fun (u : Value) (w1 : World) (hu : RdA [] w1 u (fr l leaf ++ l)) => refJoin_new u (fr l leaf ++ l) w1 (by rw [List.length_append, fr_odd leaf hp]; simp; omega) hu
  have HJ := hQz hjoin
  have HLT := hQz (show ∀ x ∈ fr l leaf ++ l, x < 256 from fun x hx => (List.mem_append.1 hx).elim (fun h => Nat.lt_of_lt_of_le (fr_lt l leaf x h) (by decide)) (hv.lt x))
  have HL := hQz (And.intro hlen hm)
  clear hv hjoin hp hlen
  have hsz : ∀ o : Obj, w.heap.size + 1 = (w.alloc o).heap.size := fun o => by simp
  have HSZ := hQz hsz
  clear hsz
  cases leaf with
  | true =>
    go_enter Tryz.func64, Tryz.ntmps64
    go_wp2_with (first
      | (at_builtin; go_must (refine qj3 (w0 := w) (l := [3]) (m := l) (ty := 5) rfl _ _ rfl rfl rfl (by rw [HSZ.out]; exact own_lit (w0 := w) (w := w.alloc (.cells #[.int .u8 2, .int .u8 0] 5)) [3] (by simp) (by simp) _ rfl) (((Tch.refl [] w).alloc _).alloc _) ((HV.out.tch (((Tch.refl [] w).alloc _).alloc _)).rdB) (by have := HL.out; simp; omega) ?_; intro v' w3 hown' hT'))
      | (go_at_call 59; go_must (have hu := HJ.out _ _ ((RdB.own (l := fr l true ++ l) (by rw [HF.out]; exact hown') HLT.out).rdA (by simp)); (with_reducible refine hu.mono ?_); rintro e w4 ⟨hT4, v4, rfl, hv4⟩)))
    go_ret2
    exact ⟨hT'.trans hT4, _, rfl, fun X hX => hv4 X (fun x hx => Nat.lt_of_lt_of_le (hX x hx) hT'.size)⟩
  | false =>
    go_enter Tryz.func64, Tryz.ntmps64
    go_wp2_with (first
      | (at_builtin; go_must (refine qj3 (w0 := w) (l := [1]) (m := l) (ty := 5) rfl _ _ rfl rfl rfl (by rw [HSZ.out]; exact own_lit (w0 := w) (w := w.alloc (.cells #[.int .u8 0, .int .u8 0] 5)) [1] (by simp) (by simp) _ rfl) (((Tch.refl [] w).alloc _).alloc _) ((HV.out.tch (((Tch.refl [] w).alloc _).alloc _)).rdB) (by have := HL.out; simp; omega) ?_; intro v' w3 hown' hT'))
      | (go_at_call 59; go_must (have hu := HJ.out _ _ ((RdB.own (l := fr l false ++ l) (by rw [HF.out]; exact hown') HLT.out).rdA (by simp)); (with_reducible refine hu.mono ?_); rintro e w4 ⟨hT4, v4, rfl, hv4⟩)))
    go_ret2
    exact ⟨hT'.trans hT4, _, rfl, fun X hX => hv4 X (fun x hx => Nat.lt_of_lt_of_le (hX x hx) hT'.size)⟩
theorem refPack_newP (v : Value) (l : List Nat) (leaf : Bool) (w : World) (hm : l.length ≤ 100000) (hv : RdA [] w v l) :
    Calls Tryz.prog 64 #[v, .bool leaf] w (NewPost w (packL l leaf)) :=
  (Nat.mod_two_eq_zero_or_one l.length).elim (refPack_evenN v l leaf w hm hv) (refPack_oddN v l leaf w hm hv)
set_option maxHeartbeats 2000000 in
set_option maxRecDepth 100000 in
theorem refPack_yesN (k : Nat) (y0 yb yl : Value) (it : It) (w : World) (hit : ItC [] w k y0 yb yl it) (h : dep it ≤ 32 ∧ (enc it).length ≤ 16777216) :
    Calls Tryz.prog 39 #[.agg #[y0, yb, yl]] w fun e w' => ∃ v, e = .returned (.tuple #[v, .int .i64 0]) ∧ Tch [] w w' ∧ ∀ X : List Nat, (∀ x ∈ X, x < w.heap.size) → RdA X w' v (enc it) := by
  have hS := St.start w
  have HD := hQz (fun (w' : World) (h' : Tch [] w w') => (deep_any k y0 yb yl it 32 w' (hit.tch h') (by decide)).mono (R' := fun e w'' => e = .returned (.int .i64 ((dep it : Nat) : Int)) ∧ Tch [] w' w'') (fun e w'' h2 => ⟨by rw [h2.1, deep_lt h.1], h2.2⟩))
  have HP := hQz (fun (w' : World) (h' : Tch [] w w') => rpk_any k y0 yb yl it w' (hit.tch h'))
  have e1 : ¬ (32 : Int) < ((dep it : Nat) : Int) := by omega
  have HG := hQz h
  clear hit h
  go_enter Tryz.func39, Tryz.ntmps39
  go_upto_region 4 with (first
    | (refine qi0 (L := []) hS rfl 101 _ rfl rfl ?_; clear hS; intro w2 b0 hS; have d0 := (hS.get .head).cell (j := 0) rfl; have d1 := (hS.get .head).cell (j := 1) rfl; have d2 := (hS.get .head).cell (j := 2) rfl)
    | (go_at_call 62; go_must (refine (HD.out _ hS.frame).mono ?_; rintro e w3 ⟨rfl, hT3⟩; replace hS := hS.call hT3; replace d0 := (hS.get .head).cell (j := 0) rfl; replace d1 := (hS.get .head).cell (j := 1) rfl; replace d2 := (hS.get .head).cell (j := 2) rfl))
    | (go_at_call 63; go_must (refine (HP.out _ hS.frame).mono ?_; rintro e w4 ⟨hT4, v, q, rfl, hy, hno⟩; have HSZ := hQz hS.frame.size; replace hS := hS.call hT4)))
  cases q with
  | false => exact absurd (hno rfl) (by have := HG.out.2; omega)
  | true =>
    obtain ⟨hown, _, hb⟩ := hy rfl
    obtain ⟨pv, cv, rfl⟩ := own_shape hown
    have HR := hQz (fun (X : List Nat) (hX : ∀ x ∈ X, x < w.heap.size) => own_newA hown hb X (fun x hx => Nat.lt_of_lt_of_le (hX x hx) HSZ.out))
    obtain ⟨nv, hnv⟩ : ∃ nv, nv = (enc it).length := ⟨_, rfl⟩
    rw [← hnv] at HR ⊢
    have e2 : ¬ (16777216 : Int) < (nv : Int) := by have := HG.out.2; omega
    clear hown hb hy hno hnv d0 d1 d2
    go_wp2
    go_ret2
    exact ⟨_, rfl, hS.frame, HR.out⟩
end
end Go.Proofs.YtanmpcgackfpaaaGreat
