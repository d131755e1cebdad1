/- The law's Big. -/
import Derived.Test.YtanmpcgackfpaaaGreatM01
import Derived.Test.YtanmpcgackfpaaaGreatM12
import Derived.Test.YtanmpcgackfpaaaGreatM39
import Derived.Test.YtanmpcgackfpaaaGreatM41
set_option linter.unusedVariables false
set_option linter.unusedSimpArgs false
namespace Go.Proofs.YtanmpcgackfpaaaGreat
section
open Go.RowKit Tr
set_option maxRecDepth 100000
def SmallP (ps : List En) : Prop := ps.length ≤ 60 ∧ ∀ p ∈ ps, p.1.length ≤ 70 ∧ p.2.length ≤ 300
def BigP (ps : List En) (w : World) (e : Ending) (w' : World) : Prop := ∃ r : Bool, e = .returned (.bool r) ∧ Tch [] w w' ∧ (r = false → SmallP ps)
set_option maxHeartbeats 16000000 in
theorem big6_any (v : Value) (ps : List En) (w : World) (hv : PairsAt w v ps) : Calls Tryz.prog 6 #[v] w (BigP ps w) := by
  obtain ⟨p, n, c, rfl, hnl, hat⟩ := pairsA_first hv
  by_cases hbig : 60 < n
  · have d0 : (60 : Int) < (n : Int) := by omega
    clear hv hat
    go_enter Tryz.func6, Tryz.ntmps6
    go_wp2
    go_ret
    exact ⟨true, rfl, Tch.refl _ _, fun h => by cases h⟩
  have d0 : ¬ (60 : Int) < (n : Int) := by omega
  have HAT := hQz hat
  have HN := hQz hnl
  clear hv hat hnl
  go_enter Tryz.func6, Tryz.ntmps6
  go_wp2
  go_loopw [3] (fun s3 wr => ∃ i : Nat, s3 = .int .i64 (i : Int) ∧ i ≤ n ∧ Tch [] w wr ∧ Hid (∀ j (hj : j < ps.length), j < i → ps[j].1.length ≤ 70 ∧ ps[j].2.length ≤ 300)) (fun i _ => n - (intOf i).toNat)
  case atStart => exact ⟨0, rfl, Nat.zero_le _, Tch.refl _ _, hQz (fun j _ h => absurd h (by omega))⟩
  case round =>
    obtain ⟨i, rfl, hi, hT, HI⟩ := hrel
    by_cases hlt : i < n
    · have d1 : (i : Int) < (n : Int) := by omega
      have hil : i < ps.length := by rw [← HN.out]; exact hlt
      obtain ⟨b, o, rfl, hb, hc⟩ := HAT.out (by omega)
      obtain ⟨p1, c1, p2, c2, g0, g1, -, -⟩ := hc i hil
      obtain ⟨n1, hn1⟩ : ∃ n1, n1 = ps[i].1.length := ⟨_, rfl⟩
      obtain ⟨n2, hn2⟩ : ∃ n2, n2 = ps[i].2.length := ⟨_, rfl⟩
      rw [← hn1] at g0
      rw [← hn2] at g1
      have HC0 := hQz (fun (w' : World) (h : Tch [] w w') => show w'.cell? ⟨b, o + i * 2, none⟩ = some (.slice p1 n1 c1) from (h.cell (p := ⟨b, o + i * 2, none⟩) hb (by simp)).trans g0)
      have HC1 := hQz (fun (w' : World) (h : Tch [] w w') => show w'.cell? ⟨b, o + i * 2 + 1, none⟩ = some (.slice p2 n2 c2) from (h.cell (p := ⟨b, o + i * 2 + 1, none⟩) hb (by simp)).trans g1)
      have HLT := hQz (And.intro hlt (And.intro hil (And.intro hn1 hn2)))
      clear g0 g1 hc hn1 hn2 hb
      go_upto_region 6 with (fail)
      try simp only [Act.put, ppA, ppB, ppC]
      refine k_seq (C := fun w' => Tch [] w w') hT ?_
      refine qb0 (p := some ⟨b, o, none⟩) (l := n) (c := c) rfl _ rfl rfl ?_; try simp only [Act.put, ppA, ppB, ppC]
      refine qh3 (v := .int .i64 (i : Int)) rfl _ (.inl rfl) rfl ?_; try simp only [Act.put, ppA, ppB, ppC]
      refine k_idxPr rfl _ _ rfl rfl rfl HLT.out.1 ?_; try simp only [Act.put, ppA, ppB, ppC]
      refine k_fa rfl 28 _ 0 rfl rfl (fa_Pr0 b (o + i * 2)) ?_; try simp only [Act.put, ppA, ppB, ppC]
      refine qc2 (b := b) (j := o + i * 2) (v := .slice p1 n1 c1) rfl _ _ rfl rfl (fun w' h => HC0.out w' h) qa9 ?_; try simp only [Act.put, ppA, ppB, ppC]
      refine qg2 (p := p1) (n := n1) (c := c1) rfl _ rfl rfl ?_; try simp only [Act.put, ppA, ppB, ppC]
      by_cases h64 : 70 < n1
      · refine k_gtr (m := (n1 : Int)) (n := 70) (t := true) rfl _ _ _ rfl rfl rfl (decide_eq_true (by omega)) ?_; try simp only [Act.put, ppA, ppB, ppC]
        refine qc0 (t := true) rfl _ rfl rfl ?_; try simp only [Act.put, ppA, ppB, ppC]
        refine qa3 rfl rfl rfl rfl rfl ?_; try simp only [Act.put, ppA, ppB, ppC]
        refine qa3 rfl rfl rfl rfl rfl ?_; try simp only [Act.put, ppA, ppB, ppC]
        refine qa3 rfl rfl rfl rfl rfl ?_; try simp only [Act.put, ppA, ppB, ppC]
        refine qa3 rfl rfl rfl rfl rfl ?_; try simp only [Act.put, ppA, ppB, ppC]
        refine qa3 rfl rfl rfl rfl rfl ?_; try simp only [Act.put, ppA, ppB, ppC]
        refine qa3 rfl rfl rfl rfl rfl ?_; try simp only [Act.put, ppA, ppB, ppC]
        refine qa3 rfl rfl rfl rfl rfl ?_; try simp only [Act.put, ppA, ppB, ppC]
        refine qd0 (t := true) rfl _ _ _ rfl rfl rfl ?_; try simp only [Act.put, ppA, ppB, ppC]
        refine qc8 ?_
        intro w3 hT3
        go_wp2
        go_ret
        exact ⟨true, rfl, hT3, fun h => by cases h⟩
      refine k_gtr (m := (n1 : Int)) (n := 70) (t := false) rfl _ _ _ rfl rfl rfl (decide_eq_false (by omega)) ?_; try simp only [Act.put, ppA, ppB, ppC]
      refine qc0 (t := false) rfl _ rfl rfl ?_; try simp only [Act.put, ppA, ppB, ppC]
      refine qb0 (p := some ⟨b, o, none⟩) (l := n) (c := c) rfl _ rfl rfl ?_; try simp only [Act.put, ppA, ppB, ppC]
      refine qh3 (v := .int .i64 (i : Int)) rfl _ (.inl rfl) rfl ?_; try simp only [Act.put, ppA, ppB, ppC]
      refine k_idxPr rfl _ _ rfl rfl rfl HLT.out.1 ?_; try simp only [Act.put, ppA, ppB, ppC]
      refine k_fa rfl 28 _ 1 rfl rfl (fa_Pr1 b (o + i * 2)) ?_; try simp only [Act.put, ppA, ppB, ppC]
      refine qc2 (b := b) (j := o + i * 2 + 1) (v := .slice p2 n2 c2) rfl _ _ rfl rfl (fun w' h => HC1.out w' h) qa9 ?_; try simp only [Act.put, ppA, ppB, ppC]
      refine qg2 (p := p2) (n := n2) (c := c2) rfl _ rfl rfl ?_; try simp only [Act.put, ppA, ppB, ppC]
      by_cases hmb : 300 < n2
      · refine k_gtr (m := (n2 : Int)) (n := 300) (t := true) rfl _ _ _ rfl rfl rfl (decide_eq_true (by omega)) ?_; try simp only [Act.put, ppA, ppB, ppC]
        refine qi6 (t := true) rfl _ _ _ rfl rfl rfl ?_; try simp only [Act.put, ppA, ppB, ppC]
        refine qc8 ?_
        intro w3 hT3
        go_wp2
        go_ret
        exact ⟨true, rfl, hT3, fun h => by cases h⟩
      refine k_gtr (m := (n2 : Int)) (n := 300) (t := false) rfl _ _ _ rfl rfl rfl (decide_eq_false (by omega)) ?_; try simp only [Act.put, ppA, ppB, ppC]
      refine qi6 (t := false) rfl _ _ _ rfl rfl rfl ?_; try simp only [Act.put, ppA, ppB, ppC]
      refine qc8 ?_
      intro w3 hT3
      have HNL := hQz (show ∀ j (hj : j < ps.length), j < i + 1 → ps[j].1.length ≤ 70 ∧ ps[j].2.length ≤ 300 from fun j hj hji => by
        by_cases hje : j < i
        · exact HI.out j hj hje
        · obtain rfl : j = i := by omega
          have h1 := HLT.out.2.2.1
          have h2 := HLT.out.2.2.2
          exact ⟨by omega, by omega⟩)
      clear hT h64 hmb HC0 HC1 HLT
      go_wp2
      go_roundw
      case rel => exact ⟨i + 1, by go_num, by omega, hT3, HNL⟩
      case measure => simp [intOf]; omega
    · obtain rfl : i = n := by omega
      have d1 : ¬ (i : Int) < (i : Int) := by omega
      go_wp2
      go_ret
      exact ⟨false, rfl, hT, fun _ => ⟨by have := HN.out; omega, fun q hq => by
        obtain ⟨j, hj, rfl⟩ := List.getElem_of_mem hq
        exact HI.out j hj (by rw [HN.out]; exact hj)⟩⟩
end
section
open Go.RowKit Tr
def rootB (ps : List En) : List Nat := enc (nodeT pkT HL 200 (entries ps))
theorem rootW_ok {ps : List En} (h : mayE ps = 0) : rootW ps = hashN (rootB ps) := if_pos h
theorem mayE_mk {l : List En} (h1 : l.length ≤ 100000) (h2 : ∀ p ∈ l, p.1.length ≤ 64 ∧ p.2.length ≤ 1048576) (h3 : ∀ p ∈ l, p.2 ≠ []) (h4 : Apart l) : mayE l = 0 := by
  unfold mayE
  rw [if_neg, if_neg]
  · rintro (h | h)
    · obtain ⟨p, hp, hq⟩ := List.any_eq_true.1 h
      exact h3 p hp (by simpa using hq)
    · exact h h4
  · rintro (h | h)
    · omega
    · obtain ⟨p, hp, hq⟩ := List.any_eq_true.1 h
      have := h2 p hp
      unfold longP at hq
      rw [decide_eq_false (by omega), decide_eq_false (by omega)] at hq
      cases hq
theorem mayE_perm {l m : List En} (h : l.Perm m) (hm : mayE l = 0) : mayE m = 0 := by
  obtain ⟨h1, h2, h3, h4⟩ := mayE_ok hm
  exact mayE_mk (by rw [← h.length_eq]; exact h1) (fun p hp => h2 p (h.mem_iff.2 hp)) (fun p hp => h3 p (h.mem_iff.2 hp)) (h4.perm h)
theorem mayE_sub {l m : List En} (h : m.Sublist l) (hm : mayE l = 0) : mayE m = 0 := by
  obtain ⟨h1, h2, h3, h4⟩ := mayE_ok hm
  exact mayE_mk (Nat.le_trans h.length_le h1) (fun p hp => h2 p (h.subset hp)) (fun p hp => h3 p (h.subset hp)) (List.Pairwise.sublist h h4)
theorem rootB_perm {l m : List En} (h : l.Perm m) (hm : mayE l = 0) : rootB l = rootB m := by
  unfold rootB
  rw [qh2 pkT HL 200 (entries l) (entries m) (qd8.2 (mayE_ok hm).2.2.2) (h.map _)]
theorem root_sorted {S : List (List Nat)} (s0 : [128] ∈ S) {ps : List En} (hp : mayE ps = 0) (bp : ∀ p ∈ ps, (∀ x ∈ p.1, x < 256) ∧ p.2.length ≤ 900000) (sp : ps ≠ [] → ∀ x ∈ allE pkT HL ps, x ∈ S) :
    ∃ l, (entries ps).Perm l ∧ Sorted l ∧ (∀ e ∈ l, e.1.length ≤ 128 ∧ (∀ x ∈ e.1, x < 16) ∧ e.2.length ≤ 900000) ∧ (∀ e ∈ l, e.2 ≠ []) ∧ (∀ x ∈ below pkT HL (buildT 200 l) ++ [enc (itemT pkT HL (buildT 200 l))], x ∈ S) ∧ rootB ps = enc (itemT pkT HL (buildT 200 l)) := by
  obtain ⟨k1, k2, k3, k4⟩ := mayE_ok hp
  obtain ⟨l, h1, h2⟩ := sort_ex (entries ps) (qd8.2 k4)
  have hmem : ∀ e ∈ l, ∃ p ∈ ps, e = (nibT p.1, p.2) := fun e he => by
    obtain ⟨p, hq, rfl⟩ := List.mem_map.1 (h1.mem_iff.2 he)
    exact ⟨p, hq, rfl⟩
  have hr : rootB ps = enc (itemT pkT HL (buildT 200 l)) := by
    unfold rootB
    rw [qh2 pkT HL 200 (entries ps) l (qd8.2 k4) h1, qh1 pkT HL 200 l h2]
  refine ⟨l, h1, h2, fun e he => ?_, fun e he => ?_, fun x hx => ?_, hr⟩
  · obtain ⟨p, hq, rfl⟩ := hmem e he
    exact ⟨by show (nibT p.1).length ≤ 128; rw [nibT_len]; have := (k2 p hq).1; omega, nibT_lt (bp p hq).1, (bp p hq).2⟩
  · obtain ⟨p, hq, rfl⟩ := hmem e he
    exact k3 p hq
  · by_cases hn : ps = []
    · subst hn
      have hl : l = [] := by
        have : (entries ([] : List En)) = [] := rfl
        rw [this] at h1
        exact h1.symm.eq_nil
      subst hl
      rw [qk0] at hx
      have e : below pkT HL TN.nil ++ [enc (itemT pkT HL TN.nil)] = [[128]] := by decide +kernel
      rw [e] at hx
      rw [List.mem_singleton.1 hx]
      exact s0
    · refine sp hn x ?_
      unfold allE
      rw [nodeE_perm pkT HL 200 (entries ps) l (qd8.2 k4) h1, nodeE_below pkT HL 200 l h2, qh2 pkT HL 200 (entries ps) l (qd8.2 k4) h1, ← qh1 pkT HL 200 l h2]
      exact hx
theorem root_inj {S : List (List Nat)} (hi : ∀ x ∈ S, ∀ y ∈ S, HL x = HL y → x = y) (s0 : [128] ∈ S) {ps qs : List En} (hp : mayE ps = 0) (hq : mayE qs = 0) (bp : ∀ p ∈ ps, (∀ x ∈ p.1, x < 256) ∧ p.2.length ≤ 900000) (bq : ∀ p ∈ qs, (∀ x ∈ p.1, x < 256) ∧ p.2.length ≤ 900000)
    (sp : ps ≠ [] → ∀ x ∈ allE pkT HL ps, x ∈ S) (sq : qs ≠ [] → ∀ x ∈ allE pkT HL qs, x ∈ S) (h : HL (rootB ps) = HL (rootB qs)) : ∀ e, e ∈ ps → e ∈ qs := by
  obtain ⟨l, p1, l2, l3, l4, l5, l6⟩ := root_sorted s0 hp bp sp
  obtain ⟨m, q1, m2, m3, m4, m5, m6⟩ := root_sorted s0 hq bq sq
  rw [l6, m6] at h
  have key := nodeT_inj (S := fun x => x ∈ S) (fun x y hx hy => hi x hx y hy) l2 m2 l3 m3 l4 m4 l5 m5 h
  intro e he
  have h1 : (nibT e.1, e.2) ∈ l := p1.mem_iff.1 (List.mem_map.2 ⟨e, he, rfl⟩)
  obtain ⟨q, hq2, hq3⟩ := List.mem_map.1 (q1.mem_iff.2 ((key _).1 h1))
  have e1 : nibT q.1 = nibT e.1 := (Prod.mk.inj hq3).1
  have e2 : q.2 = e.2 := (Prod.mk.inj hq3).2
  have e3 : q = e := Prod.ext (nibT_inj e1) e2
  rw [← e3]
  exact hq2
def turnP (l : List En) (r : Nat) : List En := l.drop r ++ l.take r
def otherP (l : List En) (r : Nat) (h : r < l.length) (V : List Nat) : List En := l.set r (l[r].1, V)
def leftP (l : List En) (r : Nat) : List En := l.take r ++ l.drop (r + 1)
theorem turn_perm (l : List En) (r : Nat) : l.Perm (turnP l r) := by
  have h : (l.take r ++ l.drop r).Perm (l.drop r ++ l.take r) := List.perm_append_comm
  rw [List.take_append_drop] at h
  exact h
theorem left_sub (l : List En) (r : Nat) : (leftP l r).Sublist l := by
  have h : (l.take r ++ l.drop (r + 1)).Sublist (l.take r ++ l.drop r) := (List.Sublist.refl _).append (by rw [← List.drop_drop]; exact List.drop_sublist 1 (l.drop r))
  rw [List.take_append_drop] at h
  exact h
theorem left_not {l : List En} {r : Nat} (h : r < l.length) (ha : Apart l) : l[r] ∉ leftP l r := by
  intro hm
  have e : l = l.take r ++ l[r] :: l.drop (r + 1) := by rw [List.getElem_cons_drop, List.take_append_drop]
  have h2 : (l[r] :: (l.take r ++ l.drop (r + 1))).Perm l := by
    have h3 := (List.perm_middle (a := l[r]) (l₁ := l.take r) (l₂ := l.drop (r + 1))).symm
    rw [← e] at h3
    exact h3
  have h4 := ha.perm h2.symm
  exact (List.pairwise_cons.1 h4).1 _ hm rfl
theorem other_keys (l : List En) (r : Nat) (h : r < l.length) (V : List Nat) : (otherP l r h V).map (·.1) = l.map (·.1) := by
  unfold otherP
  rw [List.map_set]
  have : (l.map (·.1)).set r (l.map (·.1))[r]! = l.map (·.1) := by
    rw [getElem!_pos (l.map (·.1)) r (by simpa using h)]
    exact List.set_getElem_self _
  rw [getElem!_pos (l.map (·.1)) r (by simpa using h)] at this
  simpa using this
theorem apart_map (l : List En) : Apart l ↔ (l.map (·.1)).Pairwise (· ≠ ·) := by
  unfold Apart
  rw [List.pairwise_map]
theorem other_apart {l : List En} {r : Nat} (h : r < l.length) (V : List Nat) (ha : Apart l) : Apart (otherP l r h V) := by
  rw [apart_map, other_keys]
  exact (apart_map l).1 ha
theorem other_mem {l : List En} {r : Nat} (h : r < l.length) (V : List Nat) : (l[r].1, V) ∈ otherP l r h V := List.mem_set h _
theorem other_from {l : List En} {r : Nat} {h : r < l.length} {V : List Nat} {p : En} (hp : p ∈ otherP l r h V) : p ∈ l ∨ p = (l[r].1, V) := by
  unfold otherP at hp
  exact List.mem_or_eq_of_mem_set hp
theorem other_may {l : List En} {r : Nat} (h : r < l.length) {V : List Nat} (hm : mayE l = 0) (hV : V.length ≤ 300) (h0 : V ≠ []) : mayE (otherP l r h V) = 0 := by
  obtain ⟨k1, k2, k3, k4⟩ := mayE_ok hm
  refine mayE_mk (by unfold otherP; rw [List.length_set]; exact k1) (fun p hp => ?_) (fun p hp => ?_) (other_apart h V k4)
  · rcases other_from hp with q | rfl
    · exact k2 p q
    · exact ⟨(k2 _ (List.getElem_mem h)).1, by show V.length ≤ 1048576; omega⟩
  · rcases other_from hp with q | rfl
    · exact k3 p q
    · exact h0
theorem other_empty {l : List En} {r : Nat} (h : r < l.length) : mayE (otherP l r h []) ≠ 0 := fun hm => (mayE_ok hm).2.2.1 _ (other_mem h []) rfl
theorem order_found {S : List (List Nat)} {l : List En} {r : Nat} (h : r < l.length) {V : List Nat} (hV : V.length ≤ 300) (hm : mayE l = 0) (hc : ClearOf S [l, otherP l r h V, leftP l r]) (bl : ∀ p ∈ l, (∀ x ∈ p.1, x < 256) ∧ p.2.length ≤ 900000) :
    (HL (rootB l) == HL (rootB (leftP l r))) = false ∧ (V ≠ [] → (HL (rootB l) == HL (rootB (otherP l r h V))) = (V == l[r].2)) := by
  obtain ⟨hi, hs⟩ := hc
  obtain ⟨s0, s1⟩ := hs l (by simp) hm
  have ha := (mayE_ok hm).2.2.2
  have hl0 := mayE_sub (left_sub l r) hm
  constructor
  · rw [beq_eq_false_iff_ne]
    intro e
    exact left_not h ha (root_inj hi s0 hm hl0 bl (fun p hp => bl p ((left_sub l r).subset hp)) s1 (hs _ (by simp) hl0).2 e _ (List.getElem_mem h))
  · intro h0
    have ho := other_may h hm hV h0
    by_cases e : V = l[r].2
    · have e2 : otherP l r h V = l := by
        unfold otherP
        rw [e]
        exact List.set_getElem_self h
      rw [e2, beq_self_eq_true, e, beq_self_eq_true]
    · rw [beq_eq_false_iff_ne.2 e, beq_eq_false_iff_ne]
      intro q
      have hmem := root_inj hi s0 hm ho bl (fun p hp => by
        rcases other_from hp with q | rfl
        · exact bl p q
        · exact ⟨(bl _ (List.getElem_mem h)).1, by show V.length ≤ 900000; omega⟩) s1 (hs _ (by simp) ho).2 q _ (List.getElem_mem h)
      have := (other_apart h V ha).eq hmem (other_mem h V) rfl
      exact e (congrArg Prod.snd this).symm
end
section
open Go.RowKit Tr
set_option maxRecDepth 100000
theorem x_lenPr {o : Oper} {a : Act} {w : World} {p : Option Addr} {n c : Nat} (x : Operand) (ho : o.op = .call { callee := .builtin .len, args := #[x], argTypes := #[22] }) (hx : a.eval x = .slice p n c) : (execOp a.eval o).run Tryz.prog w = .ok (.value (.int .i64 (n : Int))) w := by
  unfold execOp; simp [ho, resolve, invoke, builtin, hx, Builtin.len_, run_underlying pairs_ty, goInt]
theorem x_remN {o : Oper} {a : Act} {w : World} {k n : Nat} {x y : Operand} {yt : TypeId} (hk : k ≤ 9223372036854775807) (hn : 0 < n) (ho : o.op = .binOp .rem 3 x y yt) (hx : a.eval x = .int .i64 (k : Int)) (hy : a.eval y = .int .i64 (n : Int)) : (execOp a.eval o).run Tryz.prog w = .ok (.value (.int .i64 ((k % n : Nat) : Int))) w := by
  have t : (k : Int).tmod (n : Int) = ((k % n : Nat) : Int) := by rw [Int.tmod_eq_emod_of_nonneg (by omega), Int.natCast_emod]
  have hle := Nat.mod_le k n
  have h : IntKind.i64.wrap ((k : Int).tmod (n : Int)) = ((k % n : Nat) : Int) := by rw [t, IntWalk.i64_in _ (by omega)]
  have h0 : (n : Int) ≠ 0 := by omega
  have h1 : ((n : Int) == 0) = false := by rw [beq_eq_false_iff_ne]; exact h0
  unfold execOp; simp only [ho, hx, hy]; show Sem.run _ _ w = _; simp [eqGuard, binOp, Op.intArith, Op.intDiv, h, h0, h1]
  rw [if_neg (Nat.ne_of_gt hn), t, Int.natCast_emod]
theorem x_idxP0 {o : Oper} {a : Act} {w : World} {b j n c : Nat} (x y : Operand) (ho : o.op = .indexAddr 22 x y) (hx : a.eval x = .slice (some ⟨b, 0, none⟩) n c) (hy : a.eval y = .int .i64 (j : Int)) (hj : j < n) : (execOp a.eval o).run Tryz.prog w = .ok (.value (.pointer (some ⟨b, j * 2, none⟩))) w := by
  have h := x_idxPr (w := w) x y ho hx hy hj
  rwa [Nat.zero_add] at h
theorem buildLs3 (p1 p2 p3 : Option Addr) (n1 c1 n2 c2 n3 c3 : Nat) (w : World) : (Instr.buildSlice 30 3 #[(0, .slice p1 n1 c1), (1, .slice p2 n2 c2), (2, .slice p3 n3 c3)]).run Tryz.prog w = .ok (.slice (some ⟨w.heap.size, 0, none⟩) 3 3) (w.alloc (.cells #[.slice p1 n1 c1, .slice p2 n2 c2, .slice p3 n3 c3] 22)) := by kernel_rfl
theorem ls_three {w : World} {b : Nat} {t : TypeId} {v1 v2 v3 : Value} {l1 l2 l3 : List En} (hB : Blk w b t #[v1, v2, v3]) (h1 : PairsAt w v1 l1) (h2 : PairsAt w v2 l2) (h3 : PairsAt w v3 l3) : PairsLs w (.slice (some ⟨b, 0, none⟩) 3 3) [l1, l2, l3] :=
  ⟨_, 3, rfl, fun _ => ⟨b, 0, rfl, (Array.getElem?_eq_some_iff.1 hB).1, fun i hi => by
    match i, hi with
    | 0, _ => exact ⟨v1, hB.cell rfl, h1⟩
    | 1, _ => exact ⟨v2, hB.cell rfl, h2⟩
    | 2, _ => exact ⟨v3, hB.cell rfl, h3⟩⟩⟩
theorem pairs_bytes {w : World} {v : Value} {ps : List En} (h : PairsAt w v ps) : ∀ p ∈ ps, ∀ x ∈ p.1, x < 256 := fun p hp => by
  obtain ⟨_, _, xs, _, _, _, hr⟩ := pairs_cells h
  obtain ⟨i, hi, rfl⟩ := List.getElem_of_mem hp
  exact (hr.2 i (by rw [hr.1]; exact hi) hi).1.choose_spec.choose_spec.2.2.1
def SmallQ (qs : List En) : Prop := qs.length ≤ 60 ∧ ∀ p ∈ qs, p.2.length ≤ 300
theorem small_q {ps : List En} (h : SmallP ps) : SmallQ ps := ⟨h.1, fun p hp => (h.2 p hp).2⟩
theorem small_turn {ps : List En} {r : Nat} (h : SmallP ps) : SmallQ (turnP ps r) := ⟨by rw [← (turn_perm ps r).length_eq]; exact h.1, fun p hp => (h.2 p ((turn_perm ps r).mem_iff.2 hp)).2⟩
theorem small_left {ps : List En} {r : Nat} (h : SmallP ps) : SmallQ (leftP ps r) := ⟨Nat.le_trans (left_sub ps r).length_le h.1, fun p hp => (h.2 p ((left_sub ps r).subset hp)).2⟩
theorem small_other {ps : List En} {r : Nat} {V : List Nat} (h : SmallP ps) (hr : r < ps.length) (hV : V.length ≤ 300) : SmallQ (otherP ps r hr V) := ⟨by unfold otherP; rw [List.length_set]; exact h.1, fun p hp => by
  rcases other_from hp with q | rfl
  · exact (h.2 p q).2
  · exact hV⟩
theorem order_lens {ps : List En} {r : Nat} {V : List Nat} (h : SmallP ps) (hr : r < ps.length) : ∀ q ∈ [ps, otherP ps r hr V, leftP ps r], q.length ≤ 1000 := fun q hq => by
  simp only [List.mem_cons, List.not_mem_nil, or_false] at hq
  rcases hq with rfl | rfl | rfl
  · exact Nat.le_trans h.1 (by decide)
  · unfold otherP; rw [List.length_set]; exact Nat.le_trans h.1 (by decide)
  · exact Nat.le_trans (small_left h).1 (by decide)
theorem order_vals {ps : List En} {r : Nat} {V : List Nat} (h : SmallP ps) (hr : r < ps.length) (hV : V.length ≤ 300) : ∀ q ∈ [ps, otherP ps r hr V, leftP ps r], ∀ p ∈ q, p.1.length ≤ 4611686018427387904 ∧ p.2.length ≤ 900000 := fun q hq p hp => by
  have key : ∀ p : En, p.1.length ≤ 70 → p.2.length ≤ 300 → p.1.length ≤ 4611686018427387904 ∧ p.2.length ≤ 900000 := fun p h1 h2 => ⟨Nat.le_trans h1 (by decide), Nat.le_trans h2 (by decide)⟩
  simp only [List.mem_cons, List.not_mem_nil, or_false] at hq
  rcases hq with rfl | rfl | rfl
  · exact key p (h.2 p hp).1 (h.2 p hp).2
  · rcases other_from hp with q | rfl
    · exact key p (h.2 p q).1 (h.2 p q).2
    · exact key _ (h.2 _ (List.getElem_mem hr)).1 hV
  · have q := (left_sub ps r).subset hp
    exact key p (h.2 p q).1 (h.2 p q).2
theorem root_okP {v : Value} (ps : List En) (w : World) (hv : PairsAt w v ps) (hn : ps.length ≤ 4611686018427387904) (hm : mayE ps = 0) (hV : ∀ p ∈ ps, p.2.length ≤ 900000) : Calls Tryz.prog 9 #[v] w fun e w' => e = .returned (.tuple #[.agg (wf (hashN (rootB ps))), .int .i64 0]) ∧ Tch [] w w' := by
  have h := Root_any v ps w hv hn (fun _ => hV)
  rw [rootW_ok hm, hm] at h
  exact h
theorem run_neq_hash (l1 l2 : List Nat) (w : World) : (binOp .neq 32 (.agg (wf (hashN l1))) (.agg (wf (hashN l2)))).run Tryz.prog w = .ok (.bool (!(HL l1 == HL l2))) w := by
  have h := run_eql_hash2 l1 l2 w
  rw [run_eql_struct] at h
  rw [run_neq_struct]
  cases hq : (Op.equalIn 10000 32 (.agg (wf (hashN l1))) (.agg (wf (hashN l2)))).run Tryz.prog w with
  | ok b w' =>
    rw [hq] at h
    simp only [Result.andThen_ok] at h ⊢
    injection h with h1 h2
    injection h1 with h1
    rw [h1, h2]
  | _ => rw [hq] at h; cases h
theorem k_hashN {o : Oper} {a : Act} {ops : Array Oper} {rest : List Oper} {C : World → Prop} {Q : Act → Prop} {l1 l2 : List Nat} (hw : Region.wanted o (yielded ops a.tmps) = true) (xo yo : Operand) (yt : TypeId) (ho : o.op = .binOp .neq 32 xo yo yt) (hxe : a.eval xo = .agg (wf (hashN l1))) (hye : a.eval yo = .agg (wf (hashN l2))) (ht : (HL l1 == HL l2) = false) (h : KQ ops C Q rest (a.put o.dst (.bool true))) : KQ ops C Q (o :: rest) a :=
  qd6 hw (fun w => by
    have e := run_neq_hash l1 l2 w
    rw [ht] at e
    unfold execOp
    simp only [ho, hxe, hye]
    show Sem.run _ _ w = _
    simp [eqGuard, e]) h
def TruP (w : World) (e : Ending) (w' : World) : Prop := e = .returned (.bool true) ∧ Tch [] w w'
set_option maxHeartbeats 16000000 in
theorem order_walk (v0 : Value) (ps : List En) (i : Int) (v2 : Value) (V : List Nat) (w : World) (hv : PairsAt w v0 ps) (h2 : RdA [] w v2 V) (hi : -9223372036854775808 ≤ i ∧ i ≤ 9223372036854775807) : Calls Tryz.prog 3 #[v0, .int .i64 i, v2] w (TruP w) := by
  obtain ⟨p0, c0, xs, rfl, hc0, hcel, hrd⟩ := pairs_cells hv
  obtain ⟨p2, c2, rfl⟩ := h2.rdB.shape'
  obtain ⟨n, hnl⟩ : ∃ n, n = ps.length := ⟨_, rfl⟩
  obtain ⟨m, hml⟩ : ∃ m, m = V.length := ⟨_, rfl⟩
  rw [← hnl] at hv hc0 ⊢
  rw [← hml] at h2 ⊢
  have HPA := hQz (And.intro hv (And.intro hc0 (And.intro hcel hrd)))
  have HV := hQz h2
  have HN := hQz (And.intro hnl (And.intro hml True.intro))
  have HI := hQz hi
  clear hv hc0 hcel hrd h2 hnl hml hi
  have hS := St.start w
  go_enter Tryz.func3, Tryz.ntmps3
  go_upto_region 3 with (first
    | (go_at_call 5; refine (alive6_any _).mono ?_; rintro e w1 ⟨rfl, hT⟩; replace hS := hS.call hT; clear hT)
    | (go_at_call 6; go_must (refine (big6_any _ ps _ (HPA.out.1.tch hS.frame)).mono ?_; rintro e w2 ⟨r, rfl, hT, hr⟩; have HR := hQz hr; replace hS := hS.call hT; clear hT hr)))
  have HT := hQz hS.frame
  cases r with
  | true =>
    clear hS
    go_wp2
    go_ret
    exact ⟨rfl, HT.out⟩
  | false =>
  have HSM := hQz (HR.out rfl)
  clear HR hS
  by_cases e1 : (n : Int) < 1
  · go_wp2
    go_ret
    exact ⟨rfl, HT.out⟩
  by_cases e2 : i < 0
  · go_wp2
    go_ret
    exact ⟨rfl, HT.out⟩
  by_cases e3 : (300 : Int) < (m : Int)
  · go_wp2
    go_ret
    exact ⟨rfl, HT.out⟩
  have HMP := hQz (fun (w' : World) (h : Tch [] w w') => mayPairs_any (.slice p0 n c0) ps w' (HPA.out.1.tch h) (Nat.le_trans HSM.out.1 (by decide)) (fun q hq => ⟨Nat.le_trans (HSM.out.2 q hq).1 (by decide), Nat.le_trans (HSM.out.2 q hq).2 (by decide)⟩))
  have hS : St [] w w2 [] := ⟨HT.out, fun _ h => by simp at h, .nil⟩
  by_cases hm : mayE ps = 0
  case neg =>
    have e4 : (((mayE ps : Nat) : Int) != 0) = true := by rw [bne_iff_ne]; omega
    generalize mayE ps = mm at *
    clear hm
    go_wp2_with (go_at_call 7; go_must (refine (HMP.out _ hS.frame).mono ?_; rintro e w3 ⟨rfl, hT3⟩; replace hS := hS.call hT3; clear hT3))
    go_ret
    exact ⟨rfl, hS.frame⟩
  rw [hm] at HMP
  have HM := hQz hm
  clear hm
  obtain ⟨k, rfl⟩ : ∃ k : Nat, i = (k : Int) := ⟨i.toNat, by omega⟩
  have hnp : 0 < n := by omega
  have HK := hQz hnp
  have HE3 := hQz (show m ≤ 300 by omega)
  go_upto_region 5 with (go_at_call 7; go_must (refine (HMP.out _ hS.frame).mono ?_; rintro e w3 ⟨rfl, hT3⟩; replace hS := hS.call hT3; clear hT3))
  try simp only [Act.put, ppA, ppB, ppC]
  clear e1 e2 e3 HT HMP
  refine wp_region_lit ?_
  refine qc1 (v := .int .i64 (k : Int)) rfl (qb2 (.inl rfl) rfl) ?_; try simp only [Act.put, ppA, ppB, ppC]
  refine qc1 (v := .slice p0 n c0) rfl (qb2 (.inl rfl) rfl) ?_; try simp only [Act.put, ppA, ppB, ppC]
  refine qc1 (v := .int .i64 (n : Int)) rfl (x_lenPr _ rfl rfl) ?_; try simp only [Act.put, ppA, ppB, ppC]
  refine qc1 rfl (x_remN (k := k) (n := n) (by have := HI.out.2; omega) HK.out rfl rfl rfl) ?_; try simp only [Act.put, ppA, ppB, ppC]
  refine qc1 (v := .int .i64 ((k % n : Nat) : Int)) rfl (qb2 (.inr rfl) rfl) ?_; try simp only [Act.put, ppA, ppB, ppC]
  refine ql2 ?_
  have hrl : k % n < n := Nat.mod_lt _ HK.out
  generalize k % n = r at *
  obtain ⟨q6, d6, hq6, hq6b⟩ := slice_fromPr p0 n c0 r (Nat.le_of_lt hrl) HPA.out.2.1
  have hto := slice_toPr p0 n c0 r (Nat.le_of_lt hrl) HPA.out.2.1
  obtain ⟨q9, d9, hq9, hq9b⟩ := slice_fromPr p0 n c0 (r + 1) hrl HPA.out.2.1
  have hxl : xs.length = n := by have h1 := HPA.out.2.2.2.1; have h2 := HN.out.1; omega
  have HXS := hQz (And.intro hxl HPA.out.2.2.2.one)
  have HC6 := hQz (fun (W : World) (h : Tch [] w W) => show CelX W q6 (xs.drop r) from (HPA.out.2.2.1.tch h).drop (fun h2 g o hg => hq6b (by omega) g o hg))
  have HC9 := hQz (fun (W : World) (h : Tch [] w W) => show CelX W q9 (xs.drop (r + 1)) from (HPA.out.2.2.1.tch h).drop (fun h2 g o hg => hq9b (by omega) g o hg))
  have HCT := hQz (fun (W : World) (h : Tch [] w W) => show CelX W p0 (xs.take r) from (HPA.out.2.2.1.tch h).take r)
  have HCA := hQz (fun (W : World) (h : Tch [] w W) => show CelX W p0 xs from HPA.out.2.2.1.tch h)
  have H1D := hQz (fun (j : Nat) => show ∀ x ∈ xs.drop j, x.1.oneCell' = true ∧ x.2.oneCell' = true from fun x hx => HXS.out.2 x (List.mem_of_mem_drop hx))
  have H1T := hQz (fun (j : Nat) => show ∀ x ∈ xs.take j, x.1.oneCell' = true ∧ x.2.oneCell' = true from fun x hx => HXS.out.2 x (List.mem_of_mem_take hx))
  have HQ := hQz (And.intro hq6 (And.intro hto hq9))
  have HRL := hQz hrl
  have HN60 := hQz (show n ≤ 60 by have := HSM.out.1; have := HN.out.1; omega)
  have HLD := hQz (show n - r = (xs.drop r).length ∧ r = (xs.take r).length ∧ n - (r + 1) = (xs.drop (r + 1)).length from by
    rw [List.length_drop, List.length_take, List.length_drop, hxl]
    exact ⟨rfl, by omega, rfl⟩)
  clear hq6 hq6b hto hq9 hq9b hxl hrl hnp
  have HT3 := hQz hS.frame
  clear hS
  go_upto_region 6 with (fail)
  try simp only [Act.put, ppA, ppB, ppC]
  refine wp_region_held_drew (S := fun w' => Tch [] w3 w') (by kernel_rfl) ((Tch.refl _ w3).drew) (fun hC => ?_)
  have hD0 : Tch [] w3 w3.drew := (Tch.refl [] w3).drew
  generalize World.drew w3 = u0 at hC hD0 ⊢
  refine qa0 (v := .slice p0 n c0) 0 rfl (by kernel_rfl) (by kernel_rfl) (by kernel_rfl) (fun _ _ _ h => h) hC rfl (fun w' hw' => qb2 (.inl rfl) rfl) ?_
  try simp only [Act.put, ppA, ppB, ppC]
  refine qa0 (v := .int .i64 (r : Int)) 1 rfl (by kernel_rfl) (by kernel_rfl) (by kernel_rfl) (fun _ _ _ h => h) hC rfl (fun w' hw' => qb2 (.inl rfl) rfl) ?_
  try simp only [Act.put, ppA, ppB, ppC]
  refine qa0 (v := .slice q6 (n - r) d6) 2 rfl (by kernel_rfl) (by kernel_rfl) (by kernel_rfl) (fun _ _ _ h => h) hC rfl (fun w' hw' => x_slP rfl rfl rfl (HQ.out.1 _)) ?_
  try simp only [Act.put, ppA, ppB, ppC]
  refine qa0 (v := .slice p0 n c0) 4 rfl (by kernel_rfl) (by kernel_rfl) (by kernel_rfl) (fun _ _ _ h => h) hC rfl (fun w' hw' => qb2 (.inl rfl) rfl) ?_
  try simp only [Act.put, ppA, ppB, ppC]
  refine qa0 (v := .int .i64 (r : Int)) 5 rfl (by kernel_rfl) (by kernel_rfl) (by kernel_rfl) (fun _ _ _ h => h) hC rfl (fun w' hw' => qb2 (.inl rfl) rfl) ?_
  try simp only [Act.put, ppA, ppB, ppC]
  refine qa0 (v := .slice p0 r c0) 6 rfl (by kernel_rfl) (by kernel_rfl) (by kernel_rfl) (fun _ _ _ h => h) hC rfl (fun w' hw' => x_slQ rfl rfl rfl (HQ.out.2.1 _)) ?_
  try simp only [Act.put, ppA, ppB, ppC]
  refine qa6 3 (by kernel_rfl) ?_
  refine held_appP (base := w3.heap.size) (v := .slice none 0 0) (us := []) (N := 0) (xs := xs.drop r) _ _ rfl rfl rfl rfl rfl HLD.out.1 ⟨rfl, .inl ⟨rfl, rfl⟩⟩ hD0.size (HC6.out _ (HT3.out.trans hD0)) (H1D.out r) (by have := HN60.out; omega) ?_
  intro j1 u1 hown1 hT1
  have hD1 := hD0.trans hT1
  obtain ⟨pj, cj, rfl⟩ := own_form hown1
  refine ⟨hD1, ?_⟩
  try simp only [Act.put, ppA, ppB, ppC]
  refine qa6 7 (by kernel_rfl) ?_
  refine held_appP (base := w3.heap.size) (v := .slice pj (0 + (n - r)) cj) (xs := xs.take r) _ _ rfl rfl rfl rfl rfl HLD.out.2.1 hown1 hD1.size (HCT.out _ (HT3.out.trans hD1)) (H1T.out r) (by have := HN60.out; have := HRL.out; omega) ?_
  intro j2 u2 hown2 hT2
  have hD2 : Tch [] w3 u2 := hD1.fresh hT2 (fun x hx => (hown1.lt x (by simpa using hx)).1)
  obtain ⟨pk, ck, rfl⟩ := own_form hown2
  refine ⟨hD2, ?_⟩
  try simp only [Act.put, ppA, ppB, ppC]
  refine qa0 (v := .slice pk (0 + (n - r) + r) ck) 8 rfl (by kernel_rfl) (by kernel_rfl) (by kernel_rfl) (fun _ _ _ h => h) hD2 rfl (fun w' hw' => qb2 (.inr rfl) rfl) ?_
  try simp only [Act.put, ppA, ppB, ppC]
  refine wpAnyH_done (by kernel_rfl) ?_ _
  have HT6 := hQz (HT3.out.trans hD2)
  have HP6 := hQz (show PairsAt u2 (.slice pk (0 + (n - r) + r) ck) (turnP ps r) from pairs_ownP (Y := []) (n := 0 + (n - r) + r) (xs := xs.drop r ++ xs.take r) (by unfold turnP; rw [List.length_append, List.length_drop, List.length_take]; have := HN.out.1; have := HRL.out; omega) (by rw [vCells_append]; exact hown2) (((HPA.out.2.2.2.drop r).append (HPA.out.2.2.2.take r)) |> fun h => h.re (HT3.out.trans hD2) (by simp) (by simp)))
  clear hC hD0 hT1 hown1 hD1 hT2 hown2 hD2
  generalize 0 + (n - r) + r = np at HP6 ⊢
  clear HC6
  go_upto_region 7 with (fail)
  try simp only [Act.put, ppA, ppB, ppC]
  refine wp_region_lit ?_
  refine qc1 (v := .slice p0 n c0) rfl (qb2 (.inl rfl) rfl) ?_; try simp only [Act.put, ppA, ppB, ppC]
  refine st_appPr (base := u2.heap.size) (v := .slice none 0 0) (us := []) (N := 0) (xs := xs) rfl _ _ rfl rfl rfl HXS.out.1.symm ⟨rfl, .inl ⟨rfl, rfl⟩⟩ (Nat.le_refl _) (HCA.out _ HT6.out) HXS.out.2 (by have := HN60.out; omega) ?_
  intro v3 u3 hown3 hT7
  replace hown3 : u3.ownsRow u2.heap.size 28 2 v3 n (vCells xs) := by simpa using hown3
  replace hT7 : Tch [] u2 u3 := hT7
  obtain ⟨po, co, rfl⟩ := own_form hown3
  obtain ⟨g, rfl⟩ : ∃ g, po = some ⟨g, 0, none⟩ := by
    rcases hown3.2 with ⟨e, h0⟩ | ⟨g, cap, cur, e, _⟩
    · have := HK.out; omega
    · injection e with e1 _ _
      exact ⟨g, e1⟩
  have hgb := hown3.lt g rfl
  try simp only [Act.put, ppA, ppB, ppC]
  refine qc1 (v := .slice (some ⟨g, 0, none⟩) n co) rfl (qb2 (.inr rfl) rfl) ?_; try simp only [Act.put, ppA, ppB, ppC]
  refine ql2 ?_
  go_upto_region 8 with (fail)
  try simp only [Act.put, ppA, ppB, ppC]
  refine wp_region_lit ?_
  refine qc1 (v := .slice (some ⟨g, 0, none⟩) n co) rfl (qb2 (.inl rfl) rfl) ?_; try simp only [Act.put, ppA, ppB, ppC]
  refine qc1 (v := .int .i64 (r : Int)) rfl (qb2 (.inl rfl) rfl) ?_; try simp only [Act.put, ppA, ppB, ppC]
  refine qc1 (v := .slice p2 m c2) rfl (qb2 (.inl rfl) rfl) ?_; try simp only [Act.put, ppA, ppB, ppC]
  refine qc1 (v := .pointer (some ⟨g, r * 2, none⟩)) rfl (x_idxP0 _ _ rfl rfl rfl HRL.out) ?_; try simp only [Act.put, ppA, ppB, ppC]
  refine qc1 (v := .pointer (some ⟨g, r * 2 + 1, none⟩)) rfl (x_fa (v := .pointer (some ⟨g, r * 2, none⟩)) 28 _ 1 rfl rfl (fa_Pr1 g (r * 2) _)) ?_; try simp only [Act.put, ppA, ppB, ppC]
  refine st_stP (B := u2.heap.size) hown3 (by rw [HXS.out.1]; exact HRL.out) rfl _ _ rfl rfl rfl ?_
  intro u4 hO hown4
  try simp only [Act.put, ppA, ppB, ppC]
  refine ql2 ?_
  have hT8 : Tch [] u2 u4 := hT7.fresh hO.tch (fun x hx => by
    rw [List.mem_singleton.1 hx]
    exact hgb.1)
  have HT8 := hQz (HT6.out.trans hT8)
  have HLR := hQz (show r < ps.length from by have := HN.out.1; have := HRL.out; omega)
  have HO8 := hQz (show PairsAt u4 (.slice (some ⟨g, 0, none⟩) n co) (otherP ps r HLR.out V) from pairs_ownP (Y := []) (n := n) (by unfold otherP; rw [List.length_set]; exact HN.out.1) hown4 (((HPA.out.2.2.2.re HT8.out (by simp) (by simp)).set r (by rw [HXS.out.1]; exact HRL.out) HLR.out (HV.out.tch HT8.out))))
  have HP8 := hQz (HP6.out.tch hT8)
  have HL8 := hQz (HPA.out.1.tch HT8.out)
  clear hown3 hT7 hgb hO hown4 hT8 HP6 HT6 HCA
  go_upto_region 9 with (fail)
  try simp only [Act.put, ppA, ppB, ppC]
  refine wp_region_held_drew (S := fun w' => Tch [] u4 w') (by kernel_rfl) ((Tch.refl _ u4).drew) (fun hC => ?_)
  have hD0 : Tch [] u4 u4.drew := (Tch.refl [] u4).drew
  generalize World.drew u4 = y0 at hC hD0 ⊢
  refine qa0 (v := .slice p0 n c0) 0 rfl (by kernel_rfl) (by kernel_rfl) (by kernel_rfl) (fun _ _ _ h => h) hC rfl (fun w' hw' => qb2 (.inl rfl) rfl) ?_
  try simp only [Act.put, ppA, ppB, ppC]
  refine qa0 (v := .int .i64 (r : Int)) 1 rfl (by kernel_rfl) (by kernel_rfl) (by kernel_rfl) (fun _ _ _ h => h) hC rfl (fun w' hw' => qb2 (.inl rfl) rfl) ?_
  try simp only [Act.put, ppA, ppB, ppC]
  refine qa0 (v := .slice p0 r c0) 2 rfl (by kernel_rfl) (by kernel_rfl) (by kernel_rfl) (fun _ _ _ h => h) hC rfl (fun w' hw' => x_slQ rfl rfl rfl (HQ.out.2.1 _)) ?_
  try simp only [Act.put, ppA, ppB, ppC]
  refine qa0 (v := .slice p0 n c0) 4 rfl (by kernel_rfl) (by kernel_rfl) (by kernel_rfl) (fun _ _ _ h => h) hC rfl (fun w' hw' => qb2 (.inl rfl) rfl) ?_
  try simp only [Act.put, ppA, ppB, ppC]
  refine qa0 (v := .int .i64 (r : Int)) 5 rfl (by kernel_rfl) (by kernel_rfl) (by kernel_rfl) (fun _ _ _ h => h) hC rfl (fun w' hw' => qb2 (.inl rfl) rfl) ?_
  try simp only [Act.put, ppA, ppB, ppC]
  refine qa0 (v := .int .i64 ((r + 1 : Nat) : Int)) 6 rfl (by kernel_rfl) (by kernel_rfl) (by kernel_rfl) (fun _ _ _ h => h) hC rfl (fun w' hw' => x_addD (n := 1) (ty := 0) (by have := HN60.out; have := HRL.out; omega) rfl rfl rfl) ?_
  try simp only [Act.put, ppA, ppB, ppC]
  refine qa0 (v := .slice q9 (n - (r + 1)) d9) 7 rfl (by kernel_rfl) (by kernel_rfl) (by kernel_rfl) (fun _ _ _ h => h) hC rfl (fun w' hw' => x_slP rfl rfl rfl (HQ.out.2.2 _)) ?_
  try simp only [Act.put, ppA, ppB, ppC]
  refine qa6 3 (by kernel_rfl) ?_
  refine held_appP (base := u4.heap.size) (v := .slice none 0 0) (us := []) (N := 0) (xs := xs.take r) _ _ rfl rfl rfl rfl rfl HLD.out.2.1 ⟨rfl, .inl ⟨rfl, rfl⟩⟩ hD0.size (HCT.out _ (HT8.out.trans hD0)) (H1T.out r) (by have := HN60.out; have := HRL.out; omega) ?_
  intro j1 y1 hown1 hT1
  have hD1 := hD0.trans hT1
  obtain ⟨pj, cj, rfl⟩ := own_form hown1
  refine ⟨hD1, ?_⟩
  try simp only [Act.put, ppA, ppB, ppC]
  refine qa6 8 (by kernel_rfl) ?_
  refine held_appP (base := u4.heap.size) (v := .slice pj (0 + r) cj) (xs := xs.drop (r + 1)) _ _ rfl rfl rfl rfl rfl HLD.out.2.2 hown1 hD1.size (HC9.out _ (HT8.out.trans hD1)) (H1D.out (r + 1)) (by have := HN60.out; have := HRL.out; omega) ?_
  intro j2 y2 hown2 hT2
  have hD2 : Tch [] u4 y2 := hD1.fresh hT2 (fun x hx => (hown1.lt x (by simpa using hx)).1)
  obtain ⟨pr, cr, rfl⟩ := own_form hown2
  refine ⟨hD2, ?_⟩
  try simp only [Act.put, ppA, ppB, ppC]
  refine qa0 (v := .slice pr (0 + r + (n - (r + 1))) cr) 9 rfl (by kernel_rfl) (by kernel_rfl) (by kernel_rfl) (fun _ _ _ h => h) hD2 rfl (fun w' hw' => qb2 (.inr rfl) rfl) ?_
  try simp only [Act.put, ppA, ppB, ppC]
  refine wpAnyH_done (by kernel_rfl) ?_ _
  have HT9 := hQz (HT8.out.trans hD2)
  have HR9 := hQz (show PairsAt y2 (.slice pr (0 + r + (n - (r + 1))) cr) (leftP ps r) from pairs_ownP (Y := []) (n := 0 + r + (n - (r + 1))) (xs := xs.take r ++ xs.drop (r + 1)) (by unfold leftP; rw [List.length_append, List.length_drop, List.length_take]; have := HN.out.1; have := HRL.out; omega) (by rw [vCells_append]; exact hown2) (((HPA.out.2.2.2.take r).append (HPA.out.2.2.2.drop (r + 1))) |> fun h => h.re (HT8.out.trans hD2) (by simp) (by simp)))
  have HP9 := hQz (HP8.out.tch hD2)
  have HO9 := hQz (HO8.out.tch hD2)
  have HL9 := hQz (HL8.out.tch hD2)
  generalize 0 + r + (n - (r + 1)) = nr at HR9 ⊢
  clear hC hD0 hT1 hown1 hD1 hT2 hown2 hD2 HP8 HO8 HL8 HT8 HCT HC9 H1D H1T HLD HXS HQ
  go_upto_region 10 with (fail)
  try simp only [Act.put, ppA, ppB, ppC]
  refine wp_region_lit ?_
  refine qc1 (v := .slice p0 n c0) rfl (qb2 (.inl rfl) rfl) ?_; try simp only [Act.put, ppA, ppB, ppC]
  refine qc1 (v := .slice (some ⟨g, 0, none⟩) n co) rfl (qb2 (.inl rfl) rfl) ?_; try simp only [Act.put, ppA, ppB, ppC]
  refine qc1 (v := .slice pr nr cr) rfl (qb2 (.inl rfl) rfl) ?_; try simp only [Act.put, ppA, ppB, ppC]
  refine st_buildC #[(0, .slice p0 n c0), (1, .slice (some ⟨g, 0, none⟩) n co), (2, .slice pr nr cr)] rfl rfl (by simp only [List.map_toArray, List.map_cons, List.map_nil]; rfl) (buildLs3 _ _ _ _ _ _ _ _ _) ?_
  intro y3 hy3
  try simp only [Act.put, ppA, ppB, ppC]
  have hTy : Tch [] y2 y3 := by rw [hy3]; exact (Tch.refl _ _).alloc _
  have hB3 : Blk y3 y2.heap.size 22 #[.slice p0 n c0, .slice (some ⟨g, 0, none⟩) n co, .slice pr nr cr] := by rw [hy3]; exact heap_alloc_new y2 _
  have HLS := hQz (ls_three hB3 (HL9.out.tch hTy) (HO9.out.tch hTy) (HR9.out.tch hTy))
  have HT3y := hQz (HT9.out.trans hTy)
  generalize y2.heap.size = b0 at hB3 HLS ⊢
  clear hy3 hB3
  refine st_callE (v1 := .slice (some ⟨b0, 0, none⟩) 3 3) rfl rfl rfl Tryz.call8 (clear_any _ _ _ HLS.out (by simp) (order_lens HSM.out HLR.out) (order_vals HSM.out HLR.out (by have := HN.out.2.1; have := HE3.out; omega))) ?_
  rintro e y4 ⟨hT4, rr, rfl, hcl⟩
  refine ⟨_, rfl, ?_⟩
  try simp only [Act.put, ppA, ppB, ppC]
  refine qc1 (v := .bool rr) rfl (qb2 (.inr rfl) rfl) ?_; try simp only [Act.put, ppA, ppB, ppC]
  refine ql2 ?_
  have HT10 := hQz (HT3y.out.trans hT4)
  have HL10 := hQz ((HL9.out.tch hTy).tch hT4)
  have HP10 := hQz ((HP9.out.tch hTy).tch hT4)
  have HO10 := hQz ((HO9.out.tch hTy).tch hT4)
  have HR10 := hQz ((HR9.out.tch hTy).tch hT4)
  have HCL := hQz hcl
  clear hTy hT4 hcl HLS HT3y HL9 HP9 HO9 HR9 HT9
  cases rr with
  | false =>
    go_wp2
    go_ret
    exact ⟨rfl, HT10.out⟩
  | true =>
  have hbl : ∀ p ∈ ps, (∀ x ∈ p.1, x < 256) ∧ p.2.length ≤ 900000 := fun p hp => ⟨pairs_bytes HPA.out.1 p hp, by have := (HSM.out.2 p hp).2; omega⟩
  obtain ⟨S, hS0⟩ := HCL.out rfl
  obtain ⟨f1, f2⟩ := order_found HLR.out (V := V) (by have := HN.out.2.1; have := HE3.out; omega) HM.out hS0 hbl
  have hmp := mayE_perm (turn_perm ps r) HM.out
  have hml := mayE_sub (left_sub ps r) HM.out
  have hrp : rootB (turnP ps r) = rootB ps := (rootB_perm (turn_perm ps r) HM.out).symm
  have hle : ∀ (qs : List En), SmallQ qs → qs.length ≤ 4611686018427387904 ∧ ∀ p ∈ qs, p.2.length ≤ 900000 := fun qs h => ⟨Nat.le_trans h.1 (by decide), fun p hp => Nat.le_trans (h.2 p hp) (by decide)⟩
  have q0 := hle ps (small_q HSM.out)
  have qp := hle (turnP ps r) (small_turn HSM.out)
  have qo := hle (otherP ps r HLR.out V) (small_other HSM.out HLR.out (by have := HN.out.2.1; have := HE3.out; omega))
  have ql := hle (leftP ps r) (small_left HSM.out)
  have HR1 := hQz (fun (W : World) (h : Tch [] y4 W) => root_okP ps W (HL10.out.tch h) q0.1 HM.out q0.2)
  have HR2 := hQz (fun (W : World) (h : Tch [] y4 W) => by have h2 := root_okP (turnP ps r) W (HP10.out.tch h) qp.1 hmp qp.2; rw [hrp] at h2; exact h2)
  have HR3 := hQz (fun (W : World) (h : Tch [] y4 W) => Root_any _ (otherP ps r HLR.out V) W (HO10.out.tch h) qo.1 (fun _ => qo.2))
  have HR4 := hQz (fun (W : World) (h : Tch [] y4 W) => root_okP (leftP ps r) W (HR10.out.tch h) ql.1 hml ql.2)
  have HMO := hQz (show V = [] → mayE (otherP ps r HLR.out V) ≠ 0 from fun e => by subst e; exact other_empty HLR.out)
  have HMZ := hQz (show V ≠ [] → mayE (otherP ps r HLR.out V) = 0 ∧ rootW (otherP ps r HLR.out V) = hashN (rootB (otherP ps r HLR.out V)) from fun e => by
    have h := other_may HLR.out HM.out (V := V) (by have := HN.out.2.1; have := HE3.out; omega) e
    exact ⟨h, rootW_ok h⟩)
  have HNE := hQz f1
  have HF2 := hQz f2
  clear f1 f2 hbl hS0 hmp hml hrp hle q0 qp qo ql HL10 HP10 HO10 HR10 HCL
  generalize rootB (otherP ps r HLR.out V) = B at *
  generalize rootB ps = A at *
  generalize rootB (leftP ps r) = D at *
  generalize rootW (otherP ps r HLR.out V) = WB at *
  generalize mayE (otherP ps r HLR.out V) = mo at *
  have hS : St [] y4 y4 [] := St.start y4
  go_upto_region 13 with (fail)
  try simp only [Act.put, ppA, ppB, ppC]
  go_upto_region 14 with (first
    | (go_at_call 9; go_must (refine (HR1.out _ hS.frame).mono ?_; rintro e w9 ⟨rfl, hT9⟩; replace hS := hS.call hT9; clear hT9))
    | (refine qi4 hS rfl 32 rfl qd5 ?_; clear hS; intro wa b1 hS hTa hba; clear hTa hba)
    | (refine qd1 (b := b1) (c' := wf (hashN A)) hS rfl 32 _ _ rfl rfl rfl .head qb4 (qa5 _) (qa5 _) (qj1 _) ?_; clear hS; intro z1 hS hO; clear hO))
  go_upto_region 15 with (first
    | (go_at_call 9; go_must (refine (HR2.out _ hS.frame).mono ?_; rintro e w9 ⟨rfl, hT9⟩; replace hS := hS.call hT9; clear hT9))
    | (refine qi4 hS rfl 32 rfl qd5 ?_; clear hS; intro wa b2 hS hTa hba; clear hTa hba)
    | (refine qd1 (b := b2) (c' := wf (hashN A)) hS rfl 32 _ _ rfl rfl rfl .head qb4 (qa5 _) (qa5 _) (qj1 _) ?_; clear hS; intro z2 hS hO; clear hO))
  go_upto_region 16 with (first
    | (go_at_call 9; go_must (refine (HR3.out _ hS.frame).mono ?_; rintro e w9 ⟨rfl, hT9⟩; replace hS := hS.call hT9; clear hT9))
    | (refine qi4 hS rfl 32 rfl qd5 ?_; clear hS; intro wa b3 hS hTa hba; clear hTa hba)
    | (refine qd1 (b := b3) (c' := wf WB) hS rfl 32 _ _ rfl rfl rfl .head qb4 (qa5 _) (qa5 _) (qj1 _) ?_; clear hS; intro z3 hS hO; clear hO))
  go_upto_region 17 with (first
    | (go_at_call 9; go_must (refine (HR4.out _ hS.frame).mono ?_; rintro e w9 ⟨rfl, hT9⟩; replace hS := hS.call hT9; clear hT9))
    | (refine qi4 hS rfl 32 rfl qd5 ?_; clear hS; intro wa b4 hS hTa hba; clear hTa hba)
    | (refine qd1 (b := b4) (c' := wf (hashN D)) hS rfl 32 _ _ rfl rfl rfl .head qb4 (qa5 _) (qa5 _) (qj1 _) ?_; clear hS; intro y9 hS hO; clear hO))
  have HB1 := hQz (fun (w' : World) (h : Tch [] y9 w') => h.blk (hS.get (.tail (.tail (.tail .head)))) (by simp))
  have HB2 := hQz (fun (w' : World) (h : Tch [] y9 w') => h.blk (hS.get (.tail (.tail .head))) (by simp))
  have HB3 := hQz (fun (w' : World) (h : Tch [] y9 w') => h.blk (hS.get (.tail .head)) (by simp))
  have HB4 := hQz (fun (w' : World) (h : Tch [] y9 w') => h.blk (hS.get .head) (by simp))
  have HF := hQz (HT10.out.trans hS.frame)
  clear hS HR1 HR2 HR3 HR4
  by_cases hV0 : V = []
  · have HMO := hQz (HMO.out hV0)
    clear hV0 HMZ HF2
    refine qb7 (C := fun w' => Tch [] y9 w') (by kernel_rfl) (by kernel_rfl) ((Tch.refl _ _).drew) ?_
    refine qb8 rfl _ rfl rfl ?_; try simp only [Act.put, ppA, ppB, ppC]
    refine k_callC1 rfl rfl rfl Tryz.call10 (fun w' h => (num6_any _ w').mono fun e w'' h2 => ⟨h2.1, h.trans h2.2⟩) ?_; try simp only [Act.put, ppA, ppB, ppC]
    refine k_ints (t := true) rfl _ _ _ rfl rfl rfl rfl ?_; try simp only [Act.put, ppA, ppB, ppC]
    refine qc0 rfl _ rfl rfl ?_; try simp only [Act.put, ppA, ppB, ppC]
    refine k_loadW (b := b1) rfl _ rfl rfl (fun w' h => HB1.out w' h) (qa5 _) ?_; try simp only [Act.put, ppA, ppB, ppC]
    refine k_loadW (b := b2) rfl _ rfl rfl (fun w' h => HB2.out w' h) (qa5 _) ?_; try simp only [Act.put, ppA, ppB, ppC]
    refine k_hash (l := A) rfl _ _ _ rfl rfl rfl ?_; try simp only [Act.put, ppA, ppB, ppC]
    refine qd0 rfl _ _ _ rfl rfl rfl ?_; try simp only [Act.put, ppA, ppB, ppC]
    refine qc0 rfl _ rfl rfl ?_; try simp only [Act.put, ppA, ppB, ppC]
    refine k_loadW (b := b1) rfl _ rfl rfl (fun w' h => HB1.out w' h) (qa5 _) ?_; try simp only [Act.put, ppA, ppB, ppC]
    refine k_loadW (b := b4) rfl _ rfl rfl (fun w' h => HB4.out w' h) (qa5 _) ?_; try simp only [Act.put, ppA, ppB, ppC]
    refine k_hashN (l1 := A) (l2 := D) rfl _ _ _ rfl rfl rfl HNE.out ?_; try simp only [Act.put, ppA, ppB, ppC]
    refine qd0 rfl _ _ _ rfl rfl rfl ?_; try simp only [Act.put, ppA, ppB, ppC]
    refine qc0 rfl _ rfl rfl ?_; try simp only [Act.put, ppA, ppB, ppC]
    refine qb8 rfl _ rfl rfl ?_; try simp only [Act.put, ppA, ppB, ppC]
    refine k_callC1 rfl rfl rfl Tryz.call10 (fun w' h => (num6_any _ w').mono fun e w'' h2 => ⟨h2.1, h.trans h2.2⟩) ?_; try simp only [Act.put, ppA, ppB, ppC]
    refine k_neqs (t := true) rfl _ _ _ rfl rfl rfl (by rw [bne_iff_ne]; have := HMO.out; omega) ?_; try simp only [Act.put, ppA, ppB, ppC]
    refine qc0 rfl _ rfl rfl ?_; try simp only [Act.put, ppA, ppB, ppC]
    refine qa3 rfl rfl rfl rfl rfl ?_; try simp only [Act.put, ppA, ppB, ppC]
    refine qa3 rfl rfl rfl rfl rfl ?_; try simp only [Act.put, ppA, ppB, ppC]
    refine qa3 rfl rfl rfl rfl rfl ?_; try simp only [Act.put, ppA, ppB, ppC]
    refine qa3 rfl rfl rfl rfl rfl ?_; try simp only [Act.put, ppA, ppB, ppC]
    refine qa3 rfl rfl rfl rfl rfl ?_; try simp only [Act.put, ppA, ppB, ppC]
    refine qa3 rfl rfl rfl rfl rfl ?_; try simp only [Act.put, ppA, ppB, ppC]
    refine qa3 rfl rfl rfl rfl rfl ?_; try simp only [Act.put, ppA, ppB, ppC]
    refine qa3 rfl rfl rfl rfl rfl ?_; try simp only [Act.put, ppA, ppB, ppC]
    refine qa3 rfl rfl rfl rfl rfl ?_; try simp only [Act.put, ppA, ppB, ppC]
    refine qa3 rfl rfl rfl rfl rfl ?_; try simp only [Act.put, ppA, ppB, ppC]
    refine qa3 rfl rfl rfl rfl rfl ?_; try simp only [Act.put, ppA, ppB, ppC]
    refine qa3 rfl rfl rfl rfl rfl ?_; try simp only [Act.put, ppA, ppB, ppC]
    refine qa3 rfl rfl rfl rfl rfl ?_; try simp only [Act.put, ppA, ppB, ppC]
    refine qd0 (t := true) rfl _ _ _ rfl rfl rfl ?_; try simp only [Act.put, ppA, ppB, ppC]
    refine qd0 rfl _ _ _ rfl rfl rfl ?_; try simp only [Act.put, ppA, ppB, ppC]
    refine qk8 rfl _ rfl rfl ?_; try simp only [Act.put, ppA, ppB, ppC]
    refine qc8 ?_; try simp only [Act.put, ppA, ppB, ppC]
    intro wz hTz
    go_wp2
    go_ret
    exact ⟨rfl, HF.out.trans hTz⟩
  obtain ⟨hmz, hwb⟩ := HMZ.out hV0
  subst hmz hwb
  have hf := HF2.out hV0
  obtain ⟨pq, nq, cq, e1, e2, hat⟩ := pairsA_first HPA.out.1
  injection e1 with e3 e4 e5
  subst e3 e4 e5
  obtain ⟨pb, off, rfl, hb, hc⟩ := hat HK.out
  obtain ⟨p1, c1, pv, cv, -, g1, -, g3⟩ := hc r HLR.out
  obtain ⟨vr, hvr⟩ : ∃ vr, vr = (ps[r]'HLR.out).2 := ⟨_, rfl⟩
  rw [← hvr] at g1 g3 hf
  obtain ⟨nv, hnv⟩ : ∃ nv, nv = vr.length := ⟨_, rfl⟩
  rw [← hnv] at g1 g3
  have HCV := hQz (fun (w' : World) (h : Tch [] y9 w') => show w'.cell? ⟨pb, off + r * 2 + 1, none⟩ = some (.slice pv nv cv) from ((HF.out.trans h).cell (p := ⟨pb, off + r * 2 + 1, none⟩) hb (by simp)).trans g1)
  have HRV := hQz (fun (w' : World) (h : Tch [] y9 w') => (HV.out.tch (HF.out.trans h)).rdB)
  have HRR := hQz (fun (w' : World) (h : Tch [] y9 w') => show RdB w' (.slice pv nv cv) vr from g3.tch (HF.out.trans h) (by simp))
  have HBY := hQz (And.intro (show ∀ x ∈ V, x < 256 from HV.out.choose_spec.choose_spec.2.2.1) (show ∀ x ∈ vr, x < 256 from g3.choose_spec.choose_spec.2.2.1))
  obtain ⟨tt, htt⟩ : ∃ tt, tt = (V == vr) := ⟨_, rfl⟩
  have HEQ := hQz (And.intro (hf.trans htt.symm) htt.symm)
  clear hf htt hnv hvr g1 g3 hb hc hat e2 hV0 HMO HMZ HF2
  refine qb7 (C := fun w' => Tch [] y9 w') (by kernel_rfl) (by kernel_rfl) ((Tch.refl _ _).drew) ?_
  refine qb8 rfl _ rfl rfl ?_; try simp only [Act.put, ppA, ppB, ppC]
  refine k_callC1 rfl rfl rfl Tryz.call10 (fun w' h => (num6_any _ w').mono fun e w'' h2 => ⟨h2.1, h.trans h2.2⟩) ?_; try simp only [Act.put, ppA, ppB, ppC]
  refine k_ints (t := true) rfl _ _ _ rfl rfl rfl rfl ?_; try simp only [Act.put, ppA, ppB, ppC]
  refine qc0 rfl _ rfl rfl ?_; try simp only [Act.put, ppA, ppB, ppC]
  refine k_loadW (b := b1) rfl _ rfl rfl (fun w' h => HB1.out w' h) (qa5 _) ?_; try simp only [Act.put, ppA, ppB, ppC]
  refine k_loadW (b := b2) rfl _ rfl rfl (fun w' h => HB2.out w' h) (qa5 _) ?_; try simp only [Act.put, ppA, ppB, ppC]
  refine k_hash (l := A) rfl _ _ _ rfl rfl rfl ?_; try simp only [Act.put, ppA, ppB, ppC]
  refine qd0 rfl _ _ _ rfl rfl rfl ?_; try simp only [Act.put, ppA, ppB, ppC]
  refine qc0 rfl _ rfl rfl ?_; try simp only [Act.put, ppA, ppB, ppC]
  refine k_loadW (b := b1) rfl _ rfl rfl (fun w' h => HB1.out w' h) (qa5 _) ?_; try simp only [Act.put, ppA, ppB, ppC]
  refine k_loadW (b := b4) rfl _ rfl rfl (fun w' h => HB4.out w' h) (qa5 _) ?_; try simp only [Act.put, ppA, ppB, ppC]
  refine k_hashN (l1 := A) (l2 := D) rfl _ _ _ rfl rfl rfl HNE.out ?_; try simp only [Act.put, ppA, ppB, ppC]
  refine qd0 rfl _ _ _ rfl rfl rfl ?_; try simp only [Act.put, ppA, ppB, ppC]
  refine qc0 rfl _ rfl rfl ?_; try simp only [Act.put, ppA, ppB, ppC]
  refine qb8 rfl _ rfl rfl ?_; try simp only [Act.put, ppA, ppB, ppC]
  refine k_callC1 rfl rfl rfl Tryz.call10 (fun w' h => (num6_any _ w').mono fun e w'' h2 => ⟨h2.1, h.trans h2.2⟩) ?_; try simp only [Act.put, ppA, ppB, ppC]
  refine k_neqs (t := false) rfl _ _ _ rfl rfl rfl rfl ?_; try simp only [Act.put, ppA, ppB, ppC]
  refine qc0 rfl _ rfl rfl ?_; try simp only [Act.put, ppA, ppB, ppC]
  refine k_loadW (b := b1) rfl _ rfl rfl (fun w' h => HB1.out w' h) (qa5 _) ?_; try simp only [Act.put, ppA, ppB, ppC]
  refine k_loadW (b := b3) rfl _ rfl rfl (fun w' h => HB3.out w' h) (qa5 _) ?_; try simp only [Act.put, ppA, ppB, ppC]
  refine k_hash3 (l1 := A) (l2 := B) (t := tt) rfl _ _ _ rfl rfl rfl HEQ.out.1 ?_; try simp only [Act.put, ppA, ppB, ppC]
  refine qb0 (p := p2) (l := m) (c := c2) rfl _ rfl rfl ?_; try simp only [Act.put, ppA, ppB, ppC]
  refine k_conv (l := V) rfl _ rfl rfl (fun w' h => HRV.out w' h) ?_; try simp only [Act.put, ppA, ppB, ppC]
  refine qb0 (p := some ⟨pb, off, none⟩) (l := n) (c := c0) rfl _ rfl rfl ?_; try simp only [Act.put, ppA, ppB, ppC]
  refine qh3 (v := .int .i64 (r : Int)) rfl _ (.inl rfl) rfl ?_; try simp only [Act.put, ppA, ppB, ppC]
  refine k_idxPr rfl _ _ rfl rfl rfl HRL.out ?_; try simp only [Act.put, ppA, ppB, ppC]
  refine k_fa rfl 28 _ 1 rfl rfl (fa_Pr1 pb (off + r * 2)) ?_; try simp only [Act.put, ppA, ppB, ppC]
  refine qc2 (b := pb) (j := off + r * 2 + 1) (v := .slice pv nv cv) rfl _ _ rfl rfl (fun w' h => HCV.out w' h) qa9 ?_; try simp only [Act.put, ppA, ppB, ppC]
  refine k_conv (l := vr) rfl _ rfl rfl (fun w' h => HRR.out w' h) ?_; try simp only [Act.put, ppA, ppB, ppC]
  refine k_strE (l := V) (m := vr) (t := tt) rfl _ _ _ rfl rfl rfl HBY.out.1 HBY.out.2 HEQ.out.2 ?_; try simp only [Act.put, ppA, ppB, ppC]
  refine k_boolsS (s := tt) rfl _ _ _ rfl rfl rfl ?_; try simp only [Act.put, ppA, ppB, ppC]
  refine qi6 (t := true) rfl _ _ _ rfl rfl rfl ?_; try simp only [Act.put, ppA, ppB, ppC]
  refine qd0 rfl _ _ _ rfl rfl rfl ?_; try simp only [Act.put, ppA, ppB, ppC]
  refine qk8 rfl _ rfl rfl ?_; try simp only [Act.put, ppA, ppB, ppC]
  refine qc8 ?_; try simp only [Act.put, ppA, ppB, ppC]
  intro wz hTz
  go_wp2
  go_ret
  exact ⟨rfl, HF.out.trans hTz⟩
end
section
open Go.ChangeShapes Go.WideShapes Go.ChangeAt Go.RowKit Tr
set_option maxRecDepth 100000
theorem bytes_cells28 : Tryz.prog.cellsOf 23 = 1 := by kernel_rfl
theorem pair_cells28 : Tryz.prog.cellsOf 28 = 2 := by kernel_rfl
theorem pair_fields28 : (Tryz.prog.underlying 28).map (fun d => match d with | .struct fs => fs.map (fun f => (f.type, f.offset)) | _ => #[]) = some #[(23, 0), (23, 1)] := by kernel_rfl
theorem pair_ty28 : ∃ f0 f1 : Field, Tryz.prog.underlying 28 = some (.struct #[f0, f1]) ∧ (f0.type = 23 ∧ f0.offset = 0) ∧ f1.type = 23 ∧ f1.offset = 1 := by
  have h := pair_fields28
  cases hq : Tryz.prog.underlying 28 with
  | none => rw [hq] at h; cases h
  | some d =>
    rw [hq] at h
    simp only [Option.map_some, Option.some.injEq] at h
    split at h
    · rename_i fs
      have hl := congrArg Array.size h
      simp at hl
      obtain ⟨l⟩ := fs
      match l, hl, h with
      | [f0, f1], _, h =>
        simp at h
        exact ⟨f0, f1, rfl, h.1, h.2⟩
    · simp at h
section
variable {H : Type} {enc' : TypeId × Value → H} {w : World}
theorem bytes_trod28 {fuel : Nat} {cs : List Value} {x : DataW H × List MemPlace} (hf : DataW.trod enc' Tryz.prog w 0 (fun _ => true) true fuel 23 cs = some x) : ∃ v L, cs = [v] ∧ RdB w v L := by
  rcases open_ints qb5 qk9 byte_cells hf with ⟨hcs, hx⟩ | ⟨a, len, cap, zs, hcs, _, hl, hm, hz, hx, hcell, hwz⟩
  · exact ⟨_, [], hcs, RdB.nil w⟩
  · simp only [if_true] at hz
    have hrange : ∀ z ∈ zs, 0 ≤ z ∧ z ≤ 255 := fun z hzm => by
      have := hwz z hzm
      simp [Lit.wf, IntKind.min, IntKind.max, IntKind.bits, IntKind.signed] at this
      omega
    refine ⟨_, (zs.take len).map Int.toNat, hcs, ⟨some a, cap, by rw [List.length_map, List.length_take, hz, Nat.min_eq_left hl], by rw [List.length_map, List.length_take]; omega, fun x hx => ?_, fun hne => ?_⟩⟩
    · obtain ⟨z, hzm, rfl⟩ := List.mem_map.1 hx
      have := hrange z (List.mem_of_mem_take hzm)
      omega
    · have hlen : 0 < len := by
        rcases Nat.eq_zero_or_pos len with h0 | h0
        · subst h0; simp at hne
        · exact h0
      obtain ⟨b, off, spot⟩ := a
      have hspot : spot = none := by simpa [Addr.add] using World.cell?_spot (hcell 0 (by omega))
      subst hspot
      refine ⟨b, off, rfl, World.block_lt_of_cell? w _ (hcell 0 (by omega)), fun i hi => ?_⟩
      rw [List.length_map, List.length_take] at hi
      have hi' : i < zs.length := by omega
      have hc := hcell i hi'
      have hadd : (⟨b, off, none⟩ : Addr).add i = ⟨b, off + i, none⟩ := by unfold Addr.add; split <;> simp_all
      rw [hadd] at hc
      rw [hc]
      have e1 : zs.getD i 0 = zs[i] := by simp [hi']
      have e2 : ((zs.take len).map Int.toNat).getD i 0 = zs[i].toNat := by
        have : i < len := by omega
        simp [this, hi']
      rw [e1, e2, Int.toNat_of_nonneg (hrange _ (List.getElem_mem hi')).1]
theorem take1_get28 {cs : List Value} {n : Nat} {u : Value} (h : (cs.drop n).take 1 = [u]) : cs[n]? = some u := by
  have := congrArg (fun l => l[0]?) h
  simpa [List.getElem?_take, List.getElem?_drop] using this
structure PairD where
  kv : Value
  vv : Value
  k : List Nat
  v : List Nat
theorem pair_trod28 {fuel : Nat} {cs : List Value} {x : DataW H × List MemPlace} (hf : DataW.trod enc' Tryz.prog w 0 (fun _ => true) true fuel 28 cs = some x) :
    ∃ d : PairD, cs = [d.kv, d.vv] ∧ RdB w d.kv d.k ∧ RdB w d.vv d.v := by
  obtain ⟨f0, f1, hty, ⟨t0, o0⟩, t1, o1⟩ := pair_ty28
  obtain ⟨xs, m, rfl, hx, hlen, hxl, hel⟩ := DataW.trod_struct hty hf
  have q0 := hel 0 f0 rfl
  have q1 := hel 1 f1 rfl
  have hs : xs.length = 2 := by simpa using hxl
  rw [t0, o0, bytes_cells28, List.getElem?_eq_getElem (by omega)] at q0
  rw [t1, o1, bytes_cells28, List.getElem?_eq_getElem (by omega)] at q1
  obtain ⟨v0, M0, e0, h0⟩ := bytes_trod28 q0
  obtain ⟨v1, M1, e1, h1⟩ := bytes_trod28 q1
  refine ⟨⟨v0, v1, M0, M1⟩, ?_, h0, h1⟩
  rw [pair_cells28] at hlen
  have g0 := take1_get28 e0
  have g1 := take1_get28 e1
  match cs, hlen, g0, g1 with
  | [a, b], _, g0, g1 =>
    simp at g0 g1
    rw [g0, g1]
theorem open_pairs {r : Reach} {b0 : Nat} {v : Value} {d : DataW H} {p : List MemPlace} (hv : Value.okWide Tryz.prog w r b0 22 v) (h : DataW.Trod enc' Tryz.prog w 0 (fun _ => true) true 22 v d p) : ∃ ps, PairsAt w v ps := by
  obtain ⟨a0, len0, cap0, rfl⟩ := okWide_slice pairs_ty hv
  obtain ⟨fuel, hf⟩ := h
  rcases DataW.trod_slice pairs_ty hf with ⟨hcs, _⟩ | ⟨a, len, cap, elems, rest, m, rfl, hcs, hx2, _, hlc, hcm, hlen, hget, _, _⟩
  · have : Value.slice a0 len0 cap0 = .slice none 0 0 := by simpa [Value.cells] using hcs
    rw [this]
    exact ⟨[], none, 0, rfl, Nat.le_refl _, fun h => absurd rfl h⟩
  · have : Value.slice a0 len0 cap0 = .slice (some a) len cap := by simpa [Value.cells] using hcs
    rw [this]
    rw [pair_cells28] at hget
    have key : ∀ i, i < len → ∃ y : PairD, w.cells? 0 (a.add (i * 2)) 2 = some [y.kv, y.vv] ∧ RdB w y.kv y.k ∧ RdB w y.vv y.v := by
      intro i hi
      have e := hget i hi
      rw [List.getElem?_eq_getElem (by omega)] at e
      obtain ⟨cs', hc, ht⟩ := Option.bind_eq_some_iff.1 e
      obtain ⟨y, hy, r⟩ := pair_trod28 ht
      exact ⟨y, by rw [hc, hy], r⟩
    obtain ⟨ys, hyl, hys⟩ : ∃ ys : List PairD, ys.length = len ∧ ∀ i (h : i < ys.length), w.cells? 0 (a.add (i * 2)) 2 = some [ys[i].kv, ys[i].vv] ∧ RdB w ys[i].kv ys[i].k ∧ RdB w ys[i].vv ys[i].v := by
      clear hget hcs hlen hx2 this hlc
      revert key
      generalize hl : len = n
      clear hl
      intro key
      have : ∀ k, k ≤ n → ∃ ys : List PairD, ys.length = k ∧ ∀ i (h : i < ys.length), w.cells? 0 (a.add (i * 2)) 2 = some [ys[i].kv, ys[i].vv] ∧ RdB w ys[i].kv ys[i].k ∧ RdB w ys[i].vv ys[i].v := by
        intro k
        induction k with
        | zero => exact fun _ => ⟨[], rfl, fun i h => absurd h (Nat.not_lt_zero i)⟩
        | succ k ih =>
          intro hk
          obtain ⟨ys, h1, h2⟩ := ih (by omega)
          obtain ⟨y, hy⟩ := key k (by omega)
          refine ⟨ys ++ [y], by simp [h1], fun i hi => ?_⟩
          rcases Nat.lt_or_ge i ys.length with h | h
          · rw [List.getElem_append_left h]; exact h2 i h
          · have : i = k := by rw [List.length_append] at hi; simp at hi; omega
            subst this
            rw [List.getElem_append_right h]
            simpa using hy
      exact this n (Nat.le_refl n)
    refine ⟨ys.map fun y => (y.k, y.v), some a, cap, by rw [List.length_map, hyl], by rw [List.length_map, hyl]; exact hlc, fun hne => ?_⟩
    have hpos : 0 < ys.length := by
      rcases Nat.eq_zero_or_pos ys.length with h0 | h0
      · rw [List.eq_nil_of_length_eq_zero h0] at hne; simp at hne
      · exact h0
    have c0 := (World.cells?_some (hys 0 hpos).1).2.2 0 (by decide)
    obtain ⟨b, off, spot⟩ := a
    have hc0 : w.cell? (((⟨b, off, spot⟩ : Addr).add (0 * 2)).add 0) = some ys[0].kv := c0
    have hspot : spot = none := by simpa [Addr.add] using World.cell?_spot hc0
    subst hspot
    have hadd : ∀ q j, ((⟨b, off, none⟩ : Addr).add q).add j = ⟨b, off + q + j, none⟩ := fun q j => by
      have h1 : (⟨b, off, none⟩ : Addr).add q = ⟨b, off + q, none⟩ := by unfold Addr.add; split <;> simp_all
      rw [h1]
      unfold Addr.add; split <;> simp_all
    refine ⟨b, off, rfl, ?_, fun i hi => ?_⟩
    · rw [hadd] at hc0
      exact World.block_lt_of_cell? w _ hc0
    · rw [List.length_map] at hi
      have z0 := (World.cells?_some (hys i hi).1).2.2 0 (by decide)
      have z1 := (World.cells?_some (hys i hi).1).2.2 1 (by decide)
      rw [hadd] at z0 z1
      rw [List.getElem_map]
      exact ⟨ys[i].kv, ys[i].vv, z0, z1, (hys i hi).2.1, (hys i hi).2.2⟩
end
end
end Go.Proofs.YtanmpcgackfpaaaGreat
