/- The document's node: what its branches stand on. -/
import Derived.Test.YtanmpcgackfpaaaGreatM01
import Derived.Test.YtanmpcgackfpaaaGreatM32
import Derived.Test.YtanmpcgackfpaaaGreatM35
import Derived.Test.YtanmpcgackfpaaaGreatM36
import Derived.Test.YtanmpcgackfpaaaGreatM38
import Derived.Deep.AppendLies
set_option linter.unusedVariables false
set_option linter.unusedSimpArgs false
namespace Go.Proofs.YtanmpcgackfpaaaGreat
section
open Go.RowKit Tr
set_option maxRecDepth 100000
namespace Tr
def ownK (es : List En) : Nat → List Nat
  | 0 => []
  | k + 1 => if (es[k]?.map fun e => e.1.isEmpty) = some true then (es[k]?.map (·.2)).getD [] else ownK es k
theorem ownK_yes {es : List En} {k : Nat} (h : k < es.length) (h0 : es[k].1 = []) : ownK es (k + 1) = es[k].2 := by
  show (if _ then _ else _) = _
  rw [List.getElem?_eq_getElem h]
  simp [h0]
theorem ownK_no {es : List En} {k : Nat} (h : k < es.length) (h0 : es[k].1 ≠ []) : ownK es (k + 1) = ownK es k := by
  show (if _ then _ else _) = _
  rw [List.getElem?_eq_getElem h, if_neg (by simp [h0])]
theorem ownK_none {es : List En} : ∀ {k : Nat}, k ≤ es.length → (∀ j (h : j < es.length), j < k → es[j].1 ≠ []) → ownK es k = []
  | 0, _, _ => rfl
  | k + 1, hk, h => by
    rw [ownK_no (by omega) (h k (by omega) (by omega))]
    exact ownK_none (by omega) fun j hj hjk => h j hj (by omega)
theorem ownK_some {es : List En} (ha : Apart es) {i : Nat} (hi : i < es.length) (h0 : es[i].1 = []) : ∀ {k : Nat}, k ≤ es.length → i < k → ownK es k = es[i].2
  | 0, _, h => by omega
  | k + 1, hk, h => by
    by_cases e : k = i
    · subst e; exact ownK_yes (by omega) h0
    · have hne : es[k].1 ≠ [] := fun h1 => by
        have hp := (List.pairwise_iff_getElem.1 ha) i k hi (by omega) (by omega)
        exact hp (h0.trans h1.symm)
      rw [ownK_no (by omega) hne]
      exact ownK_some ha hi h0 (by omega) (by omega)
theorem ownK_own {es : List En} (ha : Apart es) : ownK es es.length = own es := by
  unfold own
  cases hf : es.find? fun e => e.1.isEmpty with
  | none =>
    rw [ownK_none (Nat.le_refl _) fun j hj _ h0 => by
      have := List.find?_eq_none.1 hf es[j] (List.getElem_mem hj)
      rw [h0] at this
      simp at this]
    rfl
  | some x =>
    have hx := List.find?_some hf
    obtain ⟨i, hi, rfl⟩ := List.getElem_of_mem (List.mem_of_find?_eq_some hf)
    exact ownK_some ha hi (by simpa using hx) (Nat.le_refl _) hi
theorem heads_snoc {d k : Nat} {es : List En} (h : k < es.length) : heads d (es.take (k + 1)) = heads d (es.take k) ++ (if es[k].1.head? == some d then [es[k]] else []) := by
  unfold heads
  rw [List.take_add_one, List.getElem?_eq_getElem h, Option.toList_some, List.filter_append]
  congr 1
  by_cases hq : (es[k].1.head? == some d) = true
  · rw [if_pos hq]; simp only [List.filter_cons, List.filter_nil, hq, if_true]
  · rw [if_neg hq]; simp only [List.filter_cons, List.filter_nil, hq, if_false]; simp
theorem heads_one {d : Nat} {es : List En} : ∀ e ∈ heads d es, 1 ≤ e.1.length := fun e he => by
  have h := (List.mem_filter.1 he).2
  cases hp : e.1 with
  | nil => rw [hp] at h; simp at h
  | cons x r => simp
theorem longest_headsE {d m : Nat} {es : List En} (h : longest es < m) : longest (heads d es) < m := by
  have h2 := (qd2 (l := heads d es) (m := longest es)).2 (fun e he => (qd2 (l := es) (m := longest es)).1 (Nat.le_refl _) e (List.mem_filter.1 he).1)
  omega
end Tr
theorem good_heads {f d : Nat} {es : List En} (hg : GoodB (f + 1) es) (h0 : heads d es ≠ []) : GoodB f (rests 1 (heads d es)) := by
  refine ⟨fun h => h0 (by simpa [rests] using h), hg.2.1.heads.rests (qc6 _), ?_, fun x hx => ?_, ?_⟩
  · exact (qd7 (by decide) (qc6 _) (longest_headsE hg.2.2.1)).resolve_right h0
  · obtain ⟨y, hy, rfl⟩ := List.mem_map.1 hx
    obtain ⟨k1, k2, k3⟩ := hg.2.2.2.1 y (List.mem_filter.1 hy).1
    exact ⟨by show (y.1.drop _).length ≤ 128; rw [List.length_drop]; omega, fun z hz => k2 z (List.mem_of_mem_drop hz), k3⟩
  · unfold rests
    rw [List.length_map]
    exact Nat.le_trans (List.length_filter_le _ _) hg.2.2.2.2
def brT (f : Nat) (es : List En) (d : Nat) : It := refT f (rests 1 (heads d es))
def brE (f : Nat) (es : List En) (d : Nat) : List (List Nat) := refE f (rests 1 (heads d es))
theorem rests_nil {n : Nat} {l : List En} : rests n l = [] ↔ l = [] := by simp [rests]
theorem node_branchT {f : Nat} {e e2 : En} {l : List En} (h : ¬ 0 < cpAll e.1 (e2 :: l)) : nodeT pkT HL (f + 1) (e :: e2 :: l) = .lst ((List.range 16).map (brT f (e :: e2 :: l)) ++ [.str (own (e :: e2 :: l))]) ∧ nodeE pkT HL (f + 1) (e :: e2 :: l) = esTo (brE f (e :: e2 :: l)) 16 := by
  constructor
  · unfold nodeT
    simp only []
    rw [if_neg h]
    congr 2
    apply List.map_congr_left
    intro d _
    unfold brT refT
    by_cases h0 : heads d (e :: e2 :: l) = []
    · rw [if_pos h0, if_pos (rests_nil.2 h0)]
    · rw [if_neg h0, if_neg (fun q => h0 (rests_nil.1 q))]
  · unfold nodeE esTo
    simp only []
    rw [if_neg h]
    refine flatMap_same fun d _ => ?_
    unfold brE refE
    by_cases h0 : heads d (e :: e2 :: l) = []
    · rw [if_pos h0, if_pos (rests_nil.2 h0)]
    · rw [if_neg h0, if_neg (fun q => h0 (rests_nil.1 q))]
theorem node_extT {f : Nat} {e e2 : En} {l : List En} (h : 0 < cpAll e.1 (e2 :: l)) : nodeT pkT HL (f + 1) (e :: e2 :: l) = .lst [.str (pkT (e.1.take (cpAll e.1 (e2 :: l))) false), refT f (rests (cpAll e.1 (e2 :: l)) (e :: e2 :: l))] ∧ nodeE pkT HL (f + 1) (e :: e2 :: l) = refE f (rests (cpAll e.1 (e2 :: l)) (e :: e2 :: l)) := by
  have hne : rests (cpAll e.1 (e2 :: l)) (e :: e2 :: l) ≠ [] := fun q => by simp [rests] at q
  constructor
  · unfold nodeT refT
    simp only []
    rw [if_pos h, if_neg hne]
  · unfold nodeE refE
    simp only []
    rw [if_pos h, if_neg hne]
theorem entR_load {w : World} {b o : Nat} {x y : Value} (h0 : w.cell? ⟨b, o, none⟩ = some x) (h1 : w.cell? ⟨b, o + 1, none⟩ = some y) : (Instr.loadAt 93 (.pointer (some ⟨b, o, none⟩))).run Tryz.prog w = .ok (.agg #[x, y]) w := by
  go_simp
section
variable {a : Act} {w : World} {o : Oper} {ops : Array Oper} {rest : List Oper} {Q : Exit → Act → World → Prop}
theorem x_ldE {b j : Nat} {x y : Value} (xo : Operand) (ho : o.op = .load 93 xo) (hx : a.eval xo = .pointer (some ⟨b, j, none⟩)) (h0 : w.cell? ⟨b, j, none⟩ = some x) (h1 : w.cell? ⟨b, j + 1, none⟩ = some y) : (execOp a.eval o).run Tryz.prog w = .ok (.value (.agg #[x, y])) w := by
  have hr := entR_load h0 h1
  unfold execOp
  simp only [ho, hx, Sem.run_bind, hr, Result.andThen_ok, Sem.run_pure]
theorem st_bsR {x1 : Operand} {p q : Option Addr} {n1 c1 m1 d1 : Nat} (hgd : o.guard = none) (hop : o.op = .buildSlice 90 1 #[(0, x1)]) (h1 : a.eval x1 = .agg #[.slice p n1 c1, .slice q m1 d1])
    (h : wpList Tryz.prog ops Q rest (a.put o.dst (.slice (some ⟨w.heap.size, 0, none⟩) 1 1)) (w.alloc (.cells #[.slice p n1 c1, .slice q m1 d1] 93))) : wpList Tryz.prog ops Q (o :: rest) a w :=
  wpList_plain hgd fun K hK => by
    have hr := buildS_R p q n1 c1 m1 d1 w
    unfold Oper.wp execOp
    simp only [hop, List.map_toArray, List.map_cons, List.map_nil, h1, Sem.run_bind, hr, Result.andThen_ok, Sem.run_pure]
    exact hK _ _ h
theorem buildI1E (t : Bool) (p q : Option Addr) (n c m d : Nat) (w : World) : (Instr.buildSlice 99 1 #[(0, .agg #[.bool t, .slice p n c, .slice q m d])]).run Tryz.prog w = .ok (.slice (some ⟨w.heap.size, 0, none⟩) 1 1) (w.alloc (.cells #[.bool t, .slice p n c, .slice q m d] 101)) := by kernel_rfl
theorem st_bsI {x1 : Operand} {t : Bool} {p q : Option Addr} {n1 c1 m1 d1 : Nat} (hgd : o.guard = none) (hop : o.op = .buildSlice 99 1 #[(0, x1)]) (h1 : a.eval x1 = .agg #[.bool t, .slice p n1 c1, .slice q m1 d1])
    (h : wpList Tryz.prog ops Q rest (a.put o.dst (.slice (some ⟨w.heap.size, 0, none⟩) 1 1)) (w.alloc (.cells #[.bool t, .slice p n1 c1, .slice q m1 d1] 101))) : wpList Tryz.prog ops Q (o :: rest) a w :=
  wpList_plain hgd fun K hK => by
    have hr := buildI1E t p q n1 c1 m1 d1 w
    unfold Oper.wp execOp
    simp only [hop, List.map_toArray, List.map_cons, List.map_nil, h1, Sem.run_bind, hr, Result.andThen_ok, Sem.run_pure]
    exact hK _ _ h
theorem st_appRK {m n : Nat} {v : Value} {us : List Value} {c : Array Value} (hgd : o.guard = none) (s x : Operand)
    (ho : o.op = .call { callee := .builtin .append, args := #[s, x], argTypes := #[90, 90] }) (hs : a.eval s = v) (hx : a.eval x = .slice (some ⟨w.heap.size, 0, none⟩) 1 1)
    (hown : w.ownsRow m 93 2 v n us) (hm : m ≤ w.heap.size) (hsz : c.size = 2) (hone : c.all (·.oneCell') = true) (hlen : n ≤ 100000000)
    (h : ∀ v' w', w'.ownsRow m 93 2 v' (n + 1) (us ++ c.toList) → Tch v.ownBlock.toList w w' → (∀ g, v'.ownBlock = some g → v.ownBlock = some g ∨ w.heap.size ≤ g) → wpList Tryz.prog ops Q rest (a.put o.dst v') w') :
    wpList Tryz.prog ops Q (o :: rest) a (w.alloc (.cells c 93)) := by
  obtain ⟨i0, hi, hz0, hz1, hz2⟩ := info_parts entR_infos
  have hnews : ∀ j u, c.toList[j]? = some u → (w.alloc (.cells c 93)).cell? ((⟨w.heap.size, 0, none⟩ : Addr).add j) = some u := World.news_of_block (cs := c) (t := 93) (fr := (0, 0)) (heap_alloc_new w _)
  refine wpList_append_own_at (w := w.alloc (.cells c 93)) hgd s x 90 ho m 93 i0 _ 2 48 entR_ty hi hz0 hz1 hz2 rfl (by decide) v n us hs (hown.alloc _) ⟨w.heap.size, 0, none⟩ 1 1 c.toList hx (by rw [Array.length_toList, hsz]) hnews (fun u hu => (Array.all_eq_true_iff_forall_mem.1 hone) u (by simpa using hu)) (by unfold maxLen; omega) (by omega) (by simp; omega) ?_
  intro v' w' hown' hgrow _ hv'
  refine h v' w' hown' (((Tch.refl _ _).alloc _).trans ⟨hgrow.os, hgrow.tape, hgrow.output, hgrow.size, fun k hk hm' => hgrow.block k hk (fun e => hm' (by rw [← e]; simp))⟩) (fun g hg => ?_)
  rcases hv' with e | e
  · rw [e] at hg; exact .inl hg
  · rw [e] at hg
    have := Option.some.inj hg
    simp at this
    exact .inr (by omega)
theorem st_appIK {m n : Nat} {v : Value} {us : List Value} {c : Array Value} (hgd : o.guard = none) (s x : Operand)
    (ho : o.op = .call { callee := .builtin .append, args := #[s, x], argTypes := #[99, 99] }) (hs : a.eval s = v) (hx : a.eval x = .slice (some ⟨w.heap.size, 0, none⟩) 1 1)
    (hown : w.ownsRow m 101 3 v n us) (hm : m ≤ w.heap.size) (hsz : c.size = 3) (hone : c.all (·.oneCell') = true) (hlen : n ≤ 100000000)
    (h : ∀ v' w', w'.ownsRow m 101 3 v' (n + 1) (us ++ c.toList) → Tch v.ownBlock.toList w w' → (∀ g, v'.ownBlock = some g → v.ownBlock = some g ∨ w.heap.size ≤ g) → wpList Tryz.prog ops Q rest (a.put o.dst v') w') :
    wpList Tryz.prog ops Q (o :: rest) a (w.alloc (.cells c 101)) := by
  obtain ⟨i0, hi, hz0, hz1, hz2⟩ := info_parts item_infosT
  have hnews : ∀ j u, c.toList[j]? = some u → (w.alloc (.cells c 101)).cell? ((⟨w.heap.size, 0, none⟩ : Addr).add j) = some u := World.news_of_block (cs := c) (t := 101) (fr := (0, 0)) (heap_alloc_new w _)
  refine wpList_append_own_at (w := w.alloc (.cells c 101)) hgd s x 99 ho m 101 i0 _ 3 56 items_ty hi hz0 hz1 hz2 rfl (by decide) v n us hs (hown.alloc _) ⟨w.heap.size, 0, none⟩ 1 1 c.toList hx (by rw [Array.length_toList, hsz]) hnews (fun u hu => (Array.all_eq_true_iff_forall_mem.1 hone) u (by simpa using hu)) (by unfold maxLen; omega) (by omega) (by simp; omega) ?_
  intro v' w' hown' hgrow _ hv'
  refine h v' w' hown' (((Tch.refl _ _).alloc _).trans ⟨hgrow.os, hgrow.tape, hgrow.output, hgrow.size, fun k hk hm' => hgrow.block k hk (fun e => hm' (by rw [← e]; simp))⟩) (fun g hg => ?_)
  rcases hv' with e | e
  · rw [e] at hg; exact .inl hg
  · rw [e] at hg
    have := Option.some.inj hg
    simp at this
    exact .inr (by omega)
end
def IRowK (z Y : List Nat) (B : Nat) (w : World) (v : Value) (m : Nat) (S : Nat → It) : Prop :=
  ∃ us, w.ownsRow B 101 3 v m us ∧ ∀ i, i < m → ∃ t p n c q k d, us[i * 3]? = some (.bool t) ∧ us[i * 3 + 1]? = some (.slice p n c) ∧ us[i * 3 + 2]? = some (.slice q k d) ∧ ItC (z ++ (v.ownBlock.toList ++ Y)) w (dep (S i) + 1) (.bool t) (.slice p n c) (.slice q k d) (S i)
theorem IRowK.nil (z Y : List Nat) (B : Nat) (w : World) (S : Nat → It) : IRowK z Y B w (.slice none 0 0) 0 S := ⟨[], ⟨rfl, .inl ⟨rfl, rfl⟩⟩, fun i h => absurd h (by omega)⟩
theorem IRowK.zs {z z' Y : List Nat} {B m : Nat} {w w' : World} {v : Value} {S : Nat → It} (h : IRowK z Y B w v m S) (hK : ZS z z' w w') (ho : ∀ g, v.ownBlock = some g → g < w.heap.size ∧ g ∉ z) : IRowK z' Y B w' v m S := by
  obtain ⟨us, h1, h2⟩ := h
  refine ⟨us, own_eq h1 (fun g hg => hK.1.block g (ho g hg).1 (ho g hg).2), fun i hi => ?_⟩
  obtain ⟨t, p, n, c, q, k, d, h3, h4, h5, h6⟩ := h2 i hi
  exact ⟨t, p, n, c, q, k, d, h3, h4, h5, h6.zs hK⟩
theorem own_step {z Y : List Nat} {w w' : World} {v v' : Value} {k : Nat} {x y u : Value} {t : It} (h : ItC (z ++ (v.ownBlock.toList ++ Y)) w k x y u t) (hT : Tch v.ownBlock.toList w w') (hv : ∀ g, v'.ownBlock = some g → v.ownBlock = some g ∨ w.heap.size ≤ g) : ItC (z ++ (v'.ownBlock.toList ++ Y)) w' k x y u t := by
  have h1 : ItC (v'.ownBlock.toList ++ (z ++ (v.ownBlock.toList ++ Y))) w k x y u t := h.mono (fun q hq => by
    rcases List.mem_append.1 hq with hq | hq
    · have hg : v'.ownBlock = some q := by simpa using hq
      exact (hv q hg).imp (fun e => List.mem_append_right _ (List.mem_append_left _ (by simp [e]))) id
    · exact .inl hq)
  refine (h1.tch (hT.mono (fun q hq => .inl (List.mem_append_right _ (List.mem_append_right _ (List.mem_append_left _ hq)))))).mono (fun q hq => .inl ?_)
  rcases List.mem_append.1 hq with hq | hq
  · exact List.mem_append_right _ (List.mem_append_left _ hq)
  · rcases List.mem_append.1 hq with hq | hq
    · exact List.mem_append_left _ hq
    · exact List.mem_append_right _ (List.mem_append_right _ (List.mem_append_right _ hq))
theorem get3K {us : List Value} {y0 yb yl : Value} {n i : Nat} (hl : us.length = n * 3) : (i < n → (us ++ [y0, yb, yl])[i * 3]? = us[i * 3]? ∧ (us ++ [y0, yb, yl])[i * 3 + 1]? = us[i * 3 + 1]? ∧ (us ++ [y0, yb, yl])[i * 3 + 2]? = us[i * 3 + 2]?) ∧ ((us ++ [y0, yb, yl])[n * 3]? = some y0 ∧ (us ++ [y0, yb, yl])[n * 3 + 1]? = some yb ∧ (us ++ [y0, yb, yl])[n * 3 + 2]? = some yl) := by
  refine ⟨fun h => ⟨?_, ?_, ?_⟩, ?_, ?_, ?_⟩
  · rw [List.getElem?_append_left (by omega)]
  · rw [List.getElem?_append_left (by omega)]
  · rw [List.getElem?_append_left (by omega)]
  · rw [List.getElem?_append_right (by omega), hl, Nat.sub_self]; rfl
  · rw [List.getElem?_append_right (by omega), hl, show n * 3 + 1 - n * 3 = 1 by omega]; rfl
  · rw [List.getElem?_append_right (by omega), hl, show n * 3 + 2 - n * 3 = 2 by omega]; rfl
theorem IRowK.snoc {z Y : List Nat} {B m : Nat} {w w' : World} {v v' : Value} {us : List Value} {S : Nat → It} {t : Bool} {p q : Option Addr} {n c k d : Nat} (hown : w.ownsRow B 101 3 v m us) (hits : ∀ i, i < m → ∃ t p n c q k d, us[i * 3]? = some (.bool t) ∧ us[i * 3 + 1]? = some (.slice p n c) ∧ us[i * 3 + 2]? = some (.slice q k d) ∧ ItC (z ++ (v.ownBlock.toList ++ Y)) w (dep (S i) + 1) (.bool t) (.slice p n c) (.slice q k d) (S i))
    (hI : ItC (z ++ (v.ownBlock.toList ++ Y)) w (dep (S m) + 1) (.bool t) (.slice p n c) (.slice q k d) (S m)) (hT : Tch v.ownBlock.toList w w') (hv : ∀ g, v'.ownBlock = some g → v.ownBlock = some g ∨ w.heap.size ≤ g) (hown' : w'.ownsRow B 101 3 v' (m + 1) (us ++ [.bool t, .slice p n c, .slice q k d])) : IRowK z Y B w' v' (m + 1) S := by
  have hl : us.length = m * 3 := hown.1
  refine ⟨_, hown', fun i hi => ?_⟩
  by_cases h : i < m
  · obtain ⟨t, p, n, c, q, k, d, h3, h4, h5, h6⟩ := hits i h
    obtain ⟨e1, e2, e3⟩ := (get3K hl).1 h
    exact ⟨t, p, n, c, q, k, d, e1.trans h3, e2.trans h4, e3.trans h5, own_step h6 hT hv⟩
  · obtain rfl : i = m := by omega
    obtain ⟨e1, e2, e3⟩ := (get3K (n := i) (i := i) hl).2
    exact ⟨t, p, n, c, q, k, d, e1, e2, e3, own_step hI hT hv⟩
theorem IRowK.list {z Y : List Nat} {B m : Nat} {w : World} {v : Value} {S : Nat → It} {l : List It} (h : IRowK z Y B w v m S) (hm : l.length = m) (hs : m < 4611686018427387904) (hS : ∀ i (h : i < l.length), l[i] = S i) (ho : ∀ g, v.ownBlock = some g → g ∉ z ++ Y) : (∃ p c, v = .slice p m c) ∧ ItC (z ++ Y) w (dep (.lst l) + 1) (.bool true) (.slice none 0 0) v (.lst l) := by
  obtain ⟨us, h1, h2⟩ := h
  have hshape : ∃ p c, v = .slice p m c := by
    rcases h1.2 with ⟨rfl, h0⟩ | ⟨g, cap, cur, rfl, _⟩
    · exact ⟨none, 0, by rw [h0]⟩
    · exact ⟨_, cap, rfl⟩
  refine ⟨hshape, ?_⟩
  rw [dep_lst]
  unfold ItC
  rcases h1.2 with ⟨rfl, h0⟩ | ⟨g, cap, cur, rfl, hg, hb, hn, _, hcs, htk⟩
  · exact ⟨rfl, none, 0, by rw [hm, h0], ⟨by rw [hm, h0]; exact Nat.le_refl _, by omega⟩, fun hne => absurd (List.eq_nil_of_length_eq_zero (hm.trans h0)) hne⟩
  · refine ⟨rfl, _, cap, by rw [hm], ⟨by rw [hm]; exact hn, by omega⟩, fun _ => ⟨g, 0, rfl, (Array.getElem?_eq_some_iff.1 hb).1, ho g rfl, fun i hi => ?_⟩⟩
    obtain ⟨t, p, n, c, q, k, d, h3, h4, h5, h6⟩ := h2 i (by omega)
    have hc := fun j u hu => h1.cells (g := g) rfl j u hu
    have hadd : ∀ j, (⟨g, 0, none⟩ : Addr).add j = ⟨g, j, none⟩ := fun j => by unfold Addr.add; split <;> simp_all
    have hd := deps_mem (l := l) (x := l[i]) (List.getElem_mem hi)
    refine ⟨.bool t, .slice p n c, .slice q k d, ?_, ?_, ?_, ?_⟩
    · have := hc _ _ h3; rw [hadd] at this; rw [Nat.zero_add]; exact this
    · have := hc _ _ h4; rw [hadd] at this; rw [Nat.zero_add]; exact this
    · have := hc _ _ h5; rw [hadd] at this; rw [Nat.zero_add]; exact this
    · rw [hS i hi] at hd ⊢
      exact (h6.mono (Y := z ++ Y) (fun q hq => .inl (by
        rcases List.mem_append.1 hq with hq | hq
        · exact List.mem_append_left _ hq
        · exact List.mem_append_right _ (List.mem_append_right _ hq)))).up (by omega)
end
section
open Go.RowKit Tr
set_option maxRecDepth 100000
theorem cvt_u8i (x : Nat) (w : World) (hx : x < 256) : (convert 5 3 (.int .u8 (x : Int))).run Tryz.prog w = .ok (.int .i64 (x : Int)) w := by
  have h : IntKind.i64.wrap (x : Int) = (x : Int) := by rw [IntKind.wrap_i64]; omega
  have hi : Tryz.prog.underlying 3 = some (.int .i64) := by kernel_rfl
  simp [convert, run_underlying hi, run_underlying qk9, Conv.intToInt, h]
section
variable {o : Oper} {a : Act} {ops : Array Oper} {rest : List Oper} {C : World → Prop} {Q : Act → Prop}
theorem k_cvtE {s d : TypeId} {x : Operand} {vx v : Value} (hw : Region.wanted o (yielded ops a.tmps) = true) (ho : o.op = .convert s d x) (hx : a.eval x = vx) (hr : ∀ w, (convert s d vx).run Tryz.prog w = .ok v w) (h : KQ ops C Q rest (a.put o.dst v)) : KQ ops C Q (o :: rest) a :=
  qd6 hw (fun w => by unfold execOp; simp only [ho, hx, Sem.run_bind, hr, Result.andThen_ok, Sem.run_pure]) h
theorem k_idxB0 {b off n c : Nat} (hw : Region.wanted o (yielded ops a.tmps) = true) (x y : Operand) (ho : o.op = .indexAddr 23 x y) (hx : a.eval x = .slice (some ⟨b, off, none⟩) n c) (hy : a.eval y = .int .i64 0) (hj : 0 < n)
    (h : KQ ops C Q rest (a.put o.dst (.pointer (some ⟨b, off, none⟩)))) : KQ ops C Q (o :: rest) a :=
  qd6 hw (fun w => by
    have hsz : (Tryz.prog.info? 5).map (·.size) = some 1 := by kernel_rfl
    have hadd : (⟨b, off, none⟩ : Addr).add 0 = ⟨b, off, none⟩ := by unfold Addr.add; split <;> simp_all
    unfold execOp
    simp [ho, hx, hy, Instr.indexAt, run_underlying qb5, Instr.sureAddr, asIntOf, qe1 hsz, hj, hadd]) h
end
theorem own_len {es : List En} {m : Nat} (h : ∀ e ∈ es, e.2.length ≤ m) : (own es).length ≤ m := by
  unfold own
  cases hf : es.find? fun e => e.1.isEmpty with
  | none => exact Nat.zero_le _
  | some x => exact h x (List.mem_of_find?_eq_some hf)
theorem ql2 {P : Program} {ops : Array Oper} {a : Act} {w : World} {Q : Exit → Act → World → Prop} (h : Q .normal a w) : wpList P ops Q [] a w := h
theorem st_callE {o : Oper} {ops : Array Oper} {rest : List Oper} {a : Act} {w : World} {Q : Exit → Act → World → Prop} {f : FuncId} {ts : Array TypeId} {x1 : Operand} {v1 : Value} {R : Ending → World → Prop} (hgd : o.guard = none) (hop : o.op = .call { callee := .value (.func f), args := #[x1], argTypes := ts }) (h1 : a.eval x1 = v1) (hf : ∀ args w, (callFunc f args).run Tryz.prog w = .ok (.enter f args) w)
    (hc : Calls Tryz.prog f #[v1] w R) (h : ∀ e w', R e w' → ∃ v, e = .returned v ∧ wpList Tryz.prog ops Q rest (a.put o.dst v) w') : wpList Tryz.prog ops Q (o :: rest) a w :=
  wpList_plain hgd fun K hK => by
    have hr : (execOp a.eval o).run Tryz.prog w = .ok (.enter f #[v1]) w := by unfold execOp; simp [hop, resolve, invoke, h1, hf, show a.eval (.func f) = .func (.func f) #[] #[] from rfl, Deferred.ofValue]
    unfold Oper.wp
    rw [hr]
    exact hc.mono fun e w' hR => by
      obtain ⟨v, rfl, hk⟩ := h e w' hR
      exact hK _ _ hk
def BrO {σ : Type} (P : Keep σ) (X : List Nat) (S : Nat → It) (E : Nat → List (List Nat)) (s : σ) (w : World) (b1 d : Nat) (ov : Value) (sd : σ) (wr : World) : Prop :=
  P.K sd (ov.ownBlock.toList ++ b1 :: X) wr ∧ ZS (P.Z s) (P.Z sd) w wr ∧ Chain P.R s (esTo E d) sd ∧ P.N sd ≤ P.N s + (esTo E d).length ∧ (∀ g, ov.ownBlock = some g → w.heap.size ≤ g ∧ g ≠ b1 ∧ g ∉ b1 :: X) ∧ IRowK (P.Z sd) (b1 :: X) w.heap.size wr ov d S
def InR (Y : List Nat) (es : List En) (d : Nat) (wd wi : World) (iv : Value) (k : Nat) : Prop :=
  Tch [] wd wi ∧ ∃ xs : List VV, wi.ownsRow wd.heap.size 93 2 iv (heads d (es.take k)).length (vCells xs) ∧ RdEX Y wd xs (heads d (es.take k))
theorem InR.zero (Y : List Nat) (es : List En) (d : Nat) (wd : World) : InR Y es d wd wd (.slice none 0 0) 0 := by
  refine ⟨Tch.refl _ _, [], ?_, ?_⟩
  · exact ⟨rfl, .inl ⟨rfl, rfl⟩⟩
  · exact ⟨rfl, fun i h => absurd h (by simp)⟩
theorem InR.skip {Y : List Nat} {es : List En} {d : Nat} {wd wi : World} {iv : Value} {k : Nat} (h : InR Y es d wd wi iv k) (hk : k < es.length) (hn : (es[k].1.head? == some d) = false) : InR Y es d wd wi iv (k + 1) := by
  have h2 := h
  unfold InR at h2 ⊢
  rw [heads_snoc hk, hn]
  simpa using h2
theorem InR.take {Y : List Nat} {es : List En} {d : Nat} {wd wj : World} {jv v1 v2 : Value} {k : Nat} {xs : List VV} (hr : RdEX Y wd xs (heads d (es.take k))) (hk : k < es.length) (hy : (es[k].1.head? == some d) = true) (hT : Tch [] wd wj) (hown : wj.ownsRow wd.heap.size 93 2 jv ((heads d (es.take k)).length + 1) (vCells xs ++ [v1, v2])) (h1 : RdA Y wd v1 es[k].1) (h2 : RdA Y wd v2 es[k].2) : InR Y es d wd wj jv (k + 1) := by
  have e : heads d (es.take (k + 1)) = heads d (es.take k) ++ [es[k]] := by rw [heads_snoc hk, hy]; rfl
  refine ⟨hT, xs ++ [(v1, v2)], ?_, ?_⟩
  · rw [e, vCells_snoc, List.length_append]; exact hown
  · rw [e]; exact hr.snoc h1 h2
theorem own_form {w : World} {B n k : Nat} {t : TypeId} {v : Value} {us : List Value} (h : w.ownsRow B t k v n us) : ∃ p c, v = .slice p n c := by
  rcases h.2 with ⟨rfl, h0⟩ | ⟨g, cap, cur, rfl, _⟩
  · exact ⟨none, 0, by rw [h0]⟩
  · exact ⟨_, cap, rfl⟩
theorem own_one' {b1 : Nat} {ov : Value} (h : ∀ g, ov.ownBlock = some g → g ≠ b1) {t : TypeId} {c : Array Value} : ∀ e ∈ ([(b1, t, c)] : List Ent), e.1 ∉ ov.ownBlock.toList := fun e he hm => by
  rw [List.mem_singleton.1 he] at hm
  exact h b1 (by simpa using hm) rfl
section
variable {σ : Type} {P : Keep σ} {bb : Nat}
theorem bro_step (H : KeepOK P bb) {X : List Nat} {S : Nat → It} {E : Nat → List (List Nat)} {s sd s' : σ} {w wd w2 w3 w4 : World} {b1 d : Nat} {ov ov' : Value} {t : Bool} {p q : Option Addr} {n c k m : Nat} {us : List Value} (h : BrO P X S E s w b1 d ov sd wd) (hT : Tch [] wd w2) (hZ : ZS (P.Z sd) (P.Z s') w2 w3) (hK : P.K s' (ov.ownBlock.toList ++ b1 :: X) w3) (hC : Chain P.R sd (E d) s') (hN : P.N s' ≤ P.N sd + (E d).length)
    (hus : w3.ownsRow w.heap.size 101 3 ov d us ∧ ∀ i, i < d → ∃ t p n c q k m, us[i * 3]? = some (.bool t) ∧ us[i * 3 + 1]? = some (.slice p n c) ∧ us[i * 3 + 2]? = some (.slice q k m) ∧ ItC (P.Z s' ++ (ov.ownBlock.toList ++ b1 :: X)) w3 (dep (S i) + 1) (.bool t) (.slice p n c) (.slice q k m) (S i))
    (hI : ItC (P.Z s' ++ (ov.ownBlock.toList ++ b1 :: X)) w3 (dep (S d) + 1) (.bool t) (.slice p n c) (.slice q k m) (S d)) (hown' : w4.ownsRow w.heap.size 101 3 ov' (d + 1) (us ++ [.bool t, .slice p n c, .slice q k m])) (hT4 : Tch ov.ownBlock.toList w3 w4) (hv : ∀ g, ov'.ownBlock = some g → ov.ownBlock = some g ∨ w3.heap.size ≤ g) : BrO P X S E s w b1 (d + 1) ov' s' w4 := by
  have hz : ZS (P.Z s) (P.Z s') w w3 := h.2.1.trans ((ZS.refl _ hT).trans hZ)
  have hsz : w.heap.size ≤ w3.heap.size := hz.1.size
  have hoff := H.off _ _ _ hK
  refine ⟨H.go _ _ _ _ _ hK (hT4.mono (fun y hy => .inl (List.mem_append_left _ hy))) (fun y hy => ?_), ⟨⟨hT4.os.trans hz.1.os, hT4.tape.trans hz.1.tape, hT4.output.trans hz.1.output, Nat.le_trans hsz hT4.size, fun i hi hb => (hT4.block i (Nat.lt_of_lt_of_le hi hsz) (fun hm => by have := (h.2.2.2.2.1 i (by simpa using hm)).1; omega)).trans (hz.1.block i hi hb)⟩, hz.2⟩, ?_, ?_, fun g hg => ?_, ?_⟩
  · rcases List.mem_append.1 hy with hy | hy
    · have hg : ov'.ownBlock = some y := by simpa using hy
      exact ⟨(hv y hg).imp (fun e => List.mem_append_left _ (by simp [e])) id, (hown'.lt y hg).2⟩
    · exact ⟨.inl (List.mem_append_right _ hy), Nat.lt_of_lt_of_le (hoff y (List.mem_append_right _ hy)).1 hT4.size⟩
  · rw [esTo_succ]; exact h.2.2.1.append hC
  · rw [esTo_succ, List.length_append]; have := h.2.2.2.1; omega
  · rcases hv g hg with e | e
    · exact h.2.2.2.2.1 g e
    · refine ⟨by omega, fun e2 => ?_, fun hm => ?_⟩
      · have := (hoff b1 (List.mem_append_right _ List.mem_cons_self)).1; omega
      · have := (hoff g (List.mem_append_right _ hm)).1; omega
  · exact IRowK.snoc hus.1 hus.2 hI hT4 hv hown'
theorem bro_count {X : List Nat} {S : Nat → It} {E : Nat → List (List Nat)} {s sd : σ} {w wd : World} {b1 d : Nat} {ov : Value} (h : BrO P X S E s w b1 d ov sd wd) (hd : d < 16) (hl : P.N s + (esTo E 16).length ≤ 50000000) : P.N sd + (E d).length ≤ 50000000 := by
  have h1 := h.2.2.2.1
  have h3 := esTo_le E (d := d + 1) (n := 16) (by omega)
  rw [esTo_succ, List.length_append] at h3
  omega
theorem bro_last (H : KeepOK P bb) {X : List Nat} {S : Nat → It} {E : Nat → List (List Nat)} {s sd : σ} {w wd w5 w6 : World} {b1 : Nat} {ov ov' : Value} {pv : Option Addr} {nv cv : Nat} {us : List Value} {u : List Nat} (h : BrO P X S E s w b1 16 ov sd wd) (hT5 : Tch [] wd w5)
    (hus : wd.ownsRow w.heap.size 101 3 ov 16 us ∧ ∀ i, i < 16 → ∃ t p n c q k m, us[i * 3]? = some (.bool t) ∧ us[i * 3 + 1]? = some (.slice p n c) ∧ us[i * 3 + 2]? = some (.slice q k m) ∧ ItC (P.Z sd ++ (ov.ownBlock.toList ++ b1 :: X)) wd (dep (S i) + 1) (.bool t) (.slice p n c) (.slice q k m) (S i))
    (hS : S 16 = .str u) (hu : u.length < 4611686018427387904) (hI : RdA (P.Z sd ++ (ov.ownBlock.toList ++ b1 :: X)) wd (.slice pv nv cv) u) (hown' : w6.ownsRow w.heap.size 101 3 ov' (16 + 1) (us ++ [.bool false, .slice pv nv cv, .slice none 0 0])) (hT6 : Tch ov.ownBlock.toList w5 w6) (hv : ∀ g, ov'.ownBlock = some g → ov.ownBlock = some g ∨ w5.heap.size ≤ g) : ZS (P.Z s) (P.Z sd) w w6 ∧ P.K sd (b1 :: X) w6 ∧ (∀ g, ov'.ownBlock = some g → g ∉ P.Z sd ++ b1 :: X) ∧ IRowK (P.Z sd) (b1 :: X) w.heap.size w6 ov' 17 S := by
  have hz : ZS (P.Z s) (P.Z sd) w w5 := h.2.1.trans (ZS.refl _ hT5)
  have hsz : w.heap.size ≤ w5.heap.size := hz.1.size
  have hK5 := H.call h.1 hT5
  have hoff := H.off _ _ _ hK5
  have hI2 : ItC (P.Z sd ++ (ov.ownBlock.toList ++ b1 :: X)) w5 (dep (S 16) + 1) (.bool false) (.slice pv nv cv) (.slice none 0 0) (S 16) := by
    rw [hS, qg4]; unfold ItC; exact ⟨rfl, hI.tch hT5.toX, hu⟩
  refine ⟨⟨⟨hT6.os.trans hz.1.os, hT6.tape.trans hz.1.tape, hT6.output.trans hz.1.output, Nat.le_trans hsz hT6.size, fun i hi hb => (hT6.block i (Nat.lt_of_lt_of_le hi hsz) (fun hm => by have := (h.2.2.2.2.1 i (by simpa using hm)).1; omega)).trans (hz.1.block i hi hb)⟩, hz.2⟩, H.go _ _ _ _ _ hK5 (hT6.mono (fun y hy => .inl (List.mem_append_left _ hy))) (fun y hy => ⟨.inl (List.mem_append_right _ hy), Nat.lt_of_lt_of_le (hoff y (List.mem_append_right _ hy)).1 hT6.size⟩), fun g hg hm => ?_, IRowK.snoc (own_eq hus.1 (fun g hg => hT5.block g (hus.1.lt g hg).2 (by simp))) (fun i hi => ?_) hI2 hT6 hv hown'⟩
  · rcases hv g hg with e | e
    · rcases List.mem_append.1 hm with hm | hm
      · exact (hoff g (List.mem_append_left _ (by simp [e]))).2 hm
      · exact (h.2.2.2.2.1 g e).2.2 hm
    · have := H.all hK5 g (by
        rcases List.mem_append.1 hm with hm | hm
        · exact List.mem_append_left _ hm
        · exact List.mem_append_right _ (List.mem_append_right _ hm))
      omega
  · obtain ⟨t, p, n, c, q, k, m, h3, h4, h5, h6⟩ := hus.2 i hi
    exact ⟨t, p, n, c, q, k, m, h3, h4, h5, h6.tch hT5.toX⟩
end
set_option maxHeartbeats 16000000 in
theorem node_branch {σ : Type} {P : Keep σ} {bb : Nat} (H : KeepOK P bb) (f : Nat) (HR : BRefOK P bb f) (es : List En) (X : List Nat) (w : World) (s : σ) (v : Value) (hK : P.K s X w) (hv : PairsX (P.Z s ++ X) w v es) (hg : GoodB (f + 1) es) (hlen2 : 2 ≤ es.length) (hpos : ¬ 0 < cpAll es.head!.1 es.tail) (hcnt : P.N s + (esTo (brE f es) 16).length ≤ 50000000) : Calls Tryz.prog 40 #[.pointer (some ⟨bb, 0, none⟩), v] w (ItemPostK P X (.lst ((List.range 16).map (brT f es) ++ [.str (own es)])) (esTo (brE f es) 16) s w) := by
  obtain ⟨p, n, c, rfl, hn, hat⟩ := qk4 hv
  have hn2 : 2 ≤ n := by rw [hn]; exact hlen2
  have hnb : n ≤ 100000 := by rw [hn]; exact hg.2.2.2.2
  obtain ⟨b, o, rfl, hb, hbX, hc⟩ := hat (by omega)
  have h0n : 0 < es.length := by omega
  obtain ⟨p1, c1, p2, c2, g0, -, g2, -⟩ := hc 0 h0n
  rw [Nat.zero_mul, Nat.add_zero] at g0
  obtain ⟨q0, hq0⟩ : ∃ q0, q0 = (es[0]'h0n).1 := ⟨_, rfl⟩
  rw [← hq0] at g0 g2
  obtain ⟨n1, hn1⟩ : ∃ n1, n1 = q0.length := ⟨_, rfl⟩
  rw [← hn1] at g0 g2
  have hgd := hg.2.2.2.1
  have hq0m : es[0]'h0n ∈ es := List.getElem_mem h0n
  have hq0l : q0.length ≤ 128 := by rw [hq0]; exact (hgd _ hq0m).1
  have hn1l : n1 ≤ 128 := by rw [hn1]; exact hq0l
  have HC0 := hQz (fun (w' : World) (hT : Tch [] w w') => show w'.cell? ⟨b, o, none⟩ = some (.slice p1 n1 c1) from (hT.cell (p := ⟨b, o, none⟩) hb (by simp)).trans g0)
  have HCM := hQz (fun (w' : World) (hT : Tch [] w w') (v2 : Value) (l2 : List Nat) (h2 : l2.length ≤ 128) (h : RdA [] w v2 l2) => rcommon_any (.slice p1 n1 c1) v2 q0 l2 w' (by omega) (by omega) ((g2.mono (by simp)).tch hT) (h.tch hT))
  have HAT := hQz hc
  have HB := hQz hb
  have HGD := hQz (fun (k : Nat) (hk : k < es.length) => hgd es[k] (List.getElem_mem _))
  have HMS := hQz (fun (k : Nat) (hk : k < es.length) => cpK_succ q0 es k hk)
  have HNE := hQz hn
  have hm1 : cpK q0 es 1 = n1 := by rw [hn1, hq0]; exact cpK_one es h0n
  have hmn : cpK q0 es n = cpAll es.head!.1 es.tail := by rw [hn, hq0]; exact cpK_all es h0n
  obtain ⟨N, hN⟩ : ∃ N, N = cpAll es.head!.1 es.tail := ⟨_, rfl⟩
  rw [← hN] at hmn hpos
  have HH := hQz (And.intro H hK)
  obtain ⟨ds, hds⟩ := qg0
  have hS : St [] w w [] := St.start w
  have hN0 : N = 0 := by omega
  obtain ⟨E, hE⟩ : ∃ E, E = brE f es := ⟨_, rfl⟩
  obtain ⟨S, hSd, hS16⟩ : ∃ S : Nat → It, (∀ d, d < 16 → S d = brT f es d) ∧ S 16 = .str (own es) := ⟨fun i => if i < 16 then brT f es i else .str (own es), fun d hd => if_pos hd, rfl⟩
  obtain ⟨l, hlq⟩ : ∃ l, l = (List.range 16).map (brT f es) ++ [.str (own es)] := ⟨_, rfl⟩
  have hll : l.length = 17 := by rw [hlq]; simp
  have hlS : ∀ i (h : i < l.length), l[i] = S i := by
    intro i h
    subst hlq
    rcases Nat.lt_or_ge i 16 with h16 | h16
    · rw [hSd i h16, List.getElem_append_left (by simpa using h16)]; simp
    · have : i = 16 := by
        rw [hll] at h; omega
      subst this
      rw [hS16]; simp
  have HRF := hQz (fun (d : Nat) (hd : d < 16) (Y : List Nat) (w' : World) (sd : σ) (v' : Value) (hK : P.K sd Y w') (h : PairsX (P.Z sd ++ Y) w' v' (rests 1 (heads d es))) (hc : P.N sd + (E d).length ≤ 50000000) => show Calls Tryz.prog 68 #[.pointer (some ⟨bb, 0, none⟩), v'] w' (ItemPostK P Y (S d) (E d) sd w') from by
    rw [hSd d hd, hE]
    refine HR (rests 1 (heads d es)) Y w' sd v' hK h ?_ (by rw [hE] at hc; exact hc)
    by_cases h0 : heads d es = []
    · exact .inl (rests_nil.2 h0)
    · exact .inr (good_heads hg h0))
  have HRS := hQz (fun (d : Nat) (Y : List Nat) (w' : World) (iv : Value) (h : PairsX Y w' iv (heads d es)) (hY : ∀ x ∈ Y, x < w'.heap.size) => show Calls Tryz.prog 69 #[iv, .int .i64 1] w' fun e w'' => Tch [] w' w'' ∧ ∃ v', e = .returned v' ∧ PairsX Y w'' v' (rests 1 (heads d es)) from
    rest_anyX Y iv (heads d es) 1 w' h hY (Nat.le_trans (List.length_filter_le _ _) hg.2.2.2.2) heads_one (fun e he => by have := (hgd e (List.mem_filter.1 he).1).1; omega))
  have hcnt2 : P.N s + (esTo E 16).length ≤ 50000000 := by rw [hE]; exact hcnt
  rw [← hlq, ← hE]
  have HLL := hQz (And.intro hll hlS)
  have HCT := hQz hcnt2
  have OWNLEN := hQz (show (own es).length ≤ 900000 from own_len (fun e he => (hgd e he).2.2))
  have HES := hQz (And.intro hn (And.intro (show ownK es n = own es by rw [hn]; exact ownK_own hg.2.1) (And.intro hS16 (show n ≤ 100000 by rw [hn]; exact hg.2.2.2.2))))
  have HOX := hQz (show b ∉ P.Z s from fun h => hbX (List.mem_append_left _ h))
  rw [hN0] at hmn
  clear hK hv hg hat hc g0 g2 hn1 hbX hb hgd hq0m hq0l hN hN0 hpos hcnt hcnt2 hlen2 hn hq0 hE hSd hS16 hlq hll hlS HR
  have e1 : ((n : Int) == 1) = false := by rw [beq_eq_false_iff_ne]; omega
  go_enter Tryz.func40, Tryz.ntmps40
  go_wp2_with (first
    | (refine qi4 hS rfl 101 rfl qc9 ?_; clear hS; intro w1 b1 hS hT1 hb1; have H1 := hQz (And.intro hT1 (And.intro hb1 (hS.get .head).lt)); clear hT1 hb1)
    | (refine qc1 rfl (x_idxR (j := 0) _ _ rfl rfl rfl (by omega)) ?_)
    | (refine qc1 rfl (x_fa 93 _ 0 rfl rfl (fa_R0 _ _ _)) ?_)
    | (refine qc1 rfl (qe2 23 _ rfl rfl (HC0.out _ hS.frame) qa9) ?_))
  go_loopw [7, 8] (fun s7 s8 wr => ∃ k : Nat, s8 = .int .i64 (k : Int) ∧ 1 ≤ k ∧ k ≤ n ∧ s7 = .int .i64 ((cpK q0 es k : Nat) : Int) ∧ St [] w wr [(b1, 101, #[.bool false, .slice none 0 0, .slice none 0 0])]) (fun _ i _ => n - (intOf i).toNat)
  case atStart => exact ⟨1, rfl, Nat.le_refl _, by omega, by rw [hm1], hS⟩
  case round =>
    clear hS
    obtain ⟨k, rfl, hk1, hk, rfl, hS⟩ := hrel
    by_cases hlt : k < n
    · have d1 : (k : Int) < (n : Int) := by omega
      have d0 : (0 : Int) ≤ (k : Int) := by omega
      have hkl : k < es.length := by rw [← HNE.out]; exact hlt
      obtain ⟨pk, ck, _, _, f0, -, f2, -⟩ := HAT.out k hkl
      have hlk := (HGD.out k hkl).1
      have hms := HMS.out k hkl
      obtain ⟨qk, hqk⟩ : ∃ qk, qk = (es[k]'hkl).1 := ⟨_, rfl⟩
      rw [← hqk] at f0 f2 hlk hms
      obtain ⟨nk, hnk⟩ : ∃ nk, nk = qk.length := ⟨_, rfl⟩
      rw [← hnk] at f0 f2
      have HCK := hQz (fun (w' : World) (hT : Tch [] w w') => show w'.cell? ⟨b, o + k * 2, none⟩ = some (.slice pk nk ck) from (hT.cell (p := ⟨b, o + k * 2, none⟩) HB.out (by simp)).trans f0)
      have HCC := hQz (fun (w' : World) (hT : Tch [] w w') => HCM.out w' hT _ qk hlk (f2.mono (by simp)))
      have hcle : lcp q0 qk = cp q0 qk := lcp_cp q0 qk
      rw [hcle] at HCC
      have HMS2 := hQz hms
      have HLT := hQz (And.intro hlt (show 0 < n by omega))
      generalize cpK q0 es k = m at *
      generalize cp q0 qk = cc at *
      clear f0 f2 hlk hms hqk hnk hcle hkl
      go_upto_region 8 with (fail)
      try simp only [Act.put, ppA, ppB, ppC]
      refine qb7 (C := fun w' => St [] w w' [(b1, 101, #[.bool false, .slice none 0 0, .slice none 0 0])]) (by kernel_rfl) (by kernel_rfl) hS.drew ?_
      refine qb0 (p := some ⟨b, o, none⟩) (l := n) (c := c) rfl _ rfl rfl ?_; try simp only [Act.put, ppA, ppB, ppC]
      refine k_idxRz rfl _ _ rfl rfl rfl HLT.out.2 ?_; try simp only [Act.put, ppA, ppB, ppC]
      refine k_fa rfl 93 _ 0 rfl rfl (fa_R0 b o) ?_; try simp only [Act.put, ppA, ppB, ppC]
      refine qc2 (b := b) (j := o) (v := .slice p1 n1 c1) rfl _ _ rfl rfl (fun w' h => HC0.out w' h.frame) qa9 ?_; try simp only [Act.put, ppA, ppB, ppC]
      refine qb0 (p := some ⟨b, o, none⟩) (l := n) (c := c) rfl _ rfl rfl ?_; try simp only [Act.put, ppA, ppB, ppC]
      refine qh3 (v := .int .i64 (k : Int)) rfl _ (.inl rfl) rfl ?_; try simp only [Act.put, ppA, ppB, ppC]
      refine k_idxR rfl _ _ rfl rfl rfl HLT.out.1 ?_; try simp only [Act.put, ppA, ppB, ppC]
      refine k_fa rfl 93 _ 0 rfl rfl (fa_R0 b (o + k * 2)) ?_; try simp only [Act.put, ppA, ppB, ppC]
      refine qc2 (b := b) (j := o + k * 2) (v := .slice pk nk ck) rfl _ _ rfl rfl (fun w' h => HCK.out w' h.frame) qa9 ?_; try simp only [Act.put, ppA, ppB, ppC]
      refine qk3 (v := .int .i64 (cc : Int)) (v1 := .slice p1 n1 c1) (v2 := .slice pk nk ck) rfl rfl rfl rfl Tryz.call67 (fun w' h => (HCC.out w' h.frame).mono (fun e w'' h2 => ⟨h2.1, h.call h2.2⟩)) ?_; try simp only [Act.put, ppA, ppB, ppC]
      refine qh3 (v := .int .i64 (cc : Int)) rfl _ (.inr rfl) rfl ?_; try simp only [Act.put, ppA, ppB, ppC]
      refine qc8 ?_
      clear hS
      intro w3 hS
      by_cases hcm : cc < m
      · have d2 : (cc : Int) < (m : Int) := by omega
        have hmm : cpK q0 es (k + 1) = cc := by rw [HMS2.out]; omega
        have HMM := hQz hmm
        clear hmm
        go_wp2
        go_roundw
        case rel => exact ⟨k + 1, by go_num, by omega, by have := HLT.out.1; omega, by rw [HMM.out], hS⟩
        case measure => have := HLT.out.1; simp [intOf]; omega
      · have d2 : ¬ (cc : Int) < (m : Int) := by omega
        have hmm : cpK q0 es (k + 1) = m := by rw [HMS2.out]; omega
        have HMM := hQz hmm
        clear hmm
        go_wp2
        go_roundw
        case rel => exact ⟨k + 1, by go_num, by omega, by have := HLT.out.1; omega, by rw [HMM.out], hS⟩
        case measure => have := HLT.out.1; simp [intOf]; omega
    · obtain rfl : k = n := by omega
      have d1 : ¬ (k : Int) < (k : Int) := by omega
      rw [hmn]
      have hEB := (hS.toZ (z := P.Z s))
      have hst : BrO P X S E s w b1 0 (.slice none 0 0) s wr := ⟨HH.out.1.cons HH.out.2 hS.frame H1.out.2.1 (hS.get .head).lt, ZS.refl _ hS.frame, rfl, Nat.le_refl _, (fun g hg => by cases hg), IRowK.nil _ _ _ _ _⟩
      have HB1 := hQz H1.out.2.1
      have H1OFF := hQz (fun (wd : World) (sd : σ) {ov : Value} (h : P.K sd (ov.ownBlock.toList ++ b1 :: X) wd) => (HH.out.1.off _ _ _ h b1 (List.mem_append_right _ List.mem_cons_self)).1)
      clear hS
      go_wp2
      go_loopw [12, 14] (fun s12 s14 wd => ∃ (d : Nat) (ov : Value) (sd : σ), s14 = .int .i64 (d : Int) ∧ d ≤ 16 ∧ ov = s12 ∧ St (P.Z s) w wd [(b1, 101, #[.bool false, .slice none 0 0, .slice none 0 0])] ∧ Hid (BrO P X S E s w b1 d ov sd wd)) (fun _ i _ => 16 - (intOf i).toNat)
      case atStart => exact ⟨0, _, s, rfl, by decide, rfl, hEB, hQz hst⟩
      case round =>
        clear hEB hst
        obtain ⟨d, ov, sd, rfl, hd, rfl, hS, HI⟩ := hrel
        obtain ⟨wd, rfl⟩ : ∃ wd, wd = wr := ⟨_, rfl⟩
        by_cases hd16 : d < 16
        · have d2 : (d : Int) < 16 := by omega
          go_wp2
          go_loopw [15, 16] (fun s15 s16 wi => ∃ (i : Nat) (iv : Value), s16 = .int .i64 (i : Int) ∧ i ≤ k ∧ iv = s15 ∧ St (P.Z s) w wi [(b1, 101, #[.bool false, .slice none 0 0, .slice none 0 0])] ∧ Hid (InR (P.Z sd ++ (ov.ownBlock.toList ++ b1 :: X)) es d wd wi iv i)) (fun _ i _ => k - (intOf i).toNat)
          case atStart => exact ⟨0, _, rfl, Nat.zero_le _, rfl, hS, hQz (InR.zero _ _ _ _)⟩
          case round =>
            clear hS
            obtain ⟨i, iv, rfl, hi, rfl, hS, HJ⟩ := hrel
            obtain ⟨wi, rfl⟩ : ∃ wi, wi = wr := ⟨_, rfl⟩
            by_cases hlt : i < k
            · have d3 : (i : Int) < (k : Int) := by omega
              have hil : i < es.length := by rw [← HES.out.1]; exact hlt
              obtain ⟨pk, ck, pv, cv, f0, f1, f2, f3⟩ := HAT.out i hil
              obtain ⟨hlk, h16, -⟩ := HGD.out i hil
              obtain ⟨qk, hqk⟩ : ∃ qk, qk = (es[i]'hil).1 := ⟨_, rfl⟩
              obtain ⟨vk, hvk⟩ : ∃ vk, vk = (es[i]'hil).2 := ⟨_, rfl⟩
              rw [← hqk] at f0 f2 hlk h16
              rw [← hvk] at f1 f3
              obtain ⟨nk, hnk⟩ : ∃ nk, nk = qk.length := ⟨_, rfl⟩
              obtain ⟨mk, hmk⟩ : ∃ mk, mk = vk.length := ⟨_, rfl⟩
              rw [← hnk] at f0 f2 hlk
              rw [← hmk] at f1 f3
              have HC0i := hQz (show wi.cell? ⟨b, o + i * 2, none⟩ = some (.slice pk nk ck) from (hS.frame.cell (p := ⟨b, o + i * 2, none⟩) HB.out HOX.out).trans f0)
              have HC1i := hQz (show wi.cell? ⟨b, o + i * 2 + 1, none⟩ = some (.slice pv mk cv) from (hS.frame.cell (p := ⟨b, o + i * 2 + 1, none⟩) HB.out HOX.out).trans f1)
              have hwide : ∀ y ∈ P.Z s ++ (ov.ownBlock.toList ++ b1 :: X), y ∈ P.Z s ++ X ∨ w.heap.size ≤ y := fun y hy => by
                rcases List.mem_append.1 hy with hy | hy
                · exact .inl (List.mem_append_left _ hy)
                · rcases List.mem_append.1 hy with hy | hy
                  · exact .inr (HI.out.2.2.2.2.1 y (by simpa using hy)).1
                  · rcases List.mem_cons.1 hy with rfl | hy
                    · exact .inr HB1.out
                    · exact .inl (List.mem_append_right _ hy)
              have HX1 := hQz ((f2.mono hwide).zs HI.out.2.1)
              have HX2 := hQz ((f3.mono hwide).zs HI.out.2.1)
              have HQ := hQz (And.intro hqk (And.intro hvk hil))
              have HLT := hQz hlt
              cases hq : qk with
              | nil =>
                have hnk0 : nk = 0 := by rw [hnk, hq]; rfl
                have hno : ((es[i]'hil).1.head? == some d) = false := by rw [← hqk, hq]; rfl
                have HSK := hQz (HJ.out.skip hil hno)
                clear f0 f1 f2 f3 hlk h16 hwide hqk hvk hnk hmk hno hq
                subst hnk0
                go_upto_region 23 with (fail)
                try simp only [Act.put, ppA, ppB, ppC]
                refine k_seq (C := fun w' => w' = wi) rfl ?_
                refine qb0 (p := some ⟨b, o, none⟩) (l := k) (c := c) rfl _ rfl rfl ?_; try simp only [Act.put, ppA, ppB, ppC]
                refine qh3 (v := .int .i64 (i : Int)) rfl _ (.inl rfl) rfl ?_; try simp only [Act.put, ppA, ppB, ppC]
                refine k_idxR rfl _ _ rfl rfl rfl HLT.out ?_; try simp only [Act.put, ppA, ppB, ppC]
                refine k_fa rfl 93 _ 0 rfl rfl (fa_R0 b (o + i * 2)) ?_; try simp only [Act.put, ppA, ppB, ppC]
                refine qc2 (b := b) (j := o + i * 2) (v := .slice pk 0 ck) rfl _ _ rfl rfl (fun w' h => by rw [h]; exact HC0i.out) qa9 ?_; try simp only [Act.put, ppA, ppB, ppC]
                refine qg2 (p := pk) (n := 0) (c := ck) rfl _ rfl rfl ?_; try simp only [Act.put, ppA, ppB, ppC]
                refine k_gtr (m := ((0 : Nat) : Int)) (n := 0) (t := false) rfl _ _ _ rfl rfl rfl rfl ?_; try simp only [Act.put, ppA, ppB, ppC]
                refine qc0 (t := false) rfl _ rfl rfl ?_; try simp only [Act.put, ppA, ppB, ppC]
                refine qa3 rfl rfl rfl rfl rfl ?_; try simp only [Act.put, ppA, ppB, ppC]
                refine qa3 rfl rfl rfl rfl rfl ?_; try simp only [Act.put, ppA, ppB, ppC]
                refine qa3 rfl rfl rfl rfl rfl ?_; try simp only [Act.put, ppA, ppB, ppC]
                refine qa3 rfl rfl rfl rfl rfl ?_; try simp only [Act.put, ppA, ppB, ppC]
                refine qa3 rfl rfl rfl rfl rfl ?_; try simp only [Act.put, ppA, ppB, ppC]
                refine qa3 rfl rfl rfl rfl rfl ?_; try simp only [Act.put, ppA, ppB, ppC]
                refine qa3 rfl rfl rfl rfl rfl ?_; try simp only [Act.put, ppA, ppB, ppC]
                refine qa3 rfl rfl rfl rfl rfl ?_; try simp only [Act.put, ppA, ppB, ppC]
                refine qa3 rfl rfl rfl rfl rfl ?_; try simp only [Act.put, ppA, ppB, ppC]
                refine qa3 rfl rfl rfl rfl rfl ?_; try simp only [Act.put, ppA, ppB, ppC]
                refine qi6 (t := false) rfl _ _ _ rfl rfl rfl ?_; try simp only [Act.put, ppA, ppB, ppC]
                refine qc8 ?_
                rintro w3 rfl
                go_wp2
                go_roundw
                case rel => exact ⟨i + 1, iv, by go_num, by omega, rfl, hS, HSK⟩
                case measure => simp [intOf]; omega
              | cons x r =>
                have hnk0 : 0 < nk := by rw [hnk, hq]; simp
                have hx16 : x < 16 := h16 x (by rw [hq]; exact List.mem_cons_self)
                obtain ⟨_, _, hsl, -, -, hbyt⟩ := id f2
                obtain ⟨bq, oq, hpk, hbq, hbqX, hcq⟩ := hbyt (by rw [hq]; simp)
                injection hsl with e1 e2 e3
                obtain rfl : pk = some ⟨bq, oq, none⟩ := e1.trans hpk
                clear e1 e2 e3 hpk
                have HCB := hQz (show wi.cell? ⟨bq, oq, none⟩ = some (.int .u8 (x : Int)) from (hS.frame.cell (p := ⟨bq, oq, none⟩) hbq (fun h => hbqX (List.mem_append_left _ h))).trans (by
                  have := hcq 0 (by rw [hq]; simp)
                  rw [hq] at this
                  simpa using this))
                obtain ⟨t, ht⟩ : ∃ t, t = ((x : Int) == (d : Int)) := ⟨_, rfl⟩
                have hhd : ((es[i]'hil).1.head? == some d) = t := by
                  rw [← hqk, hq, ht]
                  show (some x == some d) = _
                  rw [Bool.eq_iff_iff]
                  simp
                  omega
                have HNK := hQz hnk0
                have HDH := hQz hhd
                have HX16 := hQz hx16
                clear f0 f1 f2 f3 hlk h16 hwide hqk hvk hnk hmk hq hhd hbyt hcq hbq hbqX hnk0 hx16
                go_upto_region 23 with (fail)
                try simp only [Act.put, ppA, ppB, ppC]
                refine k_seq (C := fun w' => w' = wi) rfl ?_
                refine qb0 (p := some ⟨b, o, none⟩) (l := k) (c := c) rfl _ rfl rfl ?_; try simp only [Act.put, ppA, ppB, ppC]
                refine qh3 (v := .int .i64 (i : Int)) rfl _ (.inl rfl) rfl ?_; try simp only [Act.put, ppA, ppB, ppC]
                refine k_idxR rfl _ _ rfl rfl rfl HLT.out ?_; try simp only [Act.put, ppA, ppB, ppC]
                refine k_fa rfl 93 _ 0 rfl rfl (fa_R0 b (o + i * 2)) ?_; try simp only [Act.put, ppA, ppB, ppC]
                refine qc2 (b := b) (j := o + i * 2) (v := .slice (some ⟨bq, oq, none⟩) nk ck) rfl _ _ rfl rfl (fun w' h => by rw [h]; exact HC0i.out) qa9 ?_; try simp only [Act.put, ppA, ppB, ppC]
                refine qg2 (p := some ⟨bq, oq, none⟩) (n := nk) (c := ck) rfl _ rfl rfl ?_; try simp only [Act.put, ppA, ppB, ppC]
                refine k_gtr (m := (nk : Int)) (n := 0) (t := true) rfl _ _ _ rfl rfl rfl (decide_eq_true (by have := HNK.out; omega)) ?_; try simp only [Act.put, ppA, ppB, ppC]
                refine qc0 (t := true) rfl _ rfl rfl ?_; try simp only [Act.put, ppA, ppB, ppC]
                refine qb0 (p := some ⟨b, o, none⟩) (l := k) (c := c) rfl _ rfl rfl ?_; try simp only [Act.put, ppA, ppB, ppC]
                refine qh3 (v := .int .i64 (i : Int)) rfl _ (.inl rfl) rfl ?_; try simp only [Act.put, ppA, ppB, ppC]
                refine k_idxR rfl _ _ rfl rfl rfl HLT.out ?_; try simp only [Act.put, ppA, ppB, ppC]
                refine k_fa rfl 93 _ 0 rfl rfl (fa_R0 b (o + i * 2)) ?_; try simp only [Act.put, ppA, ppB, ppC]
                refine qc2 (b := b) (j := o + i * 2) (v := .slice (some ⟨bq, oq, none⟩) nk ck) rfl _ _ rfl rfl (fun w' h => by rw [h]; exact HC0i.out) qa9 ?_; try simp only [Act.put, ppA, ppB, ppC]
                refine k_idxB0 (b := bq) (off := oq) (n := nk) (c := ck) rfl _ _ rfl rfl rfl HNK.out ?_; try simp only [Act.put, ppA, ppB, ppC]
                refine qc2 (b := bq) (j := oq) (v := .int .u8 (x : Int)) rfl _ _ rfl rfl (fun w' h => by rw [h]; exact HCB.out) qg6 ?_; try simp only [Act.put, ppA, ppB, ppC]
                refine k_cvtE (vx := .int .u8 (x : Int)) (v := .int .i64 (x : Int)) rfl rfl rfl (fun w => cvt_u8i x w (by have := HX16.out; omega)) ?_; try simp only [Act.put, ppA, ppB, ppC]
                refine qh3 (v := .int .i64 (d : Int)) rfl _ (.inl rfl) rfl ?_; try simp only [Act.put, ppA, ppB, ppC]
                refine k_ints (m := (x : Int)) (n := (d : Int)) (t := t) rfl _ _ _ rfl rfl rfl ht.symm ?_; try simp only [Act.put, ppA, ppB, ppC]
                refine qd0 (t := t) rfl _ _ _ rfl rfl rfl ?_; try simp only [Act.put, ppA, ppB, ppC]
                refine qc8 ?_
                rintro w3 rfl
                clear ht
                cases t with
                | false =>
                  have HSK := hQz (HJ.out.skip hil HDH.out)
                  skip
                  go_wp2
                  go_roundw
                  case rel => exact ⟨i + 1, iv, by go_num, by omega, rfl, hS, HSK⟩
                  case measure => simp [intOf]; omega
                | true =>
                  obtain ⟨hTw, xs, hown, hrd⟩ := HJ.out
                  have hwdS : w.heap.size ≤ wd.heap.size := HI.out.2.1.1.size
                  have HOWN := hQz (And.intro hown (And.intro hTw.size (And.intro hrd (And.intro hTw (show (heads d (es.take i)).length ≤ 100000 from Nat.le_trans (List.length_filter_le _ _) (by rw [List.length_take]; have := HES.out.2.2.2; omega))))))
                  have hb1w : b1 < wd.heap.size := (H1OFF.out wd sd HI.out.1)
                  have HOL := hQz (show ∀ g ∈ iv.ownBlock.toList, wd.heap.size ≤ g from fun g hg => (hown.lt g (by simpa using hg)).1)
                  have HWD := hQz (And.intro hwdS hb1w)
                  clear hTw hown hrd hwdS hb1w
                  go_upto_region 24 with (fail)
                  try simp only [Act.put, ppA, ppB, ppC]
                  refine wp_region_lit ?_
                  refine qc1 (v := iv) rfl (qb2 (.inl rfl) rfl) ?_; try simp only [Act.put, ppA, ppB, ppC]
                  refine qc1 (v := .slice (some ⟨b, o, none⟩) k c) rfl (qb2 (.inl rfl) rfl) ?_; try simp only [Act.put, ppA, ppB, ppC]
                  refine qc1 (v := .int .i64 (i : Int)) rfl (qb2 (.inl rfl) rfl) ?_; try simp only [Act.put, ppA, ppB, ppC]
                  refine qc1 rfl (x_idxR _ _ rfl rfl rfl HLT.out) ?_; try simp only [Act.put, ppA, ppB, ppC]
                  refine qc1 rfl (x_ldE _ rfl rfl HC0i.out HC1i.out) ?_; try simp only [Act.put, ppA, ppB, ppC]
                  refine st_bsR rfl rfl rfl ?_; try simp only [Act.put, ppA, ppB, ppC]
                  refine st_appRK (m := wd.heap.size) (v := iv) (c := #[.slice (some ⟨bq, oq, none⟩) nk ck, .slice pv mk cv]) rfl _ _ rfl rfl rfl HOWN.out.1 HOWN.out.2.1 rfl (pair2_one _ _ _ _ _ _) (by have := HOWN.out.2.2.2.2; omega) ?_
                  intro jv wj hownj hTj hvj
                  have HJ2 := hQz (InR.take HOWN.out.2.2.1 HQ.out.2.2 HDH.out (HOWN.out.2.2.2.1.fresh hTj HOL.out) hownj (by rw [← HQ.out.1]; exact HX1.out) (by rw [← HQ.out.2.1]; exact HX2.out))
                  replace hS := hS.callZ hTj (fun x hx => .inr (Nat.le_trans HWD.out.1 (HOL.out x hx))) (off_one (fun hm => by have h1 := HOL.out b1 hm; have h2 := HWD.out.2; omega))
                  clear hownj hTj hvj
                  go_wp2
                  go_roundw
                  case rel => exact ⟨i + 1, jv, by go_num, by omega, rfl, hS, HJ2⟩
                  case measure => simp [intOf]; omega
            · obtain rfl : i = k := by omega
              have d3 : ¬ (i : Int) < (i : Int) := by omega
              have hY := HH.out.1.all HI.out.1
              have HPX := hQz (show PairsX (P.Z sd ++ (ov.ownBlock.toList ++ b1 :: X)) wi iv (heads d es) from by
                obtain ⟨hTw, xs, hown, hrd⟩ := HJ.out
                rw [show es.take i = es from List.take_of_length_le (by rw [HES.out.1]; exact Nat.le_refl _)] at hown hrd
                exact pairs_ownX hown hrd hTw hY)
              have HTW := hQz HJ.out.1
              have HY := hQz (fun x hx => Nat.lt_of_lt_of_le (hY x hx) HJ.out.1.size)
              have HD := hQz hd16
              have hcnt := bro_count HI.out hd16 HCT.out
              have HCN := hQz hcnt
              have hrow : ∀ g, ov.ownBlock = some g → g < wd.heap.size ∧ g ∉ P.Z sd := fun g hg => (HH.out.1.off _ _ _ HI.out.1 g (List.mem_append_left _ (by simp [hg])))
              have HRW := hQz hrow
              have HB1Z := hQz (HH.out.1.off _ _ _ HI.out.1 b1 (List.mem_append_right _ List.mem_cons_self)).2
              clear hY HJ hcnt hrow
              go_wp2_with (first
                | (go_at_call 69; refine (HRS.out d _ _ iv HPX.out HY.out).mono ?_; rintro e w2 ⟨hT2, v2, rfl, hv2⟩; have H2 := hQz (And.intro (HTW.out.trans hT2) hv2); replace hS := hS.call hT2; clear hT2 hv2)
                | (go_at_call 68; refine (HRF.out d HD.out _ _ sd v2 (HH.out.1.call HI.out.1 H2.out.1) H2.out.2 HCN.out).mono ?_; rintro e w3 ⟨s', hZ, hK', hC', hN', t, p', n', c', q', k', d', rfl, hI⟩; obtain ⟨us, hown, hits⟩ := (HI.out.2.2.2.2.2.zs (ZS.refl _ H2.out.1) HRW.out).zs hZ (fun g hg => ⟨Nat.lt_of_lt_of_le (HRW.out g hg).1 H2.out.1.size, (HRW.out g hg).2⟩); have H3 := hQz (And.intro hZ (And.intro hK' (And.intro hC' (And.intro hN' (And.intro hI (And.intro hown hits)))))); have HS3 := hQz (Nat.le_trans HI.out.2.1.1.size (Nat.le_trans H2.out.1.size hZ.1.size)); replace hS := hS.callZ hZ.1 HI.out.2.1.2 (off_one HB1Z.out); clear hZ hK' hC' hN' hI hown hits)
                | (refine st_bsI rfl rfl rfl ?_)
                | (refine st_appIK (m := w.heap.size) (v := ov) (c := #[.bool t, .slice p' n' c', .slice q' k' d']) rfl _ _ rfl rfl rfl H3.out.2.2.2.2.2.1 HS3.out rfl (qc4 _ _ _ _ _ _ _) (by have := HD.out; omega) ?_; intro ov' w4 hown4 hT4 hv4; have H4 := hQz (bro_step HH.out.1 HI.out H2.out.1 H3.out.1 H3.out.2.1 H3.out.2.2.1 H3.out.2.2.2.1 H3.out.2.2.2.2.2 H3.out.2.2.2.2.1 hown4 hT4 hv4); replace hS := hS.callZ hT4 (fun x hx => .inr (HI.out.2.2.2.2.1 x (by simpa using hx)).1) (own_one' (fun g hg => (HI.out.2.2.2.2.1 g hg).2.1)); clear hown4 hT4 hv4))
              go_roundw
              case rel => exact ⟨d + 1, ov', s', by go_num, by omega, rfl, hS, H4⟩
              case measure => simp [intOf]; omega
        · have d2 : ¬ (d : Int) < 16 := by omega
          have HI := hQz (show BrO P X S E s w b1 16 ov sd wd from by
            have h16 : d = 16 := by omega
            rw [← h16]; exact HI.out)
          clear hd16
          have HB16 := hQz (fun (y : Nat) (hy : y ∈ P.Z s ++ (ov.ownBlock.toList ++ b1 :: X)) => show y ∈ P.Z s ++ X ∨ w.heap.size ≤ y from by
            rcases List.mem_append.1 hy with hy | hy
            · exact .inl (List.mem_append_left _ hy)
            · rcases List.mem_append.1 hy with hy | hy
              · exact .inr (HI.out.2.2.2.2.1 y (by simpa using hy)).1
              · rcases List.mem_cons.1 hy with rfl | hy
                · exact .inr HB1.out
                · exact .inl (List.mem_append_right _ hy))
          go_wp2
          go_loopw [13, 17] (fun s13 s17 wi => ∃ (i : Nat) (vv : Value), s17 = .int .i64 (i : Int) ∧ i ≤ k ∧ vv = s13 ∧ wd = wi ∧ Hid (RdA (P.Z s ++ X) w vv (ownK es i))) (fun _ i _ => k - (intOf i).toNat)
          case atStart => exact ⟨0, _, rfl, Nat.zero_le _, rfl, rfl, hQz (show RdA (P.Z s ++ X) w (.slice none 0 0) [] from ⟨none, 0, rfl, Nat.le_refl _, by simp, fun h => absurd rfl h⟩)⟩
          case round =>
            obtain ⟨i, vv, rfl, hi, rfl, rfl, HV⟩ := hrel
            by_cases hlt : i < k
            · have d3 : (i : Int) < (k : Int) := by omega
              have hil : i < es.length := by rw [← HES.out.1]; exact hlt
              obtain ⟨pk, ck, pu, cu, f0, f1, f2, f3⟩ := HAT.out i hil
              have hown1 := @ownK_yes es i hil
              have hown2 := @ownK_no es i hil
              obtain ⟨qk, hqk⟩ : ∃ qk, qk = (es[i]'hil).1 := ⟨_, rfl⟩
              obtain ⟨vk, hvk⟩ : ∃ vk, vk = (es[i]'hil).2 := ⟨_, rfl⟩
              rw [← hqk] at f0 f2 hown1 hown2
              rw [← hvk] at f1 f3 hown1
              obtain ⟨nk, hnk⟩ : ∃ nk, nk = qk.length := ⟨_, rfl⟩
              obtain ⟨mk, hmk⟩ : ∃ mk, mk = vk.length := ⟨_, rfl⟩
              rw [← hnk] at f0 f2
              rw [← hmk] at f1 f3
              have HC0i := hQz (show wd.cell? ⟨b, o + i * 2, none⟩ = some (.slice pk nk ck) from (hS.frame.cell (p := ⟨b, o + i * 2, none⟩) HB.out HOX.out).trans f0)
              have HC1i := hQz (show wd.cell? ⟨b, o + i * 2 + 1, none⟩ = some (.slice pu mk cu) from (hS.frame.cell (p := ⟨b, o + i * 2 + 1, none⟩) HB.out HOX.out).trans f1)
              have HLT := hQz hlt
              by_cases h0 : nk = 0
              · have hq0 : qk = [] := List.eq_nil_of_length_eq_zero (by omega)
                have HV2 := hQz (show RdA (P.Z s ++ X) w (.slice pu mk cu) (ownK es (i + 1)) from by rw [hown1 hq0]; exact f3)
                clear f0 f1 f2 f3 hown1 hown2 hqk hvk hnk hmk hq0
                subst h0
                go_wp2_with (first
                  | (refine qc1 rfl (x_idxR _ _ rfl rfl rfl HLT.out) ?_)
                  | (refine qc1 rfl (x_fa 93 _ 0 rfl rfl (fa_R0 _ _ _)) ?_)
                  | (refine qc1 rfl (x_fa 93 _ 1 rfl rfl (fa_R1 _ _ _)) ?_)
                  | (refine qc1 rfl (qe2 23 _ rfl rfl HC0i.out qa9) ?_)
                  | (refine qc1 rfl (qe2 23 _ rfl rfl HC1i.out qa9) ?_))
                go_roundw
                case rel => exact ⟨i + 1, .slice pu mk cu, by go_num, by omega, rfl, trivial, HV2⟩
                case measure => simp [intOf]; omega
              · have hq0 : qk ≠ [] := fun h => h0 (by rw [hnk, h]; rfl)
                have HV2 := hQz (show RdA (P.Z s ++ X) w vv (ownK es (i + 1)) from by rw [hown2 hq0]; exact HV.out)
                have e1 : ((nk : Int) == 0) = false := by rw [beq_eq_false_iff_ne]; omega
                clear f0 f1 f2 f3 hown1 hown2 hqk hvk hnk hmk hq0
                go_wp2_with (first
                  | (refine qc1 rfl (x_idxR _ _ rfl rfl rfl HLT.out) ?_)
                  | (refine qc1 rfl (x_fa 93 _ 0 rfl rfl (fa_R0 _ _ _)) ?_)
                  | (refine qc1 rfl (qe2 23 _ rfl rfl HC0i.out qa9) ?_))
                go_roundw
                case rel => exact ⟨i + 1, vv, by go_num, by omega, rfl, trivial, HV2⟩
                case measure => simp [intOf]; omega
            · obtain rfl : i = k := by omega
              have d3 : ¬ (i : Int) < (i : Int) := by omega
              have hov := HV.out
              rw [HES.out.2.1] at hov
              obtain ⟨pv, cv, rfl⟩ := hov.shape'
              have HX3 := hQz ((hov.mono HB16.out).zs HI.out.2.1)
              obtain ⟨nv, hnv⟩ : ∃ nv, nv = (own es).length := ⟨_, rfl⟩
              have HOL := hQz (show (own es).length < 4611686018427387904 from by have := OWNLEN.out; omega)
              rw [← hnv] at HX3 ⊢
              obtain ⟨us, hown, hits⟩ := HI.out.2.2.2.2.2
              have HU := hQz (And.intro hown hits)
              have HSW := hQz HI.out.2.1.1.size
              clear hown hits hnv hov HV
              go_upto_region 31 with (fail)
              try simp only [Act.put, ppA, ppB, ppC]
              refine wp_region_lit ?_
              refine qc1 (v := ov) rfl (qb2 (.inl rfl) rfl) ?_; try simp only [Act.put, ppA, ppB, ppC]
              refine qc1 (v := .slice pv nv cv) rfl (qb2 (.inl rfl) rfl) ?_; try simp only [Act.put, ppA, ppB, ppC]
              refine st_callE (v1 := .slice pv nv cv) rfl rfl rfl Tryz.call66 (rBytes_e _ _ _ _) ?_
              rintro e w5 ⟨rfl, hT5⟩
              refine ⟨_, rfl, ?_⟩
              have H5 := hQz hT5
              replace hS := hS.call hT5
              clear hT5
              try simp only [Act.put, ppA, ppB, ppC]
              refine st_bsI rfl rfl rfl ?_; try simp only [Act.put, ppA, ppB, ppC]
              refine st_appIK (m := w.heap.size) (v := ov) (c := #[.bool false, .slice pv nv cv, .slice none 0 0]) rfl _ _ rfl rfl rfl (own_eq HU.out.1 (fun g hg => H5.out.block g (HU.out.1.lt g hg).2 (by simp))) (Nat.le_trans HSW.out H5.out.size) rfl (qc4 _ _ _ _ _ _ _) (by decide) ?_
              intro ov' w6 hown6 hT6 hv6
              have H6 := hQz (bro_last HH.out.1 HI.out H5.out HU.out HES.out.2.2.1 HOL.out HX3.out hown6 hT6 hv6)
              replace hS := hS.callZ hT6 (fun x hx => .inr (HI.out.2.2.2.2.1 x (by simpa using hx)).1) (own_one' (fun g hg => (HI.out.2.2.2.2.1 g hg).2.1))
              clear hown6 hT6 hv6
              have hsh := IRowK.list (l := l) H6.out.2.2.2 HLL.out.1 (by decide) HLL.out.2 (fun g hg hm => H6.out.2.2.1 g hg hm)
              obtain ⟨⟨pw, cw, rfl⟩, hIl⟩ := hsh
              have HIL := hQz hIl
              clear hIl
              try simp only [Act.put, ppA, ppB, ppC]
              refine st_callE (v1 := .slice pw 17 cw) rfl rfl rfl Tryz.call65 (rList_e _ _ _ _) ?_
              rintro e w9 ⟨rfl, hT9⟩
              refine ⟨_, rfl, ?_⟩
              have H9 := hQz hT9
              replace hS := hS.call hT9
              clear hT9
              try simp only [Act.put, ppA, ppB, ppC]
              refine qd1 (b := b1) (c' := #[.bool true, .slice none 0 0, .slice pw 17 cw]) hS rfl 101 _ _ rfl rfl rfl .head qa4 rfl rfl (qc4 _ _ _ _ _ _ _) ?_
              have hB1 := hS.get .head
              clear hS
              intro wa hS hO
              have HO := hQz (And.intro hO hB1)
              clear hO hB1
              refine ql2 ?_
              go_wp2
              refine qf5 hS 4 101 rfl rfl rfl .head hds rfl qa4 rfl (fun hT => ?_)
              obtain ⟨r1, r2, r3⟩ := ref_end HH.out.1 H6.out.1 H6.out.2.1 H9.out.toX HO.out.1 H1.out.2.1 hT (Tch.refl _ _) (HIL.out.tch H9.out.toX)
              exact ⟨sd, r1, r2, HI.out.2.2.1, HI.out.2.2.2.1, _, _, _, _, _, _, _, rfl, r3⟩
end
section
open Go.RowKit Tr
set_option maxRecDepth 100000
def zb (n : Nat) : List Nat := (List.range n).map fun _ => 0
theorem pairs_ty : Tryz.prog.underlying 22 = some (.slice 28) := by kernel_rfl
section
variable {ops : Array Oper} {rest : List Oper} {o : Oper} {a : Act} {w : World} {Q : Exit → Act → World → Prop}
end
end
section
open Go.RowKit Tr
set_option maxRecDepth 100000
namespace Tr
def hasKey (l : List En) (k : List Nat) : Bool := l.any fun e => e.1 == k
def badE : List En → Nat → Bool
  | _, 0 => false
  | l, i + 1 => badE l i || ((l[i]?.map fun e => e.2.isEmpty || hasKey (l.take i) e.1).getD false)
theorem badE_succ {l : List En} {i : Nat} (h : i < l.length) : badE l (i + 1) = (badE l i || (l[i].2.isEmpty || hasKey (l.take i) l[i].1)) := by
  show (badE l i || _) = _
  rw [List.getElem?_eq_getElem h]
  rfl
theorem hasKey_succ {l : List En} {i : Nat} (h : i < l.length) (k : List Nat) : hasKey (l.take (i + 1)) k = (hasKey (l.take i) k || (l[i].1 == k)) := by
  unfold hasKey
  rw [List.take_add_one, List.getElem?_eq_getElem h, Option.toList_some, List.any_append]
  simp
theorem apart_snoc {l : List En} {e : En} : Apart (l ++ [e]) ↔ Apart l ∧ hasKey l e.1 = false := by
  unfold Apart hasKey
  rw [List.pairwise_append]
  constructor
  · rintro ⟨h1, _, h3⟩
    refine ⟨h1, List.any_eq_false.2 fun x hx => ?_⟩
    have := h3 x hx e (List.mem_singleton_self e)
    simpa using this
  · rintro ⟨h1, h2⟩
    refine ⟨h1, List.pairwise_singleton _ _, fun a ha b hb => ?_⟩
    rw [List.mem_singleton.1 hb]
    have := List.any_eq_false.1 h2 a ha
    simpa using this
theorem badE_take {l : List En} : ∀ {i : Nat}, i ≤ l.length → (badE l i = false ↔ (Empty' (l.take i) = false ∧ Apart (l.take i)))
  | 0, _ => by simp [badE, Empty', Apart]
  | i + 1, h => by
    have hi : i < l.length := by omega
    rw [badE_succ hi, Bool.or_eq_false_iff, Bool.or_eq_false_iff, badE_take (by omega), List.take_add_one, List.getElem?_eq_getElem hi, Option.toList_some, apart_snoc]
    unfold Empty'
    rw [List.any_append, Bool.or_eq_false_iff]
    simp only [List.any_cons, List.any_nil, Bool.or_false]
    constructor
    · rintro ⟨⟨h1, h2⟩, h3, h4⟩; exact ⟨⟨h1, h3⟩, h2, h4⟩
    · rintro ⟨⟨h1, h3⟩, h2, h4⟩; exact ⟨⟨h1, h2⟩, h3, h4⟩
theorem mayE_long {l : List En} {i : Nat} (h : i < l.length) (hl : longP l[i] = true) : mayE l = 3 := by
  unfold mayE
  rw [if_pos (.inr (List.any_eq_true.2 ⟨l[i], List.getElem_mem h, hl⟩))]
theorem mayE_many {l : List En} (h : 100000 < l.length) : mayE l = 3 := by
  unfold mayE
  rw [if_pos (.inl h)]
theorem mayE_all {l : List En} (h : l.length ≤ 100000) (hl : ∀ i (h : i < l.length), longP l[i] = false) : mayE l = if badE l l.length then 1 else 0 := by
  unfold mayE
  rw [if_neg (fun q => by
    rcases q with q | q
    · omega
    · obtain ⟨x, hx, hq⟩ := List.any_eq_true.1 q
      obtain ⟨i, hi, rfl⟩ := List.getElem_of_mem hx
      rw [hl i hi] at hq; cases hq)]
  have hb := badE_take (l := l) (i := l.length) (Nat.le_refl _)
  rw [List.take_length] at hb
  cases hB : badE l l.length with
  | false =>
    obtain ⟨h1, h2⟩ := hb.1 hB
    rw [if_neg (fun q => by rcases q with q | q; rw [h1] at q; cases q; exact q h2)]
    rfl
  | true =>
    rw [if_pos (by
      by_cases q : Empty' l = true
      · exact .inl q
      · refine .inr fun hA => ?_
        have := hb.2 ⟨by simpa using q, hA⟩
        rw [hB] at this; cases this)]
    rfl
end Tr
theorem x_idxPr {a : Act} {w : World} {o : Oper} {b off j n c : Nat} (x y : Operand) (ho : o.op = .indexAddr 22 x y) (hx : a.eval x = .slice (some ⟨b, off, none⟩) n c) (hy : a.eval y = .int .i64 (j : Int)) (hj : j < n) : (execOp a.eval o).run Tryz.prog w = .ok (.value (.pointer (some ⟨b, off + j * 2, none⟩))) w := by
  have hadd : (⟨b, off, none⟩ : Addr).add (j * 2) = ⟨b, off + j * 2, none⟩ := by unfold Addr.add; split <;> simp_all
  unfold execOp
  simp [ho, hx, hy, Instr.indexAt, run_underlying pairs_ty, Instr.sureAddr, asIntOf, qe1 pairD_size, hj, hadd]
theorem fa_Pr0 (b j : Nat) (w : World) : (Instr.fieldAt 28 (.pointer (some ⟨b, j, none⟩)) 0).run Tryz.prog w = .ok (.pointer (some ⟨b, j, none⟩)) w := by kernel_rfl
theorem fa_Pr1 (b j : Nat) (w : World) : (Instr.fieldAt 28 (.pointer (some ⟨b, j, none⟩)) 1).run Tryz.prog w = .ok (.pointer (some ⟨b, j + 1, none⟩)) w := by kernel_rfl
section
variable {o : Oper} {a : Act} {ops : Array Oper} {rest : List Oper} {C : World → Prop} {Q : Act → Prop}
theorem k_idxPr {b off j n c : Nat} (hw : Region.wanted o (yielded ops a.tmps) = true) (x y : Operand) (ho : o.op = .indexAddr 22 x y) (hx : a.eval x = .slice (some ⟨b, off, none⟩) n c) (hy : a.eval y = .int .i64 (j : Int)) (hj : j < n)
    (h : KQ ops C Q rest (a.put o.dst (.pointer (some ⟨b, off + j * 2, none⟩)))) : KQ ops C Q (o :: rest) a := qd6 hw (fun _ => x_idxPr x y ho hx hy hj) h
theorem k_strE {l m : List Nat} {t : Bool} (hw : Region.wanted o (yielded ops a.tmps) = true) (x y : Operand) (yt : TypeId) (ho : o.op = .binOp .eql 9 x y yt) (hx : a.eval x = .string (strB l)) (hy : a.eval y = .string (strB m)) (hl : ∀ x ∈ l, x < 256) (hm : ∀ x ∈ m, x < 256) (ht : (l == m) = t)
    (h : KQ ops C Q rest (a.put o.dst (.bool t))) : KQ ops C Q (o :: rest) a :=
  qd6 hw (fun w => by
    have e : ((strB l).toList == (strB m).toList) = t := by rw [strB_eq hl hm]; exact ht
    unfold execOp
    simp only [ho, hx, hy]
    show Sem.run _ _ w = _
    simp [eqGuard, binOp, Op.stringOp, e]) h
end
theorem pairsA_first {w : World} {v : Value} {es : List En} (h : PairsAt w v es) : ∃ p n c, v = .slice p n c ∧ n = es.length ∧ (0 < n → ∃ b o, p = some ⟨b, o, none⟩ ∧ b < w.heap.size ∧ ∀ i (hi : i < es.length), ∃ p1 c1 p2 c2, w.cell? ⟨b, o + i * 2, none⟩ = some (.slice p1 es[i].1.length c1) ∧ w.cell? ⟨b, o + i * 2 + 1, none⟩ = some (.slice p2 es[i].2.length c2) ∧ RdB w (.slice p1 es[i].1.length c1) es[i].1 ∧ RdB w (.slice p2 es[i].2.length c2) es[i].2) := by
  obtain ⟨p, n, c, h1, h2, h3⟩ := qk4 h.x0
  refine ⟨p, n, c, h1, h2, fun hn => ?_⟩
  obtain ⟨b, o, h4, h5, _, h7⟩ := h3 hn
  refine ⟨b, o, h4, h5, fun i hi => ?_⟩
  obtain ⟨p1, c1, p2, c2, g0, g1, g2, g3⟩ := h7 i hi
  exact ⟨p1, c1, p2, c2, g0, g1, g2.rdB, g3.rdB⟩
def eOf (t : Bool) : Value := .int .i64 (if t then 1 else 0)
theorem eOf_t : eOf true = .int .i64 1 := rfl
theorem eOf_f : eOf false = .int .i64 0 := rfl
set_option maxHeartbeats 16000000 in
theorem mayPairs_any (v : Value) (ps : List En) (w : World) (hv : PairsAt w v ps) (hn : ps.length ≤ 4611686018427387904) (hL : ∀ p ∈ ps, p.1.length ≤ 4611686018427387904 ∧ p.2.length ≤ 4611686018427387904) : Calls Tryz.prog 7 #[v] w fun e w' => e = .returned (.int .i64 (mayE ps : Nat)) ∧ Tch [] w w' := by
  obtain ⟨p, n, c, rfl, hnl, hat⟩ := pairsA_first hv
  by_cases hbig : 100000 < n
  · have hm : mayE ps = 3 := mayE_many (by omega)
    rw [hm]
    have d0 : (100000 : Int) < (n : Int) := by omega
    clear hv hat hm
    go_enter Tryz.func7, Tryz.ntmps7
    go_wp2
    go_ret
    exact ⟨rfl, Tch.refl _ _⟩
  have d0 : ¬ (100000 : Int) < (n : Int) := by omega
  have HAT := hQz hat
  have HN := hQz hnl
  have HL := hQz (fun (i : Nat) (hi : i < ps.length) => hL ps[i] (List.getElem_mem hi))
  have HS0 := hQz (fun (i : Nat) (hi : i < ps.length) => And.intro (@badE_succ ps i hi) (And.intro (@mayE_long ps i hi) (fun k => hasKey_succ hi k)))
  have HMA := hQz (fun (h : ∀ i (h : i < ps.length), longP ps[i] = false) => mayE_all (l := ps) (by omega) h)
  clear hv hat hL hn hnl
  go_enter Tryz.func7, Tryz.ntmps7
  go_wp2
  go_loopw [3, 4] (fun s3 s4 wr => ∃ i : Nat, s4 = .int .i64 (i : Int) ∧ i ≤ n ∧ s3 = eOf (badE ps i) ∧ Tch [] w wr ∧ Hid (∀ j (hj : j < ps.length), j < i → longP ps[j] = false)) (fun _ i _ => n - (intOf i).toNat)
  case atStart => exact ⟨0, rfl, Nat.zero_le _, rfl, Tch.refl _ _, hQz (fun j _ h => absurd h (by omega))⟩
  case round =>
    obtain ⟨i, rfl, hi, rfl, hT, HI⟩ := hrel
    by_cases hlt : i < n
    · have d1 : (i : Int) < (n : Int) := by omega
      have hil : i < ps.length := by rw [← HN.out]; exact hlt
      obtain ⟨b, o, rfl, hb, hc⟩ := HAT.out (by omega)
      obtain ⟨p1, c1, p2, c2, g0, g1, g2, g3⟩ := hc i hil
      obtain ⟨s1, s2, s3⟩ := HS0.out i hil
      obtain ⟨l1, l2⟩ := HL.out i hil
      have hlp : longP ps[i] = (decide (64 < ps[i].1.length) || decide (1048576 < ps[i].2.length)) := rfl
      obtain ⟨ky, hky⟩ : ∃ ky, ky = ps[i].1 := ⟨_, rfl⟩
      obtain ⟨vy, hvy⟩ : ∃ vy, vy = ps[i].2 := ⟨_, rfl⟩
      rw [← hky] at g0 g2 s1 l1 hlp
      rw [← hvy] at g1 g3 s1 l2 hlp
      obtain ⟨n1, hn1⟩ : ∃ n1, n1 = ky.length := ⟨_, rfl⟩
      obtain ⟨n2, hn2⟩ : ∃ n2, n2 = vy.length := ⟨_, rfl⟩
      rw [← hn1] at g0 g2 l1 hlp
      rw [← hn2] at g1 g3 l2 hlp
      have HC0 := hQz (fun (w' : World) (h : Tch [] w w') => show w'.cell? ⟨b, o + i * 2, none⟩ = some (.slice p1 n1 c1) from (h.cell (p := ⟨b, o + i * 2, none⟩) hb (by simp)).trans g0)
      have HC1 := hQz (fun (w' : World) (h : Tch [] w w') => show w'.cell? ⟨b, o + i * 2 + 1, none⟩ = some (.slice p2 n2 c2) from (h.cell (p := ⟨b, o + i * 2 + 1, none⟩) hb (by simp)).trans g1)
      have HRK := hQz (fun (w' : World) (h : Tch [] w w') => show RdB w' (.slice p1 n1 c1) ky from g2.tch h (by simp))
      have HKY := hQz (show ∀ x ∈ ky, x < 256 from g2.choose_spec.choose_spec.2.2.1)
      have HS1 := hQz s1
      have HS2 := hQz s2
      have HLP := hQz hlp
      have HEM := hQz (show vy.isEmpty = (n2 == 0) from by rw [hn2]; cases vy <;> simp)
      have HLT := hQz (And.intro hlt hil)
      have HB := hQz (And.intro hb hc)
      generalize badE ps i = be at *
      clear g0 g1 g2 g3 hlp s1 s2 hc hn1 hn2
      have HKQ := hQz hky
      clear hky hvy
      go_upto_region 7 with (fail)
      try simp only [Act.put, ppA, ppB, ppC]
      refine k_seq (C := fun w' => Tch [] w w') hT ?_
      refine qb0 (p := some ⟨b, o, none⟩) (l := n) (c := c) rfl _ rfl rfl ?_; try simp only [Act.put, ppA, ppB, ppC]
      refine qh3 (v := .int .i64 (i : Int)) rfl _ (.inl rfl) rfl ?_; try simp only [Act.put, ppA, ppB, ppC]
      refine k_idxPr rfl _ _ rfl rfl rfl HLT.out.1 ?_; try simp only [Act.put, ppA, ppB, ppC]
      refine k_fa rfl 28 _ 0 rfl rfl (fa_Pr0 b (o + i * 2)) ?_; try simp only [Act.put, ppA, ppB, ppC]
      refine qc2 (b := b) (j := o + i * 2) (v := .slice p1 n1 c1) rfl _ _ rfl rfl (fun w' h => HC0.out w' h) qa9 ?_; try simp only [Act.put, ppA, ppB, ppC]
      refine qg2 (p := p1) (n := n1) (c := c1) rfl _ rfl rfl ?_; try simp only [Act.put, ppA, ppB, ppC]
      by_cases h64 : 64 < n1
      · refine k_gtr (m := (n1 : Int)) (n := 64) (t := true) rfl _ _ _ rfl rfl rfl (decide_eq_true (by omega)) ?_; try simp only [Act.put, ppA, ppB, ppC]
        refine qc0 (t := true) rfl _ rfl rfl ?_; try simp only [Act.put, ppA, ppB, ppC]
        refine qa3 rfl rfl rfl rfl rfl ?_; try simp only [Act.put, ppA, ppB, ppC]
        refine qa3 rfl rfl rfl rfl rfl ?_; try simp only [Act.put, ppA, ppB, ppC]
        refine qa3 rfl rfl rfl rfl rfl ?_; try simp only [Act.put, ppA, ppB, ppC]
        refine qa3 rfl rfl rfl rfl rfl ?_; try simp only [Act.put, ppA, ppB, ppC]
        refine qa3 rfl rfl rfl rfl rfl ?_; try simp only [Act.put, ppA, ppB, ppC]
        refine qa3 rfl rfl rfl rfl rfl ?_; try simp only [Act.put, ppA, ppB, ppC]
        refine qa3 rfl rfl rfl rfl rfl ?_; try simp only [Act.put, ppA, ppB, ppC]
        refine qd0 (t := true) rfl _ _ _ rfl rfl rfl ?_; try simp only [Act.put, ppA, ppB, ppC]
        refine qc8 ?_
        intro w3 hT3
        have hm3 : mayE ps = 3 := HS2.out (by rw [HLP.out, decide_eq_true h64]; rfl)
        have HM3 := hQz hm3
        clear hm3
        go_wp2
        go_ret
        exact ⟨by rw [HM3.out]; rfl, hT3⟩
      refine k_gtr (m := (n1 : Int)) (n := 64) (t := false) rfl _ _ _ rfl rfl rfl (decide_eq_false (by omega)) ?_; try simp only [Act.put, ppA, ppB, ppC]
      refine qc0 (t := false) rfl _ rfl rfl ?_; try simp only [Act.put, ppA, ppB, ppC]
      refine qb0 (p := some ⟨b, o, none⟩) (l := n) (c := c) rfl _ rfl rfl ?_; try simp only [Act.put, ppA, ppB, ppC]
      refine qh3 (v := .int .i64 (i : Int)) rfl _ (.inl rfl) rfl ?_; try simp only [Act.put, ppA, ppB, ppC]
      refine k_idxPr rfl _ _ rfl rfl rfl HLT.out.1 ?_; try simp only [Act.put, ppA, ppB, ppC]
      refine k_fa rfl 28 _ 1 rfl rfl (fa_Pr1 b (o + i * 2)) ?_; try simp only [Act.put, ppA, ppB, ppC]
      refine qc2 (b := b) (j := o + i * 2 + 1) (v := .slice p2 n2 c2) rfl _ _ rfl rfl (fun w' h => HC1.out w' h) qa9 ?_; try simp only [Act.put, ppA, ppB, ppC]
      refine qg2 (p := p2) (n := n2) (c := c2) rfl _ rfl rfl ?_; try simp only [Act.put, ppA, ppB, ppC]
      by_cases hmb : 1048576 < n2
      · refine k_gtr (m := (n2 : Int)) (n := 1048576) (t := true) rfl _ _ _ rfl rfl rfl (decide_eq_true (by omega)) ?_; try simp only [Act.put, ppA, ppB, ppC]
        refine qi6 (t := true) rfl _ _ _ rfl rfl rfl ?_; try simp only [Act.put, ppA, ppB, ppC]
        refine qc8 ?_
        intro w3 hT3
        have hm3 : mayE ps = 3 := HS2.out (by rw [HLP.out, decide_eq_true hmb, Bool.or_true])
        have HM3 := hQz hm3
        clear hm3
        go_wp2
        go_ret
        exact ⟨by rw [HM3.out]; rfl, hT3⟩
      refine k_gtr (m := (n2 : Int)) (n := 1048576) (t := false) rfl _ _ _ rfl rfl rfl (decide_eq_false (by omega)) ?_; try simp only [Act.put, ppA, ppB, ppC]
      refine qi6 (t := false) rfl _ _ _ rfl rfl rfl ?_; try simp only [Act.put, ppA, ppB, ppC]
      refine qc8 ?_
      intro w3 hT3
      have HNL := hQz (show ∀ j (hj : j < ps.length), j < i + 1 → longP ps[j] = false from fun j hj hji => by
        by_cases hje : j < i
        · exact HI.out j hj hje
        · obtain rfl : j = i := by omega
          rw [HLP.out, decide_eq_false h64, decide_eq_false hmb]; rfl)
      have hcond : ∀ t : Bool, (eOf t = .int .i64 1) = (t = true) := fun t => by cases t <;> simp [eOf]
      have HIN := hQz (show ∀ (t0 : Bool), eOf (t0 || false) = eOf t0 from fun t0 => by rw [Bool.or_false])
      clear hT h64 hmb
      -- an empty value
      have key : ∀ (be2 : Bool), be2 = (be || (n2 == 0)) → True := fun _ _ => trivial
      by_cases h0 : n2 = 0
      · have e1 : ((n2 : Int) == 0) = true := by rw [beq_iff_eq]; omega
        have hbe : (be || vy.isEmpty) = true := by rw [HEM.out, h0]; simp
        have HBE := hQz hbe
        clear hbe key hcond
        go_wp2_with (first
          | (refine qc1 rfl (x_idxPr _ _ rfl rfl rfl HLT.out.1) ?_)
          | (refine qc1 rfl (x_fa 28 _ 1 rfl rfl (fa_Pr1 _ _)) ?_)
          | (refine qc1 rfl (qe2 23 _ rfl rfl (HC1.out _ hT3) qa9) ?_))
        go_loopw [3, 5] (fun s3 s5 wr => ∃ k : Nat, s5 = .int .i64 (k : Int) ∧ k ≤ i ∧ s3 = eOf (true || hasKey (ps.take k) ky) ∧ Tch [] w wr) (fun _ k _ => i - (intOf k).toNat)
        case atStart => exact ⟨0, rfl, Nat.zero_le _, rfl, hT3⟩
        case round =>
          clear hT3
          obtain ⟨k, rfl, hk, rfl, hT4⟩ := hrel
          by_cases hki : k < i
          · have d2 : (k : Int) < (i : Int) := by omega
            have hkl : k < ps.length := by have := HLT.out.2; omega
            obtain ⟨pk, ck, _, _, f0, -, f2, -⟩ := HB.out.2 k hkl
            obtain ⟨-, -, s3k⟩ := HS0.out k hkl
            replace s3k := s3k ky
            obtain ⟨kk, hkk⟩ : ∃ kk, kk = ps[k].1 := ⟨_, rfl⟩
            rw [← hkk] at f0 f2 s3k
            obtain ⟨nk, hnk⟩ : ∃ nk, nk = kk.length := ⟨_, rfl⟩
            rw [← hnk] at f0 f2
            have HCK := hQz (fun (w' : World) (h : Tch [] w w') => show w'.cell? ⟨b, o + k * 2, none⟩ = some (.slice pk nk ck) from (h.cell (p := ⟨b, o + k * 2, none⟩) HB.out.1 (by simp)).trans f0)
            have HRK2 := hQz (fun (w' : World) (h : Tch [] w w') => show RdB w' (.slice pk nk ck) kk from f2.tch h (by simp))
            have HKK := hQz (show ∀ x ∈ kk, x < 256 from f2.choose_spec.choose_spec.2.2.1)
            have HS3 := hQz s3k
            have HKI := hQz (show k < n by have := HLT.out.1; omega)
            generalize hasKey (ps.take k) ky = hb0 at *
            clear f0 f2 s3k hkk hnk hkl
            go_upto_region 14 with (fail)
            try simp only [Act.put, ppA, ppB, ppC]
            obtain ⟨q, hq⟩ : ∃ q, q = (kk == ky) := ⟨_, rfl⟩
            rw [← hq] at HS3
            refine qb7 (C := fun w' => Tch [] w w') (by kernel_rfl) (by kernel_rfl) hT4.drew ?_
            refine qb0 (p := some ⟨b, o, none⟩) (l := n) (c := c) rfl _ rfl rfl ?_; try simp only [Act.put, ppA, ppB, ppC]
            refine qh3 (v := .int .i64 (k : Int)) rfl _ (.inl rfl) rfl ?_; try simp only [Act.put, ppA, ppB, ppC]
            refine k_idxPr rfl _ _ rfl rfl rfl HKI.out ?_; try simp only [Act.put, ppA, ppB, ppC]
            refine k_fa rfl 28 _ 0 rfl rfl (fa_Pr0 b (o + k * 2)) ?_; try simp only [Act.put, ppA, ppB, ppC]
            refine qc2 (b := b) (j := o + k * 2) (v := .slice pk nk ck) rfl _ _ rfl rfl (fun w' h => HCK.out w' h) qa9 ?_; try simp only [Act.put, ppA, ppB, ppC]
            refine k_conv (v := .slice pk nk ck) (l := kk) rfl _ rfl rfl (fun w' h => HRK2.out w' h) ?_; try simp only [Act.put, ppA, ppB, ppC]
            refine qb0 (p := some ⟨b, o, none⟩) (l := n) (c := c) rfl _ rfl rfl ?_; try simp only [Act.put, ppA, ppB, ppC]
            refine qh3 (v := .int .i64 (i : Int)) rfl _ (.inl rfl) rfl ?_; try simp only [Act.put, ppA, ppB, ppC]
            refine k_idxPr rfl _ _ rfl rfl rfl HLT.out.1 ?_; try simp only [Act.put, ppA, ppB, ppC]
            refine k_fa rfl 28 _ 0 rfl rfl (fa_Pr0 b (o + i * 2)) ?_; try simp only [Act.put, ppA, ppB, ppC]
            refine qc2 (b := b) (j := o + i * 2) (v := .slice p1 n1 c1) rfl _ _ rfl rfl (fun w' h => HC0.out w' h) qa9 ?_; try simp only [Act.put, ppA, ppB, ppC]
            refine k_conv (v := .slice p1 n1 c1) (l := ky) rfl _ rfl rfl (fun w' h => HRK.out w' h) ?_; try simp only [Act.put, ppA, ppB, ppC]
            refine k_strE (l := kk) (m := ky) (t := q) rfl _ _ _ rfl rfl rfl HKK.out HKY.out hq.symm ?_; try simp only [Act.put, ppA, ppB, ppC]
            refine qc8 ?_
            clear hT4
            intro w5 hT5
            clear hq
            cases q with
            | true =>
              have HE := hQz (show eOf true = eOf (true || hasKey (ps.take (k + 1)) ky) from by rw [HS3.out, Bool.or_true, Bool.or_true])
              go_wp2
              go_roundw
              case rel => exact ⟨k + 1, by go_num, by omega, HE.out, hT5⟩
              case measure => simp [intOf]; omega
            | false =>
              have HE := hQz (show eOf (true || hb0) = eOf (true || hasKey (ps.take (k + 1)) ky) from by rw [HS3.out, Bool.or_false])
              go_wp2
              go_roundw
              case rel => exact ⟨k + 1, by go_num, by omega, HE.out, hT5⟩
              case measure => simp [intOf]; omega
          · obtain rfl : k = i := by omega
            have d2 : ¬ (k : Int) < (k : Int) := by omega
            have HE := hQz (show eOf (true || hasKey (ps.take k) ky) = eOf (badE ps (k + 1)) from by rw [HS1.out, ← Bool.or_assoc, HBE.out])
            go_wp2
            go_roundw
            case rel => exact ⟨k + 1, by go_num, by omega, HE.out, hT4, HNL⟩
            case measure => simp [intOf]; omega
      · have e1 : ((n2 : Int) == 0) = false := by rw [beq_eq_false_iff_ne]; omega
        have hbe : (be || vy.isEmpty) = be := by rw [HEM.out, beq_eq_false_iff_ne.2 h0, Bool.or_false]
        have HBE := hQz hbe
        clear hbe key hcond
        go_wp2_with (first
          | (refine qc1 rfl (x_idxPr _ _ rfl rfl rfl HLT.out.1) ?_)
          | (refine qc1 rfl (x_fa 28 _ 1 rfl rfl (fa_Pr1 _ _)) ?_)
          | (refine qc1 rfl (qe2 23 _ rfl rfl (HC1.out _ hT3) qa9) ?_))
        go_loopw [3, 5] (fun s3 s5 wr => ∃ k : Nat, s5 = .int .i64 (k : Int) ∧ k ≤ i ∧ s3 = eOf (be || hasKey (ps.take k) ky) ∧ Tch [] w wr) (fun _ k _ => i - (intOf k).toNat)
        case atStart => exact ⟨0, rfl, Nat.zero_le _, by rw [show hasKey (ps.take 0) ky = false from rfl, Bool.or_false], hT3⟩
        case round =>
          clear hT3
          obtain ⟨k, rfl, hk, rfl, hT4⟩ := hrel
          by_cases hki : k < i
          · have d2 : (k : Int) < (i : Int) := by omega
            have hkl : k < ps.length := by have := HLT.out.2; omega
            obtain ⟨pk, ck, _, _, f0, -, f2, -⟩ := HB.out.2 k hkl
            obtain ⟨-, -, s3k⟩ := HS0.out k hkl
            replace s3k := s3k ky
            obtain ⟨kk, hkk⟩ : ∃ kk, kk = ps[k].1 := ⟨_, rfl⟩
            rw [← hkk] at f0 f2 s3k
            obtain ⟨nk, hnk⟩ : ∃ nk, nk = kk.length := ⟨_, rfl⟩
            rw [← hnk] at f0 f2
            have HCK := hQz (fun (w' : World) (h : Tch [] w w') => show w'.cell? ⟨b, o + k * 2, none⟩ = some (.slice pk nk ck) from (h.cell (p := ⟨b, o + k * 2, none⟩) HB.out.1 (by simp)).trans f0)
            have HRK2 := hQz (fun (w' : World) (h : Tch [] w w') => show RdB w' (.slice pk nk ck) kk from f2.tch h (by simp))
            have HKK := hQz (show ∀ x ∈ kk, x < 256 from f2.choose_spec.choose_spec.2.2.1)
            have HS3 := hQz s3k
            have HKI := hQz (show k < n by have := HLT.out.1; omega)
            generalize hasKey (ps.take k) ky = hb0 at *
            clear f0 f2 s3k hkk hnk hkl
            go_upto_region 14 with (fail)
            try simp only [Act.put, ppA, ppB, ppC]
            obtain ⟨q, hq⟩ : ∃ q, q = (kk == ky) := ⟨_, rfl⟩
            rw [← hq] at HS3
            refine qb7 (C := fun w' => Tch [] w w') (by kernel_rfl) (by kernel_rfl) hT4.drew ?_
            refine qb0 (p := some ⟨b, o, none⟩) (l := n) (c := c) rfl _ rfl rfl ?_; try simp only [Act.put, ppA, ppB, ppC]
            refine qh3 (v := .int .i64 (k : Int)) rfl _ (.inl rfl) rfl ?_; try simp only [Act.put, ppA, ppB, ppC]
            refine k_idxPr rfl _ _ rfl rfl rfl HKI.out ?_; try simp only [Act.put, ppA, ppB, ppC]
            refine k_fa rfl 28 _ 0 rfl rfl (fa_Pr0 b (o + k * 2)) ?_; try simp only [Act.put, ppA, ppB, ppC]
            refine qc2 (b := b) (j := o + k * 2) (v := .slice pk nk ck) rfl _ _ rfl rfl (fun w' h => HCK.out w' h) qa9 ?_; try simp only [Act.put, ppA, ppB, ppC]
            refine k_conv (v := .slice pk nk ck) (l := kk) rfl _ rfl rfl (fun w' h => HRK2.out w' h) ?_; try simp only [Act.put, ppA, ppB, ppC]
            refine qb0 (p := some ⟨b, o, none⟩) (l := n) (c := c) rfl _ rfl rfl ?_; try simp only [Act.put, ppA, ppB, ppC]
            refine qh3 (v := .int .i64 (i : Int)) rfl _ (.inl rfl) rfl ?_; try simp only [Act.put, ppA, ppB, ppC]
            refine k_idxPr rfl _ _ rfl rfl rfl HLT.out.1 ?_; try simp only [Act.put, ppA, ppB, ppC]
            refine k_fa rfl 28 _ 0 rfl rfl (fa_Pr0 b (o + i * 2)) ?_; try simp only [Act.put, ppA, ppB, ppC]
            refine qc2 (b := b) (j := o + i * 2) (v := .slice p1 n1 c1) rfl _ _ rfl rfl (fun w' h => HC0.out w' h) qa9 ?_; try simp only [Act.put, ppA, ppB, ppC]
            refine k_conv (v := .slice p1 n1 c1) (l := ky) rfl _ rfl rfl (fun w' h => HRK.out w' h) ?_; try simp only [Act.put, ppA, ppB, ppC]
            refine k_strE (l := kk) (m := ky) (t := q) rfl _ _ _ rfl rfl rfl HKK.out HKY.out hq.symm ?_; try simp only [Act.put, ppA, ppB, ppC]
            refine qc8 ?_
            clear hT4
            intro w5 hT5
            clear hq
            cases q with
            | true =>
              have HE := hQz (show eOf true = eOf (be || hasKey (ps.take (k + 1)) ky) from by rw [HS3.out, Bool.or_true, Bool.or_true])
              go_wp2
              go_roundw
              case rel => exact ⟨k + 1, by go_num, by omega, HE.out, hT5⟩
              case measure => simp [intOf]; omega
            | false =>
              have HE := hQz (show eOf (be || hb0) = eOf (be || hasKey (ps.take (k + 1)) ky) from by rw [HS3.out, Bool.or_false])
              go_wp2
              go_roundw
              case rel => exact ⟨k + 1, by go_num, by omega, HE.out, hT5⟩
              case measure => simp [intOf]; omega
          · obtain rfl : k = i := by omega
            have d2 : ¬ (k : Int) < (k : Int) := by omega
            have HE := hQz (show eOf (be || hasKey (ps.take k) ky) = eOf (badE ps (k + 1)) from by rw [HS1.out, ← Bool.or_assoc, HBE.out])
            go_wp2
            go_roundw
            case rel => exact ⟨k + 1, by go_num, by omega, HE.out, hT4, HNL⟩
            case measure => simp [intOf]; omega
    · obtain rfl : i = n := by omega
      have d1 : ¬ (i : Int) < (i : Int) := by omega
      have hm := HMA.out (fun j hj => HI.out j hj (by rw [HN.out]; exact hj))
      rw [← HN.out] at hm
      generalize badE ps i = be at *
      have HM := hQz hm
      clear hm
      cases be with
      | true =>
        rw [eOf_t]
        go_wp2
        go_ret
        exact ⟨by rw [HM.out]; rfl, hT⟩
      | false =>
        rw [eOf_f]
        go_wp2
        go_ret
        exact ⟨by rw [HM.out]; rfl, hT⟩
end
end Go.Proofs.YtanmpcgackfpaaaGreat
