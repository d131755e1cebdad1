/- The document's rest: entries without the beginnings of their paths. -/
import Derived.Test.YtanmpcgackfpaaaGreatM01
import Derived.Test.YtanmpcgackfpaaaGreatM12
import Derived.Test.YtanmpcgackfpaaaGreatM13
import Derived.Test.YtanmpcgackfpaaaGreatM14
import Derived.Test.YtanmpcgackfpaaaGreatM15
import Derived.Test.YtanmpcgackfpaaaGreatM22
import Derived.Test.YtanmpcgackfpaaaGreatM24
import Derived.Test.YtanmpcgackfpaaaGreatM28
import Derived.Test.YtanmpcgackfpaaaGreatM32
import Derived.Test.YtanmpcgackfpaaaGreatM33
import Derived.Test.YtanmpcgackfpaaaGreatM34
import Derived.Deep.AppendLies
import Derived.Deep.Upon
set_option linter.unusedVariables false
set_option linter.unusedSimpArgs false
namespace Go.Proofs.YtanmpcgackfpaaaGreat
section
open Go.RowKit Tr
set_option maxRecDepth 100000
theorem entR_ty : Tryz.prog.underlying 90 = some (.slice 93) := by kernel_rfl
theorem entR_infos : (Tryz.prog.info? 93).map (fun i => (i.zero, i.size, i.bytes)) = some (some (.agg #[.slice none 0 0, .slice none 0 0]), 2, 48) := by kernel_rfl
theorem entR_size : (Tryz.prog.info? 93).map (·.size) = some 2 := by kernel_rfl
theorem build_R (p q : Option Addr) (n c m d : Nat) (w : World) : (Instr.build 93 #[(0, .slice p n c), (1, .slice q m d)]).run Tryz.prog w = .ok (.agg #[.slice p n c, .slice q m d]) w := by kernel_rfl
theorem buildS_R (p q : Option Addr) (n c m d : Nat) (w : World) : (Instr.buildSlice 90 1 #[(0, .agg #[.slice p n c, .slice q m d])]).run Tryz.prog w = .ok (.slice (some ⟨w.heap.size, 0, none⟩) 1 1) (w.alloc (.cells #[.slice p n c, .slice q m d] 93)) := by kernel_rfl
theorem fa_R0 (b j : Nat) (w : World) : (Instr.fieldAt 93 (.pointer (some ⟨b, j, none⟩)) 0).run Tryz.prog w = .ok (.pointer (some ⟨b, j, none⟩)) w := by kernel_rfl
theorem fa_R1 (b j : Nat) (w : World) : (Instr.fieldAt 93 (.pointer (some ⟨b, j, none⟩)) 1).run Tryz.prog w = .ok (.pointer (some ⟨b, j + 1, none⟩)) w := by kernel_rfl
section
variable {a : Act} {w : World} {o : Oper} {Q : Exit → Act → World → Prop}
theorem x_idxR {b off j n c : Nat} (x y : Operand) (ho : o.op = .indexAddr 90 x y) (hx : a.eval x = .slice (some ⟨b, off, none⟩) n c) (hy : a.eval y = .int .i64 (j : Int)) (hj : j < n) : (execOp a.eval o).run Tryz.prog w = .ok (.value (.pointer (some ⟨b, off + j * 2, none⟩))) w := by
  have hadd : (⟨b, off, none⟩ : Addr).add (j * 2) = ⟨b, off + j * 2, none⟩ := by unfold Addr.add; split <;> simp_all
  unfold execOp
  simp [ho, hx, hy, Instr.indexAt, run_underlying entR_ty, Instr.sureAddr, asIntOf, qe1 entR_size, hj, hadd]
theorem x_buildR {v1 v2 : Value} (ho : ∃ x1 x2, o.op = .build 93 #[(0, x1), (1, x2)] ∧ a.eval x1 = v1 ∧ a.eval x2 = v2) (hr : (Instr.build 93 #[(0, v1), (1, v2)]).run Tryz.prog w = .ok (.agg #[v1, v2]) w) : (execOp a.eval o).run Tryz.prog w = .ok (.value (.agg #[v1, v2])) w := by
  obtain ⟨x1, x2, ho, h1, h2⟩ := ho
  unfold execOp
  simp only [ho, List.map_toArray, List.map_cons, List.map_nil, h1, h2, Sem.run_bind, hr, Result.andThen_ok, Sem.run_pure]
theorem held_bsR {l0 : List Oper} {n : Nat} {K : Act → World → Prop} {x1 : Operand} {p q : Option Addr} {n1 c1 m1 d1 : Nat} (ho : l0[n]? = some o) (hw : Region.wanted o (yielded l0.toArray a.tmps) = true)
    (hop : o.op = .buildSlice 90 1 #[(0, x1)]) (h1 : a.eval x1 = .agg #[.slice p n1 c1, .slice q m1 d1])
    (h : K (a.put o.dst (.slice (some ⟨w.heap.size, 0, none⟩) 1 1)) (w.alloc (.cells #[.slice p n1 c1, .slice q m1 d1] 93))) : wpOp Tryz.prog l0.toArray Q n K a w := by
  have ho' : l0.toArray[n]? = some o := by rw [List.getElem?_toArray]; exact ho
  have hr := buildS_R p q n1 c1 m1 d1 w
  unfold wpOp
  simp only [ho', hw, if_true]
  refine .inl ?_
  unfold Oper.wp execOp
  simp only [hop, List.map_toArray, List.map_cons, List.map_nil, h1, Sem.run_bind, hr, Result.andThen_ok, Sem.run_pure]
  exact h
theorem held_appR {l0 : List Oper} {n N : Nat} {K : Act → World → Prop} {base : Nat} {v : Value} {us : List Value} {c : Array Value} (s x : Operand) (ho : l0[n]? = some o) (hw : Region.wanted o (yielded l0.toArray a.tmps) = true)
    (hop : o.op = .call { callee := .builtin .append, args := #[s, x], argTypes := #[90, 90] }) (hs : a.eval s = v) (hx : a.eval x = .slice (some ⟨w.heap.size, 0, none⟩) 1 1)
    (hown : w.ownsRow base 93 2 v N us) (hb : base ≤ w.heap.size) (hsz : c.size = 2) (hone : c.all (·.oneCell') = true) (hlen : N ≤ 100000000)
    (h : ∀ v' w', w'.ownsRow base 93 2 v' (N + 1) (us ++ c.toList) → Tch v.ownBlock.toList w w' → K (a.put o.dst v') w') : wpOp Tryz.prog l0.toArray Q n K a (w.alloc (.cells c 93)) := by
  have ho' : l0.toArray[n]? = some o := by rw [List.getElem?_toArray]; exact ho
  obtain ⟨i0, hi, hz0, hz1, hz2⟩ := info_parts entR_infos
  have hnews : ∀ j u, c.toList[j]? = some u → (w.alloc (.cells c 93)).cell? ((⟨w.heap.size, 0, none⟩ : Addr).add j) = some u := World.news_of_block (cs := c) (t := 93) (fr := (0, 0)) (heap_alloc_new w _)
  obtain ⟨v', w', hr, h2, hgrow, _, _⟩ := run_append_own_at (P := Tryz.prog) (w.alloc (.cells c 93)) base 90 o.type 93 i0 _ 2 48 entR_ty hi hz0 hz1 hz2 rfl (by decide) v N us (hown.alloc _) ⟨w.heap.size, 0, none⟩ 1 1 c.toList (by rw [Array.length_toList, hsz]) hnews (fun u hu => (Array.all_eq_true_iff_forall_mem.1 hone) u (by simpa using hu)) (by unfold maxLen; omega) (by omega) (by simp; omega)
  unfold wpOp
  simp only [ho', hw, if_true]
  refine .inl ?_
  unfold Oper.wp execOp
  simp only [hop, resolve, invoke, builtin, Sem.run_bind, Sem.run_pure, Result.andThen_ok, List.map_toArray, List.map_cons, List.map_nil, hs, hx, hr]
  exact h v' w' h2 (((Tch.refl _ _).alloc _).trans ⟨hgrow.os, hgrow.tape, hgrow.output, hgrow.size, fun k hk hm' => hgrow.block k hk (fun e => hm' (by rw [← e]; simp))⟩)
end
abbrev VV := Value × Value
def vCells (xs : List VV) : List Value := xs.flatMap fun x => [x.1, x.2]
def RdE (w : World) (xs : List VV) (es : List En) : Prop := xs.length = es.length ∧ ∀ i (h : i < xs.length) (h2 : i < es.length), RdB w xs[i].1 es[i].1 ∧ RdB w xs[i].2 es[i].2
theorem RdE.snoc {w : World} {xs : List VV} {es : List En} {x : VV} {e : En} (h : RdE w xs es) (h1 : RdB w x.1 e.1) (h2 : RdB w x.2 e.2) : RdE w (xs ++ [x]) (es ++ [e]) := by
  refine ⟨by rw [List.length_append, List.length_append, h.1]; rfl, fun i hi hj => ?_⟩
  rcases Nat.lt_or_ge i xs.length with hlt | hge
  · rw [List.getElem_append_left hlt, List.getElem_append_left (by rw [← h.1]; exact hlt)]
    exact h.2 i hlt _
  · have hlen := h.1
    rw [List.length_append] at hi
    have : i = xs.length := by simp at hi; omega
    subst this
    rw [List.getElem_append_right (Nat.le_refl _), List.getElem_append_right (by omega)]
    simp only [Nat.sub_self, List.getElem_cons_zero, hlen]
    exact ⟨h1, h2⟩
theorem rests_snoc {r k : Nat} {es : List En} (h : k < es.length) : rests r (es.take (k + 1)) = rests r (es.take k) ++ [(es[k].1.drop r, es[k].2)] := by
  unfold rests
  rw [List.take_add_one, List.getElem?_eq_getElem h, List.map_append]
  rfl
theorem vCells_len (xs : List VV) : (vCells xs).length = xs.length * 2 := by
  induction xs with
  | nil => rfl
  | cons x r ih => unfold vCells at ih ⊢; rw [List.flatMap_cons, List.length_append, ih]; simp; omega
theorem vCells_snoc (xs : List VV) (x : VV) : vCells (xs ++ [x]) = vCells xs ++ [x.1, x.2] := by simp [vCells]
theorem vCells_get : ∀ (xs : List VV) (i : Nat) (h : i < xs.length), (vCells xs)[i * 2]? = some xs[i].1 ∧ (vCells xs)[i * 2 + 1]? = some xs[i].2
  | x :: r, 0, _ => ⟨rfl, rfl⟩
  | x :: r, i + 1, h => by
    have ih := vCells_get r i (by simpa using h)
    have e : vCells (x :: r) = [x.1, x.2] ++ vCells r := rfl
    rw [e, show (i + 1) * 2 = i * 2 + 2 by omega, List.getElem?_append_right (by simp), List.getElem?_append_right (by simp)]
    simpa using ih
end
section
open Go.RowKit Tr
set_option maxRecDepth 100000
def NodesAt (X : List Nat) (w : World) (v : Value) (L : KList) : Prop := ∃ p cap, v = .slice p L.length cap ∧ L.length ≤ cap ∧ (L ≠ [] → ∃ g, p = some ⟨g, 0, none⟩ ∧ g < w.heap.size ∧ g ∉ X ∧ ∀ j u, (kCells L)[j]? = some u → w.cell? ⟨g, j, none⟩ = some u) ∧ ∀ q ∈ L, RdA X w q.2 q.1
theorem NodesAt.tch {X : List Nat} {w w' : World} {v : Value} {L : KList} (h : NodesAt X w v L) (hT : Tch X w w') : NodesAt X w' v L := by
  obtain ⟨p, cap, h1, h2, h3, h4⟩ := h
  refine ⟨p, cap, h1, h2, fun hl => ?_, fun q hq => (h4 q hq).tch hT⟩
  obtain ⟨g, g1, g2, g3, g4⟩ := h3 hl
  exact ⟨g, g1, Nat.lt_of_lt_of_le g2 hT.size, g3, fun j u hu => (hT.cell (p := ⟨g, j, none⟩) g2 g3).trans (g4 j u hu)⟩
theorem NodesAt.nil (X : List Nat) (w : World) : NodesAt X w (.slice none 0 0) [] := ⟨none, 0, rfl, Nat.le_refl _, fun h => absurd rfl h, fun q hq => by cases hq⟩
def putL : KList → List Nat × Value → KList
  | [], e => [e]
  | p :: L, e => if lt (HL p.1) (HL e.1) then p :: putL L e else if HL p.1 = HL e.1 then p :: L else e :: p :: L
theorem putL_at : ∀ (L : KList) (e : List Nat × Value) (k : Nat) (hk : k ≤ L.length), (∀ j (h : j < k), lt (HL (L[j]'(by omega)).1) (HL e.1)) → (∀ h : k < L.length, ¬ lt (HL L[k].1) (HL e.1)) → putL L e = if h : k < L.length then (if HL L[k].1 = HL e.1 then L else L.take k ++ e :: L.drop k) else L ++ [e]
  | [], e, k, hk, _, _ => by
    have : k = 0 := by simpa using hk
    subst this; rfl
  | p :: L, e, 0, _, _, h2 => by
    have h : ¬ lt (HL p.1) (HL e.1) := h2 (by simp)
    rw [dif_pos (by simp)]
    show (if lt (HL p.1) (HL e.1) then _ else _) = _
    rw [if_neg h]
    rfl
  | p :: L, e, k + 1, hk, h1, h2 => by
    have h : lt (HL p.1) (HL e.1) := h1 0 (by omega)
    have ih := putL_at L e k (by simpa using hk) (fun j hj => h1 (j + 1) (by omega)) (fun hj => h2 (by simpa using hj))
    show (if lt (HL p.1) (HL e.1) then _ else _) = _
    rw [if_pos h, ih]
    by_cases hkl : k < L.length
    · rw [dif_pos hkl, dif_pos (by simpa using hkl)]
      simp only [List.getElem_cons_succ]
      split
      · rfl
      · simp
    · rw [dif_neg hkl, dif_neg (by simpa using hkl)]
      rfl
theorem qj7 (p : Option Addr) (n c k : Nat) (hk : k ≤ n) (hc : n ≤ c) : ∃ p' c', (∀ w, (Instr.sliceAt 38 (.slice p n c) (some (.int .i64 (k : Int))) none none).run Tryz.prog w = .ok (.slice p' (n - k) c') w) ∧ (k < n → ∀ g, p = some ⟨g, 0, none⟩ → p' = some ⟨g, k * 33, none⟩) := by
  refine ⟨if c = k then p else p.map (·.add (k * 33)), c - k, fun w => ?_, fun h g hg => ?_⟩
  · have hel : Tryz.prog.elem 38 = 43 := by kernel_rfl
    have ht : Tryz.prog.underlying 38 = some (.slice (Tryz.prog.elem 38)) := by rw [hel]; exact qk1
    have e1 := run_sliceAt_slice (P := Tryz.prog) (w := w) 38 (.slice p n c) (some (.int .i64 (k : Int))) none none ht
    have e2 := run_slice_l (P := Tryz.prog) (w := w) 38 p n c ht .i64 (k : Int) (by omega) (by omega)
    rw [e1, e2, hel, nd_sizeOf]
    simp [Result.andThen, sliced]
  · rw [if_neg (by omega), hg]
    have hadd : (⟨g, 0, none⟩ : Addr).add (k * 33) = ⟨g, k * 33, none⟩ := by unfold Addr.add; split <;> simp_all
    show some ((⟨g, 0, none⟩ : Addr).add (k * 33)) = _
    rw [hadd]
theorem slice_toK (p : Option Addr) (n c k : Nat) (hk : k ≤ n) (hc : n ≤ c) (w : World) : (Instr.sliceAt 38 (.slice p n c) none (some (.int .i64 (k : Int))) none).run Tryz.prog w = .ok (.slice p k c) w := by
  have hel : Tryz.prog.elem 38 = 43 := by kernel_rfl
  have ht : Tryz.prog.underlying 38 = some (.slice (Tryz.prog.elem 38)) := by rw [hel]; exact qk1
  have e1 := run_sliceAt_slice (P := Tryz.prog) (w := w) 38 (.slice p n c) none (some (.int .i64 (k : Int))) none ht
  have e2 := run_slice_h (P := Tryz.prog) (w := w) 38 p n c ht .i64 (k : Int) (by omega) (by omega)
  rw [e1, e2, hel, nd_sizeOf]
  cases p <;> simp [Result.andThen, sliced, Addr.add]
theorem appN_run {w : World} {base N c : Nat} {v : Value} {us : List Value} {p : Option Addr} {M : KList} (hown : w.ownsRow base 43 33 v N us) (hb : base ≤ w.heap.size) (hx : M ≠ [] → ∃ g o, p = some ⟨g, o, none⟩ ∧ ∀ j u, (kCells M)[j]? = some u → w.cell? ⟨g, o + j, none⟩ = some u) (h1 : ∀ q ∈ M, q.2.oneCell' = true) (hN : N + M.length ≤ 100000000) (ty : TypeId) :
    ∃ v' w', (Builtin.append_ #[38, 38] ty #[v, .slice p M.length c]).run Tryz.prog w = .ok v' w' ∧ w'.ownsRow base 43 33 v' (N + M.length) (us ++ kCells M) ∧ Tch v.ownBlock.toList w w' := by
  obtain ⟨i0, hi, hz0, hz1, hz2⟩ := info_parts node_infos
  by_cases hM : M = []
  · subst hM
    refine ⟨v, w, ?_, by simpa [kCells] using hown, Tch.refl _ _⟩
    have hform : ∃ b n cc, v = .slice b n cc ∧ n ≤ cc := by
      rcases hown.2 with ⟨rfl, _⟩ | ⟨g, cap, cur, rfl, _, _, hcap, _⟩
      · exact ⟨none, 0, 0, rfl, Nat.le_refl _⟩
      · exact ⟨_, _, _, rfl, hcap⟩
    obtain ⟨b, n, cc, rfl, hle⟩ := hform
    cases p <;> cases b <;> simp [Builtin.append_, run_underlying qk1, sizeOf, typeInfo, hi, hle, Builtin.lenOf, Builtin.firstCells, loadCells, loadCellsFrom, storeCells, Result.andThen]
  · obtain ⟨g, o, rfl, hc⟩ := hx hM
    have hone : ∀ u ∈ kCells M, u.oneCell' = true := by
      intro u hu
      unfold kCells at hu
      obtain ⟨q, hq, hu⟩ := List.mem_flatMap.1 hu
      exact (Array.all_eq_true_iff_forall_mem.1 (ndA_one (hashN q.1) (h1 q hq))) u (by simpa using hu)
    obtain ⟨v', w', hr, h2, hgrow, _, _⟩ := run_append_own_at (P := Tryz.prog) w base 38 ty 43 i0 _ 33 56 qk1 hi hz0 hz1 hz2 (qf9 _ _) (by decide) v N us hown ⟨g, o, none⟩ M.length c (kCells M) (qh8 M) (fun j u hu => by
      have hadd : (⟨g, o, none⟩ : Addr).add j = ⟨g, o + j, none⟩ := by unfold Addr.add; split <;> simp_all
      rw [hadd]; exact hc j u hu) hone (by unfold maxLen; omega) (by omega) hb
    exact ⟨v', w', hr, h2, hgrow.os, hgrow.tape, hgrow.output, hgrow.size, fun k hk hm' => hgrow.block k hk (fun e => hm' (by rw [← e]; simp))⟩
section
variable {a : Act} {w : World} {o : Oper} {ops : Array Oper} {rest : List Oper} {Q : Exit → Act → World → Prop}
theorem st_appM {base N c : Nat} {v : Value} {us : List Value} {p : Option Addr} {M : KList} (hgd : o.guard = none) (s x : Operand)
    (ho : o.op = .call { callee := .builtin .append, args := #[s, x], argTypes := #[38, 38] }) (hs : a.eval s = v) (hxe : a.eval x = .slice p M.length c)
    (hown : w.ownsRow base 43 33 v N us) (hb : base ≤ w.heap.size) (hx : M ≠ [] → ∃ g o, p = some ⟨g, o, none⟩ ∧ ∀ j u, (kCells M)[j]? = some u → w.cell? ⟨g, o + j, none⟩ = some u) (h1 : ∀ q ∈ M, q.2.oneCell' = true) (hN : N + M.length ≤ 100000000)
    (h : ∀ v' w', w'.ownsRow base 43 33 v' (N + M.length) (us ++ kCells M) → Tch v.ownBlock.toList w w' → wpList Tryz.prog ops Q rest (a.put o.dst v') w') : wpList Tryz.prog ops Q (o :: rest) a w :=
  wpList_plain hgd fun K hK => by
    obtain ⟨v', w', hr, h2, h3⟩ := appN_run hown hb hx h1 hN (c := c) o.type
    unfold Oper.wp execOp
    simp only [ho, resolve, invoke, builtin, Sem.run_bind, Sem.run_pure, Result.andThen_ok, List.map_toArray, List.map_cons, List.map_nil, hs, hxe, hr]
    exact hK _ _ (h v' w' h2 h3)
theorem qg9 {l0 : List Oper} {n base N c : Nat} {K : Act → World → Prop} {v : Value} {us : List Value} {p : Option Addr} {M : KList} (s x : Operand) (ho : l0[n]? = some o) (hw : Region.wanted o (yielded l0.toArray a.tmps) = true)
    (hop : o.op = .call { callee := .builtin .append, args := #[s, x], argTypes := #[38, 38] }) (hs : a.eval s = v) (hxe : a.eval x = .slice p M.length c)
    (hown : w.ownsRow base 43 33 v N us) (hb : base ≤ w.heap.size) (hx : M ≠ [] → ∃ g o, p = some ⟨g, o, none⟩ ∧ ∀ j u, (kCells M)[j]? = some u → w.cell? ⟨g, o + j, none⟩ = some u) (h1 : ∀ q ∈ M, q.2.oneCell' = true) (hN : N + M.length ≤ 100000000)
    (h : ∀ v' w', w'.ownsRow base 43 33 v' (N + M.length) (us ++ kCells M) → Tch v.ownBlock.toList w w' → K (a.put o.dst v') w') : wpOp Tryz.prog l0.toArray Q n K a w := by
  have ho' : l0.toArray[n]? = some o := by rw [List.getElem?_toArray]; exact ho
  obtain ⟨v', w', hr, h2, h3⟩ := appN_run hown hb hx h1 hN (c := c) o.type
  unfold wpOp
  simp only [ho', hw, if_true]
  refine .inl ?_
  unfold Oper.wp execOp
  simp only [hop, resolve, invoke, builtin, Sem.run_bind, Sem.run_pure, Result.andThen_ok, List.map_toArray, List.map_cons, List.map_nil, hs, hxe, hr]
  exact h v' w' h2 h3
end
theorem fa_ndj0 (b j : Nat) (w : World) : (Instr.fieldAt 43 (.pointer (some ⟨b, j, none⟩)) 0).run Tryz.prog w = .ok (.pointer (some ⟨b, j, none⟩)) w := by kernel_rfl
theorem nd_rangeWj {W : World} {b i : Nat} {f : Nat → Nat} {v : Value} (h : W.rangeAt b i (ndA f v).toList) : W.rangeAt b i (wf f).toList := fun q u hu => by
  refine h q u ?_
  rw [Array.getElem?_toList] at hu ⊢
  have hq : q < 32 := by
    rcases Nat.lt_or_ge q 32 with h | h
    · exact h
    · rw [wf_none h] at hu; cases hu
  unfold ndA
  rw [Array.getElem?_append_left (by rw [qa5]; exact hq)]
  exact hu
section
variable {o : Oper} {a : Act} {ops : Array Oper} {rest : List Oper} {C : World → Prop} {Q : Act → Prop}
theorem k_hash2 {l1 l2 : List Nat} (hw : Region.wanted o (yielded ops a.tmps) = true) (xo yo : Operand) (yt : TypeId) (ho : o.op = .binOp .eql 32 xo yo yt) (hxe : a.eval xo = .agg (wf (hashN l1))) (hye : a.eval yo = .agg (wf (hashN l2))) (h : KQ ops C Q rest (a.put o.dst (.bool (HL l1 == HL l2)))) : KQ ops C Q (o :: rest) a :=
  qd6 hw (fun w => by
    have := run_eql_hash2 l1 l2 w
    unfold execOp
    simp only [ho, hxe, hye]
    show Sem.run _ _ w = _
    simp [eqGuard, this]) h
end
end
section
open Go.RowKit Tr
set_option maxRecDepth 100000
theorem idxN (g n cap : Nat) {j : Nat} (h : j < n) (w : World) : (Instr.indexAt 38 (.slice (some ⟨g, 0, none⟩) n cap) (.int .i64 (j : Int))).run Tryz.prog w = .ok (.pointer (some ⟨g, j * 33, none⟩)) w := by
  have hadd : (⟨g, 0, none⟩ : Addr).add (j * 33) = ⟨g, j * 33, none⟩ := by unfold Addr.add; split <;> simp_all
  have hsz : (Tryz.prog.info? 43).map (·.size) = some 33 := by kernel_rfl
  simp [Instr.indexAt, run_underlying qk1, Instr.sureAddr, asIntOf, qe1 hsz, h, hadd]
section
variable {o : Oper} {a : Act} {ops : Array Oper} {rest : List Oper} {C : World → Prop} {Q : Act → Prop}
theorem k_loadM {b i : Nat} {cs : List Value} (hw : Region.wanted o (yielded ops a.tmps) = true) (x : Operand) (ho : o.op = .load 32 x) (hx : a.eval x = .pointer (some ⟨b, i, none⟩)) (hc : ∀ w, C w → w.rangeAt b i cs) (hl : cs.length = 32)
    (h : KQ ops C Q rest (a.put o.dst (.agg cs.toArray))) : KQ ops C Q (o :: rest) a :=
  k_in hw (fun w hC => by
    obtain ⟨d, hd⟩ : ∃ d, d = Tryz.prog.underlying 32 := ⟨_, rfl⟩
    have hr := run_loadAt_mid (P := Tryz.prog) w b i 32 cs _ (hc w hC) qc7 rfl (by rw [hl]; exact qb4)
    unfold execOp
    simp only [ho, hx, Sem.run_bind, hr, Result.andThen_ok, Sem.run_pure]) h
theorem k_lenNd {p : Option Addr} {n c : Nat} (hw : Region.wanted o (yielded ops a.tmps) = true) (x : Operand) (ho : o.op = .call { callee := .builtin .len, args := #[x], argTypes := #[38] }) (hx : a.eval x = .slice p n c)
    (h : KQ ops C Q rest (a.put o.dst (.int .i64 (n : Int)))) : KQ ops C Q (o :: rest) a :=
  qd6 hw (fun w => by unfold execOp; simp [ho, resolve, invoke, builtin, hx, Builtin.len_, run_underlying qk1, goInt]) h
end
end
section
open Go.RowKit Tr
set_option maxRecDepth 100000
section
variable {o : Oper} {a : Act} {ops : Array Oper} {rest : List Oper} {C : World → Prop} {Q : Act → Prop}
theorem k_hash3 {l1 l2 : List Nat} {t : Bool} (hw : Region.wanted o (yielded ops a.tmps) = true) (xo yo : Operand) (yt : TypeId) (ho : o.op = .binOp .eql 32 xo yo yt) (hxe : a.eval xo = .agg (wf (hashN l1))) (hye : a.eval yo = .agg (wf (hashN l2))) (ht : (HL l1 == HL l2) = t) (h : KQ ops C Q rest (a.put o.dst (.bool t))) : KQ ops C Q (o :: rest) a :=
  k_hash2 hw xo yo yt ho hxe hye (by rw [ht]; exact h)
end
theorem at_range {w : World} {g : Nat} {L : KList} {i : Nat} (h : ∀ j u, (kCells L)[j]? = some u → w.cell? ⟨g, j, none⟩ = some u) (hi : i < L.length) : w.rangeAt g (i * 33) (ndA (hashN L[i].1) L[i].2).toList := fun q u hu => by
  rw [Array.getElem?_toList] at hu
  have hq : q < 33 := by
    rcases Nat.lt_or_ge q 33 with h | h
    · exact h
    · rw [Array.getElem?_eq_none (by rw [qf9]; exact h)] at hu; cases hu
  exact h _ u (by rw [kCells_get L i q hi hq]; exact hu)
theorem kCells_drop (L : KList) {k : Nat} (hk : k ≤ L.length) (j : Nat) : (kCells (L.drop k))[j]? = (kCells L)[k * 33 + j]? := by
  have e : kCells L = kCells (L.take k) ++ kCells (L.drop k) := by rw [← qh7, List.take_append_drop]
  have l : (kCells (L.take k)).length = k * 33 := by rw [qh8, List.length_take, Nat.min_eq_left hk]
  rw [e, List.getElem?_append_right (by rw [l]; omega), l]
  congr 1; omega
theorem kCells_take (L : KList) {k : Nat} (j : Nat) (u : Value) (h : (kCells (L.take k))[j]? = some u) : (kCells L)[j]? = some u := by
  have e : kCells L = kCells (L.take k) ++ kCells (L.drop k) := by rw [← qh7, List.take_append_drop]
  have hj : j < (kCells (L.take k)).length := (List.getElem?_eq_some_iff.1 h).1
  rw [e, List.getElem?_append_left hj]; exact h
theorem pn_from {w : World} {X : List Nat} {p p' : Option Addr} {L M : KList} {n k : Nat} (hat : L ≠ [] → ∃ g, p = some ⟨g, 0, none⟩ ∧ g < w.heap.size ∧ g ∉ X ∧ ∀ j u, (kCells L)[j]? = some u → w.cell? ⟨g, j, none⟩ = some u) (hn : n = L.length) (hk : k ≤ n) (hp' : k < n → ∀ g, p = some ⟨g, 0, none⟩ → p' = some ⟨g, k * 33, none⟩) (hM : M = L.drop k) : M ≠ [] → ∃ g, p' = some ⟨g, k * 33, none⟩ ∧ g < w.heap.size ∧ ∀ j u, (kCells M)[j]? = some u → w.cell? ⟨g, k * 33 + j, none⟩ = some u := fun h => by
  subst hM
  have hkn : k < L.length := Decidable.byContradiction fun q => h (List.drop_eq_nil_of_le (by omega))
  obtain ⟨g, h1, h2, _, h4⟩ := hat (by intro q; rw [q] at hkn; simp at hkn)
  exact ⟨g, hp' (by omega) g h1, h2, fun j u hu => h4 _ u (by rw [← kCells_drop L (by omega)]; exact hu)⟩
theorem pn_to {w : World} {X : List Nat} {p : Option Addr} {L B : KList} {n k : Nat} (hat : L ≠ [] → ∃ g, p = some ⟨g, 0, none⟩ ∧ g < w.heap.size ∧ g ∉ X ∧ ∀ j u, (kCells L)[j]? = some u → w.cell? ⟨g, j, none⟩ = some u) (hn : n = L.length) (hk : k ≤ n) (hB : B = L.take k) : B ≠ [] → ∃ g, p = some ⟨g, 0, none⟩ ∧ g < w.heap.size ∧ ∀ j u, (kCells B)[j]? = some u → w.cell? ⟨g, j, none⟩ = some u := fun h => by
  subst hB
  obtain ⟨g, h1, h2, _, h4⟩ := hat (by intro q; rw [q] at h; simp at h)
  exact ⟨g, h1, h2, fun j u hu => h4 _ u (kCells_take L j u hu)⟩
theorem pn_own {w : World} {base : Nat} {v : Value} {M : KList} (h : w.ownsRow base 43 33 v (0 + M.length) ([] ++ kCells M)) : ∃ p1 c1, v = .slice p1 M.length c1 ∧ (M ≠ [] → ∃ g, p1 = some ⟨g, 0, none⟩ ∧ g < w.heap.size ∧ ∀ j u, (kCells M)[j]? = some u → w.cell? ⟨g, j, none⟩ = some u) := by
  rw [Nat.zero_add, List.nil_append] at h
  rcases h.2 with ⟨rfl, h0⟩ | ⟨g, cap, cur, rfl, _, hB, hcap, _, hcs, htk⟩
  · exact ⟨none, 0, by rw [h0], fun hne => absurd (List.eq_nil_of_length_eq_zero h0) hne⟩
  · refine ⟨_, cap, rfl, fun _ => ⟨g, rfl, (Array.getElem?_eq_some_iff.1 hB).1, fun j u hu => ?_⟩⟩
    have hB' : Blk w g 43 cur := hB
    have hj : j < M.length * 33 := by rw [← qh8]; exact (List.getElem?_eq_some_iff.1 hu).1
    refine hB'.cell ?_
    rw [← htk, List.getElem?_take_of_lt hj, Array.getElem?_toList] at hu
    exact hu
theorem kCells_one (q : List Nat × Value) : kCells [q] = (ndA (hashN q.1) q.2).toList := by unfold kCells; simp
section
variable {o : Oper} {a : Act} {w : World} {Q : Exit → Act → World → Prop} {md : Mode} {listed : Array Bool}
theorem x_loadNd {b : Nat} {cs : Array Value} (x : Operand) (ho : o.op = .load 43 x) (hx : a.eval x = .pointer (some ⟨b, 0, none⟩)) (hB : Blk w b 43 cs) (hs : cs.size = 33) : (execOp a.eval o).run Tryz.prog w = .ok (.value (.agg cs)) w := by
  obtain ⟨dn, hdn⟩ := nd_struct
  have hc : w.rangeAt b 0 cs.toList := fun q u hu => by
    rw [Nat.zero_add]; refine hB.cell ?_
    rw [← Array.getElem?_toList]; exact hu
  have hr := run_loadAt_mid (P := Tryz.prog) w b 0 43 cs.toList _ hc hdn rfl (by rw [Array.length_toList, hs]; exact nd_size1)
  unfold execOp
  simp only [ho, hx, Sem.run_bind, hr, Result.andThen_ok, Sem.run_pure, Array.toArray_toList]
theorem held_bsN {l0 : List Oper} {n : Nat} {K : Act → World → Prop} {x1 : Operand} {f : Nat → Nat} {v : Value} (ho : l0[n]? = some o) (hw : Region.wanted o (yielded l0.toArray a.tmps) = true)
    (hop : o.op = .buildSlice 38 1 #[(0, x1)]) (hv : ∃ p m c, v = .slice p m c) (h1 : a.eval x1 = .agg (ndA f v))
    (h : ∀ u, Tch [] w u → Blk u w.heap.size 43 (ndA f v) → u = w.alloc (.cells (ndA f v) 43) → K (a.put o.dst (.slice (some ⟨w.heap.size, 0, none⟩) 1 1)) u) : wpOp Tryz.prog l0.toArray Q n K a w := by
  have ho' : l0.toArray[n]? = some o := by rw [List.getElem?_toArray]; exact ho
  obtain ⟨p, m, c, rfl⟩ := hv
  have hr := buildN1 f p m c w
  unfold wpOp
  simp only [ho', hw, if_true]
  refine .inl ?_
  unfold Oper.wp execOp
  simp only [hop, List.map_toArray, List.map_cons, List.map_nil, h1, Sem.run_bind, hr, Result.andThen_ok, Sem.run_pure]
  exact h _ ((Tch.refl _ _).alloc _) (heap_alloc_new w _) rfl
end
theorem qi1 {X : List Nat} {w : World} {v : Value} {l : List Nat} (h : RdA X w v l) : ∃ p m c, v = .slice p m c := ⟨_, _, _, h.choose_spec.choose_spec.1⟩
theorem pn_last {X : List Nat} {u : World} {base N k : Nat} {v : Value} {L B M K : KList} {e : List Nat × Value} (hK : K = B ++ e :: M) (hN : N = B.length + 1 + M.length) (hown : u.ownsRow base 43 33 v N ([] ++ kCells B ++ kCells [e] ++ kCells M)) (hX : ∀ x ∈ X, x < base) (hrd : ∀ q ∈ L, RdA X u q.2 q.1) (he : RdA X u e.2 e.1) (hM : M = L.drop k) (hB : B = L.take k) : NodesAt X u v K := by
  have e1 : [] ++ kCells B ++ kCells [e] ++ kCells M = kCells K := by rw [hK, show B ++ e :: M = B ++ [e] ++ M by simp, qh7, qh7, List.nil_append]
  have e2 : N = K.length := by rw [hN, hK]; simp; omega
  rw [e1, e2] at hown
  have hall : ∀ q ∈ K, RdA X u q.2 q.1 := fun q hq => by
    rw [hK] at hq
    rcases List.mem_append.1 hq with h | h
    · exact hrd q (by rw [hB] at h; exact List.mem_of_mem_take h)
    · rcases List.mem_cons.1 h with h | h
      · rw [h]; exact he
      · exact hrd q (by rw [hM] at h; exact List.mem_of_mem_drop h)
  rcases hown.2 with ⟨rfl, h0⟩ | ⟨g, cap, cur, rfl, hbg, hBk, hcap, _, hcs, htk⟩
  · exact ⟨none, 0, by rw [h0], by omega, fun hne => absurd (List.eq_nil_of_length_eq_zero h0) hne, hall⟩
  · refine ⟨_, cap, rfl, hcap, fun _ => ⟨g, rfl, (Array.getElem?_eq_some_iff.1 hBk).1, fun hg => absurd (hX g hg) (by omega), fun j u' hu => ?_⟩, hall⟩
    have hB' : Blk u g 43 cur := hBk
    have hj : j < K.length * 33 := by rw [← qh8]; exact (List.getElem?_eq_some_iff.1 hu).1
    refine hB'.cell ?_
    rw [← htk, List.getElem?_take_of_lt hj, Array.getElem?_toList] at hu
    exact hu
set_option maxHeartbeats 4000000 in
theorem PutNode_any (X : List Nat) (v : Value) (L : KList) (e : List Nat × Value) (w : World) (hv : NodesAt X w v L) (he : RdA X w e.2 e.1) (hX : ∀ x ∈ X, x < w.heap.size) (hn : L.length ≤ 50000000) :
    Calls Tryz.prog 33 #[v, .agg (ndA (hashN e.1) e.2)] w fun e' w' => Tch [] w w' ∧ ∃ v', e' = .returned v' ∧ NodesAt X w' v' (putL L e) := by
  have HV := hQz hv
  obtain ⟨p, cap, rfl, hcap, hat, hrd⟩ := hv
  obtain ⟨n, hnL⟩ : ∃ n, n = L.length := ⟨_, rfl⟩
  rw [← hnL] at hcap hn ⊢
  have HN := hQz hnL
  have HE := hQz he
  clear hnL he
  have hS := St.start w
  go_enter Tryz.func33, Tryz.ntmps33
  go_wp2_with (refine qi0 hS rfl 43 _ rfl rfl ?_; clear hS; intro w1 bx hS)
  have hT1 := hS.frame
  have hBx := hS.get .head
  clear hS
  go_loopw [5] (fun s5 wr => ∃ k : Nat, s5 = .int .i64 (k : Int) ∧ k ≤ n ∧ Tch [] w1 wr ∧ Hid (∀ j (h : j < k) (h2 : j < L.length), lt (HL L[j].1) (HL e.1))) (fun s5 _ => n - (intOf s5).toNat)
  case atStart => exact ⟨0, rfl, Nat.zero_le _, Tch.refl _ _, hQz (fun j h => absurd h (Nat.not_lt_zero _))⟩
  case round =>
    obtain ⟨k, rfl, hkn, hT, HK⟩ := hrel
    by_cases hlt : k < n
    · have hkL : k < L.length := by rw [← HN.out]; exact hlt
      have hLn : L ≠ [] := by intro q; rw [q] at hkL; simp at hkL
      obtain ⟨g, hpg, hgw, _, hcl⟩ := hat hLn
      obtain ⟨x, hx⟩ : ∃ x, x = L[k] := ⟨_, rfl⟩
      have HR1 := hQz (fun (w' : World) (h : Tch [] wr w') => show w'.rangeAt g (k * 33) (wf (hashN x.1)).toList from by
        rw [hx]
        exact nd_rangeWj (at_range (fun j u hu => ((hT1.trans (hT.trans h)).cell (p := ⟨g, j, none⟩) hgw (by simp)).trans (hcl j u hu)) hkL))
      have HR0 := hQz (fun (w' : World) (h : Tch [] wr w') => nd_rangeW ((hT.trans h).blk hBx (by simp)))
      have HX := hQz hx
      clear hx
      have hps := hpg
      subst hps
      cases hq : decide (lt (HL x.1) (HL e.1)) with
      | true =>
        have HLS := hQz (fun (W : World) => show Calls Tryz.prog 13 #[.agg (wf (hashN x.1)), .agg (wf (hashN e.1))] W fun e' w' => e' = .returned (.bool true) ∧ Tch [] W w' from by have h := Less_any (hashN x.1) (hashN e.1) W (fun i _ => qj2 _ i) (fun i _ => qj2 _ i); rw [← HL_WL, ← HL_WL, hq] at h; exact h)
        have HQ2 := hQz (of_decide_eq_true hq)
        clear hq
        go_upto_region 2 with (fail)
        refine qb7 (C := fun w' => Tch [] wr w') (by kernel_rfl) (by kernel_rfl) ((Tch.refl _ _).drew) ?_
        refine qb8 rfl _ rfl rfl ?_; try simp only [Act.put, ppA, ppB, ppC]
        refine qb0 rfl _ rfl rfl ?_; try simp only [Act.put, ppA, ppB, ppC]
        refine k_lenNd rfl _ rfl rfl ?_; try simp only [Act.put, ppA, ppB, ppC]
        refine k_lss rfl _ _ _ rfl rfl rfl (by simp only [decide_eq_true_eq]; omega) (t := true) ?_; try simp only [Act.put, ppA, ppB, ppC]
        refine qc0 rfl _ rfl rfl ?_; try simp only [Act.put, ppA, ppB, ppC]
        refine qb0 rfl _ rfl rfl ?_; try simp only [Act.put, ppA, ppB, ppC]
        refine qb8 rfl _ rfl rfl ?_; try simp only [Act.put, ppA, ppB, ppC]
        refine k_idxNz (g := g) (i := k) rfl _ _ rfl rfl rfl hlt ?_; try simp only [Act.put, ppA, ppB, ppC]
        refine k_fa rfl _ _ _ rfl rfl (fa_ndj0 g (k * 33)) ?_; try simp only [Act.put, ppA, ppB, ppC]
        refine k_loadM (b := g) (i := k * 33) (cs := (wf (hashN x.1)).toList) rfl _ rfl rfl (fun w' h => HR1.out w' h) (by rw [Array.length_toList, qa5]) ?_; try simp only [Act.put, ppA, ppB, ppC]
        refine k_fa rfl _ _ _ rfl rfl (fa_ndj0 bx 0) ?_; try simp only [Act.put, ppA, ppB, ppC]
        refine k_loadM (b := bx) (i := 0) (cs := (wf (hashN e.1)).toList) rfl _ rfl rfl (fun w' h => HR0.out w' h) (by rw [Array.length_toList, qa5]) ?_; try simp only [Act.put, ppA, ppB, ppC]
        refine qk3 (v := .bool true) rfl rfl rfl rfl Tryz.call13 (fun w' h => (HLS.out w').mono fun e' w'' h2 => ⟨h2.1, h.trans h2.2⟩) ?_; try simp only [Act.put, ppA, ppB, ppC]
        refine qd0 rfl _ _ _ rfl rfl rfl ?_; try simp only [Act.put, ppA, ppB, ppC]
        refine qc8 ?_; try simp only [Act.put, ppA, ppB, ppC]
        intro w2 hT2
        go_wp2
        go_roundw
        case rel => exact ⟨k + 1, by go_num, by omega, hT.trans hT2, hQz (fun j h h2 => by
          by_cases hj : j = k
          · subst hj; rw [← HX.out]; exact HQ2.out
          · exact HK.out j (by omega) h2)⟩
        case measure => simp [intOf]; omega
      | false =>
        have HLS := hQz (fun (W : World) => show Calls Tryz.prog 13 #[.agg (wf (hashN x.1)), .agg (wf (hashN e.1))] W fun e' w' => e' = .returned (.bool false) ∧ Tch [] W w' from by have h := Less_any (hashN x.1) (hashN e.1) W (fun i _ => qj2 _ i) (fun i _ => qj2 _ i); rw [← HL_WL, ← HL_WL, hq] at h; exact h)
        have HQ2 := hQz (of_decide_eq_false hq)
        clear hq
        go_upto_region 2 with (fail)
        refine qb7 (C := fun w' => Tch [] wr w') (by kernel_rfl) (by kernel_rfl) ((Tch.refl _ _).drew) ?_
        refine qb8 rfl _ rfl rfl ?_; try simp only [Act.put, ppA, ppB, ppC]
        refine qb0 rfl _ rfl rfl ?_; try simp only [Act.put, ppA, ppB, ppC]
        refine k_lenNd rfl _ rfl rfl ?_; try simp only [Act.put, ppA, ppB, ppC]
        refine k_lss rfl _ _ _ rfl rfl rfl (by simp only [decide_eq_true_eq]; omega) (t := true) ?_; try simp only [Act.put, ppA, ppB, ppC]
        refine qc0 rfl _ rfl rfl ?_; try simp only [Act.put, ppA, ppB, ppC]
        refine qb0 rfl _ rfl rfl ?_; try simp only [Act.put, ppA, ppB, ppC]
        refine qb8 rfl _ rfl rfl ?_; try simp only [Act.put, ppA, ppB, ppC]
        refine k_idxNz (g := g) (i := k) rfl _ _ rfl rfl rfl hlt ?_; try simp only [Act.put, ppA, ppB, ppC]
        refine k_fa rfl _ _ _ rfl rfl (fa_ndj0 g (k * 33)) ?_; try simp only [Act.put, ppA, ppB, ppC]
        refine k_loadM (b := g) (i := k * 33) (cs := (wf (hashN x.1)).toList) rfl _ rfl rfl (fun w' h => HR1.out w' h) (by rw [Array.length_toList, qa5]) ?_; try simp only [Act.put, ppA, ppB, ppC]
        refine k_fa rfl _ _ _ rfl rfl (fa_ndj0 bx 0) ?_; try simp only [Act.put, ppA, ppB, ppC]
        refine k_loadM (b := bx) (i := 0) (cs := (wf (hashN e.1)).toList) rfl _ rfl rfl (fun w' h => HR0.out w' h) (by rw [Array.length_toList, qa5]) ?_; try simp only [Act.put, ppA, ppB, ppC]
        refine qk3 (v := .bool false) rfl rfl rfl rfl Tryz.call13 (fun w' h => (HLS.out w').mono fun e' w'' h2 => ⟨h2.1, h.trans h2.2⟩) ?_; try simp only [Act.put, ppA, ppB, ppC]
        refine qd0 rfl _ _ _ rfl rfl rfl ?_; try simp only [Act.put, ppA, ppB, ppC]
        refine qc8 ?_; try simp only [Act.put, ppA, ppB, ppC]
        intro w2 hT2
        have hTx : Tch [] w1 w2 := hT.trans hT2
        have HPA := hQz (putL_at L e k (by rw [← HN.out]; exact hkn) (fun j hj => HK.out j hj (by omega)) (fun h => by rw [← HX.out]; exact HQ2.out))
        cases hq2 : (HL x.1 == HL e.1) with
        | true =>
          have HQ3 := hQz hq2
          clear hq2
          go_upto_region 4 with (fail)
          refine qb7 (C := fun w' => Tch [] wr w') (by kernel_rfl) (by kernel_rfl) hT2.drew ?_
          refine qb8 rfl _ rfl rfl ?_; try simp only [Act.put, ppA, ppB, ppC]
          refine qb0 rfl _ rfl rfl ?_; try simp only [Act.put, ppA, ppB, ppC]
          refine k_lenNd rfl _ rfl rfl ?_; try simp only [Act.put, ppA, ppB, ppC]
          refine k_lss rfl _ _ _ rfl rfl rfl (by simp only [decide_eq_true_eq]; omega) (t := true) ?_; try simp only [Act.put, ppA, ppB, ppC]
          refine qc0 rfl _ rfl rfl ?_; try simp only [Act.put, ppA, ppB, ppC]
          refine qb0 rfl _ rfl rfl ?_; try simp only [Act.put, ppA, ppB, ppC]
          refine qb8 rfl _ rfl rfl ?_; try simp only [Act.put, ppA, ppB, ppC]
          refine k_idxNz (g := g) (i := k) rfl _ _ rfl rfl rfl hlt ?_; try simp only [Act.put, ppA, ppB, ppC]
          refine k_fa rfl _ _ _ rfl rfl (fa_ndj0 g (k * 33)) ?_; try simp only [Act.put, ppA, ppB, ppC]
          refine k_loadM (b := g) (i := k * 33) (cs := (wf (hashN x.1)).toList) rfl _ rfl rfl (fun w' h => HR1.out w' h) (by rw [Array.length_toList, qa5]) ?_; try simp only [Act.put, ppA, ppB, ppC]
          refine k_fa rfl _ _ _ rfl rfl (fa_ndj0 bx 0) ?_; try simp only [Act.put, ppA, ppB, ppC]
          refine k_loadM (b := bx) (i := 0) (cs := (wf (hashN e.1)).toList) rfl _ rfl rfl (fun w' h => HR0.out w' h) (by rw [Array.length_toList, qa5]) ?_; try simp only [Act.put, ppA, ppB, ppC]
          refine k_hash3 (l1 := x.1) (l2 := e.1) (t := true) rfl _ _ _ rfl rfl rfl HQ3.out ?_; try simp only [Act.put, ppA, ppB, ppC]
          refine qd0 rfl _ _ _ rfl rfl rfl ?_; try simp only [Act.put, ppA, ppB, ppC]
          refine qc8 ?_; try simp only [Act.put, ppA, ppB, ppC]
          intro w3 hT3
          go_wp2
          go_ret
          have hTw : Tch [] w w3 := hT1.trans (hT.trans hT3)
          refine ⟨hTw, _, rfl, ?_⟩
          have hpl : putL L e = L := by
            rw [HPA.out, dif_pos hkL, if_pos (by rw [← HX.out]; exact eq_of_beq HQ3.out)]
          rw [hpl]
          have h := HV.out
          rw [← HN.out] at h
          exact h.tch (hTw.mono (by simp))
        | false =>
          have HPUT : putL L e = L.take k ++ e :: L.drop k := by
            rw [HPA.out, dif_pos hkL, if_neg (by rw [← HX.out]; intro q; rw [q, beq_self_eq_true] at hq2; cases hq2)]
          have HQ4 := hQz hq2
          clear hq2
          go_upto_region 4 with (fail)
          refine qb7 (C := fun w' => Tch [] wr w') (by kernel_rfl) (by kernel_rfl) hT2.drew ?_
          refine qb8 rfl _ rfl rfl ?_; try simp only [Act.put, ppA, ppB, ppC]
          refine qb0 rfl _ rfl rfl ?_; try simp only [Act.put, ppA, ppB, ppC]
          refine k_lenNd rfl _ rfl rfl ?_; try simp only [Act.put, ppA, ppB, ppC]
          refine k_lss rfl _ _ _ rfl rfl rfl (by simp only [decide_eq_true_eq]; omega) (t := true) ?_; try simp only [Act.put, ppA, ppB, ppC]
          refine qc0 rfl _ rfl rfl ?_; try simp only [Act.put, ppA, ppB, ppC]
          refine qb0 rfl _ rfl rfl ?_; try simp only [Act.put, ppA, ppB, ppC]
          refine qb8 rfl _ rfl rfl ?_; try simp only [Act.put, ppA, ppB, ppC]
          refine k_idxNz (g := g) (i := k) rfl _ _ rfl rfl rfl hlt ?_; try simp only [Act.put, ppA, ppB, ppC]
          refine k_fa rfl _ _ _ rfl rfl (fa_ndj0 g (k * 33)) ?_; try simp only [Act.put, ppA, ppB, ppC]
          refine k_loadM (b := g) (i := k * 33) (cs := (wf (hashN x.1)).toList) rfl _ rfl rfl (fun w' h => HR1.out w' h) (by rw [Array.length_toList, qa5]) ?_; try simp only [Act.put, ppA, ppB, ppC]
          refine k_fa rfl _ _ _ rfl rfl (fa_ndj0 bx 0) ?_; try simp only [Act.put, ppA, ppB, ppC]
          refine k_loadM (b := bx) (i := 0) (cs := (wf (hashN e.1)).toList) rfl _ rfl rfl (fun w' h => HR0.out w' h) (by rw [Array.length_toList, qa5]) ?_; try simp only [Act.put, ppA, ppB, ppC]
          refine k_hash3 (l1 := x.1) (l2 := e.1) (t := false) rfl _ _ _ rfl rfl rfl HQ4.out ?_; try simp only [Act.put, ppA, ppB, ppC]
          refine qd0 rfl _ _ _ rfl rfl rfl ?_; try simp only [Act.put, ppA, ppB, ppC]
          refine qc8 ?_; try simp only [Act.put, ppA, ppB, ppC]
          intro w3 hT3
          have hTx : Tch [] w w3 := hT1.trans (hT.trans hT3)
          have HBX := hQz ((hT.trans hT3).blk hBx (by simp))
          have HPL := hQz HPUT
          clear HPUT
          obtain ⟨p', c', hsl, hp'⟩ := qj7 (some ⟨g, 0, none⟩) n cap k hkn hcap
          obtain ⟨M, hM⟩ : ∃ M, M = L.drop k := ⟨_, rfl⟩
          obtain ⟨B, hBk⟩ : ∃ B, B = L.take k := ⟨_, rfl⟩
          have hMl : n - k = M.length := by rw [hM, List.length_drop, ← HN.out]
          have hBl : k = B.length := by rw [hBk, List.length_take, ← HN.out]; omega
          rw [hMl] at hsl
          have HML := hQz (And.intro hM (And.intro hBk (And.intro hMl hBl)))
          have hMn : M.length ≤ 50000000 := by omega
          have hBn : B.length ≤ 50000000 := by omega
          have hBM : B.length + M.length ≤ 50000000 := by omega
          have HMC := hQz (pn_from hat HN.out hkn hp' hM)
          have HBC := hQz (pn_to hat HN.out hkn hBk)
          have HOC := hQz (And.intro (fun q (hq : q ∈ M) => rdA_one (hrd q (by rw [hM] at hq; exact List.mem_of_mem_drop hq))) (And.intro (fun q (hq : q ∈ B) => rdA_one (hrd q (by rw [hBk] at hq; exact List.mem_of_mem_take hq))) (show ∀ q ∈ [e], q.2.oneCell' = true from fun q hq => by cases List.mem_singleton.1 hq; exact rdA_one HE.out)))
          clear hM hBk hMl hBl hp'
          go_upto_region 7 with (first
            | (refine st_appM (v := .slice none 0 0) (base := w.heap.size) (N := 0) (us := []) (M := M) rfl _ _ rfl rfl rfl ⟨rfl, .inl ⟨rfl, rfl⟩⟩ hTx.size (fun h => (HMC.out h).imp fun g h => ⟨k * 33, h.1, fun j u hu => (hTx.cell (p := ⟨g, k * 33 + j, none⟩) h.2.1 (by simp)).trans (h.2.2 j u hu)⟩) HOC.out.1 (by omega) ?_; intro v1 wa hown1 hTa; have HA1 := hQz (And.intro hown1 (show Tch [] w3 wa from hTa)); clear hown1 hTa))
          have hTA : Tch [] w wa := hTx.trans HA1.out.2
          have HB3 := hQz (HA1.out.2.blk HBX.out (by simp))
          obtain ⟨p1, c1, rfl, hv1⟩ := pn_own HA1.out.1
          have HV1 := hQz hv1
          clear hsl hv1
          refine wp_region_held_drew (S := fun w' => Tch [] wa w') (by kernel_rfl) ((Tch.refl _ _).drew) (fun hC => ?_)
          generalize World.drew wa = u0 at hC ⊢
          refine qa0 (v := .slice (some ⟨g, 0, none⟩) n cap) 0 rfl (by kernel_rfl) (by kernel_rfl) (by kernel_rfl) (fun _ _ _ h => h) hC rfl (fun w' hw' => qb2 (.inl rfl) rfl) ?_
          try simp only [Act.put, ppA, ppB, ppC]
          refine qa0 (v := .int .i64 (k : Int)) 1 rfl (by kernel_rfl) (by kernel_rfl) (by kernel_rfl) (fun _ _ _ h => h) hC rfl (fun w' hw' => qb2 (.inl rfl) rfl) ?_
          try simp only [Act.put, ppA, ppB, ppC]
          refine qa0 (v := .slice (some ⟨g, 0, none⟩) k cap) 2 rfl (by kernel_rfl) (by kernel_rfl) (by kernel_rfl) (fun _ _ _ h => h) hC rfl (fun w' hw' => x_to _ _ _ rfl rfl rfl (slice_toK (some ⟨g, 0, none⟩) n cap k hkn hcap _)) ?_
          try simp only [Act.put, ppA, ppB, ppC]
          refine qa0 (v := .agg (ndA (hashN e.1) e.2)) 4 rfl (by kernel_rfl) (by kernel_rfl) (by kernel_rfl) (fun _ _ _ h => h) hC rfl (fun w' hw' => x_loadNd _ rfl rfl (hw'.blk HB3.out (by simp)) (qf9 _ _)) ?_
          try simp only [Act.put, ppA, ppB, ppC]
          refine qa0 (v := .slice p1 M.length c1) 7 rfl (by kernel_rfl) (by kernel_rfl) (by kernel_rfl) (fun _ _ _ h => h) hC rfl (fun w' hw' => qb2 (.inl rfl) rfl) ?_
          try simp only [Act.put, ppA, ppB, ppC]
          refine wpAnyH_all (rs := [3, 5]) (by kernel_rfl) (by simp) (fun i hi => ?_)
          rcases List.mem_cons.1 hi with rfl | hi
          · have hTk : Tch [] wa u0 := hC
            refine qg9 (v := .slice none 0 0) (base := wa.heap.size) (N := 0) (M := B) (us := []) _ _ rfl rfl rfl rfl (congrArg (fun z => Value.slice (some ⟨g, 0, none⟩) z cap) HML.out.2.2.2) ⟨rfl, .inl ⟨rfl, rfl⟩⟩ hTk.size (fun h => (HBC.out h).imp fun g h => ⟨0, h.1, fun j u hu => by rw [Nat.zero_add]; exact ((hTA.trans hTk).cell (p := ⟨g, j, none⟩) h.2.1 (by simp)).trans (h.2.2 j u hu)⟩) HOC.out.2.1 (by omega) ?_
            intro v2 u1 hown2 hTb
            have hTb1 : Tch [] u0 u1 := hTb
            refine ⟨hC.trans hTb1, ?_⟩
            try simp only [Act.put, ppA, ppB, ppC]
            refine qa6 5 (by kernel_rfl) ?_
            refine held_bsN (f := hashN e.1) (v := e.2) rfl rfl rfl (qi1 HE.out) rfl ?_
            intro u2 hTu2 hNB2 _
            have hTau : Tch [] wa u2 := hC.trans (hTb1.trans hTu2)
            have HOWN := hQz (own_keptT hown2 hTu2)
            have HNB := hQz hNB2
            refine ⟨hTau, ?_⟩
            try simp only [Act.put, ppA, ppB, ppC]
            refine qa6 6 (by kernel_rfl) ?_
            refine qg9 (v := v2) (base := wa.heap.size) (N := 0 + B.length) (M := [e]) (us := [] ++ kCells B) _ _ rfl rfl rfl rfl rfl HOWN.out hTau.size (fun _ => ⟨_, 0, rfl, fun j u hu => by rw [Nat.zero_add]; refine HNB.out.cell ?_; rw [← Array.getElem?_toList]; rw [kCells_one] at hu; exact hu⟩) HOC.out.2.2 (by simp only [List.length_cons, List.length_nil]; omega) ?_
            intro v3 u3 hown3 hTc
            have hTa3 : Tch [] wa u3 := hTau.fresh hTc (fun x hx => (HOWN.out.lt x (by simpa using hx)).1)
            refine ⟨hTa3, ?_⟩
            try simp only [Act.put, ppA, ppB, ppC]
            refine qa6 8 (by kernel_rfl) ?_
            refine qg9 (v := v3) (base := wa.heap.size) (N := 0 + B.length + [e].length) (M := M) (us := [] ++ kCells B ++ kCells [e]) _ _ rfl rfl rfl rfl rfl hown3 hTa3.size (fun h => (HV1.out h).imp fun g h => ⟨0, h.1, fun j u hu => by rw [Nat.zero_add]; exact (hTa3.cell (p := ⟨g, j, none⟩) h.2.1 (by simp)).trans (h.2.2 j u hu)⟩) HOC.out.1 (by simp only [List.length_cons, List.length_nil]; omega) ?_
            intro v4 u4 hown4 hTd4
            have hTa4 : Tch [] wa u4 := hTa3.fresh hTd4 (fun x hx => (hown3.lt x (by simpa using hx)).1)
            have hTw4 : Tch [] w u4 := hTA.trans hTa4
            refine ⟨hTa4, ?_⟩
            try simp only [Act.put, ppA, ppB, ppC]
            refine qa0 (v := v4) 9 rfl (by kernel_rfl) (by kernel_rfl) (by kernel_rfl) (fun _ _ _ h => h) hTa4 rfl (fun w' hw' => qb2 (.inr rfl) rfl) ?_
            try simp only [Act.put, ppA, ppB, ppC]
            refine wpAnyH_done (by kernel_rfl) ?_ _
            go_wp2
            go_ret
            refine ⟨hTw4, v4, rfl, ?_⟩
            exact pn_last (by rw [HPL.out, ← HML.out.2.1, ← HML.out.1]) (by simp only [List.length_cons, List.length_nil]; omega) hown4 (fun x hx => Nat.lt_of_lt_of_le (hX x hx) hTA.size) (fun q hq => (hrd q hq).tch (hTw4.mono (by simp))) (HE.out.tch (hTw4.mono (by simp))) HML.out.1 HML.out.2.1
          · obtain rfl : i = 5 := by simpa using hi
            refine held_bsN (f := hashN e.1) (v := e.2) rfl rfl rfl (qi1 HE.out) rfl ?_
            intro u1 hTu1 hNB1 _
            have hTk : Tch [] wa u1 := hC.trans hTu1
            refine ⟨hTk, ?_⟩
            try simp only [Act.put, ppA, ppB, ppC]
            refine qa6 3 (by kernel_rfl) ?_
            refine qg9 (v := .slice none 0 0) (base := wa.heap.size) (N := 0) (M := B) (us := []) _ _ rfl rfl rfl rfl (congrArg (fun z => Value.slice (some ⟨g, 0, none⟩) z cap) HML.out.2.2.2) ⟨rfl, .inl ⟨rfl, rfl⟩⟩ hTk.size (fun h => (HBC.out h).imp fun g h => ⟨0, h.1, fun j u hu => by rw [Nat.zero_add]; exact ((hTA.trans hTk).cell (p := ⟨g, j, none⟩) h.2.1 (by simp)).trans (h.2.2 j u hu)⟩) HOC.out.2.1 (by omega) ?_
            intro v2 u2 hown2 hTb
            have hTb1 : Tch [] u1 u2 := hTb
            have hTau : Tch [] wa u2 := hTk.trans hTb1
            have HOWN := hQz hown2
            have HNB := hQz (hTb1.blk hNB1 (by simp))
            refine ⟨hTau, ?_⟩
            try simp only [Act.put, ppA, ppB, ppC]
            refine qa6 6 (by kernel_rfl) ?_
            refine qg9 (v := v2) (base := wa.heap.size) (N := 0 + B.length) (M := [e]) (us := [] ++ kCells B) _ _ rfl rfl rfl rfl rfl HOWN.out hTau.size (fun _ => ⟨_, 0, rfl, fun j u hu => by rw [Nat.zero_add]; refine HNB.out.cell ?_; rw [← Array.getElem?_toList]; rw [kCells_one] at hu; exact hu⟩) HOC.out.2.2 (by simp only [List.length_cons, List.length_nil]; omega) ?_
            intro v3 u3 hown3 hTc
            have hTa3 : Tch [] wa u3 := hTau.fresh hTc (fun x hx => (HOWN.out.lt x (by simpa using hx)).1)
            refine ⟨hTa3, ?_⟩
            try simp only [Act.put, ppA, ppB, ppC]
            refine qa6 8 (by kernel_rfl) ?_
            refine qg9 (v := v3) (base := wa.heap.size) (N := 0 + B.length + [e].length) (M := M) (us := [] ++ kCells B ++ kCells [e]) _ _ rfl rfl rfl rfl rfl hown3 hTa3.size (fun h => (HV1.out h).imp fun g h => ⟨0, h.1, fun j u hu => by rw [Nat.zero_add]; exact (hTa3.cell (p := ⟨g, j, none⟩) h.2.1 (by simp)).trans (h.2.2 j u hu)⟩) HOC.out.1 (by simp only [List.length_cons, List.length_nil]; omega) ?_
            intro v4 u4 hown4 hTd4
            have hTa4 : Tch [] wa u4 := hTa3.fresh hTd4 (fun x hx => (hown3.lt x (by simpa using hx)).1)
            have hTw4 : Tch [] w u4 := hTA.trans hTa4
            refine ⟨hTa4, ?_⟩
            try simp only [Act.put, ppA, ppB, ppC]
            refine qa0 (v := v4) 9 rfl (by kernel_rfl) (by kernel_rfl) (by kernel_rfl) (fun _ _ _ h => h) hTa4 rfl (fun w' hw' => qb2 (.inr rfl) rfl) ?_
            try simp only [Act.put, ppA, ppB, ppC]
            refine wpAnyH_done (by kernel_rfl) ?_ _
            go_wp2
            go_ret
            refine ⟨hTw4, v4, rfl, ?_⟩
            exact pn_last (by rw [HPL.out, ← HML.out.2.1, ← HML.out.1]) (by simp only [List.length_cons, List.length_nil]; omega) hown4 (fun x hx => Nat.lt_of_lt_of_le (hX x hx) hTA.size) (fun q hq => (hrd q hq).tch (hTw4.mono (by simp))) (HE.out.tch (hTw4.mono (by simp))) HML.out.1 HML.out.2.1
    · have hkn2 : k = n := by omega
      have HPUT : putL L e = L.take k ++ e :: L.drop k := by
        have hkl : ¬ k < L.length := by rw [← HN.out]; exact hlt
        have h := putL_at L e k (by rw [← HN.out]; exact hkn) (fun j hj => HK.out j hj (by rw [← HN.out]; omega)) (fun h => absurd h hkl)
        rw [h, dif_neg hkl, List.take_of_length_le (by rw [← HN.out]; omega), List.drop_eq_nil_of_le (by rw [← HN.out]; omega)]
      go_upto_region 2 with (fail)
      refine qb7 (C := fun w' => Tch [] wr w') (by kernel_rfl) (by kernel_rfl) ((Tch.refl _ _).drew) ?_
      refine qb8 rfl _ rfl rfl ?_; try simp only [Act.put, ppA, ppB, ppC]
      refine qb0 rfl _ rfl rfl ?_; try simp only [Act.put, ppA, ppB, ppC]
      refine k_lenNd rfl _ rfl rfl ?_; try simp only [Act.put, ppA, ppB, ppC]
      refine k_lss rfl _ _ _ rfl rfl rfl (by simp only [decide_eq_false_iff_not]; omega) (t := false) ?_; try simp only [Act.put, ppA, ppB, ppC]
      refine qc0 rfl _ rfl rfl ?_; try simp only [Act.put, ppA, ppB, ppC]
      refine qa3 rfl rfl rfl rfl rfl ?_; try simp only [Act.put, ppA, ppB, ppC]
      refine qa3 rfl rfl rfl rfl rfl ?_; try simp only [Act.put, ppA, ppB, ppC]
      refine qa3 rfl rfl rfl rfl rfl ?_; try simp only [Act.put, ppA, ppB, ppC]
      refine qa3 rfl rfl rfl rfl rfl ?_; try simp only [Act.put, ppA, ppB, ppC]
      refine qa3 rfl rfl rfl rfl rfl ?_; try simp only [Act.put, ppA, ppB, ppC]
      refine qa3 rfl rfl rfl rfl rfl ?_; try simp only [Act.put, ppA, ppB, ppC]
      refine qa3 rfl rfl rfl rfl rfl ?_; try simp only [Act.put, ppA, ppB, ppC]
      refine qa3 rfl rfl rfl rfl rfl ?_; try simp only [Act.put, ppA, ppB, ppC]
      refine qi6 rfl _ _ _ rfl rfl rfl ?_; try simp only [Act.put, ppA, ppB, ppC]
      refine qc8 ?_; try simp only [Act.put, ppA, ppB, ppC]
      intro w2 hT2
      go_upto_region 4 with (fail)
      refine qb7 (C := fun w' => Tch [] wr w') (by kernel_rfl) (by kernel_rfl) hT2.drew ?_
      refine qb8 rfl _ rfl rfl ?_; try simp only [Act.put, ppA, ppB, ppC]
      refine qb0 rfl _ rfl rfl ?_; try simp only [Act.put, ppA, ppB, ppC]
      refine k_lenNd rfl _ rfl rfl ?_; try simp only [Act.put, ppA, ppB, ppC]
      refine k_lss rfl _ _ _ rfl rfl rfl (by simp only [decide_eq_false_iff_not]; omega) (t := false) ?_; try simp only [Act.put, ppA, ppB, ppC]
      refine qc0 rfl _ rfl rfl ?_; try simp only [Act.put, ppA, ppB, ppC]
      refine qa3 rfl rfl rfl rfl rfl ?_; try simp only [Act.put, ppA, ppB, ppC]
      refine qa3 rfl rfl rfl rfl rfl ?_; try simp only [Act.put, ppA, ppB, ppC]
      refine qa3 rfl rfl rfl rfl rfl ?_; try simp only [Act.put, ppA, ppB, ppC]
      refine qa3 rfl rfl rfl rfl rfl ?_; try simp only [Act.put, ppA, ppB, ppC]
      refine qa3 rfl rfl rfl rfl rfl ?_; try simp only [Act.put, ppA, ppB, ppC]
      refine qa3 rfl rfl rfl rfl rfl ?_; try simp only [Act.put, ppA, ppB, ppC]
      refine qa3 rfl rfl rfl rfl rfl ?_; try simp only [Act.put, ppA, ppB, ppC]
      refine qa3 rfl rfl rfl rfl rfl ?_; try simp only [Act.put, ppA, ppB, ppC]
      refine qi6 rfl _ _ _ rfl rfl rfl ?_; try simp only [Act.put, ppA, ppB, ppC]
      refine qc8 ?_; try simp only [Act.put, ppA, ppB, ppC]
      intro w3 hT3
      clear hkn2
      have hTx : Tch [] w w3 := hT1.trans (hT.trans hT3)
      have HBX := hQz ((hT.trans hT3).blk hBx (by simp))
      have HPL := hQz HPUT
      clear HPUT
      obtain ⟨p', c', hsl, hp'⟩ := qj7 p n cap k hkn hcap
      obtain ⟨M, hM⟩ : ∃ M, M = L.drop k := ⟨_, rfl⟩
      obtain ⟨B, hBk⟩ : ∃ B, B = L.take k := ⟨_, rfl⟩
      have hMl : n - k = M.length := by rw [hM, List.length_drop, ← HN.out]
      have hBl : k = B.length := by rw [hBk, List.length_take, ← HN.out]; omega
      rw [hMl] at hsl
      have HML := hQz (And.intro hM (And.intro hBk (And.intro hMl hBl)))
      have hMn : M.length ≤ 50000000 := by omega
      have hBn : B.length ≤ 50000000 := by omega
      have hBM : B.length + M.length ≤ 50000000 := by omega
      have HMC := hQz (pn_from hat HN.out hkn hp' hM)
      have HBC := hQz (pn_to hat HN.out hkn hBk)
      have HOC := hQz (And.intro (fun q (hq : q ∈ M) => rdA_one (hrd q (by rw [hM] at hq; exact List.mem_of_mem_drop hq))) (And.intro (fun q (hq : q ∈ B) => rdA_one (hrd q (by rw [hBk] at hq; exact List.mem_of_mem_take hq))) (show ∀ q ∈ [e], q.2.oneCell' = true from fun q hq => by cases List.mem_singleton.1 hq; exact rdA_one HE.out)))
      clear hM hBk hMl hBl hp'
      go_upto_region 7 with (first
        | (refine st_appM (v := .slice none 0 0) (base := w.heap.size) (N := 0) (us := []) (M := M) rfl _ _ rfl rfl rfl ⟨rfl, .inl ⟨rfl, rfl⟩⟩ hTx.size (fun h => (HMC.out h).imp fun g h => ⟨k * 33, h.1, fun j u hu => (hTx.cell (p := ⟨g, k * 33 + j, none⟩) h.2.1 (by simp)).trans (h.2.2 j u hu)⟩) HOC.out.1 (by omega) ?_; intro v1 wa hown1 hTa; have HA1 := hQz (And.intro hown1 (show Tch [] w3 wa from hTa)); clear hown1 hTa))
      have hTA : Tch [] w wa := hTx.trans HA1.out.2
      have HB3 := hQz (HA1.out.2.blk HBX.out (by simp))
      obtain ⟨p1, c1, rfl, hv1⟩ := pn_own HA1.out.1
      have HV1 := hQz hv1
      clear hsl hv1
      refine wp_region_held_drew (S := fun w' => Tch [] wa w') (by kernel_rfl) ((Tch.refl _ _).drew) (fun hC => ?_)
      generalize World.drew wa = u0 at hC ⊢
      refine qa0 (v := .slice p n cap) 0 rfl (by kernel_rfl) (by kernel_rfl) (by kernel_rfl) (fun _ _ _ h => h) hC rfl (fun w' hw' => qb2 (.inl rfl) rfl) ?_
      try simp only [Act.put, ppA, ppB, ppC]
      refine qa0 (v := .int .i64 (k : Int)) 1 rfl (by kernel_rfl) (by kernel_rfl) (by kernel_rfl) (fun _ _ _ h => h) hC rfl (fun w' hw' => qb2 (.inl rfl) rfl) ?_
      try simp only [Act.put, ppA, ppB, ppC]
      refine qa0 (v := .slice p k cap) 2 rfl (by kernel_rfl) (by kernel_rfl) (by kernel_rfl) (fun _ _ _ h => h) hC rfl (fun w' hw' => x_to _ _ _ rfl rfl rfl (slice_toK p n cap k hkn hcap _)) ?_
      try simp only [Act.put, ppA, ppB, ppC]
      refine qa0 (v := .agg (ndA (hashN e.1) e.2)) 4 rfl (by kernel_rfl) (by kernel_rfl) (by kernel_rfl) (fun _ _ _ h => h) hC rfl (fun w' hw' => x_loadNd _ rfl rfl (hw'.blk HB3.out (by simp)) (qf9 _ _)) ?_
      try simp only [Act.put, ppA, ppB, ppC]
      refine qa0 (v := .slice p1 M.length c1) 7 rfl (by kernel_rfl) (by kernel_rfl) (by kernel_rfl) (fun _ _ _ h => h) hC rfl (fun w' hw' => qb2 (.inl rfl) rfl) ?_
      try simp only [Act.put, ppA, ppB, ppC]
      refine wpAnyH_all (rs := [3, 5]) (by kernel_rfl) (by simp) (fun i hi => ?_)
      rcases List.mem_cons.1 hi with rfl | hi
      · have hTk : Tch [] wa u0 := hC
        refine qg9 (v := .slice none 0 0) (base := wa.heap.size) (N := 0) (M := B) (us := []) _ _ rfl rfl rfl rfl (congrArg (fun z => Value.slice p z cap) HML.out.2.2.2) ⟨rfl, .inl ⟨rfl, rfl⟩⟩ hTk.size (fun h => (HBC.out h).imp fun g h => ⟨0, h.1, fun j u hu => by rw [Nat.zero_add]; exact ((hTA.trans hTk).cell (p := ⟨g, j, none⟩) h.2.1 (by simp)).trans (h.2.2 j u hu)⟩) HOC.out.2.1 (by omega) ?_
        intro v2 u1 hown2 hTb
        have hTb1 : Tch [] u0 u1 := hTb
        refine ⟨hC.trans hTb1, ?_⟩
        try simp only [Act.put, ppA, ppB, ppC]
        refine qa6 5 (by kernel_rfl) ?_
        refine held_bsN (f := hashN e.1) (v := e.2) rfl rfl rfl (qi1 HE.out) rfl ?_
        intro u2 hTu2 hNB2 _
        have hTau : Tch [] wa u2 := hC.trans (hTb1.trans hTu2)
        have HOWN := hQz (own_keptT hown2 hTu2)
        have HNB := hQz hNB2
        refine ⟨hTau, ?_⟩
        try simp only [Act.put, ppA, ppB, ppC]
        refine qa6 6 (by kernel_rfl) ?_
        refine qg9 (v := v2) (base := wa.heap.size) (N := 0 + B.length) (M := [e]) (us := [] ++ kCells B) _ _ rfl rfl rfl rfl rfl HOWN.out hTau.size (fun _ => ⟨_, 0, rfl, fun j u hu => by rw [Nat.zero_add]; refine HNB.out.cell ?_; rw [← Array.getElem?_toList]; rw [kCells_one] at hu; exact hu⟩) HOC.out.2.2 (by simp only [List.length_cons, List.length_nil]; omega) ?_
        intro v3 u3 hown3 hTc
        have hTa3 : Tch [] wa u3 := hTau.fresh hTc (fun x hx => (HOWN.out.lt x (by simpa using hx)).1)
        refine ⟨hTa3, ?_⟩
        try simp only [Act.put, ppA, ppB, ppC]
        refine qa6 8 (by kernel_rfl) ?_
        refine qg9 (v := v3) (base := wa.heap.size) (N := 0 + B.length + [e].length) (M := M) (us := [] ++ kCells B ++ kCells [e]) _ _ rfl rfl rfl rfl rfl hown3 hTa3.size (fun h => (HV1.out h).imp fun g h => ⟨0, h.1, fun j u hu => by rw [Nat.zero_add]; exact (hTa3.cell (p := ⟨g, j, none⟩) h.2.1 (by simp)).trans (h.2.2 j u hu)⟩) HOC.out.1 (by simp only [List.length_cons, List.length_nil]; omega) ?_
        intro v4 u4 hown4 hTd4
        have hTa4 : Tch [] wa u4 := hTa3.fresh hTd4 (fun x hx => (hown3.lt x (by simpa using hx)).1)
        have hTw4 : Tch [] w u4 := hTA.trans hTa4
        refine ⟨hTa4, ?_⟩
        try simp only [Act.put, ppA, ppB, ppC]
        refine qa0 (v := v4) 9 rfl (by kernel_rfl) (by kernel_rfl) (by kernel_rfl) (fun _ _ _ h => h) hTa4 rfl (fun w' hw' => qb2 (.inr rfl) rfl) ?_
        try simp only [Act.put, ppA, ppB, ppC]
        refine wpAnyH_done (by kernel_rfl) ?_ _
        go_wp2
        go_ret
        refine ⟨hTw4, v4, rfl, ?_⟩
        exact pn_last (by rw [HPL.out, ← HML.out.2.1, ← HML.out.1]) (by simp only [List.length_cons, List.length_nil]; omega) hown4 (fun x hx => Nat.lt_of_lt_of_le (hX x hx) hTA.size) (fun q hq => (hrd q hq).tch (hTw4.mono (by simp))) (HE.out.tch (hTw4.mono (by simp))) HML.out.1 HML.out.2.1
      · obtain rfl : i = 5 := by simpa using hi
        refine held_bsN (f := hashN e.1) (v := e.2) rfl rfl rfl (qi1 HE.out) rfl ?_
        intro u1 hTu1 hNB1 _
        have hTk : Tch [] wa u1 := hC.trans hTu1
        refine ⟨hTk, ?_⟩
        try simp only [Act.put, ppA, ppB, ppC]
        refine qa6 3 (by kernel_rfl) ?_
        refine qg9 (v := .slice none 0 0) (base := wa.heap.size) (N := 0) (M := B) (us := []) _ _ rfl rfl rfl rfl (congrArg (fun z => Value.slice p z cap) HML.out.2.2.2) ⟨rfl, .inl ⟨rfl, rfl⟩⟩ hTk.size (fun h => (HBC.out h).imp fun g h => ⟨0, h.1, fun j u hu => by rw [Nat.zero_add]; exact ((hTA.trans hTk).cell (p := ⟨g, j, none⟩) h.2.1 (by simp)).trans (h.2.2 j u hu)⟩) HOC.out.2.1 (by omega) ?_
        intro v2 u2 hown2 hTb
        have hTb1 : Tch [] u1 u2 := hTb
        have hTau : Tch [] wa u2 := hTk.trans hTb1
        have HOWN := hQz hown2
        have HNB := hQz (hTb1.blk hNB1 (by simp))
        refine ⟨hTau, ?_⟩
        try simp only [Act.put, ppA, ppB, ppC]
        refine qa6 6 (by kernel_rfl) ?_
        refine qg9 (v := v2) (base := wa.heap.size) (N := 0 + B.length) (M := [e]) (us := [] ++ kCells B) _ _ rfl rfl rfl rfl rfl HOWN.out hTau.size (fun _ => ⟨_, 0, rfl, fun j u hu => by rw [Nat.zero_add]; refine HNB.out.cell ?_; rw [← Array.getElem?_toList]; rw [kCells_one] at hu; exact hu⟩) HOC.out.2.2 (by simp only [List.length_cons, List.length_nil]; omega) ?_
        intro v3 u3 hown3 hTc
        have hTa3 : Tch [] wa u3 := hTau.fresh hTc (fun x hx => (HOWN.out.lt x (by simpa using hx)).1)
        refine ⟨hTa3, ?_⟩
        try simp only [Act.put, ppA, ppB, ppC]
        refine qa6 8 (by kernel_rfl) ?_
        refine qg9 (v := v3) (base := wa.heap.size) (N := 0 + B.length + [e].length) (M := M) (us := [] ++ kCells B ++ kCells [e]) _ _ rfl rfl rfl rfl rfl hown3 hTa3.size (fun h => (HV1.out h).imp fun g h => ⟨0, h.1, fun j u hu => by rw [Nat.zero_add]; exact (hTa3.cell (p := ⟨g, j, none⟩) h.2.1 (by simp)).trans (h.2.2 j u hu)⟩) HOC.out.1 (by simp only [List.length_cons, List.length_nil]; omega) ?_
        intro v4 u4 hown4 hTd4
        have hTa4 : Tch [] wa u4 := hTa3.fresh hTd4 (fun x hx => (hown3.lt x (by simpa using hx)).1)
        have hTw4 : Tch [] w u4 := hTA.trans hTa4
        refine ⟨hTa4, ?_⟩
        try simp only [Act.put, ppA, ppB, ppC]
        refine qa0 (v := v4) 9 rfl (by kernel_rfl) (by kernel_rfl) (by kernel_rfl) (fun _ _ _ h => h) hTa4 rfl (fun w' hw' => qb2 (.inr rfl) rfl) ?_
        try simp only [Act.put, ppA, ppB, ppC]
        refine wpAnyH_done (by kernel_rfl) ?_ _
        go_wp2
        go_ret
        refine ⟨hTw4, v4, rfl, ?_⟩
        exact pn_last (by rw [HPL.out, ← HML.out.2.1, ← HML.out.1]) (by simp only [List.length_cons, List.length_nil]; omega) hown4 (fun x hx => Nat.lt_of_lt_of_le (hX x hx) hTA.size) (fun q hq => (hrd q hq).tch (hTw4.mono (by simp))) (HE.out.tch (hTw4.mono (by simp))) HML.out.1 HML.out.2.1
end
end Go.Proofs.YtanmpcgackfpaaaGreat
