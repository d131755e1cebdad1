/- The document's put, where nothing is watched. -/
import Derived.Test.YtanmpcgackfpaaaGreatM01
import Derived.Test.YtanmpcgackfpaaaGreatM09
import Derived.Test.YtanmpcgackfpaaaGreatM28
import Derived.Test.YtanmpcgackfpaaaGreatM33
import Derived.Test.YtanmpcgackfpaaaGreatM34
import Derived.Test.YtanmpcgackfpaaaGreatM35
set_option linter.unusedVariables false
set_option linter.unusedSimpArgs false
namespace Go.Proofs.YtanmpcgackfpaaaGreat
section
open Go.RowKit Tr
set_option maxRecDepth 100000
theorem RdA.nilX {X : List Nat} {w : World} {v : Value} {l : List Nat} (h : RdA X w v l) : RdA [] w v l := by
  obtain ⟨p, c, h1, h2, h3, h4⟩ := h
  exact ⟨p, c, h1, h2, h3, fun hl => by obtain ⟨b, o, h5, h6, h7, h8⟩ := h4 hl; exact ⟨b, o, h5, h6, by simp, h8⟩⟩
theorem RdA.wide {X Y : List Nat} {w : World} {v : Value} {l : List Nat} (h : RdA X w v l) (hY : ∀ y ∈ Y, y ∈ X ∨ w.heap.size ≤ y) : RdA Y w v l := by
  obtain ⟨p, c, h1, h2, h3, h4⟩ := h
  exact ⟨p, c, h1, h2, h3, fun hl => by obtain ⟨b, o, h5, h6, h7, h8⟩ := h4 hl; exact ⟨b, o, h5, h6, fun hb => (hY b hb).elim h7 (fun q => by omega), h8⟩⟩
theorem NodesAt.wide {X Y : List Nat} {w : World} {v : Value} {L : KList} (h : NodesAt X w v L) (hY : ∀ y ∈ Y, y ∈ X ∨ w.heap.size ≤ y) : NodesAt Y w v L := by
  obtain ⟨p, c, h1, h2, h3, h4⟩ := h
  exact ⟨p, c, h1, h2, fun hl => by obtain ⟨g, g1, g2, g3, g4⟩ := h3 hl; exact ⟨g, g1, g2, fun hb => (hY g hb).elim g3 (fun q => by omega), g4⟩, fun q hq => (h4 q hq).wide hY⟩
theorem fa_bu0 (b : Nat) (w : World) : (Instr.fieldAt 96 (.pointer (some ⟨b, 0, none⟩)) 0).run Tryz.prog w = .ok (.pointer (some ⟨b, 0, none⟩)) w := by kernel_rfl
theorem fa_bu1 (b : Nat) (w : World) : (Instr.fieldAt 96 (.pointer (some ⟨b, 0, none⟩)) 1).run Tryz.prog w = .ok (.pointer (some ⟨b, 1, none⟩)) w := by kernel_rfl
theorem NodesAt.one {X : List Nat} {w : World} {v : Value} {L : KList} (h : NodesAt X w v L) : v.oneCell' = true := by
  obtain ⟨p, c, rfl, _⟩ := h
  rfl
section
variable {o : Oper} {a : Act} {w : World} {Q : Exit → Act → World → Prop}
theorem x_buildNd {f : Nat → Nat} {v : Value} (hv : ∃ p m c, v = .slice p m c) (ho : ∃ x1 x2, o.op = .build 43 #[(0, x1), (1, x2)] ∧ a.eval x1 = .agg (wf f) ∧ a.eval x2 = v) : (execOp a.eval o).run Tryz.prog w = .ok (.value (.agg (ndA f v))) w := by
  obtain ⟨x1, x2, ho, h1, h2⟩ := ho
  obtain ⟨p, m, c, rfl⟩ := hv
  have hr := build_node f p m c w
  unfold execOp
  simp only [ho, List.map_toArray, List.map_cons, List.map_nil, h1, h2, Sem.run_bind, hr, Result.andThen_ok, Sem.run_pure]
theorem x_loadWd {b : Nat} {f : Nat → Nat} (x : Operand) (ho : o.op = .load 32 x) (hx : a.eval x = .pointer (some ⟨b, 0, none⟩)) (hB : Blk w b 32 (wf f)) : (execOp a.eval o).run Tryz.prog w = .ok (.value (.agg (wf f))) w := by
  have hr := hB.load (P := Tryz.prog) qc7 rfl qb4 (qa5 _)
  unfold execOp
  simp only [ho, hx, Sem.run_bind, hr, Result.andThen_ok, Sem.run_pure]
theorem held_cell {l0 : List Oper} {n : Nat} {K : Act → World → Prop} {v : Value} {b j : Nat} (ty : TypeId) (x : Operand) (ho : l0[n]? = some o) (hw : Region.wanted o (yielded l0.toArray a.tmps) = true) (hop : o.op = .load ty x) (hx : a.eval x = .pointer (some ⟨b, j, none⟩)) (hl : w.cell? ⟨b, j, none⟩ = some v) (hu : ∀ w, (isAgg ty).run Tryz.prog w = .ok false w)
    (h : K (a.put o.dst v) w) : wpOp Tryz.prog l0.toArray Q n K a w := by
  have ho' : l0.toArray[n]? = some o := by rw [List.getElem?_toArray]; exact ho
  have hr := qe2 (a := a) (o := o) ty x hop hx hl hu
  unfold wpOp
  simp only [ho', hw, if_true]
  refine .inl ?_
  unfold Oper.wp
  simp only [hr]
  exact h
end
theorem seen_agg (w : World) : (isAgg 58).run Tryz.prog w = .ok false w := by kernel_rfl
end
section
open Go.RowKit Tr
set_option maxRecDepth 100000
def OffN (X : List Nat) (m bf : Nat) (v : Value) (w : World) : Prop := ∀ x ∈ X, m ≤ x ∧ x < w.heap.size ∧ x ∉ zsOf bf v
theorem OffN.step {X : List Nat} {m bf : Nat} {v v' : Value} {w w' : World} (h : OffN X m bf v w) (hK : KStep bf v v' w w') : OffN X m bf v' w' := fun x hx => by
  obtain ⟨h1, h2, h3⟩ := h x hx
  exact ⟨h1, Nat.lt_of_lt_of_le h2 hK.1.size, fun hm => (hK.2 x hm).elim h3 (fun h => by omega)⟩
theorem OffN.cons {X : List Nat} {m bf b : Nat} {L : KList} {v : Value} {w w1 : World} (h : OffN X m bf v w) (hK : KN bf m L v w) (hT : Tch [] w w1) (hb : w.heap.size ≤ b) (hb1 : b < w1.heap.size) : OffN (b :: X) m bf v w1 := fun x hx => by
  rcases List.mem_cons.1 hx with rfl | hx
  · refine ⟨Nat.le_trans (Nat.le_trans hK.1 (Nat.le_of_lt hK.2.1.lt)) hb, hb1, fun hm => ?_⟩
    have := (hK.lt _ hm).2
    omega
  · exact (h.step (KStep.refl bf v hT)) x hx
theorem KStep.only {bf b : Nat} {v v' : Value} {w w1 w2 : World} (h : KStep bf v v' w w1) (hO : Only b w1 w2) (hb : w.heap.size ≤ b) : KStep bf v v' w w2 := ⟨h.1.only hO (.inl hb), h.2⟩
theorem RdA.offB {X : List Nat} {w : World} {v : Value} {l : List Nat} {b : Nat} {t : TypeId} {c : Array Value} (h : RdA X w v l) (hB : Blk w b t c) (hc : NoB c) : RdA (b :: X) w v l := by
  obtain ⟨p, c', h1, h2, h3, h4⟩ := h
  refine ⟨p, c', h1, h2, h3, fun hl => ?_⟩
  obtain ⟨b', o, h5, h6, h7, h8⟩ := h4 hl
  refine ⟨b', o, h5, h6, fun hm => ?_, h8⟩
  rcases List.mem_cons.1 hm with rfl | hm
  · have h9 := h8 0 (List.length_pos_iff.2 hl)
    unfold Blk at hB
    rw [Lib.cell_of_heap hB] at h9
    exact hc _ _ h9
  · exact h7 hm
theorem KN.store {bf m b : Nat} {L : KList} {v : Value} {w w' : World} {t : TypeId} {c : Array Value} (h : KN bf m L v w) (hB : Blk w b t c) (hc : NoB c) (hO : Only b w w') (hb : b ∉ zsOf bf v) : KN bf m L v w' := by
  have hT : Tch [b] w w' := hO.tch
  refine ⟨h.1, hT.blk h.2.1 (fun hm => hb (by rw [← List.mem_singleton.1 hm]; exact List.mem_cons_self)), own_eq h.2.2.1 (fun g hg => hT.block g (h.2.2.1.lt g hg).2 (fun hm => hb (by rw [← List.mem_singleton.1 hm]; exact List.mem_cons_of_mem _ (by simp [hg])))), fun p hp => ?_⟩
  exact (((h.2.2.2 p hp).offB hB hc).tch (hT.mono (fun x hx => .inl (by rw [List.mem_singleton.1 hx]; exact List.mem_cons_self)))).mono (fun y hy => .inl (List.mem_cons_of_mem _ hy))
def selfE (it : It) : List (List Nat) := if (enc it).length < 32 then [] else [enc it]
theorem St.keep {bs : List Nat} {bf : Nat} {v v' : Value} {w0 w w' : World} {L : List Ent} (h : St bs w0 w L) (hK : KStep bf v v' w w') (hx : ∀ x ∈ zsOf bf v, x ∈ bs ∨ w0.heap.size ≤ x) (hL : ∀ e ∈ L, e.1 ∉ zsOf bf v) : St bs w0 w' L := h.callX hK.1 hx hL
end
section
open Go.RowKit Tr
set_option maxRecDepth 100000
def esTo (es : Nat → List (List Nat)) (d : Nat) : List (List Nat) := (List.range d).flatMap es
theorem esTo_succ (es : Nat → List (List Nat)) (d : Nat) : esTo es (d + 1) = esTo es d ++ es d := by
  unfold esTo
  rw [List.range_succ, List.flatMap_append]
  simp
theorem esTo_le (es : Nat → List (List Nat)) {d : Nat} : ∀ {n : Nat}, d ≤ n → (esTo es d).length ≤ (esTo es n).length
  | 0, h => by obtain rfl : d = 0 := by omega
               exact Nat.le_refl _
  | n + 1, h => by
    rcases Nat.lt_or_ge d (n + 1) with h1 | h1
    · have := esTo_le es (d := d) (n := n) (by omega)
      rw [esTo_succ, List.length_append]; omega
    · obtain rfl : d = n + 1 := by omega
      exact Nat.le_refl _
theorem BrI.mono {X Y : List Nat} {s : Nat → It} {d : Nat} {g : Nat → Value} {w : World} (h : BrI X s d g w) (hY : ∀ y ∈ Y, y ∈ X ∨ w.heap.size ≤ y) : BrI Y s d g w := ⟨h.1, fun j hj => by
  obtain ⟨t, p, n, c, q, m, e, h1, h2, h3, h4⟩ := h.2 j hj
  exact ⟨t, p, n, c, q, m, e, h1, h2, h3, h4.mono hY⟩⟩
end
section
open Go.RowKit Tr
set_option maxRecDepth 100000
namespace Tr
def mu (l : List En) : Nat := (l.map fun e => e.1.length + 1).sum
def nu (l : List En) : Nat := (l.map fun e => e.1.length).sum
theorem mu_rests (n : Nat) : ∀ l : List En, mu (rests n l) ≤ mu l
  | [] => Nat.le_refl _
  | e :: l => by
    have ih := mu_rests n l
    unfold mu rests at ih ⊢
    simp only [List.map_cons, List.sum_cons, List.length_drop] at ih ⊢
    omega
theorem mu_rests_lt {n : Nat} {e : En} {l : List En} (h1 : 1 ≤ n) (h2 : n ≤ e.1.length) : mu (rests n (e :: l)) + 1 ≤ mu (e :: l) := by
  have ih := mu_rests n l
  unfold mu rests at ih ⊢
  simp only [List.map_cons, List.sum_cons, List.length_drop] at ih ⊢
  omega
theorem mu_heads (d : Nat) : ∀ l : List En, mu (rests 1 (heads d l)) ≤ nu (heads d l)
  | [] => Nat.le_refl _
  | e :: l => by
    have ih := mu_heads d l
    unfold heads at ih ⊢
    rw [List.filter_cons]
    split
    · rename_i h
      have h1 : 1 ≤ e.1.length := by
        cases hq : e.1 with
        | nil => rw [hq] at h; simp at h
        | cons x r => simp
      unfold mu nu rests at ih ⊢
      simp only [List.map_cons, List.sum_cons, List.length_drop] at ih ⊢
      omega
    · exact ih
theorem sum_add (f g : Nat → Nat) : ∀ N, ((List.range N).map fun d => f d + g d).sum = ((List.range N).map f).sum + ((List.range N).map g).sum
  | 0 => rfl
  | N + 1 => by
    have ih := sum_add f g N
    simp only [List.range_succ, List.map_append, List.sum_append, List.map_cons, List.map_nil, List.sum_cons, List.sum_nil] at ih ⊢
    omega
theorem sum_one (h : Option Nat) (k : Nat) : ∀ N, ((List.range N).map fun d => if h == some d then k else 0).sum ≤ k ∧ ((∀ d, d < N → h ≠ some d) → ((List.range N).map fun d => if h == some d then k else 0).sum = 0)
  | 0 => ⟨Nat.zero_le _, fun _ => rfl⟩
  | N + 1 => by
    obtain ⟨i1, i2⟩ := sum_one h k N
    simp only [List.range_succ, List.map_append, List.sum_append, List.map_cons, List.map_nil, List.sum_cons, List.sum_nil]
    by_cases hN : h = some N
    · have h0 := i2 (fun d hd e => by rw [hN] at e; have := Option.some.inj e; omega)
      rw [h0, if_pos (by rw [hN]; simp)]
      exact ⟨by omega, fun q => absurd hN (q N (by omega))⟩
    · rw [if_neg (by simpa using hN)]
      exact ⟨by omega, fun q => by have h0 := i2 (fun d hd => q d (by omega)); omega⟩
theorem nu_heads : ∀ l : List En, ((List.range 16).map fun d => nu (heads d l)).sum ≤ nu l
  | [] => by simp only [nu, heads, List.filter_nil, List.map_nil, List.sum_nil]; decide
  | e :: l => by
    have ih := nu_heads l
    have e1 : (fun d => nu (heads d (e :: l))) = fun d => (if e.1.head? == some d then e.1.length else 0) + nu (heads d l) := by
      funext d
      unfold heads nu
      rw [List.filter_cons]
      split
      · simp
      · simp
    rw [e1, sum_add]
    have := (sum_one e.1.head? e.1.length 16).1
    have e2 : nu (e :: l) = e.1.length + nu l := by simp [nu]
    omega
theorem cp_le : ∀ p q : List Nat, cp p q ≤ p.length
  | [], _ => by simp [cp]
  | _ :: _, [] => by simp [cp]
  | x :: p, y :: q => by
    have := cp_le p q
    unfold cp
    split
    · simp; omega
    · simp
theorem map_sum_le (f g : Nat → Nat) : ∀ N, (∀ d, d < N → f d ≤ g d) → ((List.range N).map f).sum ≤ ((List.range N).map g).sum
  | 0, _ => Nat.le_refl _
  | N + 1, h => by
    have ih := map_sum_le f g N (fun d hd => h d (by omega))
    have := h N (by omega)
    simp only [List.range_succ, List.map_append, List.sum_append, List.map_cons, List.map_nil, List.sum_cons, List.sum_nil]
    omega
section
variable (pk : List Nat → Bool → List Nat) (H : List Nat → List Nat)
theorem below_len : ∀ (f : Nat) (l : List En), l ≠ [] → (below pk H (buildT f l)).length + 1 ≤ mu l
  | 0, e :: l, _ => by
    show 0 + 1 ≤ mu (e :: l)
    simp [mu]; omega
  | f + 1, [], h => absurd rfl h
  | f + 1, [e], _ => by
    show 0 + 1 ≤ mu [e]
    simp [mu]
  | f + 1, e :: e2 :: l, _ => by
    have hself : ∀ it : It, (if (enc it).length < 32 then ([] : List (List Nat)) else [enc it]).length ≤ 1 := fun it => by split <;> simp
    unfold buildT
    simp only
    by_cases hc : 0 < cp e.1 ((e2 :: l).getLast (by simp)).1
    · rw [if_pos hc]
      have h1 := below_len f (rests (cp e.1 ((e2 :: l).getLast (by simp)).1) (e :: e2 :: l)) (by simp [rests])
      have h2 := mu_rests_lt (l := e2 :: l) hc (cp_le e.1 ((e2 :: l).getLast (by simp)).1)
      have h3 := hself (itemT pk H (buildT f (rests (cp e.1 ((e2 :: l).getLast (by simp)).1) (e :: e2 :: l))))
      show (below pk H _ ++ _).length + 1 ≤ _
      rw [List.length_append]
      omega
    · rw [if_neg hc]
      have hd : ∀ d, d < 16 → (below pk H (buildT f (rests 1 (heads d (e :: e2 :: l)))) ++ (if (enc (itemT pk H (buildT f (rests 1 (heads d (e :: e2 :: l)))))).length < 32 then [] else [enc (itemT pk H (buildT f (rests 1 (heads d (e :: e2 :: l)))))])).length ≤ nu (heads d (e :: e2 :: l)) := by
        intro d _
        by_cases hz : heads d (e :: e2 :: l) = []
        · rw [hz]
          show (below pk H (buildT f []) ++ _).length ≤ _
          rw [show rests 1 ([] : List En) = [] from rfl, qk0]
          show ([] ++ (if (enc (.str [])).length < 32 then ([] : List (List Nat)) else [enc (.str [])])).length ≤ 0
          rw [if_pos (by rw [qf4]; decide)]
          simp
        · have h1 := below_len f (rests 1 (heads d (e :: e2 :: l))) (by unfold rests; simpa using hz)
          have h2 := mu_heads d (e :: e2 :: l)
          have h3 := hself (itemT pk H (buildT f (rests 1 (heads d (e :: e2 :: l)))))
          rw [List.length_append]
          omega
      show ((List.range 16).flatMap _).length + 1 ≤ _
      rw [List.length_flatMap]
      have h4 := map_sum_le _ _ 16 hd
      have h5 := nu_heads (e :: e2 :: l)
      have h6 : nu (e :: e2 :: l) + 1 ≤ mu (e :: e2 :: l) := by
        have : ∀ l : List En, nu l ≤ mu l := fun l => by
          induction l with
          | nil => exact Nat.le_refl _
          | cons x r ih => unfold nu mu at ih ⊢; simp only [List.map_cons, List.sum_cons] at ih ⊢; omega
        have h7 := this (e2 :: l)
        unfold nu mu at h7 ⊢
        simp only [List.map_cons, List.sum_cons] at h7 ⊢
        omega
      exact Nat.le_trans (Nat.succ_le_succ (Nat.le_trans h4 h5)) h6
end
theorem mu_le {l : List En} (h : ∀ e ∈ l, e.1.length ≤ 128) : mu l ≤ l.length * 129 := by
  induction l with
  | nil => exact Nat.le_refl _
  | cons x r ih =>
    have h1 := ih (fun e he => h e (List.mem_cons_of_mem _ he))
    have h2 := h x List.mem_cons_self
    unfold mu at h1 ⊢
    simp only [List.map_cons, List.sum_cons, List.length_cons] at h1 ⊢
    omega
end Tr
end
end Go.Proofs.YtanmpcgackfpaaaGreat
