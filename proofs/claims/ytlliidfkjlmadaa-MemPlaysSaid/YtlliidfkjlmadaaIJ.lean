/- Rows of integers of the call's own, with what a step leaves as it was; lists of integers beside the words that they are. -/
import Derived.Test.YtlliidfkjlmadaaIB
import Derived.Test.YtlliidfkjlmadaaO1
set_option linter.unusedVariables false
set_option linter.unusedSimpArgs false
namespace Go.Proofs.Ytlliidfkjlmadaa
open Go.RowKit
set_option maxRecDepth 100000

/-- append(v, x), v a row of one's own; x lies in a block that was just laid down. -/
theorem st_appIF {ops : Array Oper} {rest : List Oper} {o : Oper} {a : Act} {w : World} {Q : Exit → Act → World → Prop} {B : Nat} {v : Value} {l : List Nat} {x b : Nat} {t : TypeId} (hgd : o.guard = none) (s y : Operand)
    (ho : o.op = .call { callee := .builtin .append, args := #[s, y], argTypes := #[49, 49] }) (hs : a.eval s = v) (hy : a.eval y = .slice (some ⟨b, 0, none⟩) 1 1) (hB : Blk w b t #[.int .i64 (x : Int)]) (hown : w.ownsRow B 3 1 v l.length (ni l)) (hb : B ≤ w.heap.size) (hl : l.length ≤ 100000000)
    (h : ∀ v' w', w'.ownsRow B 3 1 v' (l ++ [x]).length (ni (l ++ [x])) → Tch v.ownBlock.toList w w' → (∀ k, v'.ownBlock = some k → v.ownBlock = some k ∨ w.heap.size ≤ k) → wpList Try.prog ops Q rest (a.put o.dst v') w') : wpList Try.prog ops Q (o :: rest) a w := by
  obtain ⟨i0, hi, hz0, hz1, hz2⟩ := info_parts I_info
  refine wpList_append_own_at w hgd s y 49 ho B 3 i0 (.int .i64 0) 1 8 ints_ty hi hz0 hz1 hz2 rfl (by decide) _ _ _ hs hown ⟨b, 0, none⟩ 1 1 [.int .i64 (x : Int)] hy rfl ?_ (fun u hu => by obtain rfl := List.mem_singleton.1 hu; rfl) (by unfold maxLen; omega) (by omega) hb ?_
  · intro j u hu
    have hj : j = 0 := by
      have := (List.getElem?_eq_some_iff.1 hu).1
      simpa using this
    subst hj
    have hadd : (⟨b, 0, none⟩ : Addr).add 0 = ⟨b, 0, none⟩ := by unfold Addr.add; split <;> simp_all
    rw [hadd]
    exact hB.cell (by simpa using hu)
  · intro v' w' hown' hgrow _ hat
    refine h v' w' ?_ (tch_grow hgrow) (fresh_of hat)
    rw [ni_append, List.length_append]; exact hown'
section
variable {o : Oper} {a : Act} {w : World}
theorem x_idxI {b n c k : Nat} (x y : Operand) (ho : o.op = .indexAddr 49 x y) (hx : a.eval x = .slice (some ⟨b, 0, none⟩) n c) (hy : a.eval y = .int .i64 (k : Int)) (hj : k < n) : (execOp a.eval o).run Try.prog w = .ok (.value (.pointer (some ⟨b, k, none⟩))) w := by
  have hadd : (⟨b, 0, none⟩ : Addr).add k = ⟨b, k, none⟩ := by unfold Addr.add; split <;> simp_all
  unfold execOp
  simp [ho, hx, hy, Instr.indexAt, run_underlying ints_ty, Instr.sureAddr, asIntOf, sizeOf_one int_sizeI, hj, hadd]
theorem x_idxW0 {b n c : Nat} (x y : Operand) (ho : o.op = .indexAddr 27 x y) (hx : a.eval x = .slice (some ⟨b, 0, none⟩) n c) (hy : a.eval y = .int .i64 0) (hj : 0 < n) : (execOp a.eval o).run Try.prog w = .ok (.value (.pointer (some ⟨b, 0, none⟩))) w := by
  have h := x_idxW (w := w) (k := 0) x y ho hx hy hj
  rwa [Nat.zero_mul] at h
theorem x_ldW0 {B g n c : Nat} {Ws : List (List Nat)} {W : List Nat} (x : Operand) (ho : o.op = .load 37 x) (hx : a.eval x = .pointer (some ⟨g, 0, none⟩)) (h : w.ownsRow B 37 32 (.slice (some ⟨g, 0, none⟩) n c) n (wcs Ws)) (hk : 0 < Ws.length) (hW : Ws[0] = W) : (execOp a.eval o).run Try.prog w = .ok (.value (.agg (wv W))) w :=
  x_ldW (k := 0) x ho (by rw [Nat.zero_mul]; exact hx) h hk hW
theorem own_cellI {B g n c k : Nat} {L : List Nat} (h : w.ownsRow B 3 1 (.slice (some ⟨g, 0, none⟩) n c) n (ni L)) (hk : k < L.length) : w.cell? ⟨g, k, none⟩ = some (.int .i64 ((L.getD k 0 : Nat) : Int)) := by
  have := h.cells (g := g) rfl k _ (ni_get hk)
  have hadd : (⟨g, 0, none⟩ : Addr).add k = ⟨g, k, none⟩ := by unfold Addr.add; split <;> simp_all
  rwa [hadd] at this
theorem x_ldI {B g n c k x : Nat} {L : List Nat} (xo : Operand) (ho : o.op = .load 3 xo) (hx : a.eval xo = .pointer (some ⟨g, k, none⟩)) (h : w.ownsRow B 3 1 (.slice (some ⟨g, 0, none⟩) n c) n (ni L)) (hk : k < L.length) (hL : L.getD k 0 = x) : (execOp a.eval o).run Try.prog w = .ok (.value (.int .i64 (x : Int))) w := by
  subst hL
  exact x_cell 3 xo ho hx (own_cellI h hk) int_aggI
end
/-- An integer is stored into a row of one's own. -/
theorem run_stI {w : World} {B g n c k x : Nat} {L : List Nat} (h : w.ownsRow B 3 1 (.slice (some ⟨g, 0, none⟩) n c) n (ni L)) (hk : k < L.length) :
    (Instr.storeAt 3 (.pointer (some ⟨g, k, none⟩)) (.int .i64 (x : Int))).run Try.prog w = .ok () (w.setCell ⟨g, k, none⟩ (.int .i64 (x : Int))) ∧ (w.setCell ⟨g, k, none⟩ (.int .i64 (x : Int))).ownsRow B 3 1 (.slice (some ⟨g, 0, none⟩) n c) n (ni (L.set k x)) ∧ Only g w (w.setCell ⟨g, k, none⟩ (.int .i64 (x : Int))) := by
  have hl := h.1
  rw [ni_length, Nat.mul_one] at hl
  have hc := own_cellI h hk
  obtain ⟨_, ⟨h1, _⟩ | ⟨g', cap, cur, he, hB, hb, hnc, hcm, hsz, htk⟩⟩ := h
  · cases h1
  injection he with e1 _ e3
  injection e1 with e1
  injection e1 with e1
  subst e1 e3
  have hBk : Blk w g 3 cur := hb
  refine ⟨?_, ⟨by rw [ni_length, List.length_set]; omega, .inr ⟨g, c, cur.setIfInBounds k (.int .i64 (x : Int)), rfl, hB, hBk.set k _, hnc, hcm, by rw [Array.size_setIfInBounds]; exact hsz, ?_⟩⟩, Only.setCell w ⟨g, k, none⟩ _⟩
  · cases hq : Try.prog.info? 3 with
    | none => have := int_sizeI; simp [hq] at this
    | some i =>
      have hi : i.size = 1 := by have := int_sizeI; simpa [hq] using this
      simp [Instr.storeAt, Instr.sureAddr, storeVar, sizeOf, typeInfo, hq, Value.cells, hi, storeCells, Addr.add, run_store Try.prog w ⟨g, k, none⟩ (.int .i64 (x : Int)) .plain rfl, hc, hBk.free k]
  · rw [Nat.mul_one] at htk ⊢
    rw [Array.toList_setIfInBounds, List.take_set, htk]
    simp [ni]
section
variable {a : Act} {w : World} {o : Oper} {Q : Exit → Act → World → Prop}
theorem held_stI {l0 : List Oper} {m : Nat} {K : Act → World → Prop} {B g n c k x : Nat} {L : List Nat} {xo yo : Operand} (hown : w.ownsRow B 3 1 (.slice (some ⟨g, 0, none⟩) n c) n (ni L)) (hk : k < L.length)
    (ho : l0[m]? = some o) (hw : Region.wanted o (yielded l0.toArray a.tmps) = true) (hop : o.op = .store 3 xo yo) (hx : a.eval xo = .pointer (some ⟨g, k, none⟩)) (hy : a.eval yo = .int .i64 (x : Int))
    (h : ∀ w', Only g w w' → w'.ownsRow B 3 1 (.slice (some ⟨g, 0, none⟩) n c) n (ni (L.set k x)) → K (a.put o.dst undef) w') : wpOp Try.prog l0.toArray Q m K a w := by
  have ho' : l0.toArray[m]? = some o := by rw [List.getElem?_toArray]; exact ho
  obtain ⟨hr, h1, h2⟩ := run_stI (x := x) hown hk
  unfold wpOp
  simp only [ho', hw, if_true]
  refine .inl ?_
  unfold Oper.wp execOp
  simp only [hop, hx, hy, Sem.run_bind, hr, Result.andThen_ok, Sem.run_pure]
  exact h _ h2 h1
end
theorem own_sliceI {w : World} {B n : Nat} {v : Value} {L : List Nat} (h : w.ownsRow B 3 1 v n (ni L)) : ∃ p c, v = .slice p n c ∧ n = L.length ∧ (0 < n → ∃ g, p = some ⟨g, 0, none⟩) := by
  have hl := h.1
  rw [ni_length, Nat.mul_one] at hl
  rcases h.2 with ⟨rfl, rfl⟩ | ⟨g, cap, cur, rfl, _⟩
  · exact ⟨none, 0, rfl, by omega, fun h => absurd h (Nat.lt_irrefl 0)⟩
  · exact ⟨_, cap, rfl, by omega, fun _ => ⟨g, rfl⟩⟩
/-- The words of integers. -/
def wofs (L : List Nat) : List (List Nat) := L.map fun x => wof ((x : Nat) : Int)
theorem wofs_len (L : List Nat) : (wofs L).length = L.length := by simp [wofs]
theorem wofs_append (L M : List Nat) : wofs (L ++ M) = wofs L ++ wofs M := by simp [wofs]
theorem wofs_getD {L : List Nat} {k : Nat} (h : k < L.length) : (wofs L).getD k [] = wof ((L.getD k 0 : Nat) : Int) := by
  unfold wofs
  rw [List.getD_eq_getElem?_getD, List.getD_eq_getElem?_getD, List.getElem?_map, List.getElem?_eq_getElem h]; rfl
theorem wofs_set (L : List Nat) (k x : Nat) : wofs (L.set k x) = (wofs L).set k (wof ((x : Nat) : Int)) := by
  unfold wofs; rw [List.map_set]
theorem wofs_take (L : List Nat) (k : Nat) : wofs (L.take k) = (wofs L).take k := by unfold wofs; rw [List.map_take]
def dupI (L : List Nat) (n : Int) : List Nat := if 1 ≤ n ∧ n ≤ L.length then L ++ [L.getD (L.length - n.toNat) 0] else L
theorem dupI_wofs {L : List Nat} (hl : L.length < 1024) (n : Int) : dupL (wofs L) n = wofs (dupI L n) := by
  unfold dupL dupI pushL
  rw [wofs_len, if_pos hl]
  split
  · rename_i h
    rw [wofs_append, wofs_getD (by omega)]; rfl
  · rfl
def swapI (L : List Nat) (n : Int) : List Nat := if 1 ≤ n ∧ n < L.length then (L.set (L.length - 1) (L.getD (L.length - 1 - n.toNat) 0)).set (L.length - 1 - n.toNat) (L.getD (L.length - 1) 0) else L
theorem swapI_wofs (L : List Nat) (n : Int) : swapL (wofs L) n = wofs (swapI L n) := by
  unfold swapL swapI
  rw [wofs_len]
  split
  · rename_i h
    rw [wofs_set, wofs_set, wofs_getD (by omega), wofs_getD (by omega)]
  · rfl
theorem swapI_len (L : List Nat) (n : Int) : (swapI L n).length = L.length := by
  unfold swapI; split <;> simp
theorem getD_lt {L : List Nat} {m : Nat} (h : ∀ x ∈ L, x < m) (hm : 0 < m) (k : Nat) : L.getD k 0 < m := by
  rw [List.getD_eq_getElem?_getD]
  cases hq : L[k]? with
  | none => exact hm
  | some y => exact h y (List.mem_of_getElem? hq)
theorem dupI_lt {L : List Nat} {m : Nat} (h : ∀ x ∈ L, x < m) (hm : 0 < m) (n : Int) : ∀ x ∈ dupI L n, x < m := by
  unfold dupI
  split
  · intro x hx
    rcases List.mem_append.1 hx with hx | hx
    · exact h x hx
    · rw [List.mem_singleton.1 hx]; exact getD_lt h hm _
  · exact h
theorem swapI_lt {L : List Nat} {m : Nat} (h : ∀ x ∈ L, x < m) (hm : 0 < m) (n : Int) : ∀ x ∈ swapI L n, x < m := by
  unfold swapI
  split
  · intro x hx
    rcases List.mem_or_eq_of_mem_set hx with hx | hx
    · rcases List.mem_or_eq_of_mem_set hx with hx | hx
      · exact h x hx
      · rw [hx]; exact getD_lt h hm _
    · rw [hx]; exact getD_lt h hm _
  · exact h
theorem k_lenI {o : Oper} {a : Act} {ops : Array Oper} {rest : List Oper} {C : World → Prop} {Q : Act → Prop} {p : Option Addr} {n c : Nat} (hw : Region.wanted o (yielded ops a.tmps) = true) (x : Operand) (ho : o.op = .call { callee := .builtin .len, args := #[x], argTypes := #[49] }) (hx : a.eval x = .slice p n c)
    (h : KQ ops C Q rest (a.put o.dst (.int .i64 (n : Int)))) : KQ ops C Q (o :: rest) a :=
  k_pure hw (fun w => by unfold execOp; simp [ho, resolve, invoke, builtin, hx, Builtin.len_, run_underlying ints_ty, goInt]) h
/-- A row lies apart from a struct. -/
def DisI (b : Nat) (v vl : Value) : Prop := ∀ x ∈ fpr b v, x ∉ vl.ownBlock.toList
theorem dis_fresh {w : World} {b : Nat} {v vl vl' : Value} (hd : DisI b v vl) (hl : ∀ x ∈ fpr b v, x < w.heap.size) (hf : ∀ k, vl'.ownBlock = some k → vl.ownBlock = some k ∨ w.heap.size ≤ k) : DisI b v vl' := fun x hx hm => by
  rcases hf x (by simpa using hm) with h | h
  · exact hd x hx (by simpa using h)
  · have := hl x hx; omega
theorem dis_turned {w w' : World} {b : Nat} {v v' vl : Value} (hd : DisI b v vl) (hT : Turned w w' b v v') (hl : ∀ k, vl.ownBlock = some k → k < w.heap.size) : DisI b v' vl := fun x hx hm => by
  have hk : vl.ownBlock = some x := by simpa using hm
  rcases mem_fpr.1 hx with rfl | h
  · exact hd x (mem_fpr.2 (.inl rfl)) hm
  · rcases hT.fresh x h with h | h
    · exact hd x (mem_fpr.2 (.inr h)) hm
    · have := hl x hk; omega
theorem own_turned {w w' : World} {B e m b : Nat} {v v' vl : Value} {n : Nat} {xs : List Value} (h : w.ownsRow B e m vl n xs) (hd : DisI b v vl) (hT : Turned w w' b v v') : w'.ownsRow B e m vl n xs :=
  own_far h hT.tch (fun k hk hm => hd k hm (by simp [hk]))
end Go.Proofs.Ytlliidfkjlmadaa
