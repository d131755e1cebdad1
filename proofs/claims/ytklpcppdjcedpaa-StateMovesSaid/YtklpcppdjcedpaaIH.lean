/- Rows of words in memory; single operations and steps of regions that draw their order, for stacks. -/
import Derived.Test.YtklpcppdjcedpaaI2
import Derived.Test.YtklpcppdjcedpaaIK
import Derived.Test.YtklpcppdjcedpaaB2
import Derived.Deep.MidRow
import Derived.Deep.AppendLies
set_option linter.unusedVariables false
set_option linter.unusedSimpArgs false
namespace Go.Proofs.Ytklpcppdjcedpaa
open Go.RowKit
set_option maxRecDepth 100000

/-- The cells of words in a row. -/
def wcs (Ws : List (List Nat)) : List Value := Ws.flatMap fun W => (wv W).toList
theorem wv_len (W : List Nat) : (wv W).toList.length = 32 := by rw [Array.length_toList]; exact bc_size _ _
theorem wcs_nil : wcs [] = [] := rfl
theorem wcs_cons (W : List Nat) (Ws : List (List Nat)) : wcs (W :: Ws) = (wv W).toList ++ wcs Ws := rfl
theorem wcs_append (Ws Vs : List (List Nat)) : wcs (Ws ++ Vs) = wcs Ws ++ wcs Vs := by simp [wcs]
theorem wcs_one (W : List Nat) : wcs [W] = (wv W).toList := by simp [wcs]
theorem wcs_len : ∀ Ws : List (List Nat), (wcs Ws).length = Ws.length * 32
  | [] => rfl
  | W :: Ws => by rw [wcs_cons, List.length_append, wv_len, wcs_len Ws, List.length_cons]; omega
theorem wcs_take : ∀ (Ws : List (List Nat)) (k : Nat), (wcs Ws).take (k * 32) = wcs (Ws.take k)
  | [], k => by simp [wcs]
  | W :: Ws, 0 => by simp [wcs]
  | W :: Ws, k + 1 => by
    rw [wcs_cons, List.take_succ_cons, wcs_cons, List.take_append, wv_len, List.take_of_length_le (by rw [wv_len]; omega), show (k + 1) * 32 - 32 = k * 32 by omega, wcs_take Ws k]
theorem wcs_drop : ∀ (Ws : List (List Nat)) (k : Nat), (wcs Ws).drop (k * 32) = wcs (Ws.drop k)
  | [], k => by simp [wcs]
  | W :: Ws, 0 => by simp
  | W :: Ws, k + 1 => by
    rw [wcs_cons, List.drop_succ_cons, List.drop_append, wv_len, List.drop_of_length_le (by rw [wv_len]; omega), show (k + 1) * 32 - 32 = k * 32 by omega, wcs_drop Ws k, List.nil_append]
theorem wcs_get {Ws : List (List Nat)} {k j : Nat} (hk : k < Ws.length) (hj : j < 32) : (wcs Ws)[k * 32 + j]? = (wv Ws[k])[j]? := by
  have h := wcs_drop Ws k
  rw [List.drop_eq_getElem_cons hk, wcs_cons] at h
  rw [← List.getElem?_drop, h, List.getElem?_append_left (by rw [wv_len]; exact hj), Array.getElem?_toList]
theorem wcs_set {Ws : List (List Nat)} {k : Nat} (W : List Nat) (hk : k < Ws.length) : wcs (Ws.set k W) = (wcs Ws).take (k * 32) ++ (wv W).toList ++ (wcs Ws).drop (k * 32 + 32) := by
  rw [show k * 32 + 32 = (k + 1) * 32 by omega, wcs_take, wcs_drop, List.set_eq_take_append_cons_drop, if_pos hk, wcs_append, wcs_cons, List.append_assoc]
theorem wv_one (W : List Nat) : ∀ u ∈ (wv W).toList, u.oneCell' = true := fun u hu => by
  have h := bc_one 32 fun i => W.getD i 0
  rw [Array.all_eq_true_iff_forall_mem] at h
  exact h u (Array.mem_toList_iff.1 hu)
/-- A stack in memory, its words Ws. -/
abbrev StkIn (B ty : Nat) (w : World) (b : Nat) (v : Value) (Ws : List (List Nat)) : Prop := RowIn B ty 25 32 w b v Ws.length (wcs Ws)
theorem wordW_info : (Try.prog.info? 25).map (fun i => (i.zero, i.size, i.bytes)) = some (some (.agg (wv zs32)), 32, 32) := by kernel_rfl
theorem own_cellsW {w : World} {B g n c k : Nat} {Ws : List (List Nat)} (h : w.ownsRow B 25 32 (.slice (some ⟨g, 0, none⟩) n c) n (wcs Ws)) (hk : k < Ws.length) : w.rangeAt g (k * 32) (wv Ws[k]).toList := by
  intro j v hj
  have hj' : j < 32 := by
    have := (List.getElem?_eq_some_iff.1 hj).1
    rwa [wv_len] at this
  have := h.cells (g := g) rfl (k * 32 + j) v (by rw [wcs_get hk hj', ← Array.getElem?_toList]; exact hj)
  have hadd : (⟨g, 0, none⟩ : Addr).add (k * 32 + j) = ⟨g, k * 32 + j, none⟩ := by unfold Addr.add; split <;> simp_all
  rwa [hadd] at this
section
variable {o : Oper} {a : Act} {w : World}
theorem x_val {v : Value} (xo : Operand) (ho : o.op = .move xo ∨ o.op = .assign xo) (hx : a.eval xo = v) : (execOp a.eval o).run Try.prog w = .ok (.value v) w := by
  unfold execOp; rcases ho with ho | ho <;> simp only [ho, hx] <;> rfl
theorem x_nilck {p : Addr} (x : Operand) (ho : o.op = .nilCheck x) (hx : a.eval x = .pointer (some p)) : (execOp a.eval o).run Try.prog w = .ok (.value (.pointer (some p))) w := by
  unfold execOp; simp only [ho, hx]; rfl
theorem x_fa {v u : Value} (ty : TypeId) (x : Operand) (i : Nat) (ho : o.op = .fieldAddr ty x i) (hx : a.eval x = v) (hr : (Instr.fieldAt ty v i).run Try.prog w = .ok u w) : (execOp a.eval o).run Try.prog w = .ok (.value u) w := by
  unfold execOp; simp only [ho, hx, Sem.run_bind, hr, Result.andThen_ok, Sem.run_pure]
theorem x_cell {v : Value} {b j : Nat} (ty : TypeId) (x : Operand) (ho : o.op = .load ty x) (hx : a.eval x = .pointer (some ⟨b, j, none⟩)) (hl : w.cell? ⟨b, j, none⟩ = some v) (hu : ∀ w, (isAgg ty).run Try.prog w = .ok false w) :
    (execOp a.eval o).run Try.prog w = .ok (.value v) w := by
  unfold execOp
  simp only [ho, hx, Instr.loadAt, Instr.sureAddr, loadVar, Sem.run_bind, hu, Result.andThen_ok, Sem.run_pure, Bool.false_eq_true, if_false, run_load, hl]
theorem x_subI {m n s : Int} (ty yt : TypeId) (xo yo : Operand) (ho : o.op = .binOp .sub ty xo yo yt) (hx : a.eval xo = .int .i64 m) (hy : a.eval yo = .int .i64 n) (he : IntKind.i64.wrap (m - n) = s) : (execOp a.eval o).run Try.prog w = .ok (.value (.int .i64 s)) w := by
  unfold execOp; simp only [ho, hx, hy]; show Sem.run _ _ w = _; simp [eqGuard, binOp, Op.intArith, he]
theorem x_ldW {B g n c k : Nat} {Ws : List (List Nat)} {W : List Nat} (x : Operand) (ho : o.op = .load 25 x) (hx : a.eval x = .pointer (some ⟨g, k * 32, none⟩)) (h : w.ownsRow B 25 32 (.slice (some ⟨g, 0, none⟩) n c) n (wcs Ws)) (hk : k < Ws.length) (hW : Ws[k] = W) : (execOp a.eval o).run Try.prog w = .ok (.value (.agg (wv W))) w := by
  subst hW
  have h := run_loadAt_mid (P := Try.prog) w g (k * 32) 25 (wv Ws[k]).toList _ (own_cellsW h hk) wordN_type rfl (by rw [wv_len]; exact wordN_size)
  rw [Array.toArray_toList] at h
  unfold execOp
  simp only [ho, hx, Sem.run_bind, h, Result.andThen_ok, Sem.run_pure]
theorem x_ldB {b : Nat} {t : TypeId} {W : List Nat} (x : Operand) (ho : o.op = .load 25 x) (hx : a.eval x = .pointer (some ⟨b, 0, none⟩)) (hB : Blk w b t (wv W)) : (execOp a.eval o).run Try.prog w = .ok (.value (.agg (wv W))) w := by
  have hr := hB.load (P := Try.prog) wordN_type rfl wordN_size (bc_size _ _)
  unfold execOp
  simp only [ho, hx, Sem.run_bind, hr, Result.andThen_ok, Sem.run_pure]
end
/-- A word is stored into a row of one's own. -/
theorem run_stW {w : World} {B g n c k : Nat} {Ws : List (List Nat)} {W : List Nat} (h : w.ownsRow B 25 32 (.slice (some ⟨g, 0, none⟩) n c) n (wcs Ws)) (hk : k < Ws.length) :
    ∃ w', (Instr.storeAt 25 (.pointer (some ⟨g, k * 32, none⟩)) (.agg (wv W))).run Try.prog w = .ok () w' ∧ w'.ownsRow B 25 32 (.slice (some ⟨g, 0, none⟩) n c) n (wcs (Ws.set k W)) ∧ Only g w w' := by
  have hl := h.1
  rw [wcs_len] at hl
  obtain ⟨_, ⟨h1, _⟩ | ⟨g', cap, cur, he, hB, hb, hnc, hcm, hsz, htk⟩⟩ := h
  · cases h1
  injection he with e1 _ e3
  injection e1 with e1
  injection e1 with e1
  subst e1 e3
  have hs := run_storeCells_at (P := Try.prog) g (k * 32) 25 (wv W).toList 0 cur w hb (by rw [wv_len, hsz]; omega) (wv_one W)
  have e : (wv W).size = 32 := bc_size _ _
  rw [Nat.add_zero, wv_len] at hs
  refine ⟨w.setRow g (cur.toList.take (k * 32) ++ (wv W).toList ++ cur.toList.drop (k * 32 + 32)).toArray, ?_, ⟨by rw [wcs_len, List.length_set]; omega, .inr ⟨g, c, (cur.toList.take (k * 32) ++ (wv W).toList ++ cur.toList.drop (k * 32 + 32)).toArray, rfl, hB, setRow_heap w g cur _ 25 _ hb, hnc, hcm, ?_, ?_⟩⟩, Only.setRow _ _ _⟩
  · cases hq : Try.prog.info? 25 with
    | none => have := wordN_size; simp [hq] at this
    | some i =>
      have hi : i.size = 32 := by have := wordN_size; simpa [hq] using this
      simp [Instr.storeAt, Instr.sureAddr, storeVar, sizeOf, typeInfo, hq, Value.cells, hi, e, hs]
  · simp only [List.size_toArray, List.length_append, List.length_take, List.length_drop, Array.length_toList, wv_len]
    omega
  · rw [wcs_set W hk, List.toList_toArray]
    have ht := take_splice cur.toList (wcs Ws) (wv W).toList (n * 32) (k * 32) htk (by rw [wcs_len]; omega) (by rw [wv_len]; omega)
    rw [wv_len] at ht
    rw [← ht, List.append_assoc]
section
variable {a : Act} {w : World} {o : Oper} {Q : Exit → Act → World → Prop} {md : Region.Mode} {S : World → Prop} {fuel : Nat} {listed : Array Bool} {ops : Array Oper}
/-- What yields in every world that is met is taken first. -/
theorem held_in {l0 : List Oper} {v : Value} (i : Nat) (hi : l0[i]? = some o) (hs : Region.noSelect l0.toArray = true) (hf : Region.free md l0.toArray listed i = true) (hr : (Region.ready md l0.toArray listed).contains i = true) (hQ : ∀ c a w, Q (.panic c) (a.put o.dst v) w → Q (.panic c) a w) (hS : S w)
    (hw : Region.wanted o (yielded l0.toArray a.tmps) = true) (hx : ∀ w, S w → (execOp a.eval o).run Try.prog w = .ok (.value v) w)
    (h : wpAnyH Try.prog md l0.toArray Q S fuel (listed.setIfInBounds i true) (a.put o.dst v) w) : wpAnyH Try.prog md l0.toArray Q S (fuel + 1) listed a w :=
  wpAnyH_take (by rw [List.getElem?_toArray]; exact hi) hs hf hr hQ (.inl ⟨hw, fun w hS => by rw [hx w hS]⟩) hS h
/-- Numbers j and k come up, whichever is first. -/
theorem held_two {P : Program} (j k : Nat) (hr : Region.ready md ops listed = [j, k]) (h1 : wpOp P ops Q j (fun a' w' => S w' ∧ wpAnyH P md ops Q S fuel (listed.setIfInBounds j true) a' w') a w) (h2 : wpOp P ops Q k (fun a' w' => S w' ∧ wpAnyH P md ops Q S fuel (listed.setIfInBounds k true) a' w') a w) : wpAnyH P md ops Q S (fuel + 1) listed a w :=
  wpAnyH_all hr (by simp) (fun i hi => by
    have : i = j ∨ i = k := by simpa using hi
    rcases this with rfl | rfl
    · exact h1
    · exact h2)
/-- An operation that yields a value and turns nothing. -/
theorem held_x {l0 : List Oper} {n : Nat} {K : Act → World → Prop} {v : Value} (ho : l0[n]? = some o) (hw : Region.wanted o (yielded l0.toArray a.tmps) = true) (hr : (execOp a.eval o).run Try.prog w = .ok (.value v) w)
    (h : K (a.put o.dst v) w) : wpOp Try.prog l0.toArray Q n K a w := by
  have ho' : l0.toArray[n]? = some o := by rw [List.getElem?_toArray]; exact ho
  unfold wpOp
  simp only [ho', hw, if_true]
  refine .inl ?_
  unfold Oper.wp
  simp only [hr]
  exact h
/-- A value is stored into the one cell of a struct. -/
theorem held_stV {l0 : List Oper} {n : Nat} {K : Act → World → Prop} {b : Nat} {t ty : TypeId} {v v' : Value} {xo yo : Operand} (hB : Blk w b t #[v]) (hv : v'.oneCell' = true) (hi : (Try.prog.info? ty).map (·.size) = some 1)
    (ho : l0[n]? = some o) (hw : Region.wanted o (yielded l0.toArray a.tmps) = true) (hop : o.op = .store ty xo yo) (hx : a.eval xo = .pointer (some ⟨b, 0, none⟩)) (hy : a.eval yo = v')
    (h : ∀ w', Only b w w' → Blk w' b t #[v'] → K (a.put o.dst undef) w') : wpOp Try.prog l0.toArray Q n K a w := by
  have ho' : l0.toArray[n]? = some o := by rw [List.getElem?_toArray]; exact ho
  have hc : v'.cells = #[v'] := by cases v' <;> first | rfl | exact absurd hv (by simp [Value.oneCell'])
  have hr : (Instr.storeAt ty (.pointer (some ⟨b, 0, none⟩)) v').run Try.prog w = .ok () (w.setCell ⟨b, 0, none⟩ v') := by
    cases hq : Try.prog.info? ty with
    | none => simp [hq] at hi
    | some i =>
      have hs : i.size = 1 := by simpa [hq] using hi
      have hcell : w.cell? ⟨b, 0, none⟩ = some v := hB.cell rfl
      simp [Instr.storeAt, Instr.sureAddr, storeVar, sizeOf, typeInfo, hq, hc, hs, storeCells, Addr.add, run_store Try.prog w ⟨b, 0, none⟩ v' .plain hv, hcell, hB.free 0]
  unfold wpOp
  simp only [ho', hw, if_true]
  refine .inl ?_
  unfold Oper.wp execOp
  simp only [hop, hx, hy, Sem.run_bind, hr, Result.andThen_ok, Sem.run_pure]
  exact h _ (Only.setCell w ⟨b, 0, none⟩ v') (by have := hB.set 0 v'; simpa using this)
/-- A word is stored into a row. -/
theorem held_stW {l0 : List Oper} {m : Nat} {K : Act → World → Prop} {B g n c k : Nat} {Ws : List (List Nat)} {W : List Nat} {xo yo : Operand} (hown : w.ownsRow B 25 32 (.slice (some ⟨g, 0, none⟩) n c) n (wcs Ws)) (hk : k < Ws.length)
    (ho : l0[m]? = some o) (hw : Region.wanted o (yielded l0.toArray a.tmps) = true) (hop : o.op = .store 25 xo yo) (hx : a.eval xo = .pointer (some ⟨g, k * 32, none⟩)) (hy : a.eval yo = .agg (wv W))
    (h : ∀ w', Only g w w' → w'.ownsRow B 25 32 (.slice (some ⟨g, 0, none⟩) n c) n (wcs (Ws.set k W)) → K (a.put o.dst undef) w') : wpOp Try.prog l0.toArray Q m K a w := by
  have ho' : l0.toArray[m]? = some o := by rw [List.getElem?_toArray]; exact ho
  obtain ⟨w', hr, h1, h2⟩ := run_stW (W := W) hown hk
  unfold wpOp
  simp only [ho', hw, if_true]
  refine .inl ?_
  unfold Oper.wp execOp
  simp only [hop, hx, hy, Sem.run_bind, hr, Result.andThen_ok, Sem.run_pure]
  exact h _ h2 h1
end
end Go.Proofs.Ytklpcppdjcedpaa
