/- States: what lies in memory: a state's block, its accounts, the map that leads to them; steps. -/
import Derived.Test.YtopfmaoeebgjmaaGreatDoorM01
import Derived.Test.YtopfmaoeebgjmaaGreatDoorM20
import Derived.Test.YtopfmaoeebgjmaaGreatDoorM21
import Derived.Maps.OwnSet
set_option linter.unusedVariables false
set_option linter.unusedSimpArgs false
namespace Go.Proofs.YtopfmaoeebgjmaaGreatDoor
section
open Go.RowKit Go.WideMaps Go.ChangeMaps Go.MapKept
set_option maxRecDepth 100000
def Ad (A : List Nat) : Prop := A.length = 20 ∧ ∀ x ∈ A, x < 256
abbrev av (A : List Nat) : Array Value := arrV 20 A
theorem av_one (A : List Nat) : (av A).all (·.oneCell') = true := bc_one _ _
theorem wc_one (x : Nat) : (wcells x).all (·.oneCell') = true := bc_one _ _
theorem wc_size (x : Nat) : (wcells x).size = 32 := bc_size _ _
theorem wcL (x : Nat) : (wcells x).toList.length = 32 := by rw [Array.length_toList, wc_size]
def acA (n x : Nat) : Array Value := (Value.int .i64 (n : Int) :: ((wcells x).toList ++ [.string ⟨#[]⟩, .map none])).toArray
theorem acA_size (n x : Nat) : (acA n x).size = 35 := by simp [acA, wc_size]
theorem acA_n (n x : Nat) : (acA n x)[0]? = some (.int .i64 (n : Int)) := rfl
theorem acA_x (n x j : Nat) (h : j < 32) : (acA n x)[1 + j]? = (wcells x)[j]? := by
  simp only [acA, List.getElem?_toArray]
  rw [show 1 + j = j + 1 by omega, List.getElem?_cons_succ, List.getElem?_append_left (by rw [wcL]; exact h), Array.getElem?_toList]
theorem acA_c (n x : Nat) : (acA n x)[33]? = some (.string ⟨#[]⟩) := by
  simp only [acA, List.getElem?_toArray]
  rw [List.getElem?_cons_succ, List.getElem?_append_right (by rw [wcL]; exact Nat.le_refl _), wcL]; rfl
theorem acA_s (n x : Nat) : (acA n x)[34]? = some (.map none) := by
  simp only [acA, List.getElem?_toArray]
  rw [List.getElem?_cons_succ, List.getElem?_append_right (by rw [wcL]; decide), wcL]; rfl
theorem acA_one (n x : Nat) : (acA n x).all (·.oneCell') = true := by
  rw [Array.all_eq_true_iff_forall_mem]
  intro v hv
  have h1 : v ∈ Value.int .i64 (n : Int) :: ((wcells x).toList ++ [.string ⟨#[]⟩, .map none]) := by unfold acA at hv; exact List.mem_toArray.1 hv
  rcases List.mem_cons.1 h1 with rfl | h1
  · rfl
  · rcases List.mem_append.1 h1 with h1 | h1
    · have := wc_one x
      rw [Array.all_eq_true_iff_forall_mem] at this
      exact this v (Array.mem_toList_iff.1 h1)
    · rcases List.mem_cons.1 h1 with rfl | h1
      · rfl
      · rcases List.mem_cons.1 h1 with rfl | h1
        · rfl
        · cases h1
theorem acA_setn (n m x : Nat) : (acA n x).setIfInBounds 0 (.int .i64 (m : Int)) = acA m x := by
  simp [acA]
def splS (c : Array Value) (o : Nat) (c' : Array Value) : Array Value := (c.toList.take o ++ c'.toList ++ c.toList.drop (o + c'.toList.length)).toArray
def nonC (A : List Nat) (n : Nat) : Array Value := ((av A).toList ++ [Value.int .i64 (n : Int)]).toArray
def balC (A : List Nat) (x : Nat) : Array Value := ((av A).toList ++ (wcells x).toList).toArray
theorem avL (A : List Nat) : (av A).toList.length = 20 := by rw [Array.length_toList, arrV_size]
theorem nonC_size (A : List Nat) (n : Nat) : (nonC A n).size = 21 := by simp [nonC, arrV_size]
theorem balC_size (A : List Nat) (x : Nat) : (balC A x).size = 52 := by simp [balC, arrV_size, wc_size]
theorem nonC_a (A : List Nat) (n j : Nat) (h : j < 20) : (nonC A n)[0 + j]? = (av A)[j]? := by
  simp only [nonC, List.getElem?_toArray]
  rw [Nat.zero_add, List.getElem?_append_left (by rw [avL]; exact h), Array.getElem?_toList]
theorem balC_a (A : List Nat) (x j : Nat) (h : j < 20) : (balC A x)[0 + j]? = (av A)[j]? := by
  simp only [balC, List.getElem?_toArray]
  rw [Nat.zero_add, List.getElem?_append_left (by rw [avL]; exact h), Array.getElem?_toList]
theorem nonC_n (A : List Nat) (n : Nat) : (nonC A n)[20]? = some (.int .i64 (n : Int)) := by
  simp only [nonC, List.getElem?_toArray]
  rw [List.getElem?_append_right (by rw [avL]; exact Nat.le_refl _), avL]; rfl
theorem balC_w (A : List Nat) (x j : Nat) (h : j < 32) : (balC A x)[20 + j]? = (wcells x)[j]? := by
  simp only [balC, List.getElem?_toArray]
  rw [List.getElem?_append_right (by rw [avL]; omega), avL, Array.getElem?_toList]
  congr 1; omega
theorem one_app {l m : List Value} (h1 : ∀ v ∈ l, v.oneCell' = true) (h2 : ∀ v ∈ m, v.oneCell' = true) : (l ++ m).toArray.all (·.oneCell') = true := by
  rw [Array.all_eq_true_iff_forall_mem]
  intro v hv
  rcases List.mem_append.1 (List.mem_toArray.1 hv) with h | h
  · exact h1 v h
  · exact h2 v h
theorem all_list {c : Array Value} (h : c.all (·.oneCell') = true) : ∀ v ∈ c.toList, v.oneCell' = true := fun v hv => by
  rw [Array.all_eq_true_iff_forall_mem] at h
  exact h v (Array.mem_toList_iff.1 hv)
theorem nonC_one (A : List Nat) (n : Nat) : (nonC A n).all (·.oneCell') = true := one_app (all_list (av_one A)) (fun v hv => by rcases List.mem_singleton.1 hv with rfl; rfl)
theorem balC_one (A : List Nat) (x : Nat) : (balC A x).all (·.oneCell') = true := one_app (all_list (av_one A)) (all_list (wc_one x))
theorem nonC_set (A : List Nat) (n m : Nat) : (nonC A n).setIfInBounds 20 (.int .i64 (m : Int)) = nonC A m := by
  have h := avL A
  unfold nonC
  rw [List.setIfInBounds_toArray]
  congr 1
theorem balC_set (A : List Nat) (x y : Nat) : splS (balC A x) 20 (wcells y) = balC A y := by
  unfold splS balC
  rw [wcL]
  simp only [List.toList_toArray]
  rw [List.take_left' (avL A), List.drop_eq_nil_of_le (by rw [List.length_append, avL, wcL]; exact Nat.le_refl _), List.append_nil]
theorem acc_ty : Tryz.prog.underlying 79 = some (.struct (Tryz.prog.fieldsOf 79)) := by kernel_rfl
theorem acc_size : (Tryz.prog.info? 79).map (·.size) = some 35 := by kernel_rfl
theorem non_ty : Tryz.prog.underlying 60 = some (.struct (Tryz.prog.fieldsOf 60)) := by kernel_rfl
theorem bal_ty : Tryz.prog.underlying 62 = some (.struct (Tryz.prog.fieldsOf 62)) := by kernel_rfl
theorem non_size : (Tryz.prog.info? 60).map (·.size) = some 21 := by kernel_rfl
theorem bal_size : (Tryz.prog.info? 62).map (·.size) = some 52 := by kernel_rfl
theorem non_zero : (Tryz.prog.info? 60).bind (·.zero) = some (.agg (nonC [] 0)) := by kernel_rfl
theorem bal_zero : (Tryz.prog.info? 62).bind (·.zero) = some (.agg (balC [] 0)) := by kernel_rfl
theorem acc_zero : (Tryz.prog.info? 79).bind (·.zero) = some (.agg (acA 0 0)) := by kernel_rfl
theorem acc_build (w : World) : (Instr.build 79 #[]).run Tryz.prog w = .ok (.agg (acA 0 0)) w := by kernel_rfl
theorem mapA_ty : Tryz.prog.underlying 43 = some (.map 23 51) := by kernel_rfl
theorem ptrA_zero (w : World) : (zeroValue 51).run Tryz.prog w = .ok (.pointer none) w := by kernel_rfl
theorem word_zeroS : (Tryz.prog.info? 25).bind (·.zero) = some (.agg (wcells 0)) := by kernel_rfl
theorem one_size_map : (Tryz.prog.info? 43).map (·.size) = some 1 := by kernel_rfl
theorem map_agg (w : World) : (isAgg 43).run Tryz.prog w = .ok false w := by simp [isAgg, run_underlying mapA_ty]
theorem recs_agg (w : World) : (isAgg 44).run Tryz.prog w = .ok false w := by kernel_rfl
theorem int_aggS (w : World) : (isAgg 3).run Tryz.prog w = .ok false w := by kernel_rfl
theorem str_aggS (w : World) : (isAgg 9).run Tryz.prog w = .ok false w := by kernel_rfl
theorem slm_aggS (w : World) : (isAgg 77).run Tryz.prog w = .ok false w := by kernel_rfl
theorem fa_s0 (b : Nat) (w : World) : (Instr.fieldAt 46 (.pointer (some ⟨b, 0, none⟩)) 0).run Tryz.prog w = .ok (.pointer (some ⟨b, 0, none⟩)) w := by kernel_rfl
theorem fa_s1 (b : Nat) (w : World) : (Instr.fieldAt 46 (.pointer (some ⟨b, 0, none⟩)) 1).run Tryz.prog w = .ok (.pointer (some ⟨b, 1, none⟩)) w := by kernel_rfl
theorem fa_s2 (b : Nat) (w : World) : (Instr.fieldAt 46 (.pointer (some ⟨b, 0, none⟩)) 2).run Tryz.prog w = .ok (.pointer (some ⟨b, 2, none⟩)) w := by kernel_rfl
theorem fa_a0 (b : Nat) (w : World) : (Instr.fieldAt 79 (.pointer (some ⟨b, 0, none⟩)) 0).run Tryz.prog w = .ok (.pointer (some ⟨b, 0, none⟩)) w := by kernel_rfl
theorem fa_a1 (b : Nat) (w : World) : (Instr.fieldAt 79 (.pointer (some ⟨b, 0, none⟩)) 1).run Tryz.prog w = .ok (.pointer (some ⟨b, 1, none⟩)) w := by kernel_rfl
theorem fa_a2 (b : Nat) (w : World) : (Instr.fieldAt 79 (.pointer (some ⟨b, 0, none⟩)) 2).run Tryz.prog w = .ok (.pointer (some ⟨b, 33, none⟩)) w := by kernel_rfl
theorem fa_a3 (b : Nat) (w : World) : (Instr.fieldAt 79 (.pointer (some ⟨b, 0, none⟩)) 3).run Tryz.prog w = .ok (.pointer (some ⟨b, 34, none⟩)) w := by kernel_rfl
theorem fa_n0 (b : Nat) (w : World) : (Instr.fieldAt 60 (.pointer (some ⟨b, 0, none⟩)) 0).run Tryz.prog w = .ok (.pointer (some ⟨b, 0, none⟩)) w := by kernel_rfl
theorem fa_n1 (b : Nat) (w : World) : (Instr.fieldAt 60 (.pointer (some ⟨b, 0, none⟩)) 1).run Tryz.prog w = .ok (.pointer (some ⟨b, 20, none⟩)) w := by kernel_rfl
theorem fa_b0 (b : Nat) (w : World) : (Instr.fieldAt 62 (.pointer (some ⟨b, 0, none⟩)) 0).run Tryz.prog w = .ok (.pointer (some ⟨b, 0, none⟩)) w := by kernel_rfl
theorem fa_b1 (b : Nat) (w : World) : (Instr.fieldAt 62 (.pointer (some ⟨b, 0, none⟩)) 1).run Tryz.prog w = .ok (.pointer (some ⟨b, 20, none⟩)) w := by kernel_rfl
theorem eqA_some (b : Nat) (w : World) : (binOp .eql 51 (.pointer (some ⟨b, 0, none⟩)) (.pointer none)).run Tryz.prog w = .ok (.bool false) w := by kernel_rfl
theorem neA_some (b : Nat) (w : World) : (binOp .neq 51 (.pointer (some ⟨b, 0, none⟩)) (.pointer none)).run Tryz.prog w = .ok (.bool true) w := by kernel_rfl
theorem neA_none (w : World) : (binOp .neq 51 (.pointer none) (.pointer none)).run Tryz.prog w = .ok (.bool false) w := by kernel_rfl
theorem eqM_some (b : Nat) (w : World) : (binOp .eql 43 (.map (some b)) (.map none)).run Tryz.prog w = .ok (.bool false) w := by kernel_rfl
theorem eqM_none (w : World) : (binOp .eql 43 (.map none) (.map none)).run Tryz.prog w = .ok (.bool true) w := by kernel_rfl
theorem mkN (v : Value) (w : World) : (Instr.makeInterface 60 v).run Tryz.prog w = .ok (.iface 60 v) w := by kernel_rfl
theorem mkB (v : Value) (w : World) : (Instr.makeInterface 62 v).run Tryz.prog w = .ok (.iface 62 v) w := by kernel_rfl
theorem taNN (v : Value) (w : World) : (Instr.typeAssert (.iface 60 v) 92 60 true).run Tryz.prog w = .ok (.tuple #[v, .bool true]) w := by kernel_rfl
theorem taBN (v : Value) (w : World) : (Instr.typeAssert (.iface 62 v) 92 60 true).run Tryz.prog w = .ok (.tuple #[.agg (nonC [] 0), .bool false]) w := by kernel_rfl
theorem taBB (v : Value) (w : World) : (Instr.typeAssert (.iface 62 v) 92 62 true).run Tryz.prog w = .ok (.tuple #[v, .bool true]) w := by kernel_rfl
/-! ### Steps. -/
theorem Blk.storeS {w : World} {b o : Nat} {t ty : TypeId} {c c' : Array Value} (h : Blk w b t c) {n : Nat} (hi : (Tryz.prog.info? ty).map (·.size) = some n) (hn' : c'.size = n) (hl : o + c'.size ≤ c.size) (h1 : c'.all (·.oneCell') = true) :
    (Instr.storeAt ty (.pointer (some ⟨b, o, none⟩)) (.agg c')).run Tryz.prog w = .ok () (w.setRow b (splS c o c')) := by
  have := run_storeCells_at (P := Tryz.prog) b o t c'.toList 0 c w h (by simpa using hl) (fun x hx => (Array.all_eq_true_iff_forall_mem.1 h1) x (by simpa using hx))
  cases hq : Tryz.prog.info? ty with
  | none => simp [hq] at hi
  | some i =>
    have hs : i.size = n := by simpa [hq] using hi
    simp only [Nat.add_zero] at this
    simp [Instr.storeAt, Instr.sureAddr, storeVar, sizeOf, typeInfo, hq, Value.cells, hs, hn', this, splS]
theorem Blk.store1S {w : World} {b j : Nat} {t ty : TypeId} {c : Array Value} {v : Value} (h : Blk w b t c) (hi : (Tryz.prog.info? ty).map (·.size) = some 1) (hj : j < c.size) (hv : v.oneCell' = true) :
    (Instr.storeAt ty (.pointer (some ⟨b, j, none⟩)) v).run Tryz.prog w = .ok () (w.setCell ⟨b, j, none⟩ v) := by
  have hc : v.cells = #[v] := by cases v <;> first | rfl | exact absurd hv (by simp [Value.oneCell'])
  cases hq : Tryz.prog.info? ty with
  | none => simp [hq] at hi
  | some i =>
    have hs : i.size = 1 := by simpa [hq] using hi
    obtain ⟨u, hu⟩ : ∃ u, c[j]? = some u := ⟨c[j], Array.getElem?_eq_getElem hj⟩
    have hcell : w.cell? ⟨b, j, none⟩ = some u := h.cell hu
    simp [Instr.storeAt, Instr.sureAddr, storeVar, sizeOf, typeInfo, hq, hc, hs, storeCells, Addr.add, run_store Tryz.prog w ⟨b, j, none⟩ v .plain hv, hcell, h.free j]
section
variable {o : Oper} {a : Act} {w w' : World}
theorem x_ld {b : Nat} {t ty : TypeId} {d : TypeDesc} {c : Array Value} (x : Operand) (ho : o.op = .load ty x) (hx : a.eval x = .pointer (some ⟨b, 0, none⟩)) (hB : Blk w b t c) (hu : Tryz.prog.underlying ty = some d) (hd : d.isRow = true) (hs : (Tryz.prog.info? ty).map (·.size) = some c.size) :
    (execOp a.eval o).run Tryz.prog w = .ok (.value (.agg c)) w :=
  x_ldMid x ho hx (fun j v hv => by rw [Array.getElem?_toList] at hv; rw [Nat.zero_add]; exact hB.cell hv) hu hd hs
theorem x_ldIn {b q n : Nat} {t ty : TypeId} {d : TypeDesc} {c e : Array Value} (x : Operand) (ho : o.op = .load ty x) (hx : a.eval x = .pointer (some ⟨b, q, none⟩)) (hB : Blk w b t c) (he : e.size = n) (hc : ∀ j, j < n → c[q + j]? = e[j]?) (hu : Tryz.prog.underlying ty = some d) (hd : d.isRow = true) (hs : (Tryz.prog.info? ty).map (·.size) = some n) :
    (execOp a.eval o).run Tryz.prog w = .ok (.value (.agg e)) w :=
  x_ldMid x ho hx (fun j v hv => by
    have hj : j < n := by have := (List.getElem?_eq_some_iff.1 hv).1; rw [Array.length_toList] at this; omega
    rw [Array.getElem?_toList, ← hc j hj] at hv
    exact hB.cell hv) hu hd (by rw [he]; exact hs)
theorem x_bin {op : BinOp} {u v r : Value} (ty yt : TypeId) (xo yo : Operand) (ho : o.op = .binOp op ty xo yo yt) (hx : a.eval xo = u) (hy : a.eval yo = v) (hg : (eqGuard op ty xo yo u v).run Tryz.prog w = .ok () w) (hr : (binOp op ty u v).run Tryz.prog w = .ok r w) : (execOp a.eval o).run Tryz.prog w = .ok (.value r) w := by
  unfold execOp
  simp only [ho, hx, hy, Sem.run_bind, hg, hr, Result.andThen_ok, Sem.run_pure]
theorem x_bldA (ho : o.op = .build 79 #[]) : (execOp a.eval o).run Tryz.prog w = .ok (.value (.agg (acA 0 0))) w := by
  unfold execOp
  simp only [ho, List.map_toArray, List.map_nil, acc_build, Sem.run_bind, Result.andThen_ok, Sem.run_pure]
theorem x_mkI {v u : Value} (ty : TypeId) (x : Operand) (ho : o.op = .makeInterface ty x) (hx : a.eval x = v) (hr : (Instr.makeInterface ty v).run Tryz.prog w = .ok u w) : (execOp a.eval o).run Tryz.prog w = .ok (.value u) w := by
  unfold execOp
  simp only [ho, hx, Sem.run_bind, hr, Result.andThen_ok, Sem.run_pure]
theorem x_ta {v u : Value} (x : Operand) (t1 t2 : TypeId) (ho : o.op = .typeAssert x t1 t2 true) (hx : a.eval x = v) (hr : (Instr.typeAssert v t1 t2 true).run Tryz.prog w = .ok u w) : (execOp a.eval o).run Tryz.prog w = .ok (.value u) w := by
  unfold execOp
  simp only [ho, hx, Sem.run_bind, hr, Result.andThen_ok, Sem.run_pure]
theorem x_ext {v : Value} {vs : Array Value} (x : Operand) (i : Nat) (ho : o.op = .extract x i) (hx : a.eval x = .tuple vs) (hv : vs[i]? = some v) : (execOp a.eval o).run Tryz.prog w = .ok (.value v) w := by
  unfold execOp
  simp [ho, hx, Instr.extract, hv]
theorem x_not {s : Bool} (ty : TypeId) (x : Operand) (ho : o.op = .unOp .not ty x) (hx : a.eval x = .bool s) : (execOp a.eval o).run Tryz.prog w = .ok (.value (.bool (!s))) w := by
  unfold execOp; simp only [ho, hx]; show Sem.run _ _ w = _; simp [Op.unary]
end
section
variable {ops : Array Oper} {rest : List Oper} {o : Oper} {a : Act} {w w' : World} {Q : Exit → Act → World → Prop}
theorem st_run {v : Value} (hgd : o.guard = none) (hr : (execOp a.eval o).run Tryz.prog w = .ok (.value v) w') (h : wpList Tryz.prog ops Q rest (a.put o.dst v) w') : wpList Tryz.prog ops Q (o :: rest) a w :=
  wpList_plain hgd fun K hK => by
    unfold Oper.wp
    rw [hr]
    exact hK _ _ h
theorem st_callS {f : FuncId} {ts : Array TypeId} {xs : Array Operand} {args : Array Value} {R : Ending → World → Prop} (hgd : o.guard = none) (hop : o.op = .call { callee := .value (.func f), args := xs, argTypes := ts }) (ha : xs.map a.eval = args) (hf : ∀ args w, (callFunc f args).run Tryz.prog w = .ok (.enter f args) w)
    (hc : Calls Tryz.prog f args w R) (h : ∀ e w', R e w' → ∃ v, e = .returned v ∧ wpList Tryz.prog ops Q rest (a.put o.dst v) w') : wpList Tryz.prog ops Q (o :: rest) a w :=
  wpList_plain hgd fun K hK => by
    subst ha
    have hr : (execOp a.eval o).run Tryz.prog w = .ok (.enter f (xs.map a.eval)) w := by unfold execOp; simp [hop, resolve, invoke, hf, show a.eval (.func f) = .func (.func f) #[] #[] from rfl, Deferred.ofValue]
    unfold Oper.wp
    rw [hr]
    exact hc.mono fun e w' hR => by
      obtain ⟨v, rfl, hk⟩ := h e w' hR
      exact hK _ _ hk
theorem held_callS {l0 : List Oper} {n : Nat} {K : Act → World → Prop} {f : FuncId} {ts : Array TypeId} {xs : Array Operand} {args : Array Value} {R : Ending → World → Prop} (ho : l0[n]? = some o) (hw : Region.wanted o (yielded l0.toArray a.tmps) = true)
    (hop : o.op = .call { callee := .value (.func f), args := xs, argTypes := ts }) (ha : xs.map a.eval = args) (hf : ∀ args w, (callFunc f args).run Tryz.prog w = .ok (.enter f args) w)
    (hc : Calls Tryz.prog f args w R) (h : ∀ e w', R e w' → ∃ v, e = .returned v ∧ K (a.put o.dst v) w') : wpOp Tryz.prog l0.toArray Q n K a w :=
  o_callR (by rw [List.getElem?_toArray]; exact ho) hw (by subst ha; unfold execOp; simp [hop, resolve, invoke, hf, show a.eval (.func f) = .func (.func f) #[] #[] from rfl, Deferred.ofValue]) hc h
theorem st_end14 {P : Program} {ops : Array Oper} {a : Act} {w : World} {Q : Exit → Act → World → Prop} (h : Q .normal a w) : wpList P ops Q [] a w := h
theorem st_skip (hgd : o.guard = none) (hr : (execOp a.eval o).run Tryz.prog w = .ok .skip w') (h : wpList Tryz.prog ops Q rest (a.put o.dst undef) w') : wpList Tryz.prog ops Q (o :: rest) a w :=
  wpList_plain hgd fun K hK => by
    unfold Oper.wp
    rw [hr]
    exact hK _ _ h
theorem held_skip {l0 : List Oper} {n : Nat} {K : Act → World → Prop} (ho : l0[n]? = some o) (hw : Region.wanted o (yielded l0.toArray a.tmps) = true) (hr : (execOp a.eval o).run Tryz.prog w = .ok .skip w')
    (h : K (a.put o.dst undef) w') : wpOp Tryz.prog l0.toArray Q n K a w := by
  have ho' : l0.toArray[n]? = some o := by rw [List.getElem?_toArray]; exact ho
  unfold wpOp
  simp only [ho', hw, if_true]
  refine .inl ?_
  unfold Oper.wp
  simp only [hr]
  exact h
theorem held_run {l0 : List Oper} {n : Nat} {K : Act → World → Prop} {v : Value} (ho : l0[n]? = some o) (hw : Region.wanted o (yielded l0.toArray a.tmps) = true) (hr : (execOp a.eval o).run Tryz.prog w = .ok (.value v) w')
    (h : K (a.put o.dst v) w') : wpOp Tryz.prog l0.toArray Q n K a w := by
  have ho' : l0.toArray[n]? = some o := by rw [List.getElem?_toArray]; exact ho
  unfold wpOp
  simp only [ho', hw, if_true]
  refine .inl ?_
  unfold Oper.wp
  simp only [hr]
  exact h
end
section
variable {o : Oper} {a : Act} {w w' : World}
theorem r_store {b q n : Nat} {t ty : TypeId} {c c' : Array Value} (xo yo : Operand) (ho : o.op = .store ty xo yo) (hx : a.eval xo = .pointer (some ⟨b, q, none⟩)) (hy : a.eval yo = .agg c') (hB : Blk w b t c) (hi : (Tryz.prog.info? ty).map (·.size) = some n) (hn' : c'.size = n) (hl : q + c'.size ≤ c.size) (h1 : c'.all (·.oneCell') = true) :
    (execOp a.eval o).run Tryz.prog w = .ok .skip (w.setRow b (splS c q c')) := by
  have := hB.storeS hi hn' hl h1
  unfold execOp
  simp only [ho, hx, hy, Sem.run_bind, this, Result.andThen_ok, Sem.run_pure]
theorem r_store1 {b j : Nat} {t ty : TypeId} {c : Array Value} {v : Value} (xo yo : Operand) (ho : o.op = .store ty xo yo) (hx : a.eval xo = .pointer (some ⟨b, j, none⟩)) (hy : a.eval yo = v) (hB : Blk w b t c) (hi : (Tryz.prog.info? ty).map (·.size) = some 1) (hj : j < c.size) (hv : v.oneCell' = true) :
    (execOp a.eval o).run Tryz.prog w = .ok .skip (w.setCell ⟨b, j, none⟩ v) := by
  have := hB.store1S hi hj hv
  unfold execOp
  simp only [ho, hx, hy, Sem.run_bind, this, Result.andThen_ok, Sem.run_pure]
end
/-! ### The map of accounts. -/
def PtrR (v : Value) : Option (DataW Unit × List MemPlace) :=
  match v with
  | .pointer none => some (.nil, [])
  | .pointer (some ⟨b, 0, none⟩) => some (.lit (.int .i64 (b : Int)), [])
  | _ => none
def ptrD : Option Nat → DataW Unit
  | none => .nil
  | some b => .lit (.int .i64 (b : Int))
def ptrZ (o : Option Nat) (z : DataW Unit) : DataW Unit := match o with
  | none => z
  | some b => ptrD (some b)
theorem ptrZ_nil (o : Option Nat) : ptrZ o .nil = ptrD o := by cases o <;> rfl
def ptrV : Option Nat → Value
  | none => .pointer none
  | some b => .pointer (some ⟨b, 0, none⟩)
theorem PtrR_inv {v : Value} {o : Option Nat} {ps : List MemPlace} (h : PtrR v = some (ptrD o, ps)) : v = ptrV o := by
  unfold PtrR at h
  split at h
  · cases o with
    | none => rfl
    | some b => simp [ptrD] at h
  · cases o with
    | none => simp [ptrD] at h
    | some b =>
      simp only [ptrD, Option.some.injEq, Prod.mk.injEq, DataW.lit.injEq, Lit.int.injEq, true_and] at h
      have := h.1
      rw [show (_ : Nat) = b from Int.ofNat.inj this]
      rfl
  · cases h
theorem PtrR_mk (o : Option Nat) : PtrR (ptrV o) = some (ptrD o, []) := by cases o <;> rfl
def MapP (B N : Nat) (w : World) (mv : Value) (F : List Nat → Option Nat) : Prop :=
  (mv = .map none ∧ ∀ A, F A = none) ∨ ∃ r n D, mv = .map (some r) ∧ B ≤ r ∧ n ≤ N ∧ w.ownsMap Tryz.prog 23 PtrR r n D ∧ Maps.IsMap D ∧ ∀ A, Ad A → ∀ z, D.atKey (keyL A) z = ptrZ (F A) z
theorem MapP.far {B N : Nat} {w w' : World} {mv : Value} {F : List Nat → Option Nat} (h : MapP B N w mv F) (hb : ∀ r, mv = .map (some r) → w'.heap[r]? = w.heap[r]?) : MapP B N w' mv F := by
  rcases h with h | ⟨r, n, D, rfl, h1, h2, h3, h4, h5⟩
  · exact .inl h
  · refine .inr ⟨r, n, D, rfl, h1, h2, ?_, h4, h5⟩
    obtain ⟨es, clock, hb', F', hs, hD⟩ := h3
    exact ⟨es, clock, (hb r rfl).trans hb', F', hs, hD⟩
theorem MapP.lt {B N : Nat} {w : World} {r : Nat} {F : List Nat → Option Nat} (h : MapP B N w (.map (some r)) F) : r < w.heap.size ∧ B ≤ r := by
  rcases h with ⟨h, _⟩ | ⟨r', n, D, e, h1, h2, h3, h4, h5⟩
  · cases h
  · cases e; exact ⟨h3.lt, h1⟩
def upF (F : List Nat → Option Nat) (A : List Nat) (o : Option Nat) : List Nat → Option Nat := fun X => if X = A then o else F X
section
variable {o : Oper} {a : Act} {w w' : World} {B N : Nat} {mv : Value} {F : List Nat → Option Nat} {A : List Nat}
theorem x_look (hM : MapP B N w mv F) (hA : Ad A) (mo xo : Operand) (ho : o.op = .lookup 43 mo xo false) (hm : a.eval mo = mv) (hx : a.eval xo = .agg (av A)) : (execOp a.eval o).run Tryz.prog w = .ok (.value (ptrV (F A))) w := by
  have hkey := keyOf_arr addrArr hA.1 hA.2
  rcases hM with ⟨rfl, h⟩ | ⟨r, n, D, rfl, h1, h2, h3, h4, h5⟩
  · have hr := Maps.look_nil (w := w) false addrKeyed mapA_ty (ptrA_zero w) hkey
    unfold execOp
    simp [ho, hm, hx, hr, h A, ptrV]
  · obtain ⟨v, ps, hr, hv⟩ := h3.lookup addrKeyed mapA_ty (ptrA_zero w) (zd := .nil) (zp := []) rfl hkey
    rw [h5 A hA, ptrZ_nil] at hv
    have e := PtrR_inv hv
    subst e
    unfold execOp
    simp [ho, hm, hx, hr]
theorem r_mapPut {r b : Nat} (hM : MapP B N w (.map (some r)) F) (hN : N < maxLen) (hA : Ad A) (mo xo vo : Operand) (ho : o.op = .mapUpdate 43 mo xo vo) (hm : a.eval mo = .map (some r)) (hx : a.eval xo = .agg (av A)) (hv : a.eval vo = .pointer (some ⟨b, 0, none⟩)) :
    ∃ w', (execOp a.eval o).run Tryz.prog w = .ok .skip w' ∧ MapP B (N + 1) w' (.map (some r)) (upF F A (some b)) ∧ Tch [r] w w' := by
  have hkey := keyOf_arr addrArr hA.1 hA.2
  rcases hM with ⟨e, h⟩ | ⟨r', n, D, e, h1, h2, h3, h4, h5⟩
  · cases e
  cases e
  obtain ⟨w1, hr, g1, g2⟩ := h3.update addrKeyed mapA_ty (Nat.lt_of_le_of_lt h2 hN) hkey (PtrR_mk (some b))
  refine ⟨w1, ?_, .inr ⟨r, n + 1, _, rfl, h1, by omega, g1, h4.put _ _, fun X hX z => ?_⟩, tch_grow g2⟩
  · have hr' : (Instr.mapUpdate 43 (.map (some r)) (.agg (av A)) (.pointer (some ⟨b, 0, none⟩))).run Tryz.prog w = .ok () w1 := hr
    unfold execOp
    simp [ho, hm, hx, hv, hr']
  · unfold upF
    by_cases hXA : X = A
    · subst hXA; rw [if_pos rfl, Maps.atKey_put_same h4 (keyL_is _)]; try rfl
    · rw [if_neg hXA, Maps.atKey_put_other (fun e => hXA (keyL_inj addrArr hX.1 hX.2 hA.1 hA.2 e))]
      exact h5 X hX z
theorem r_mapDel (hM : MapP B N w mv F) (hA : Ad A) (mo xo : Operand) (ho : o.op = .call { callee := .builtin .delete, args := #[mo, xo], argTypes := #[43, 23] }) (hm : a.eval mo = mv) (hx : a.eval xo = .agg (av A)) :
    ∃ w', (execOp a.eval o).run Tryz.prog w = .ok (.value (.tuple #[])) w' ∧ MapP B N w' mv (upF F A none) ∧ (∀ r, mv = .map (some r) → Tch [r] w w') ∧ (mv = .map none → w' = w) := by
  have hkey := keyOf_arr addrArr hA.1 hA.2
  rcases hM with ⟨rfl, h⟩ | ⟨r, n, D, rfl, h1, h2, h3, h4, h5⟩
  · have hr := Maps.drop_nil (w := w) addrKeyed mapA_ty hkey o.type
    refine ⟨w, ?_, .inl ⟨rfl, fun X => by unfold upF; split; rfl; exact h X⟩, fun r e => (by cases e), fun _ => rfl⟩
    unfold execOp
    simp [ho, resolve, invoke, builtin, hm, hx, hr]
  · obtain ⟨w1, hr, g1, g2⟩ := h3.drop addrKeyed mapA_ty hkey o.type
    refine ⟨w1, ?_, .inr ⟨r, n, _, rfl, h1, h2, g1, h4.del _, fun X hX z => ?_⟩, fun r' e => ?_, fun e => (by cases e)⟩
    · unfold execOp
      simp [ho, resolve, invoke, builtin, hm, hx, hr]
    · unfold upF
      by_cases hXA : X = A
      · subst hXA; rw [if_pos rfl, Maps.atKey_del_same]; rfl
      · rw [if_neg hXA, Maps.atKey_del_other (fun e => hXA (keyL_inj addrArr hX.1 hX.2 hA.1 hA.2 e))]
        exact h5 X hX z
    · cases e
      obtain ⟨es, clock, es', clock', hb, rfl⟩ := g2
      exact ⟨rfl, rfl, rfl, by simp [setBlock], fun k _ hk => heap_setBlock_other hb _ (fun e => hk (by simp [e]))⟩
theorem r_mkMap (ho : o.op = .makeMap 43 none) : (execOp a.eval o).run Tryz.prog w = .ok (.value (.map (some w.heap.size))) (w.alloc (.map #[] 0)) := by
  have hr : (Instr.makeMap 43 none).run Tryz.prog w = .ok (.map (some w.heap.size)) (w.alloc (.map #[] 0)) := rfl
  unfold execOp
  simp only [ho, Option.map_none, Sem.run_bind, hr, Result.andThen_ok, Sem.run_pure]
theorem MapP.made (B N : Nat) (w : World) (hB : B ≤ w.heap.size) (F : List Nat → Option Nat) (hF : ∀ A, Ad A → F A = none) : MapP B N (w.alloc (.map #[] 0)) (.map (some w.heap.size)) F :=
  .inr ⟨w.heap.size, 0, .map [], rfl, hB, Nat.zero_le _, World.ownsMap_made _ _ _ _, Maps.isMap_empty, fun A hA z => by rw [hF A hA]; rfl⟩
end
end
section
open Go.RowKit Go.WideMaps Go.ChangeMaps Go.MapKept
set_option maxRecDepth 100000
def wL (x : Nat) : List Nat := (List.range 32).map (byt x)
theorem wL_len (x : Nat) : (wL x).length = 32 := by simp [wL]
theorem wL_lt (x : Nat) : ∀ b ∈ wL x, b < 256 := fun b hb => by
  obtain ⟨i, _, rfl⟩ := List.mem_map.1 hb
  exact byt_lt x i
theorem wL_arr (x : Nat) : arrV 32 (wL x) = wcells x := bc_congr fun i hi => by
  show (wL x).getD i 0 = byt x i
  unfold wL
  rw [List.getD_eq_getElem?_getD, List.getElem?_map, List.getElem?_range hi]
  rfl
def keyW (x : Nat) : Lit := keyL (wL x)
theorem keyW_is (x : Nat) : WideAt.IsKeyLit (keyW x) := keyL_is _
theorem keyOf_word (x : Nat) : keyOf Tryz.prog 25 (.agg (wcells x)) = some (keyW x) := by
  rw [← wL_arr]
  exact keyOf_arr wordArr (wL_len x) (wL_lt x)
theorem keyW_inj {x y : Nat} (hx : x < M256) (hy : y < M256) (h : keyW x = keyW y) : x = y :=
  wcells_inj hx hy (by rw [← wL_arr, ← wL_arr, keyL_inj wordArr (wL_len x) (wL_lt x) (wL_len y) (wL_lt y) h])
def wd (x : Nat) : DataW Unit := .lit (.int .i64 (x : Int))
theorem wd_inj {x y : Nat} (h : wd x = wd y) : x = y := by
  unfold wd at h
  injection h with h
  injection h with _ h
  exact Int.ofNat.inj h
open Classical in
noncomputable def WordR (v : Value) : Option (DataW Unit × List MemPlace) := if h : ∃ x, x < M256 ∧ v = .agg (wcells x) then some (wd h.choose, []) else none
theorem WordR_mk {x : Nat} (hx : x < M256) : WordR (.agg (wcells x)) = some (wd x, []) := by
  have h : ∃ y, y < M256 ∧ Value.agg (wcells x) = .agg (wcells y) := ⟨x, hx, rfl⟩
  unfold WordR
  rw [dif_pos h]
  obtain ⟨h1, h2⟩ := h.choose_spec
  injection h2 with h2
  rw [← wcells_inj hx h1 h2]
theorem WordR_inv {v : Value} {x : Nat} {ps : List MemPlace} (h : WordR v = some (wd x, ps)) : v = .agg (wcells x) := by
  unfold WordR at h
  split at h
  · rename_i hx
    obtain ⟨h1, h2⟩ := hx.choose_spec
    injection h with h
    have e := wd_inj (congrArg Prod.fst h)
    rw [← e]; exact h2
  · cases h
theorem mapW_tyS : Tryz.prog.underlying 77 = some (.map 25 25) := by kernel_rfl
theorem wordZ (w : World) : (zeroValue 25).run Tryz.prog w = .ok (.agg (wcells 0)) w := by kernel_rfl
def SlP (B N : Nat) (w : World) (mv : Value) (S : Nat → Nat) : Prop :=
  (∀ k, k < M256 → S k < M256) ∧ ((mv = .map none ∧ ∀ k, k < M256 → S k = 0) ∨ ∃ (r n : Nat) (D : DataW Unit) (ks : List Nat), mv = .map (some r) ∧ B ≤ r ∧ n ≤ N ∧ w.ownsMap Tryz.prog 25 WordR r n D ∧ (∀ k, k < M256 → D.atKey (keyW k) (wd 0) = wd (S k)) ∧
    (∀ k, k < M256 → Maps.has D (keyW k) = decide (k ∈ ks)) ∧ Maps.size D = ks.length ∧ (∀ k, k < M256 → (k ∈ ks ↔ S k ≠ 0)) ∧ (∀ k ∈ ks, k < M256) ∧ ks.Nodup)
theorem SlP.far {B N : Nat} {w w' : World} {mv : Value} {S : Nat → Nat} (h : SlP B N w mv S) (hb : ∀ r, mv = .map (some r) → w'.heap[r]? = w.heap[r]?) : SlP B N w' mv S := by
  obtain ⟨h0, h | ⟨r, n, D, ks, rfl, h1, h2, h3, h4⟩⟩ := h
  · exact ⟨h0, .inl h⟩
  · refine ⟨h0, .inr ⟨r, n, D, ks, rfl, h1, h2, ?_, h4⟩⟩
    obtain ⟨es, clock, hb', F', hs, hD⟩ := h3
    exact ⟨es, clock, (hb r rfl).trans hb', F', hs, hD⟩
theorem SlP.lt {B N : Nat} {w : World} {r : Nat} {S : Nat → Nat} (h : SlP B N w (.map (some r)) S) : r < w.heap.size ∧ B ≤ r := by
  obtain ⟨_, ⟨h, _⟩ | ⟨r', n, D, ks, e, h1, h2, h3, _⟩⟩ := h
  · cases h
  · cases e; exact ⟨h3.lt, h1⟩
theorem SlP.more {B N M : Nat} {w : World} {mv : Value} {S : Nat → Nat} (h : SlP B N w mv S) (hM : N ≤ M) : SlP B M w mv S := by
  obtain ⟨h0, h | ⟨r, n, D, ks, e, h1, h2, h3⟩⟩ := h
  · exact ⟨h0, .inl h⟩
  · exact ⟨h0, .inr ⟨r, n, D, ks, e, h1, Nat.le_trans h2 hM, h3⟩⟩
theorem SlP.none (B N : Nat) (w : World) {S : Nat → Nat} (hS : ∀ k, k < M256 → S k = 0) : SlP B N w (.map none) S := ⟨fun k hk => by rw [hS k hk]; decide, .inl ⟨rfl, hS⟩⟩
def upS (S : Nat → Nat) (k v : Nat) : Nat → Nat := fun j => if j = k then v else S j
section
variable {o : Oper} {a : Act} {w w' : World} {B N : Nat} {mv : Value} {S : Nat → Nat} {k v : Nat}
theorem x_lookS (hM : SlP B N w mv S) (hk : k < M256) (mo xo : Operand) (ho : o.op = .lookup 77 mo xo false) (hm : a.eval mo = mv) (hx : a.eval xo = .agg (wcells k)) : (execOp a.eval o).run Tryz.prog w = .ok (.value (.agg (wcells (S k)))) w := by
  have hkey := keyOf_word k
  obtain ⟨h0, ⟨rfl, h⟩ | ⟨r, n, D, ks, rfl, h1, h2, h3, h4, h5⟩⟩ := hM
  · have hr := Maps.look_nil (w := w) false wordKeyed mapW_tyS (wordZ w) hkey
    unfold execOp
    simp [ho, hm, hx, hr, h k hk]
  · obtain ⟨v, ps, hr, hv⟩ := h3.lookup wordKeyed mapW_tyS (wordZ w) (zd := wd 0) (zp := []) (WordR_mk (by decide)) hkey
    rw [h4 k hk] at hv
    have e := WordR_inv hv
    subst e
    unfold execOp
    simp [ho, hm, hx, hr]
theorem r_slPut {r : Nat} (hM : SlP B N w (.map (some r)) S) (hN : N < maxLen) (hk : k < M256) (hv : v < M256) (hv0 : v ≠ 0) (mo xo vo : Operand) (ho : o.op = .mapUpdate 77 mo xo vo) (hm : a.eval mo = .map (some r)) (hx : a.eval xo = .agg (wcells k)) (hy : a.eval vo = .agg (wcells v)) :
    ∃ w', (execOp a.eval o).run Tryz.prog w = .ok .skip w' ∧ SlP B (N + 1) w' (.map (some r)) (upS S k v) ∧ Tch [r] w w' := by
  have hkey := keyOf_word k
  obtain ⟨h0, ⟨e, h⟩ | ⟨r', n, D, ks, e, h1, h2, h3, h4, h5, h6, h7, h8, h9⟩⟩ := hM
  · cases e
  cases e
  obtain ⟨w1, hr, g1, g2⟩ := h3.update wordKeyed mapW_tyS (Nat.lt_of_le_of_lt h2 hN) hkey (WordR_mk hv)
  have hT := h3.tidy wordKeyed
  have hI := h3.isMap
  refine ⟨w1, ?_, ⟨fun j hj => by unfold upS; split; exact hv; exact h0 j hj, .inr ⟨r, n + 1, _, if k ∈ ks then ks else k :: ks, rfl, h1, by omega, g1, fun j hj => ?_, fun j hj => ?_, ?_, fun j hj => ?_, fun j hj => ?_, ?_⟩⟩, tch_grow g2⟩
  · have hr' : (Instr.mapUpdate 77 (.map (some r)) (.agg (wcells k)) (.agg (wcells v))).run Tryz.prog w = .ok () w1 := hr
    unfold execOp
    simp [ho, hm, hx, hy, hr']
  · unfold upS
    by_cases e : j = k
    · subst e; rw [if_pos rfl, Maps.atKey_put_same hI (keyW_is _)]
    · rw [if_neg e, Maps.atKey_put_other (fun he => e (keyW_inj hj hk he))]
      exact h4 j hj
  · by_cases e : j = k
    · subst e
      rw [Maps.has_put_same hI (keyW_is _)]
      split <;> simp_all
    · rw [Maps.has_put_other (fun he => e (keyW_inj hj hk he)), h5 j hj]
      split <;> simp_all
  · rw [Maps.size_put hT, h5 k hk, h6]
    split <;> simp_all
  · unfold upS
    by_cases e : j = k
    · subst e
      rw [if_pos rfl]
      split <;> simp_all
    · rw [if_neg e, ← h7 j hj]
      split <;> simp_all
  · split at hj
    · exact h8 j hj
    · rcases List.mem_cons.1 hj with rfl | hj
      · exact hk
      · exact h8 j hj
  · split
    · exact h9
    · rename_i hn
      exact List.nodup_cons.2 ⟨hn, h9⟩
theorem r_slDel (hM : SlP B N w mv S) (hk : k < M256) (mo xo : Operand) (ho : o.op = .call { callee := .builtin .delete, args := #[mo, xo], argTypes := #[77, 25] }) (hm : a.eval mo = mv) (hx : a.eval xo = .agg (wcells k)) :
    ∃ w', (execOp a.eval o).run Tryz.prog w = .ok (.value (.tuple #[])) w' ∧ SlP B N w' mv (upS S k 0) ∧ (∀ r, mv = .map (some r) → Tch [r] w w') ∧ (mv = .map none → w' = w) := by
  have hkey := keyOf_word k
  obtain ⟨h0, ⟨rfl, h⟩ | ⟨r, n, D, ks, rfl, h1, h2, h3, h4, h5, h6, h7, h8, h9⟩⟩ := hM
  · have hr := Maps.drop_nil (w := w) wordKeyed mapW_tyS hkey o.type
    refine ⟨w, ?_, SlP.none B N w (fun j hj => by unfold upS; split; rfl; exact h j hj), fun r e => (by cases e), fun _ => rfl⟩
    unfold execOp
    simp [ho, resolve, invoke, builtin, hm, hx, hr]
  · obtain ⟨w1, hr, g1, g2⟩ := h3.drop wordKeyed mapW_tyS hkey o.type
    have hT := h3.tidy wordKeyed
    refine ⟨w1, ?_, ⟨fun j hj => by unfold upS; split; decide; exact h0 j hj, .inr ⟨r, n, _, ks.erase k, rfl, h1, h2, g1, fun j hj => ?_, fun j hj => ?_, ?_, fun j hj => ?_, fun j hj => h8 j (List.mem_of_mem_erase hj), h9.erase _⟩⟩, fun r' e => ?_, fun e => (by cases e)⟩
    · unfold execOp
      simp [ho, resolve, invoke, builtin, hm, hx, hr]
    · unfold upS
      by_cases e : j = k
      · subst e; rw [if_pos rfl, Maps.atKey_del_same]
      · rw [if_neg e, Maps.atKey_del_other (fun he => e (keyW_inj hj hk he))]
        exact h4 j hj
    · by_cases e : j = k
      · subst e
        rw [Maps.has_del_same]
        have : j ∉ ks.erase j := fun hm => ((h9.mem_erase_iff).1 hm).1 rfl
        simp [this]
      · rw [Maps.has_del_other (fun he => e (keyW_inj hj hk he)), h5 j hj, decide_eq_decide]
        rw [h9.mem_erase_iff]
        exact ⟨fun h => ⟨e, h⟩, fun h => h.2⟩
    · have hd := Maps.size_del (D := D) (k := keyW k) hT
      rw [h5 k hk, h6] at hd
      by_cases e : k ∈ ks
      · have hl := List.length_erase_of_mem e
        have hp := List.length_pos_of_mem e
        rw [hl]
        simp [e] at hd
        omega
      · rw [List.erase_of_not_mem e]
        simp [e] at hd
        omega
    · unfold upS
      rw [h9.mem_erase_iff]
      by_cases e : j = k
      · subst e; simp
      · rw [if_neg e, ← h7 j hj]
        exact ⟨fun h => h.2, fun h => ⟨e, h⟩⟩
    · cases e
      obtain ⟨es, clock, es', clock', hb, rfl⟩ := g2
      exact ⟨rfl, rfl, rfl, by simp [setBlock], fun k _ hk => heap_setBlock_other hb _ (fun e => hk (by simp [e]))⟩
theorem SlP.len (hM : SlP B N w mv S) : ∃ m : Nat, (m = 0 ↔ ∀ k, k < M256 → S k = 0) ∧ ∀ {o : Oper} {a : Act} (xo : Operand), o.op = .call { callee := .builtin .len, args := #[xo], argTypes := #[77] } → a.eval xo = mv → (execOp a.eval o).run Tryz.prog w = .ok (.value (.int .i64 (m : Int))) w := by
  obtain ⟨h0, ⟨rfl, h⟩ | ⟨r, n, D, ks, rfl, h1, h2, h3, h4, h5, h6, h7, h8, h9⟩⟩ := hM
  · refine ⟨0, ⟨fun _ => h, fun _ => rfl⟩, fun {o a} xo ho hx => ?_⟩
    unfold execOp
    simp only [ho, resolve, invoke, builtin, List.map_toArray, List.map_cons, List.map_nil, hx]
    simp [Builtin.len_, run_underlying mapW_tyS, goInt, Result.andThen]
  · refine ⟨Maps.size D, ?_, fun {o a} xo ho hx => ?_⟩
    · rw [h6]
      constructor
      · intro h k hk
        have : ks = [] := List.length_eq_zero_iff.1 h
        have := (h7 k hk).2
        by_cases hz : S k = 0
        · exact hz
        · have := this hz
          simp_all
      · intro h
        rw [List.length_eq_zero_iff]
        cases ks with
        | nil => rfl
        | cons k t => exact absurd (h k (h8 k List.mem_cons_self)) ((h7 k (h8 k List.mem_cons_self)).1 List.mem_cons_self)
    · have hr := h3.len mapW_tyS o.type
      unfold execOp
      simp [ho, resolve, invoke, builtin, hx, hr]
theorem r_mkMapS (ho : o.op = .makeMap 77 none) : (execOp a.eval o).run Tryz.prog w = .ok (.value (.map (some w.heap.size))) (w.alloc (.map #[] 0)) := by
  have hr : (Instr.makeMap 77 none).run Tryz.prog w = .ok (.map (some w.heap.size)) (w.alloc (.map #[] 0)) := rfl
  unfold execOp
  simp only [ho, Option.map_none, Sem.run_bind, hr, Result.andThen_ok, Sem.run_pure]
theorem SlP.made (B N : Nat) (w : World) (hB : B ≤ w.heap.size) (S : Nat → Nat) (hS : ∀ k, k < M256 → S k = 0) : SlP B N (w.alloc (.map #[] 0)) (.map (some w.heap.size)) S :=
  ⟨fun k hk => by rw [hS k hk]; decide, .inr ⟨w.heap.size, 0, .map [], [], rfl, hB, Nat.zero_le _, World.ownsMap_made _ _ _ _, fun k hk => by rw [hS k hk]; rfl, fun k hk => rfl, rfl, fun k hk => by simp [hS k hk], fun k hk => by simp at hk, List.nodup_nil⟩⟩
end
end
section
open Go.RowKit Go.WideMaps Go.ChangeMaps Go.MapKept
set_option maxRecDepth 100000
structure PT (S : Nat → Prop) (w w' : World) : Prop where
  os : w'.os = w.os
  tape : w'.tape = w.tape
  output : w'.output = w.output
  size : w.heap.size ≤ w'.heap.size
  block : ∀ k, k < w.heap.size → ¬ S k → w'.heap[k]? = w.heap[k]?
theorem PT.refl (S : Nat → Prop) (w : World) : PT S w w := ⟨rfl, rfl, rfl, Nat.le_refl _, fun _ _ _ => rfl⟩
theorem PT.of_tch {S : Nat → Prop} {bs : List Nat} {w w' : World} (h : Tch bs w w') (hS : ∀ k ∈ bs, S k ∨ w.heap.size ≤ k) : PT S w w' :=
  ⟨h.os, h.tape, h.output, h.size, fun k hk hn => h.block k hk (fun hm => (hS k hm).elim hn (fun h => by omega))⟩
theorem PT.nil {S : Nat → Prop} {w w' : World} (h : Tch [] w w') : PT S w w' := PT.of_tch h (by simp)
theorem PT.trans {S : Nat → Prop} {a b c : World} (h : PT S a b) (k : PT S b c) : PT S a c :=
  ⟨k.os.trans h.os, k.tape.trans h.tape, k.output.trans h.output, Nat.le_trans h.size k.size, fun i hi hn => (k.block i (Nat.lt_of_lt_of_le hi h.size) hn).trans (h.block i hi hn)⟩
theorem PT.mono {S T : Nat → Prop} {a b : World} (h : PT S a b) (hS : ∀ k, k < a.heap.size → S k → T k) : PT T a b :=
  ⟨h.os, h.tape, h.output, h.size, fun i hi hn => h.block i hi (fun hs => hn (hS i hi hs))⟩
theorem PT.blk {S : Nat → Prop} {w w' : World} {b : Nat} {t : TypeId} {c : Array Value} (h : PT S w w') (hB : Blk w b t c) (hb : ¬ S b) : Blk w' b t c := (h.block b hB.lt hb).trans hB
theorem PT.tch {S : Nat → Prop} {w0 w w' : World} (hT : Tch [] w0 w) (h : PT S w w') (hS : ∀ k, S k → w0.heap.size ≤ k) : Tch [] w0 w' :=
  ⟨h.os.trans hT.os, h.tape.trans hT.tape, h.output.trans hT.output, Nat.le_trans hT.size h.size, fun k hk _ => (h.block k (Nat.lt_of_lt_of_le hk hT.size) (fun hs => by have := hS k hs; omega)).trans (hT.block k hk (by simp))⟩
def upE (E : List Nat → Nat × Nat) (A : List Nat) (v : Nat × Nat) : List Nat → Nat × Nat := fun X => if X = A then v else E X
structure StP (B N : Nat) (w : World) (bS : Nat) (mv rv : Value) (k : Int) (F : List Nat → Option Nat) (E : List Nat → Nat × Nat) : Prop where
  blk : Blk w bS 46 #[mv, rv, .int .i64 k]
  base : B ≤ bS
  map : MapP B N w mv F
  acc : ∀ A b, Ad A → F A = some b → Blk w b 79 (acA (E A).1 (E A).2) ∧ B ≤ b ∧ b ≠ bS
  non : ∀ A, Ad A → F A = none → E A = (0, 0)
  inj : ∀ A X b, Ad A → Ad X → F A = some b → F X = some b → A = X
  ok : ∀ A, Ad A → (E A).1 < 9223372036854775808 ∧ (E A).2 < M256
def foot (bS : Nat) (mv : Value) (F : List Nat → Option Nat) (j : Nat) : Prop := j = bS ∨ mv = .map (some j) ∨ ∃ A, Ad A ∧ F A = some j
section
variable {B N : Nat} {w w' : World} {bS : Nat} {mv rv : Value} {k : Int} {F : List Nat → Option Nat} {E : List Nat → Nat × Nat}
theorem StP.lt (h : StP B N w bS mv rv k F E) {j : Nat} (hj : foot bS mv F j) : B ≤ j ∧ j < w.heap.size := by
  rcases hj with rfl | rfl | ⟨A, hA, hF⟩
  · exact ⟨h.base, h.blk.lt⟩
  · exact ⟨h.map.lt.2, h.map.lt.1⟩
  · have := h.acc A j hA hF
    exact ⟨this.2.1, this.1.lt⟩
theorem StP.same (h : StP B N w bS mv rv k F E) (hs : ∀ j, foot bS mv F j → w'.heap[j]? = w.heap[j]?) : StP B N w' bS mv rv k F E :=
  ⟨(hs bS (.inl rfl)).trans h.blk, h.base, h.map.far (fun r hr => hs r (.inr (.inl hr))), fun A b hA hF => ⟨(hs b (.inr (.inr ⟨A, hA, hF⟩))).trans (h.acc A b hA hF).1, (h.acc A b hA hF).2⟩, h.non, h.inj, h.ok⟩
theorem StP.far {S : Nat → Prop} (h : StP B N w bS mv rv k F E) (hT : PT S w w') (hS : ∀ j, foot bS mv F j → ¬ S j) : StP B N w' bS mv rv k F E :=
  h.same fun j hj => hT.block j (h.lt hj).2 (hS j hj)
theorem StP.call (h : StP B N w bS mv rv k F E) (hT : Tch [] w w') : StP B N w' bS mv rv k F E := h.same fun j hj => hT.block j (h.lt hj).2 (by simp)
theorem StP.more (h : StP B N w bS mv rv k F E) {M : Nat} (hM : N ≤ M) : StP B M w bS mv rv k F E :=
  ⟨h.blk, h.base, h.map.imp id (fun ⟨r, n, D, h1, h2, h3, h4⟩ => ⟨r, n, D, h1, h2, Nat.le_trans h3 hM, h4⟩), h.acc, h.non, h.inj, h.ok⟩
end
section
variable {B N : Nat} {w : World} {mv : Value} {F : List Nat → Option Nat} {A : List Nat} {o : Oper} {a : Act} {Q : Exit → Act → World → Prop} {l0 : List Oper} {n : Nat} {K : Act → World → Prop}
theorem held_del (hM : MapP B N w mv F) (hA : Ad A) {mo xo : Operand} (ho' : l0[n]? = some o) (hw : Region.wanted o (yielded l0.toArray a.tmps) = true) (ho : o.op = .call { callee := .builtin .delete, args := #[mo, xo], argTypes := #[43, 23] }) (hm : a.eval mo = mv) (hx : a.eval xo = .agg (av A))
    (h : ∀ w', MapP B N w' mv (upF F A none) → PT (fun j => mv = .map (some j)) w w' → K (a.put o.dst (.tuple #[])) w') : wpOp Tryz.prog l0.toArray Q n K a w := by
  obtain ⟨w', hr, g1, g2, g3⟩ := r_mapDel hM hA mo xo ho hm hx
  refine held_run ho' hw hr (h w' g1 ?_)
  rcases hM with ⟨rfl, _⟩ | ⟨r, _, _, rfl, _⟩
  · rw [g3 rfl]; exact PT.refl _ _
  · exact PT.of_tch (g2 r rfl) (fun k hk => by rw [List.mem_singleton.1 hk]; exact .inl rfl)
theorem held_put {r b : Nat} (hM : MapP B N w (.map (some r)) F) (hN : N < maxLen) (hA : Ad A) {mo xo vo : Operand} (ho' : l0[n]? = some o) (hw : Region.wanted o (yielded l0.toArray a.tmps) = true) (ho : o.op = .mapUpdate 43 mo xo vo) (hm : a.eval mo = .map (some r)) (hx : a.eval xo = .agg (av A)) (hv : a.eval vo = .pointer (some ⟨b, 0, none⟩))
    (h : ∀ w', MapP B (N + 1) w' (.map (some r)) (upF F A (some b)) → PT (fun j => (.map (some r) : Value) = .map (some j)) w w' → K (a.put o.dst undef) w') : wpOp Tryz.prog l0.toArray Q n K a w := by
  obtain ⟨w', hr, g1, g2⟩ := r_mapPut hM hN hA mo xo vo ho hm hx hv
  exact held_skip ho' hw hr (h w' g1 (PT.of_tch g2 (fun k hk => by rw [List.mem_singleton.1 hk]; exact .inl rfl)))
end
theorem open_any (B N : Nat) (w : World) (bS : Nat) (mv rv : Value) (k : Int) (F : List Nat → Option Nat) (E : List Nat → Nat × Nat) (A : List Nat) (h : StP B N w bS mv rv k F E) (hA : Ad A) :
    Calls Tryz.prog 53 #[.pointer (some ⟨bS, 0, none⟩), .agg (av A)] w fun e w' =>
      ∃ b, e = .returned (.pointer (some ⟨b, 0, none⟩)) ∧ Tch [] w w' ∧ Blk w' b 79 (acA (E A).1 (E A).2) ∧ (F A = some b ∨ F A = none ∧ w.heap.size ≤ b) := by
  have H := hQz h
  have HA := hQz hA
  have HB := h.blk
  have hS := St.start w
  clear h hA
  go_enter Tryz.func53, Tryz.ntmps53
  go_upto_region 1 with (refine st_box hS rfl 23 _ rfl rfl ?_; clear hS; intro w1 b1 hS)
  try simp only [Act.put, ppA, ppB, ppC]
  have hT1 := hS.frame
  have hB1 := hS.get .head
  clear hS
  generalize hcv : (#[mv, rv, .int .i64 k] : Array Value) = cv at HB
  refine wp_region_held_drew (S := fun w' => Tch [] w1 w') (by kernel_rfl) ((Tch.refl _ _).drew) (fun hC => ?_)
  generalize World.drew w1 = u0 at hC ⊢
  have hS1 : ∀ w', Tch [] w1 w' → StP B N w' bS mv rv k F E := fun w' h => H.out.call (hT1.trans h)
  refine held_in (v := .pointer (some ⟨bS, 0, none⟩)) 0 rfl (by kernel_rfl) (by kernel_rfl) (by kernel_rfl) (fun _ _ _ h => h) hC rfl (fun w' hw' => x_val _ (.inl rfl) rfl) ?_
  try simp only [Act.put, ppA, ppB, ppC]
  refine held_in (v := .pointer (some ⟨bS, 0, none⟩)) 1 rfl (by kernel_rfl) (by kernel_rfl) (by kernel_rfl) (fun _ _ _ h => h) hC rfl (fun w' hw' => x_nilck _ rfl rfl) ?_
  try simp only [Act.put, ppA, ppB, ppC]
  refine held_in (v := .pointer (some ⟨bS, 0, none⟩)) 2 rfl (by kernel_rfl) (by kernel_rfl) (by kernel_rfl) (fun _ _ _ h => h) hC rfl (fun w' hw' => x_fa _ _ _ rfl rfl (fa_s0 _ _)) ?_
  try simp only [Act.put, ppA, ppB, ppC]
  refine held_in (v := mv) 3 rfl (by kernel_rfl) (by kernel_rfl) (by kernel_rfl) (fun _ _ _ h => h) hC rfl (fun w' hw' => x_cell _ _ rfl rfl ((hS1 w' hw').blk.cell rfl) map_agg) ?_
  try simp only [Act.put, ppA, ppB, ppC]
  refine held_in (v := .agg (av A)) 4 rfl (by kernel_rfl) (by kernel_rfl) (by kernel_rfl) (fun _ _ _ h => h) hC rfl (fun w' hw' => x_ld _ rfl rfl (hw'.blk hB1 (by simp)) addr_tyY rfl (by rw [arrV_size]; exact addr_sizeY)) ?_
  try simp only [Act.put, ppA, ppB, ppC]
  refine held_in (v := ptrV (F A)) 5 rfl (by kernel_rfl) (by kernel_rfl) (by kernel_rfl) (fun _ _ _ h => h) hC rfl (fun w' hw' => x_look (hS1 w' hw').map HA.out _ _ rfl rfl rfl) ?_
  try simp only [Act.put, ppA, ppB, ppC]
  refine held_in (v := ptrV (F A)) 6 rfl (by kernel_rfl) (by kernel_rfl) (by kernel_rfl) (fun _ _ _ h => h) hC rfl (fun w' hw' => x_val _ (.inr rfl) rfl) ?_
  try simp only [Act.put, ppA, ppB, ppC]
  refine wpAnyH_done (by kernel_rfl) ?_ _
  have hSu := hS1 u0 hC
  have hTu := hT1.trans hC
  clear hB1 hS1 hC hcv HB
  cases hF : F A with
  | some b =>
    have hb := (hSu.acc A b HA.out hF).1
    have HF := hQz hF
    clear hF
    simp only [ptrV]
    go_upto_region 3 with (refine st_x (v := .bool true) rfl (x_bin _ _ _ _ rfl rfl rfl rfl (neA_some _ _)) ?_)
    go_wp2
    go_ret
    exact ⟨b, rfl, hTu, hb, .inl HF.out⟩
  | none =>
    have hE := hSu.non A HA.out hF
    have HF := hQz hF
    clear hF
    simp only [ptrV]
    have hS := (St.start w).call hTu
    go_upto_region 4 with (refine st_x (v := .bool false) rfl (x_bin _ _ _ _ rfl rfl rfl rfl (neA_none _)) ?_)
    go_wp2_with (first
      | (refine st_x (v := .agg (acA 0 0)) rfl (x_bldA rfl) ?_)
      | (refine st_box hS rfl 79 _ rfl rfl ?_; clear hS; intro w2 b2 hS))
    go_ret
    rw [hE]
    exact ⟨b2, rfl, hS.frame, hS.get .head, .inr ⟨HF.out, by
      have := (hS.own .head).elim id (fun h => by simp at h)
      exact this⟩⟩
end
end Go.Proofs.YtopfmaoeebgjmaaGreatDoor
