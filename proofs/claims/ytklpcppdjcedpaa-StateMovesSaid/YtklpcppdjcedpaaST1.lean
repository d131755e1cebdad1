/- States: what lies in memory: a state's block, its accounts, the map that leads to them; steps. -/
import Derived.Test.YtklpcppdjcedpaaYA2
import Derived.Test.YtklpcppdjcedpaaIH
import Derived.Test.YtklpcppdjcedpaaWS4
import Derived.Maps.OwnSet
namespace Go.Proofs.Ytklpcppdjcedpaa
open Go.RowKit Go.WideMaps Go.ChangeMaps Go.MapKept
set_option linter.unusedVariables false
set_option linter.unusedSimpArgs false
set_option maxRecDepth 100000

/-- 20 bytes. -/
def Ad (A : List Nat) : Prop := A.length = 20 ∧ ∀ x ∈ A, x < 256
abbrev av (A : List Nat) : Array Value := arrV 20 A
theorem av_one (A : List Nat) : (av A).all (·.oneCell') = true := bc_one _ _
theorem wc_one (x : Nat) : (wcells x).all (·.oneCell') = true := bc_one _ _
theorem wc_size (x : Nat) : (wcells x).size = 32 := bc_size _ _
theorem wcL (x : Nat) : (wcells x).toList.length = 32 := by rw [Array.length_toList, wc_size]
/-- The cells of an account with a Nonce and a Balance, and nothing else. -/
def acA (n x : Nat) : Array Value := (Value.int .i64 (n : Int) :: ((wcells x).toList ++ [.string ⟨#[]⟩, .map none])).toArray
theorem acA_size (n x : Nat) : (acA n x).size = 35 := by simp [acA, wc_size]
theorem acA_n (n x : Nat) : (acA n x)[0]? = some (.int .i64 (n : Int)) := rfl
theorem acA_x (n x j : Nat) (h : j < 32) : (acA n x)[1 + j]? = (wcells x)[j]? := by
  simp only [acA, List.getElem?_toArray]
  rw [show 1 + j = j + 1 by omega, List.getElem?_cons_succ, List.getElem?_append_left (by rw [wcL]; exact h), Array.getElem?_toList]
theorem acA_c (n x : Nat) : (acA n x)[33]? = some (.string ⟨#[]⟩) := by
  simp only [acA, List.getElem?_toArray]
  rw [List.getElem?_cons_succ, List.getElem?_append_right (by rw [wcL]; exact Nat.le_refl _), wcL]; rfl
theorem acA_s (n x : Nat) : (acA n x)[34]? = some (.map none) := by
  simp only [acA, List.getElem?_toArray]
  rw [List.getElem?_cons_succ, List.getElem?_append_right (by rw [wcL]; decide), wcL]; rfl
theorem acA_one (n x : Nat) : (acA n x).all (·.oneCell') = true := by
  rw [Array.all_eq_true_iff_forall_mem]
  intro v hv
  have h1 : v ∈ Value.int .i64 (n : Int) :: ((wcells x).toList ++ [.string ⟨#[]⟩, .map none]) := by unfold acA at hv; exact List.mem_toArray.1 hv
  rcases List.mem_cons.1 h1 with rfl | h1
  · rfl
  · rcases List.mem_append.1 h1 with h1 | h1
    · have := wc_one x
      rw [Array.all_eq_true_iff_forall_mem] at this
      exact this v (Array.mem_toList_iff.1 h1)
    · rcases List.mem_cons.1 h1 with rfl | h1
      · rfl
      · rcases List.mem_cons.1 h1 with rfl | h1
        · rfl
        · cases h1
theorem acA_setn (n m x : Nat) : (acA n x).setIfInBounds 0 (.int .i64 (m : Int)) = acA m x := by
  simp [acA]
def splS (c : Array Value) (o : Nat) (c' : Array Value) : Array Value := (c.toList.take o ++ c'.toList ++ c.toList.drop (o + c'.toList.length)).toArray
theorem acA_setx (n x y : Nat) : splS (acA n x) 1 (wcells y) = acA n y := by
  unfold splS
  rw [wcL]
  show ((Value.int .i64 (n : Int) :: ((wcells x).toList ++ [.string ⟨#[]⟩, .map none])).take 1 ++ (wcells y).toList ++ (Value.int .i64 (n : Int) :: ((wcells x).toList ++ [.string ⟨#[]⟩, .map none])).drop 33).toArray = _
  rw [List.take_succ_cons, List.take_zero, List.drop_succ_cons, List.drop_left' (wcL x)]
  rfl
/-- The cells of a part: a Nonce, a Balance of an address. -/
def nonC (A : List Nat) (n : Nat) : Array Value := ((av A).toList ++ [Value.int .i64 (n : Int)]).toArray
def balC (A : List Nat) (x : Nat) : Array Value := ((av A).toList ++ (wcells x).toList).toArray
theorem avL (A : List Nat) : (av A).toList.length = 20 := by rw [Array.length_toList, arrV_size]
theorem nonC_size (A : List Nat) (n : Nat) : (nonC A n).size = 21 := by simp [nonC, arrV_size]
theorem balC_size (A : List Nat) (x : Nat) : (balC A x).size = 52 := by simp [balC, arrV_size, wc_size]
theorem nonC_a (A : List Nat) (n j : Nat) (h : j < 20) : (nonC A n)[0 + j]? = (av A)[j]? := by
  simp only [nonC, List.getElem?_toArray]
  rw [Nat.zero_add, List.getElem?_append_left (by rw [avL]; exact h), Array.getElem?_toList]
theorem balC_a (A : List Nat) (x j : Nat) (h : j < 20) : (balC A x)[0 + j]? = (av A)[j]? := by
  simp only [balC, List.getElem?_toArray]
  rw [Nat.zero_add, List.getElem?_append_left (by rw [avL]; exact h), Array.getElem?_toList]
theorem nonC_n (A : List Nat) (n : Nat) : (nonC A n)[20]? = some (.int .i64 (n : Int)) := by
  simp only [nonC, List.getElem?_toArray]
  rw [List.getElem?_append_right (by rw [avL]; exact Nat.le_refl _), avL]; rfl
theorem balC_w (A : List Nat) (x j : Nat) (h : j < 32) : (balC A x)[20 + j]? = (wcells x)[j]? := by
  simp only [balC, List.getElem?_toArray]
  rw [List.getElem?_append_right (by rw [avL]; omega), avL, Array.getElem?_toList]
  congr 1; omega
theorem one_app {l m : List Value} (h1 : ∀ v ∈ l, v.oneCell' = true) (h2 : ∀ v ∈ m, v.oneCell' = true) : (l ++ m).toArray.all (·.oneCell') = true := by
  rw [Array.all_eq_true_iff_forall_mem]
  intro v hv
  rcases List.mem_append.1 (List.mem_toArray.1 hv) with h | h
  · exact h1 v h
  · exact h2 v h
theorem all_list {c : Array Value} (h : c.all (·.oneCell') = true) : ∀ v ∈ c.toList, v.oneCell' = true := fun v hv => by
  rw [Array.all_eq_true_iff_forall_mem] at h
  exact h v (Array.mem_toList_iff.1 hv)
theorem nonC_one (A : List Nat) (n : Nat) : (nonC A n).all (·.oneCell') = true := one_app (all_list (av_one A)) (fun v hv => by rcases List.mem_singleton.1 hv with rfl; rfl)
theorem balC_one (A : List Nat) (x : Nat) : (balC A x).all (·.oneCell') = true := one_app (all_list (av_one A)) (all_list (wc_one x))
theorem nonC_set (A : List Nat) (n m : Nat) : (nonC A n).setIfInBounds 20 (.int .i64 (m : Int)) = nonC A m := by
  have h := avL A
  unfold nonC
  rw [List.setIfInBounds_toArray]
  congr 1
theorem balC_set (A : List Nat) (x y : Nat) : splS (balC A x) 20 (wcells y) = balC A y := by
  unfold splS balC
  rw [wcL]
  simp only [List.toList_toArray]
  rw [List.take_left' (avL A), List.drop_eq_nil_of_le (by rw [List.length_append, avL, wcL]; exact Nat.le_refl _), List.append_nil]

theorem stt_ty : Try.prog.underlying 48 = some (.struct (Try.prog.fieldsOf 48)) := by kernel_rfl
theorem acc_ty : Try.prog.underlying 69 = some (.struct (Try.prog.fieldsOf 69)) := by kernel_rfl
theorem acc_size : (Try.prog.info? 69).map (·.size) = some 35 := by kernel_rfl
theorem non_ty : Try.prog.underlying 76 = some (.struct (Try.prog.fieldsOf 76)) := by kernel_rfl
theorem bal_ty : Try.prog.underlying 62 = some (.struct (Try.prog.fieldsOf 62)) := by kernel_rfl
theorem non_size : (Try.prog.info? 76).map (·.size) = some 21 := by kernel_rfl
theorem bal_size : (Try.prog.info? 62).map (·.size) = some 52 := by kernel_rfl
theorem non_zero : (Try.prog.info? 76).bind (·.zero) = some (.agg (nonC [] 0)) := by kernel_rfl
theorem bal_zero : (Try.prog.info? 62).bind (·.zero) = some (.agg (balC [] 0)) := by kernel_rfl
theorem acc_zero : (Try.prog.info? 69).bind (·.zero) = some (.agg (acA 0 0)) := by kernel_rfl
theorem acc_build (w : World) : (Instr.build 69 #[]).run Try.prog w = .ok (.agg (acA 0 0)) w := by kernel_rfl
theorem mapA_ty : Try.prog.underlying 45 = some (.map 23 50) := by kernel_rfl
theorem ptrA_zero (w : World) : (zeroValue 50).run Try.prog w = .ok (.pointer none) w := by kernel_rfl
theorem word_zeroS : (Try.prog.info? 25).bind (·.zero) = some (.agg (wcells 0)) := by kernel_rfl
theorem one_size_map : (Try.prog.info? 45).map (·.size) = some 1 := by kernel_rfl
theorem map_agg (w : World) : (isAgg 45).run Try.prog w = .ok false w := by simp [isAgg, run_underlying mapA_ty]
theorem recs_agg (w : World) : (isAgg 46).run Try.prog w = .ok false w := by kernel_rfl
theorem int_aggS (w : World) : (isAgg 3).run Try.prog w = .ok false w := by kernel_rfl
theorem str_aggS (w : World) : (isAgg 9).run Try.prog w = .ok false w := by kernel_rfl
theorem slm_aggS (w : World) : (isAgg 67).run Try.prog w = .ok false w := by kernel_rfl
theorem fa_s0 (b : Nat) (w : World) : (Instr.fieldAt 48 (.pointer (some ⟨b, 0, none⟩)) 0).run Try.prog w = .ok (.pointer (some ⟨b, 0, none⟩)) w := by kernel_rfl
theorem fa_s1 (b : Nat) (w : World) : (Instr.fieldAt 48 (.pointer (some ⟨b, 0, none⟩)) 1).run Try.prog w = .ok (.pointer (some ⟨b, 1, none⟩)) w := by kernel_rfl
theorem fa_s2 (b : Nat) (w : World) : (Instr.fieldAt 48 (.pointer (some ⟨b, 0, none⟩)) 2).run Try.prog w = .ok (.pointer (some ⟨b, 2, none⟩)) w := by kernel_rfl
theorem fa_a0 (b : Nat) (w : World) : (Instr.fieldAt 69 (.pointer (some ⟨b, 0, none⟩)) 0).run Try.prog w = .ok (.pointer (some ⟨b, 0, none⟩)) w := by kernel_rfl
theorem fa_a1 (b : Nat) (w : World) : (Instr.fieldAt 69 (.pointer (some ⟨b, 0, none⟩)) 1).run Try.prog w = .ok (.pointer (some ⟨b, 1, none⟩)) w := by kernel_rfl
theorem fa_a2 (b : Nat) (w : World) : (Instr.fieldAt 69 (.pointer (some ⟨b, 0, none⟩)) 2).run Try.prog w = .ok (.pointer (some ⟨b, 33, none⟩)) w := by kernel_rfl
theorem fa_a3 (b : Nat) (w : World) : (Instr.fieldAt 69 (.pointer (some ⟨b, 0, none⟩)) 3).run Try.prog w = .ok (.pointer (some ⟨b, 34, none⟩)) w := by kernel_rfl
theorem fa_n0 (b : Nat) (w : World) : (Instr.fieldAt 76 (.pointer (some ⟨b, 0, none⟩)) 0).run Try.prog w = .ok (.pointer (some ⟨b, 0, none⟩)) w := by kernel_rfl
theorem fa_n1 (b : Nat) (w : World) : (Instr.fieldAt 76 (.pointer (some ⟨b, 0, none⟩)) 1).run Try.prog w = .ok (.pointer (some ⟨b, 20, none⟩)) w := by kernel_rfl
theorem fa_b0 (b : Nat) (w : World) : (Instr.fieldAt 62 (.pointer (some ⟨b, 0, none⟩)) 0).run Try.prog w = .ok (.pointer (some ⟨b, 0, none⟩)) w := by kernel_rfl
theorem fa_b1 (b : Nat) (w : World) : (Instr.fieldAt 62 (.pointer (some ⟨b, 0, none⟩)) 1).run Try.prog w = .ok (.pointer (some ⟨b, 20, none⟩)) w := by kernel_rfl
theorem eqA_some (b : Nat) (w : World) : (binOp .eql 50 (.pointer (some ⟨b, 0, none⟩)) (.pointer none)).run Try.prog w = .ok (.bool false) w := by kernel_rfl
theorem neA_some (b : Nat) (w : World) : (binOp .neq 50 (.pointer (some ⟨b, 0, none⟩)) (.pointer none)).run Try.prog w = .ok (.bool true) w := by kernel_rfl
theorem neA_none (w : World) : (binOp .neq 50 (.pointer none) (.pointer none)).run Try.prog w = .ok (.bool false) w := by kernel_rfl
theorem eqS_some (b : Nat) (w : World) : (binOp .eql 27 (.pointer (some ⟨b, 0, none⟩)) (.pointer none)).run Try.prog w = .ok (.bool false) w := by kernel_rfl
theorem eqM_some (b : Nat) (w : World) : (binOp .eql 45 (.map (some b)) (.map none)).run Try.prog w = .ok (.bool false) w := by kernel_rfl
theorem eqM_none (w : World) : (binOp .eql 45 (.map none) (.map none)).run Try.prog w = .ok (.bool true) w := by kernel_rfl
theorem mkN (v : Value) (w : World) : (Instr.makeInterface 76 v).run Try.prog w = .ok (.iface 76 v) w := by kernel_rfl
theorem mkB (v : Value) (w : World) : (Instr.makeInterface 62 v).run Try.prog w = .ok (.iface 62 v) w := by kernel_rfl
theorem taNN (v : Value) (w : World) : (Instr.typeAssert (.iface 76 v) 88 76 true).run Try.prog w = .ok (.tuple #[v, .bool true]) w := by kernel_rfl
theorem taBN (v : Value) (w : World) : (Instr.typeAssert (.iface 62 v) 88 76 true).run Try.prog w = .ok (.tuple #[.agg (nonC [] 0), .bool false]) w := by kernel_rfl
theorem taBB (v : Value) (w : World) : (Instr.typeAssert (.iface 62 v) 88 62 true).run Try.prog w = .ok (.tuple #[v, .bool true]) w := by kernel_rfl

/-! ### Steps. -/
theorem Blk.storeS {w : World} {b o : Nat} {t ty : TypeId} {c c' : Array Value} (h : Blk w b t c) {n : Nat} (hi : (Try.prog.info? ty).map (·.size) = some n) (hn' : c'.size = n) (hl : o + c'.size ≤ c.size) (h1 : c'.all (·.oneCell') = true) :
    (Instr.storeAt ty (.pointer (some ⟨b, o, none⟩)) (.agg c')).run Try.prog w = .ok () (w.setRow b (splS c o c')) := by
  have := run_storeCells_at (P := Try.prog) b o t c'.toList 0 c w h (by simpa using hl) (fun x hx => (Array.all_eq_true_iff_forall_mem.1 h1) x (by simpa using hx))
  cases hq : Try.prog.info? ty with
  | none => simp [hq] at hi
  | some i =>
    have hs : i.size = n := by simpa [hq] using hi
    simp only [Nat.add_zero] at this
    simp [Instr.storeAt, Instr.sureAddr, storeVar, sizeOf, typeInfo, hq, Value.cells, hs, hn', this, splS]
theorem Blk.store1S {w : World} {b j : Nat} {t ty : TypeId} {c : Array Value} {v : Value} (h : Blk w b t c) (hi : (Try.prog.info? ty).map (·.size) = some 1) (hj : j < c.size) (hv : v.oneCell' = true) :
    (Instr.storeAt ty (.pointer (some ⟨b, j, none⟩)) v).run Try.prog w = .ok () (w.setCell ⟨b, j, none⟩ v) := by
  have hc : v.cells = #[v] := by cases v <;> first | rfl | exact absurd hv (by simp [Value.oneCell'])
  cases hq : Try.prog.info? ty with
  | none => simp [hq] at hi
  | some i =>
    have hs : i.size = 1 := by simpa [hq] using hi
    obtain ⟨u, hu⟩ : ∃ u, c[j]? = some u := ⟨c[j], Array.getElem?_eq_getElem hj⟩
    have hcell : w.cell? ⟨b, j, none⟩ = some u := h.cell hu
    simp [Instr.storeAt, Instr.sureAddr, storeVar, sizeOf, typeInfo, hq, hc, hs, storeCells, Addr.add, run_store Try.prog w ⟨b, j, none⟩ v .plain hv, hcell, h.free j]
section
variable {o : Oper} {a : Act} {w w' : World}
theorem x_ld {b : Nat} {t ty : TypeId} {d : TypeDesc} {c : Array Value} (x : Operand) (ho : o.op = .load ty x) (hx : a.eval x = .pointer (some ⟨b, 0, none⟩)) (hB : Blk w b t c) (hu : Try.prog.underlying ty = some d) (hd : d.isRow = true) (hs : (Try.prog.info? ty).map (·.size) = some c.size) :
    (execOp a.eval o).run Try.prog w = .ok (.value (.agg c)) w :=
  x_ldMid x ho hx (fun j v hv => by rw [Array.getElem?_toList] at hv; rw [Nat.zero_add]; exact hB.cell hv) hu hd hs
/-- Some cells within a block. -/
theorem x_ldIn {b q n : Nat} {t ty : TypeId} {d : TypeDesc} {c e : Array Value} (x : Operand) (ho : o.op = .load ty x) (hx : a.eval x = .pointer (some ⟨b, q, none⟩)) (hB : Blk w b t c) (he : e.size = n) (hc : ∀ j, j < n → c[q + j]? = e[j]?) (hu : Try.prog.underlying ty = some d) (hd : d.isRow = true) (hs : (Try.prog.info? ty).map (·.size) = some n) :
    (execOp a.eval o).run Try.prog w = .ok (.value (.agg e)) w :=
  x_ldMid x ho hx (fun j v hv => by
    have hj : j < n := by have := (List.getElem?_eq_some_iff.1 hv).1; rw [Array.length_toList] at this; omega
    rw [Array.getElem?_toList, ← hc j hj] at hv
    exact hB.cell hv) hu hd (by rw [he]; exact hs)
theorem x_bin {op : BinOp} {u v r : Value} (ty yt : TypeId) (xo yo : Operand) (ho : o.op = .binOp op ty xo yo yt) (hx : a.eval xo = u) (hy : a.eval yo = v) (hg : (eqGuard op ty xo yo u v).run Try.prog w = .ok () w) (hr : (binOp op ty u v).run Try.prog w = .ok r w) : (execOp a.eval o).run Try.prog w = .ok (.value r) w := by
  unfold execOp
  simp only [ho, hx, hy, Sem.run_bind, hg, hr, Result.andThen_ok, Sem.run_pure]
theorem x_bldA (ho : o.op = .build 69 #[]) : (execOp a.eval o).run Try.prog w = .ok (.value (.agg (acA 0 0))) w := by
  unfold execOp
  simp only [ho, List.map_toArray, List.map_nil, acc_build, Sem.run_bind, Result.andThen_ok, Sem.run_pure]
theorem x_mkI {v u : Value} (ty : TypeId) (x : Operand) (ho : o.op = .makeInterface ty x) (hx : a.eval x = v) (hr : (Instr.makeInterface ty v).run Try.prog w = .ok u w) : (execOp a.eval o).run Try.prog w = .ok (.value u) w := by
  unfold execOp
  simp only [ho, hx, Sem.run_bind, hr, Result.andThen_ok, Sem.run_pure]
theorem x_ta {v u : Value} (x : Operand) (t1 t2 : TypeId) (ho : o.op = .typeAssert x t1 t2 true) (hx : a.eval x = v) (hr : (Instr.typeAssert v t1 t2 true).run Try.prog w = .ok u w) : (execOp a.eval o).run Try.prog w = .ok (.value u) w := by
  unfold execOp
  simp only [ho, hx, Sem.run_bind, hr, Result.andThen_ok, Sem.run_pure]
theorem x_ext {v : Value} {vs : Array Value} (x : Operand) (i : Nat) (ho : o.op = .extract x i) (hx : a.eval x = .tuple vs) (hv : vs[i]? = some v) : (execOp a.eval o).run Try.prog w = .ok (.value v) w := by
  unfold execOp
  simp [ho, hx, Instr.extract, hv]
theorem x_not {s : Bool} (ty : TypeId) (x : Operand) (ho : o.op = .unOp .not ty x) (hx : a.eval x = .bool s) : (execOp a.eval o).run Try.prog w = .ok (.value (.bool (!s))) w := by
  unfold execOp; simp only [ho, hx]; show Sem.run _ _ w = _; simp [Op.unary]
end
section
variable {ops : Array Oper} {rest : List Oper} {o : Oper} {a : Act} {w w' : World} {Q : Exit → Act → World → Prop}
/-- Whatever yields a value. -/
theorem st_run {v : Value} (hgd : o.guard = none) (hr : (execOp a.eval o).run Try.prog w = .ok (.value v) w') (h : wpList Try.prog ops Q rest (a.put o.dst v) w') : wpList Try.prog ops Q (o :: rest) a w :=
  wpList_plain hgd fun K hK => by
    unfold Oper.wp
    rw [hr]
    exact hK _ _ h
theorem st_callS {f : FuncId} {ts : Array TypeId} {xs : Array Operand} {args : Array Value} {R : Ending → World → Prop} (hgd : o.guard = none) (hop : o.op = .call { callee := .value (.func f), args := xs, argTypes := ts }) (ha : xs.map a.eval = args) (hf : ∀ args w, (callFunc f args).run Try.prog w = .ok (.enter f args) w)
    (hc : Calls Try.prog f args w R) (h : ∀ e w', R e w' → ∃ v, e = .returned v ∧ wpList Try.prog ops Q rest (a.put o.dst v) w') : wpList Try.prog ops Q (o :: rest) a w :=
  wpList_plain hgd fun K hK => by
    subst ha
    have hr : (execOp a.eval o).run Try.prog w = .ok (.enter f (xs.map a.eval)) w := by unfold execOp; simp [hop, resolve, invoke, hf, show a.eval (.func f) = .func (.func f) #[] #[] from rfl, Deferred.ofValue]
    unfold Oper.wp
    rw [hr]
    exact hc.mono fun e w' hR => by
      obtain ⟨v, rfl, hk⟩ := h e w' hR
      exact hK _ _ hk
theorem held_callS {l0 : List Oper} {n : Nat} {K : Act → World → Prop} {f : FuncId} {ts : Array TypeId} {xs : Array Operand} {args : Array Value} {R : Ending → World → Prop} (ho : l0[n]? = some o) (hw : Region.wanted o (yielded l0.toArray a.tmps) = true)
    (hop : o.op = .call { callee := .value (.func f), args := xs, argTypes := ts }) (ha : xs.map a.eval = args) (hf : ∀ args w, (callFunc f args).run Try.prog w = .ok (.enter f args) w)
    (hc : Calls Try.prog f args w R) (h : ∀ e w', R e w' → ∃ v, e = .returned v ∧ K (a.put o.dst v) w') : wpOp Try.prog l0.toArray Q n K a w :=
  o_callR (by rw [List.getElem?_toArray]; exact ho) hw (by subst ha; unfold execOp; simp [hop, resolve, invoke, hf, show a.eval (.func f) = .func (.func f) #[] #[] from rfl, Deferred.ofValue]) hc h
theorem st_end14 {P : Program} {ops : Array Oper} {a : Act} {w : World} {Q : Exit → Act → World → Prop} (h : Q .normal a w) : wpList P ops Q [] a w := h
/-- Whatever is done without a value. -/
theorem st_skip (hgd : o.guard = none) (hr : (execOp a.eval o).run Try.prog w = .ok .skip w') (h : wpList Try.prog ops Q rest (a.put o.dst undef) w') : wpList Try.prog ops Q (o :: rest) a w :=
  wpList_plain hgd fun K hK => by
    unfold Oper.wp
    rw [hr]
    exact hK _ _ h
theorem held_skip {l0 : List Oper} {n : Nat} {K : Act → World → Prop} (ho : l0[n]? = some o) (hw : Region.wanted o (yielded l0.toArray a.tmps) = true) (hr : (execOp a.eval o).run Try.prog w = .ok .skip w')
    (h : K (a.put o.dst undef) w') : wpOp Try.prog l0.toArray Q n K a w := by
  have ho' : l0.toArray[n]? = some o := by rw [List.getElem?_toArray]; exact ho
  unfold wpOp
  simp only [ho', hw, if_true]
  refine .inl ?_
  unfold Oper.wp
  simp only [hr]
  exact h
theorem held_run {l0 : List Oper} {n : Nat} {K : Act → World → Prop} {v : Value} (ho : l0[n]? = some o) (hw : Region.wanted o (yielded l0.toArray a.tmps) = true) (hr : (execOp a.eval o).run Try.prog w = .ok (.value v) w')
    (h : K (a.put o.dst v) w') : wpOp Try.prog l0.toArray Q n K a w := by
  have ho' : l0.toArray[n]? = some o := by rw [List.getElem?_toArray]; exact ho
  unfold wpOp
  simp only [ho', hw, if_true]
  refine .inl ?_
  unfold Oper.wp
  simp only [hr]
  exact h
end
section
variable {o : Oper} {a : Act} {w w' : World}
theorem r_store {b q n : Nat} {t ty : TypeId} {c c' : Array Value} (xo yo : Operand) (ho : o.op = .store ty xo yo) (hx : a.eval xo = .pointer (some ⟨b, q, none⟩)) (hy : a.eval yo = .agg c') (hB : Blk w b t c) (hi : (Try.prog.info? ty).map (·.size) = some n) (hn' : c'.size = n) (hl : q + c'.size ≤ c.size) (h1 : c'.all (·.oneCell') = true) :
    (execOp a.eval o).run Try.prog w = .ok .skip (w.setRow b (splS c q c')) := by
  have := hB.storeS hi hn' hl h1
  unfold execOp
  simp only [ho, hx, hy, Sem.run_bind, this, Result.andThen_ok, Sem.run_pure]
theorem r_store1 {b j : Nat} {t ty : TypeId} {c : Array Value} {v : Value} (xo yo : Operand) (ho : o.op = .store ty xo yo) (hx : a.eval xo = .pointer (some ⟨b, j, none⟩)) (hy : a.eval yo = v) (hB : Blk w b t c) (hi : (Try.prog.info? ty).map (·.size) = some 1) (hj : j < c.size) (hv : v.oneCell' = true) :
    (execOp a.eval o).run Try.prog w = .ok .skip (w.setCell ⟨b, j, none⟩ v) := by
  have := hB.store1S hi hj hv
  unfold execOp
  simp only [ho, hx, hy, Sem.run_bind, this, Result.andThen_ok, Sem.run_pure]
end

/-! ### The map of accounts. -/
/-- How a pointer to an account reads: as the number of its block. -/
def PtrR (v : Value) : Option (DataW Unit × List MemPlace) :=
  match v with
  | .pointer none => some (.nil, [])
  | .pointer (some ⟨b, 0, none⟩) => some (.lit (.int .i64 (b : Int)), [])
  | _ => none
def ptrD : Option Nat → DataW Unit
  | none => .nil
  | some b => .lit (.int .i64 (b : Int))
def ptrV : Option Nat → Value
  | none => .pointer none
  | some b => .pointer (some ⟨b, 0, none⟩)
theorem PtrR_inv {v : Value} {o : Option Nat} {ps : List MemPlace} (h : PtrR v = some (ptrD o, ps)) : v = ptrV o := by
  unfold PtrR at h
  split at h
  · cases o with
    | none => rfl
    | some b => simp [ptrD] at h
  · cases o with
    | none => simp [ptrD] at h
    | some b =>
      simp only [ptrD, Option.some.injEq, Prod.mk.injEq, DataW.lit.injEq, Lit.int.injEq, true_and] at h
      have := h.1
      rw [show (_ : Nat) = b from Int.ofNat.inj this]
      rfl
  · cases h
theorem PtrR_mk (o : Option Nat) : PtrR (ptrV o) = some (ptrD o, []) := by cases o <;> rfl
/-- A map of at most N accounts, by what is at each address. -/
def MapP (B N : Nat) (w : World) (mv : Value) (F : List Nat → Option Nat) : Prop :=
  (mv = .map none ∧ ∀ A, F A = none) ∨ ∃ r n D, mv = .map (some r) ∧ B ≤ r ∧ n ≤ N ∧ w.ownsMap Try.prog 23 PtrR r n D ∧ Maps.IsMap D ∧ ∀ A, Ad A → D.atKey (keyL A) .nil = ptrD (F A)
theorem MapP.far {B N : Nat} {w w' : World} {mv : Value} {F : List Nat → Option Nat} (h : MapP B N w mv F) (hb : ∀ r, mv = .map (some r) → w'.heap[r]? = w.heap[r]?) : MapP B N w' mv F := by
  rcases h with h | ⟨r, n, D, rfl, h1, h2, h3, h4, h5⟩
  · exact .inl h
  · refine .inr ⟨r, n, D, rfl, h1, h2, ?_, h4, h5⟩
    obtain ⟨es, clock, hb', F', hs, hD⟩ := h3
    exact ⟨es, clock, (hb r rfl).trans hb', F', hs, hD⟩
theorem MapP.lt {B N : Nat} {w : World} {r : Nat} {F : List Nat → Option Nat} (h : MapP B N w (.map (some r)) F) : r < w.heap.size ∧ B ≤ r := by
  rcases h with ⟨h, _⟩ | ⟨r', n, D, e, h1, h2, h3, h4, h5⟩
  · cases h
  · cases e; exact ⟨h3.lt, h1⟩
def upF (F : List Nat → Option Nat) (A : List Nat) (o : Option Nat) : List Nat → Option Nat := fun X => if X = A then o else F X
section
variable {o : Oper} {a : Act} {w w' : World} {B N : Nat} {mv : Value} {F : List Nat → Option Nat} {A : List Nat}
theorem x_look (hM : MapP B N w mv F) (hA : Ad A) (mo xo : Operand) (ho : o.op = .lookup 45 mo xo false) (hm : a.eval mo = mv) (hx : a.eval xo = .agg (av A)) : (execOp a.eval o).run Try.prog w = .ok (.value (ptrV (F A))) w := by
  have hkey := keyOf_arr addrArr hA.1 hA.2
  rcases hM with ⟨rfl, h⟩ | ⟨r, n, D, rfl, h1, h2, h3, h4, h5⟩
  · have hr := Maps.look_nil (w := w) false addrKeyed mapA_ty (ptrA_zero w) hkey
    unfold execOp
    simp [ho, hm, hx, hr, h A, ptrV]
  · obtain ⟨v, ps, hr, hv⟩ := h3.lookup addrKeyed mapA_ty (ptrA_zero w) (zd := .nil) (zp := []) rfl hkey
    rw [h5 A hA] at hv
    have e := PtrR_inv hv
    subst e
    unfold execOp
    simp [ho, hm, hx, hr]
/-- What stands in an address' place is put there. -/
theorem r_mapPut {r b : Nat} (hM : MapP B N w (.map (some r)) F) (hN : N < maxLen) (hA : Ad A) (mo xo vo : Operand) (ho : o.op = .mapUpdate 45 mo xo vo) (hm : a.eval mo = .map (some r)) (hx : a.eval xo = .agg (av A)) (hv : a.eval vo = .pointer (some ⟨b, 0, none⟩)) :
    ∃ w', (execOp a.eval o).run Try.prog w = .ok .skip w' ∧ MapP B (N + 1) w' (.map (some r)) (upF F A (some b)) ∧ Tch [r] w w' := by
  have hkey := keyOf_arr addrArr hA.1 hA.2
  rcases hM with ⟨e, h⟩ | ⟨r', n, D, e, h1, h2, h3, h4, h5⟩
  · cases e
  cases e
  obtain ⟨w1, hr, g1, g2⟩ := h3.update addrKeyed mapA_ty (Nat.lt_of_le_of_lt h2 hN) hkey (PtrR_mk (some b))
  refine ⟨w1, ?_, .inr ⟨r, n + 1, _, rfl, h1, by omega, g1, h4.put _ _, fun X hX => ?_⟩, tch_grow g2⟩
  · have hr' : (Instr.mapUpdate 45 (.map (some r)) (.agg (av A)) (.pointer (some ⟨b, 0, none⟩))).run Try.prog w = .ok () w1 := hr
    unfold execOp
    simp [ho, hm, hx, hv, hr']
  · unfold upF
    by_cases hXA : X = A
    · subst hXA; rw [if_pos rfl, Maps.atKey_put_same h4 (keyL_is _)]
    · rw [if_neg hXA, Maps.atKey_put_other (fun e => hXA (keyL_inj addrArr hX.1 hX.2 hA.1 hA.2 e))]
      exact h5 X hX
theorem r_mapDel (hM : MapP B N w mv F) (hA : Ad A) (mo xo : Operand) (ho : o.op = .call { callee := .builtin .delete, args := #[mo, xo], argTypes := #[45, 23] }) (hm : a.eval mo = mv) (hx : a.eval xo = .agg (av A)) :
    ∃ w', (execOp a.eval o).run Try.prog w = .ok (.value (.tuple #[])) w' ∧ MapP B N w' mv (upF F A none) ∧ (∀ r, mv = .map (some r) → Tch [r] w w') ∧ (mv = .map none → w' = w) := by
  have hkey := keyOf_arr addrArr hA.1 hA.2
  rcases hM with ⟨rfl, h⟩ | ⟨r, n, D, rfl, h1, h2, h3, h4, h5⟩
  · have hr := Maps.drop_nil (w := w) addrKeyed mapA_ty hkey o.type
    refine ⟨w, ?_, .inl ⟨rfl, fun X => by unfold upF; split; rfl; exact h X⟩, fun r e => (by cases e), fun _ => rfl⟩
    unfold execOp
    simp [ho, resolve, invoke, builtin, hm, hx, hr]
  · obtain ⟨w1, hr, g1, g2⟩ := h3.drop addrKeyed mapA_ty hkey o.type
    refine ⟨w1, ?_, .inr ⟨r, n, _, rfl, h1, h2, g1, h4.del _, fun X hX => ?_⟩, fun r' e => ?_, fun e => (by cases e)⟩
    · unfold execOp
      simp [ho, resolve, invoke, builtin, hm, hx, hr]
    · unfold upF
      by_cases hXA : X = A
      · subst hXA; rw [if_pos rfl, Maps.atKey_del_same]; rfl
      · rw [if_neg hXA, Maps.atKey_del_other (fun e => hXA (keyL_inj addrArr hX.1 hX.2 hA.1 hA.2 e))]
        exact h5 X hX
    · cases e
      obtain ⟨es, clock, es', clock', hb, rfl⟩ := g2
      exact ⟨rfl, rfl, rfl, by simp [setBlock], fun k _ hk => heap_setBlock_other hb _ (fun e => hk (by simp [e]))⟩
theorem r_mkMap (ho : o.op = .makeMap 45 none) : (execOp a.eval o).run Try.prog w = .ok (.value (.map (some w.heap.size))) (w.alloc (.map #[] 0)) := by
  have hr : (Instr.makeMap 45 none).run Try.prog w = .ok (.map (some w.heap.size)) (w.alloc (.map #[] 0)) := rfl
  unfold execOp
  simp only [ho, Option.map_none, Sem.run_bind, hr, Result.andThen_ok, Sem.run_pure]
theorem MapP.made (B N : Nat) (w : World) (hB : B ≤ w.heap.size) (F : List Nat → Option Nat) (hF : ∀ A, Ad A → F A = none) : MapP B N (w.alloc (.map #[] 0)) (.map (some w.heap.size)) F :=
  .inr ⟨w.heap.size, 0, .map [], rfl, hB, Nat.zero_le _, World.ownsMap_made _ _ _ _, Maps.isMap_empty, fun A hA => by rw [hF A hA]; rfl⟩
end
end Go.Proofs.Ytklpcppdjcedpaa
