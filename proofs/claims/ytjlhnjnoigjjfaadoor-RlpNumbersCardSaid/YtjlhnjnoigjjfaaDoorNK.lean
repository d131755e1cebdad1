/- Steps of regions in the text's order, for the numbers. -/
import Derived.Test.YtjlhnjnoigjjfaaDoorN3
namespace Go.Proofs.YtjlhnjnoigjjfaaDoor
open Go.RowKit

theorem sizeOf_one {e n : Nat} (h : (Tryd.prog.info? e).map (·.size) = some n) (w : World) : (sizeOf e).run Tryd.prog w = .ok n w := by
  cases hq : Tryd.prog.info? e with
  | none => simp [hq] at h
  | some i =>
    have hs : i.size = n := by simpa [hq] using h
    simp [sizeOf, typeInfo, hq, hs]
/-- What is quiet in a class of worlds, in the text's own order. -/
theorem wpList_of_quiet {P : Program} {ops : Array Oper} {C : World → Prop} {Q : Exit → Act → World → Prop} : ∀ (l : List Oper) (a : Act) (w : World), C w → wpQuiet P ops C (fun a' => ∀ w', C w' → Q .normal a' w') l a → wpList P ops Q l a w
  | [], a, w, hC, h => h w hC
  | o :: rest, a, w, hC, h => by
    unfold wpQuiet at h
    unfold wpList
    split
    · rename_i hw
      rw [if_pos hw] at h
      exact .inl (Oper.wp_of_quiet hC (fun a w' hw' hK => wpList_of_quiet rest a w' hw' hK) h)
    · rename_i hw
      rw [if_neg hw] at h
      exact wpList_of_quiet rest _ w hC h
/-- A region in the text's order, all of it quiet. -/
theorem k_seq {id : Nat} {Q : Exit → Act → World → Prop} {a : Act} {w : World} {l : List Oper} {C : World → Prop} (hC : C w)
    (h : KQ l.toArray C (fun a' => ∀ w', C w' → Q .normal a' w') l a) : (Code.region id l.toArray false).wp Tryd.prog Q a w :=
  wp_region_lit (wpList_of_quiet l a w hC h.go)
section
variable {o : Oper} {a : Act} {ops : Array Oper} {rest : List Oper} {C : World → Prop} {Q : Act → Prop}
theorem k_in {v : Value} (hw : Region.wanted o (yielded ops a.tmps) = true) (hr : ∀ w, C w → (execOp a.eval o).run Tryd.prog w = .ok (.value v) w) (h : KQ ops C Q rest (a.put o.dst v)) : KQ ops C Q (o :: rest) a := by
  constructor
  unfold wpQuiet
  rw [if_pos hw]
  exact ⟨v, fun w hC => by unfold Oper.quietAt; rw [hr w hC]; exact ⟨rfl, rfl⟩, h.go⟩
/-- A call in the class. -/
theorem k_callC {v : Value} {f : FuncId} {ts : Array TypeId} {xs : Array Operand} {args : Array Value} (hw : Region.wanted o (yielded ops a.tmps) = true) (ho : o.op = .call { callee := .value (.func f), args := xs, argTypes := ts }) (ha : xs.map a.eval = args)
    (hf : ∀ args w, (callFunc f args).run Tryd.prog w = .ok (.enter f args) w) (hc : ∀ w, C w → Calls Tryd.prog f args w fun e w' => e = .returned v ∧ C w')
    (h : KQ ops C Q rest (a.put o.dst v)) : KQ ops C Q (o :: rest) a := by
  constructor
  unfold wpQuiet
  rw [if_pos hw]
  refine ⟨v, fun w hC => ?_, h.go⟩
  have hr : (execOp a.eval o).run Tryd.prog w = .ok (.enter f args) w := by
    unfold execOp; simp [ho, resolve, invoke, ha, hf, show a.eval (.func f) = .func (.func f) #[] #[] from rfl, Deferred.ofValue]
  unfold Oper.quietAt
  rw [hr]
  exact ⟨rfl, hc w hC⟩
/-- A call of two arguments, in the class. -/
theorem k_callC2 {v v1 v2 : Value} {f : FuncId} {ts : Array TypeId} {x1 x2 : Operand} (hw : Region.wanted o (yielded ops a.tmps) = true) (ho : o.op = .call { callee := .value (.func f), args := #[x1, x2], argTypes := ts }) (h1 : a.eval x1 = v1) (h2 : a.eval x2 = v2)
    (hf : ∀ args w, (callFunc f args).run Tryd.prog w = .ok (.enter f args) w) (hc : ∀ w, C w → Calls Tryd.prog f #[v1, v2] w fun e w' => e = .returned v ∧ C w')
    (h : KQ ops C Q rest (a.put o.dst v)) : KQ ops C Q (o :: rest) a := k_callC hw ho (by simp [h1, h2]) hf hc h
/-- Integers that differ. -/
theorem k_neqs {m n : Int} {t : Bool} (hw : Region.wanted o (yielded ops a.tmps) = true) (xo yo : Operand) (yt : TypeId) (ho : o.op = .binOp .neq 3 xo yo yt)
    (hxe : a.eval xo = .int .i64 m) (hye : a.eval yo = .int .i64 n) (hxy : (m != n) = t) (h : KQ ops C Q rest (a.put o.dst (.bool t))) : KQ ops C Q (o :: rest) a :=
  k_pure hw (fun w => by unfold execOp; simp only [ho, hxe, hye]; show Sem.run _ _ w = _; simp [eqGuard, binOp, Op.intCmp, ← hxy, bne]) h
/-- Bytes as a text. -/
theorem k_conv {v : Value} {l : List Nat} (hw : Region.wanted o (yielded ops a.tmps) = true) (x : Operand) (ho : o.op = .convert 24 9 x) (hx : a.eval x = v) (hv : ∀ w, C w → RdB w v l)
    (h : KQ ops C Q rest (a.put o.dst (.string (strB l)))) : KQ ops C Q (o :: rest) a :=
  k_in hw (fun w hC => by
    unfold execOp
    simp only [ho, hx, Sem.run_bind, conv_rd (hv w hC), Result.andThen_ok, Sem.run_pure]) h
/-- A text held against itself. -/
theorem k_strS {s : ByteArray} (hw : Region.wanted o (yielded ops a.tmps) = true) (x y : Operand) (yt : TypeId) (ho : o.op = .binOp .eql 9 x y yt) (hx : a.eval x = .string s) (hy : a.eval y = .string s)
    (h : KQ ops C Q rest (a.put o.dst (.bool true))) : KQ ops C Q (o :: rest) a :=
  k_pure hw (fun w => by unfold execOp; simp only [ho, hx, hy]; show Sem.run _ _ w = _; simp [eqGuard, binOp, Op.stringOp]) h
/-- The length of a text. -/
theorem k_lenS {s : ByteArray} (hw : Region.wanted o (yielded ops a.tmps) = true) (x : Operand) (ho : o.op = .call { callee := .builtin .len, args := #[x], argTypes := #[9] }) (hx : a.eval x = .string s)
    (h : KQ ops C Q rest (a.put o.dst (.int .i64 (s.size : Int)))) : KQ ops C Q (o :: rest) a :=
  k_pure hw (fun w => by unfold execOp; simp [ho, resolve, invoke, builtin, hx, Builtin.len_, run_underlying string_ty, goInt]) h
/-- The place of a slice's element. -/
theorem k_idxSl {b off j n c e : Nat} (hw : Region.wanted o (yielded ops a.tmps) = true) (ty : TypeId) (x y : Operand) (ho : o.op = .indexAddr ty x y) (hx : a.eval x = .slice (some ⟨b, off, none⟩) n c) (hy : a.eval y = .int .i64 (j : Int)) (hu : Tryd.prog.underlying ty = some (.slice e)) (he : (Tryd.prog.info? e).map (·.size) = some 1) (hj : j < n)
    (h : KQ ops C Q rest (a.put o.dst (.pointer (some ⟨b, off + j, none⟩)))) : KQ ops C Q (o :: rest) a :=
  k_pure hw (fun w => by
    have hadd : (⟨b, off, none⟩ : Addr).add j = ⟨b, off + j, none⟩ := by unfold Addr.add; split <;> simp_all
    unfold execOp
    simp [ho, hx, hy, Instr.indexAt, run_underlying hu, Instr.sureAddr, asIntOf, sizeOf_one he, hj, hadd]) h
/-- One cell is loaded, in worlds that hold it. -/
theorem k_cellC {b j : Nat} {v : Value} (hw : Region.wanted o (yielded ops a.tmps) = true) (ty : TypeId) (x : Operand) (ho : o.op = .load ty x) (hx : a.eval x = .pointer (some ⟨b, j, none⟩)) (hv : ∀ w, C w → w.cell? ⟨b, j, none⟩ = some v) (hu : ∀ w, (isAgg ty).run Tryd.prog w = .ok false w)
    (h : KQ ops C Q rest (a.put o.dst v)) : KQ ops C Q (o :: rest) a :=
  k_in hw (fun w hC => by
    unfold execOp
    simp only [ho, hx, Instr.loadAt, Instr.sureAddr, loadVar, Sem.run_bind, hu, Result.andThen_ok, Sem.run_pure, Bool.false_eq_true, if_false, run_load, hv w hC]) h
/-- A call of one argument, in the class. -/
theorem k_callC1 {v v1 : Value} {f : FuncId} {ts : Array TypeId} {x1 : Operand} (hw : Region.wanted o (yielded ops a.tmps) = true) (ho : o.op = .call { callee := .value (.func f), args := #[x1], argTypes := ts }) (h1 : a.eval x1 = v1)
    (hf : ∀ args w, (callFunc f args).run Tryd.prog w = .ok (.enter f args) w) (hc : ∀ w, C w → Calls Tryd.prog f #[v1] w fun e w' => e = .returned v ∧ C w')
    (h : KQ ops C Q rest (a.put o.dst v)) : KQ ops C Q (o :: rest) a := k_callC hw ho (by simp [h1]) hf hc h
/-- A bool held against itself. -/
theorem k_boolsS {s : Bool} (hw : Region.wanted o (yielded ops a.tmps) = true) (xo yo : Operand) (yt : TypeId) (ho : o.op = .binOp .eql 4 xo yo yt) (hxe : a.eval xo = .bool s) (hye : a.eval yo = .bool s)
    (h : KQ ops C Q rest (a.put o.dst (.bool true))) : KQ ops C Q (o :: rest) a := k_bools hw xo yo yt ho hxe hye (by rw [beq_self_eq_true]; exact h)
theorem k_lenSl {p : Option Addr} {n c : Nat} (hw : Region.wanted o (yielded ops a.tmps) = true) (x : Operand) (ho : o.op = .call { callee := .builtin .len, args := #[x], argTypes := #[24] }) (hx : a.eval x = .slice p n c)
    (h : KQ ops C Q rest (a.put o.dst (.int .i64 (n : Int)))) : KQ ops C Q (o :: rest) a :=
  k_pure hw (fun w => by unfold execOp; simp [ho, resolve, invoke, builtin, hx, Builtin.len_, run_underlying bytes_ty, goInt]) h
theorem k_slice {p : Option Addr} {l c : Nat} (hw : Region.wanted o (yielded ops a.tmps) = true) (xo : Operand) (ho : o.op = .move xo) (hx : a.eval xo = .slice p l c)
    (h : KQ ops C Q rest (a.put o.dst (.slice p l c))) : KQ ops C Q (o :: rest) a := k_val hw xo (.inl ho) hx h
end
section
variable {o : Oper} {a : Act} {ops : Array Oper} {rest : List Oper} {C : World → Prop} {Q : Act → Prop}
/-- Passed by, whatever the reason. -/
theorem k_skipU (hw : Region.wanted o (yielded ops a.tmps) = false) (h : KQ ops C Q rest (a.put o.dst undef)) : KQ ops C Q (o :: rest) a := ⟨q_skip hw h.go⟩
/-- A field's place. -/
theorem k_fld {b j j' : Nat} (hw : Region.wanted o (yielded ops a.tmps) = true) (ty : TypeId) (x : Operand) (f : Nat) (ho : o.op = .fieldAddr ty x f) (hx : a.eval x = .pointer (some ⟨b, j, none⟩)) (hf : ∀ w, (Instr.fieldAt ty (.pointer (some ⟨b, j, none⟩)) f).run Tryd.prog w = .ok (.pointer (some ⟨b, j', none⟩)) w)
    (h : KQ ops C Q rest (a.put o.dst (.pointer (some ⟨b, j', none⟩)))) : KQ ops C Q (o :: rest) a :=
  k_pure hw (fun w => by unfold execOp; simp only [ho, hx]; show Sem.run _ _ w = _; simp only [Sem.run_bind, hf w, Result.andThen_ok]; rfl) h
theorem k_gtr {t : Bool} {m n : Int} (hw : Region.wanted o (yielded ops a.tmps) = true) (xo yo : Operand) (yt : TypeId) (ho : o.op = .binOp .gtr 3 xo yo yt)
    (hxe : a.eval xo = .int .i64 m) (hye : a.eval yo = .int .i64 n) (hxy : decide (n < m) = t) (h : KQ ops C Q rest (a.put o.dst (.bool t))) : KQ ops C Q (o :: rest) a :=
  k_pure hw (fun w => by unfold execOp; simp only [ho, hxe, hye]; show Sem.run _ _ w = _; simp [eqGuard, binOp, Op.intCmp, hxy]) h
theorem k_eq8 {t : Bool} {m n : Int} (hw : Region.wanted o (yielded ops a.tmps) = true) (xo yo : Operand) (yt : TypeId) (ho : o.op = .binOp .eql 5 xo yo yt)
    (hxe : a.eval xo = .int .u8 m) (hye : a.eval yo = .int .u8 n) (hxy : (m == n) = t) (h : KQ ops C Q rest (a.put o.dst (.bool t))) : KQ ops C Q (o :: rest) a :=
  k_pure hw (fun w => by unfold execOp; simp only [ho, hxe, hye]; show Sem.run _ _ w = _; simp [eqGuard, binOp, Op.intCmp, hxy]) h
end
theorem item_f0 (b : Nat) (w : World) : (Instr.fieldAt 27 (.pointer (some ⟨b, 0, none⟩)) 0).run Tryd.prog w = .ok (.pointer (some ⟨b, 0, none⟩)) w := by kernel_rfl
theorem item_f1 (b : Nat) (w : World) : (Instr.fieldAt 27 (.pointer (some ⟨b, 0, none⟩)) 1).run Tryd.prog w = .ok (.pointer (some ⟨b, 1, none⟩)) w := by kernel_rfl
theorem bool_aggN (w : World) : (isAgg 4).run Tryd.prog w = .ok false w := by simp [isAgg, run_underlying bool_ty]
theorem bytes_aggN (w : World) : (isAgg 24).run Tryd.prog w = .ok false w := by simp [isAgg, run_underlying bytes_ty]
theorem u8_aggN (w : World) : (isAgg 5).run Tryd.prog w = .ok false w := by simp [isAgg, run_underlying byte_ty]
end Go.Proofs.YtjlhnjnoigjjfaaDoor
