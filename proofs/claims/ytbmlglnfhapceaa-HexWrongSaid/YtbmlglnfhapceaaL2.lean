/- Further steps of a law's regions: lengths, slices' places, cells, slices that are built. -/
import Derived.Test.YtbmlglnfhapceaaL0
namespace Go.Proofs.Ytbmlglnfhapceaa
open Go.RowKit

theorem string_agg (w : World) : (isAgg 9).run Try.prog w = .ok false w := by simp [isAgg, run_underlying string_ty]
theorem bool_agg (w : World) : (isAgg 4).run Try.prog w = .ok false w := by simp [isAgg, run_underlying bool_ty]
section
variable {o : Oper} {a : Act} {ops : Array Oper} {rest : List Oper} {C : World → Prop} {Q : Act → Prop}
/-- The length of a text. -/
theorem k_lenS {s : ByteArray} (hw : Region.wanted o (yielded ops a.tmps) = true) (x : Operand) (ho : o.op = .call { callee := .builtin .len, args := #[x], argTypes := #[9] }) (hx : a.eval x = .string s)
    (h : KQ ops C Q rest (a.put o.dst (.int .i64 (s.size : Int)))) : KQ ops C Q (o :: rest) a :=
  k_pure hw (fun w => by unfold execOp; simp [ho, resolve, invoke, builtin, hx, Builtin.len_, run_underlying string_ty, goInt]) h
/-- The place of a slice's element. -/
theorem k_idxSl {b off j n c e : Nat} (hw : Region.wanted o (yielded ops a.tmps) = true) (ty : TypeId) (x y : Operand) (ho : o.op = .indexAddr ty x y) (hx : a.eval x = .slice (some ⟨b, off, none⟩) n c) (hy : a.eval y = .int .i64 (j : Int)) (hu : Try.prog.underlying ty = some (.slice e)) (he : (Try.prog.info? e).map (·.size) = some 1) (hj : j < n)
    (h : KQ ops C Q rest (a.put o.dst (.pointer (some ⟨b, off + j, none⟩)))) : KQ ops C Q (o :: rest) a :=
  k_pure hw (fun w => by
    have hadd : (⟨b, off, none⟩ : Addr).add j = ⟨b, off + j, none⟩ := by unfold Addr.add; split <;> simp_all
    unfold execOp
    simp [ho, hx, hy, Instr.indexAt, run_underlying hu, Instr.sureAddr, asIntOf, sizeOf_one he, hj, hadd]) h
/-- One cell is loaded, in worlds that hold it. -/
theorem k_cellC {b j : Nat} {v : Value} (hw : Region.wanted o (yielded ops a.tmps) = true) (ty : TypeId) (x : Operand) (ho : o.op = .load ty x) (hx : a.eval x = .pointer (some ⟨b, j, none⟩)) (hv : ∀ w, C w → w.cell? ⟨b, j, none⟩ = some v) (hu : ∀ w, (isAgg ty).run Try.prog w = .ok false w)
    (h : KQ ops C Q rest (a.put o.dst v)) : KQ ops C Q (o :: rest) a :=
  k_in hw (fun w hC => by
    unfold execOp
    simp only [ho, hx, Instr.loadAt, Instr.sureAddr, loadVar, Sem.run_bind, hu, Result.andThen_ok, Sem.run_pure, Bool.false_eq_true, if_false, run_load, hv w hC]) h
/-- A call of one argument, in the class. -/
theorem k_callC1 {v v1 : Value} {f : FuncId} {ts : Array TypeId} {x1 : Operand} (hw : Region.wanted o (yielded ops a.tmps) = true) (ho : o.op = .call { callee := .value (.func f), args := #[x1], argTypes := ts }) (h1 : a.eval x1 = v1)
    (hf : ∀ args w, (callFunc f args).run Try.prog w = .ok (.enter f args) w) (hc : ∀ w, C w → Calls Try.prog f #[v1] w fun e w' => e = .returned v ∧ C w')
    (h : KQ ops C Q rest (a.put o.dst v)) : KQ ops C Q (o :: rest) a := k_callC hw ho (by simp [h1]) hf hc h
/-- A bool held against itself. -/
theorem k_boolsS {s : Bool} (hw : Region.wanted o (yielded ops a.tmps) = true) (xo yo : Operand) (yt : TypeId) (ho : o.op = .binOp .eql 4 xo yo yt) (hxe : a.eval xo = .bool s) (hye : a.eval yo = .bool s)
    (h : KQ ops C Q rest (a.put o.dst (.bool true))) : KQ ops C Q (o :: rest) a := k_bools hw xo yo yt ho hxe hye (by rw [beq_self_eq_true]; exact h)
end
/-- One cell is loaded, out of a block known whole. -/
theorem st_cell1 {ops : Array Oper} {rest : List Oper} {o : Oper} {a : Act} {bs : List Nat} {w0 w : World} {Q : Exit → Act → World → Prop} {L : List Ent} {b j : Nat} {t : TypeId} {c : Array Value} {v : Value} (hS : St bs w0 w L) (hgd : o.guard = none) (ty : TypeId) (x : Operand) (ho : o.op = .load ty x) (hx : a.eval x = .pointer (some ⟨b, j, none⟩)) (m : At L b t c) (hv : c[j]? = some v)
    (hu : ∀ w, (isAgg ty).run Try.prog w = .ok false w) (h : wpList Try.prog ops Q rest (a.put o.dst v) w) : wpList Try.prog ops Q (o :: rest) a w :=
  wpList_plain hgd fun K hK => by
    have hl : w.cell? ⟨b, j, none⟩ = some v := (hS.get m).cell hv
    unfold Oper.wp execOp
    simp only [ho, hx, Instr.loadAt, Instr.sureAddr, loadVar, Sem.run_bind, hu, Result.andThen_ok, Sem.run_pure, Bool.false_eq_true, if_false, run_load, hl]
    exact hK _ _ h
/-- A slice is built. -/
theorem st_build {ops : Array Oper} {rest : List Oper} {o : Oper} {a : Act} {bs : List Nat} {w0 w : World} {Q : Exit → Act → World → Prop} {L : List Ent} {n : Nat} {t : TypeId} {c : Array Value} (hS : St bs w0 w L) (hgd : o.guard = none)
    (hr : ∀ w : World, (execOp a.eval o).run Try.prog w = .ok (.value (.slice (some ⟨w.heap.size, 0, none⟩) n n)) (w.alloc (.cells c t)))
    (h : ∀ w' b, St bs w0 w' ((b, t, c) :: L) → wpList Try.prog ops Q rest (a.put o.dst (.slice (some ⟨b, 0, none⟩) n n)) w') : wpList Try.prog ops Q (o :: rest) a w :=
  wpList_plain hgd fun K hK => by
    unfold Oper.wp
    rw [hr w]
    exact hK _ _ (h _ _ (hS.new t c))
end Go.Proofs.Ytbmlglnfhapceaa
