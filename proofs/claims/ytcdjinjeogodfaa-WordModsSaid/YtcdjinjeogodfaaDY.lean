/- Single steps of regions whose order is walked: sums, slices, addresses, stores. -/
import Derived.Test.YtcdjinjeogodfaaD8
import Derived.Test.YtcdjinjeogodfaaD7
import Derived.Test.YtcdjinjeogodfaaK
import Derived.Test.YtcdjinjeogodfaaJ6
import Derived.Test.YtcdjinjeogodfaaS3
namespace Go.Proofs.Ytcdjinjeogodfaa
open Go.RowKit

section
variable {ops : Array Oper} {o : Oper} {a : Act} {S : World → Prop} {b : Nat} {rest : List Oper} {C : World → Prop} {Qa : Act → Prop}
theorem y_pure {v : Value} (hw : Region.wanted o (yielded ops a.tmps) = true) (hr : ∀ w, (execOp a.eval o).run Try.prog w = .ok (.value v) w) : YieldsIf Try.prog ops S o v a := .inl ⟨hw, fun w _ => hr w⟩
theorem x_add {m n s : Int} (ty yt : TypeId) (x y : Operand) (ho : o.op = .binOp .add ty x y yt) (hx : a.eval x = .int .i64 m) (hy : a.eval y = .int .i64 n) (he : IntKind.i64.wrap (m + n) = s) (w : World) : (execOp a.eval o).run Try.prog w = .ok (.value (.int .i64 s)) w := by
  unfold execOp; simp only [ho, hx, hy]; show Sem.run _ _ w = _; simp [eqGuard, binOp, Op.intArith, he]
theorem y_add {m n s : Int} (hw : Region.wanted o (yielded ops a.tmps) = true) (ty yt : TypeId) (x y : Operand) (ho : o.op = .binOp .add ty x y yt) (hx : a.eval x = .int .i64 m) (hy : a.eval y = .int .i64 n) (he : IntKind.i64.wrap (m + n) = s) : YieldsIf Try.prog ops S o (.int .i64 s) a :=
  y_pure hw (x_add ty yt x y ho hx hy he)
theorem y_slice2 {v vx vl vh : Value} (hw : Region.wanted o (yielded ops a.tmps) = true) (ty : TypeId) (x l h : Operand) (ho : o.op = .slice ty x (some l) (some h) none) (hx : a.eval x = vx) (hl : a.eval l = vl) (hh : a.eval h = vh)
    (hr : ∀ w, (Instr.sliceAt ty vx (some vl) (some vh) none).run Try.prog w = .ok v w) : YieldsIf Try.prog ops S o v a :=
  y_pure hw (fun w => by unfold execOp; simp only [ho, hx, hl, hh, Option.map_some, Option.map_none, Sem.run_bind, hr, Result.andThen_ok, Sem.run_pure])
theorem y_slice1 {v vx vh : Value} (hw : Region.wanted o (yielded ops a.tmps) = true) (ty : TypeId) (x h : Operand) (ho : o.op = .slice ty x none (some h) none) (hx : a.eval x = vx) (hh : a.eval h = vh)
    (hr : ∀ w, (Instr.sliceAt ty vx none (some vh) none).run Try.prog w = .ok v w) : YieldsIf Try.prog ops S o v a :=
  y_pure hw (fun w => by unfold execOp; simp only [ho, hx, hh, Option.map_some, Option.map_none, Sem.run_bind, hr, Result.andThen_ok, Sem.run_pure])
theorem x_idx {n e j : Nat} (ty : TypeId) (x y : Operand) (ho : o.op = .indexAddr ty x y) (hx : a.eval x = .pointer (some ⟨b, 0, none⟩)) (hy : a.eval y = .int .i64 (j : Int)) (hu : Try.prog.underlying ty = some (.array n e)) (he : (Try.prog.info? e).map (·.size) = some 1) (hj : j < n) (w : World) :
    (execOp a.eval o).run Try.prog w = .ok (.value (.pointer (some ⟨b, j, none⟩))) w := by
  have hadd : (⟨b, 0, none⟩ : Addr).add j = ⟨b, j, none⟩ := by unfold Addr.add; split <;> simp_all
  unfold execOp
  simp [ho, hx, hy, Instr.indexAt, run_underlying hu, Instr.sureAddr, asIntOf, sizeOf_one he, hj, hadd]
theorem y_idx {n e j : Nat} (hw : Region.wanted o (yielded ops a.tmps) = true) (ty : TypeId) (x y : Operand) (ho : o.op = .indexAddr ty x y) (hx : a.eval x = .pointer (some ⟨b, 0, none⟩)) (hy : a.eval y = .int .i64 (j : Int)) (hu : Try.prog.underlying ty = some (.array n e)) (he : (Try.prog.info? e).map (·.size) = some 1) (hj : j < n) : YieldsIf Try.prog ops S o (.pointer (some ⟨b, j, none⟩)) a :=
  y_pure hw (x_idx ty x y ho hx hy hu he hj)
theorem k_idx {n e : Nat} (j : Nat) (hw : Region.wanted o (yielded ops a.tmps) = true) (ty : TypeId) (x y : Operand) (ho : o.op = .indexAddr ty x y) (hx : a.eval x = .pointer (some ⟨b, 0, none⟩)) (hy : a.eval y = .int .i64 (j : Int)) (hu : Try.prog.underlying ty = some (.array n e)) (he : (Try.prog.info? e).map (·.size) = some 1) (hj : j < n)
    (h : KQ ops C Qa rest (a.put o.dst (.pointer (some ⟨b, j, none⟩)))) : KQ ops C Qa (o :: rest) a := k_pure hw (x_idx ty x y ho hx hy hu he hj) h
theorem o_store1 {i : Nat} {w0 w : World} {Q : Exit → Act → World → Prop} {K : Act → World → Prop} {L L' : List Ent} {t : TypeId} {c : Array Value} {k : IntKind} {n : Int} {j : Nat} (ho : ops[i]? = some o) (hw : Region.wanted o (yielded ops a.tmps) = true) (hS : St w0 w L) (ty : TypeId) (x y : Operand) (hop : o.op = .store ty x y) (hx : a.eval x = .pointer (some ⟨b, j, none⟩)) (hy : a.eval y = .int k n) (hi : (Try.prog.info? ty).map (·.size) = some 1)
    (m : Upd L b t c (c.setIfInBounds j (.int k n)) L') (hj : j < c.size) (h : ∀ w', St w0 w' L' → K (a.put o.dst undef) w') : wpOp Try.prog ops Q i K a w := by
  unfold wpOp
  simp only [ho, hw, if_true]
  refine .inl ?_
  have hb := hS.get m.at_
  have hcell : w.cell? ⟨b, j, none⟩ = some c[j] := hb.cell (by simp [hj])
  have hst : (Instr.storeAt ty (.pointer (some ⟨b, j, none⟩)) (.int k n)).run Try.prog w = .ok () (w.setCell ⟨b, j, none⟩ (.int k n)) := by
    cases hq : Try.prog.info? ty with
    | none => simp [hq] at hi
    | some i =>
      have hs : i.size = 1 := by simpa [hq] using hi
      simp [Instr.storeAt, Instr.sureAddr, storeVar, sizeOf, typeInfo, hq, Value.cells, hs, storeCells, Addr.add, run_store Try.prog w ⟨b, j, none⟩ (.int k n) .plain rfl, hcell, hb.free j]
  unfold Oper.wp execOp
  simp only [hop, hx, hy, Sem.run_bind, hst, Result.andThen_ok, Sem.run_pure]
  exact h _ (hS.upd m (Only.setCell w ⟨b, j, none⟩ (.int k n)) (hb.set j (.int k n)))
end
end Go.Proofs.Ytcdjinjeogodfaa
