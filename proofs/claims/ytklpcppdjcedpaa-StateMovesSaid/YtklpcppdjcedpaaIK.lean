/- Steps of regions in the text's order, for structs of one slice. -/
import Derived.Test.YtklpcppdjcedpaaI1
set_option linter.unusedVariables false
set_option linter.unusedSimpArgs false
namespace Go.Proofs.Ytklpcppdjcedpaa
open Go.RowKit
section
variable {o : Oper} {a : Act} {ops : Array Oper} {rest : List Oper} {C : World → Prop} {Q : Act → Prop}
theorem k_nilI (p : Addr) (hw : Region.wanted o (yielded ops a.tmps) = true) (x : Operand) (ho : o.op = .nilCheck x) (hx : a.eval x = .pointer (some p))
    (h : KQ ops C Q rest (a.put o.dst (.pointer (some p)))) : KQ ops C Q (o :: rest) a := k_pure hw (fun w => by unfold execOp; simp only [ho, hx]; rfl) h
theorem k_faI {ty : TypeId} {x : Operand} {f : Nat} {v u : Value} (hw : Region.wanted o (yielded ops a.tmps) = true) (ho : o.op = .fieldAddr ty x f) (hx : a.eval x = v) (hr : ∀ w, (Instr.fieldAt ty v f).run Try.prog w = .ok u w)
    (h : KQ ops C Q rest (a.put o.dst u)) : KQ ops C Q (o :: rest) a :=
  k_pure hw (fun w => by unfold execOp; simp only [ho, hx, Sem.run_bind, hr, Result.andThen_ok, Sem.run_pure]) h
theorem k_notV {s t : Bool} (hw : Region.wanted o (yielded ops a.tmps) = true) (ty : TypeId) (xo : Operand) (ho : o.op = .unOp .not ty xo) (hx : a.eval xo = .bool s) (ht : (!s) = t)
    (h : KQ ops C Q rest (a.put o.dst (.bool t))) : KQ ops C Q (o :: rest) a := k_not hw ty xo ho hx (by rw [ht]; exact h)
theorem k_geqI {t : Bool} {m n : Int} (hw : Region.wanted o (yielded ops a.tmps) = true) (xo yo : Operand) (yt : TypeId) (ho : o.op = .binOp .geq 3 xo yo yt)
    (hxe : a.eval xo = .int .i64 m) (hye : a.eval yo = .int .i64 n) (hxy : decide (n ≤ m) = t) (h : KQ ops C Q rest (a.put o.dst (.bool t))) : KQ ops C Q (o :: rest) a :=
  k_pure hw (fun w => by unfold execOp; simp only [ho, hxe, hye]; show Sem.run _ _ w = _; simp [eqGuard, binOp, Op.intCmp, hxy]) h
theorem k_leqI {t : Bool} {m n : Int} (hw : Region.wanted o (yielded ops a.tmps) = true) (xo yo : Operand) (yt : TypeId) (ho : o.op = .binOp .leq 3 xo yo yt)
    (hxe : a.eval xo = .int .i64 m) (hye : a.eval yo = .int .i64 n) (hxy : decide (m ≤ n) = t) (h : KQ ops C Q rest (a.put o.dst (.bool t))) : KQ ops C Q (o :: rest) a :=
  k_pure hw (fun w => by unfold execOp; simp only [ho, hxe, hye]; show Sem.run _ _ w = _; simp [eqGuard, binOp, Op.intCmp, hxy]) h
theorem k_eqlI {t : Bool} {m n : Int} (hw : Region.wanted o (yielded ops a.tmps) = true) (xo yo : Operand) (yt : TypeId) (ho : o.op = .binOp .eql 3 xo yo yt)
    (hxe : a.eval xo = .int .i64 m) (hye : a.eval yo = .int .i64 n) (hxy : decide (m = n) = t) (h : KQ ops C Q rest (a.put o.dst (.bool t))) : KQ ops C Q (o :: rest) a := k_ints hw xo yo yt ho hxe hye hxy h
theorem k_neqI {t : Bool} {m n : Int} (hw : Region.wanted o (yielded ops a.tmps) = true) (xo yo : Operand) (yt : TypeId) (ho : o.op = .binOp .neq 3 xo yo yt)
    (hxe : a.eval xo = .int .i64 m) (hye : a.eval yo = .int .i64 n) (hxy : decide (m ≠ n) = t) (h : KQ ops C Q rest (a.put o.dst (.bool t))) : KQ ops C Q (o :: rest) a :=
  k_pure hw (fun w => by unfold execOp; simp only [ho, hxe, hye]; show Sem.run _ _ w = _; subst hxy; by_cases e : m = n <;> simp [eqGuard, binOp, Op.intCmp, e, bne]) h
theorem k_neqB {s r t : Bool} (hw : Region.wanted o (yielded ops a.tmps) = true) (xo yo : Operand) (yt : TypeId) (ho : o.op = .binOp .neq 4 xo yo yt)
    (hxe : a.eval xo = .bool s) (hye : a.eval yo = .bool r) (hxy : (s != r) = t) (h : KQ ops C Q rest (a.put o.dst (.bool t))) : KQ ops C Q (o :: rest) a :=
  k_pure hw (fun w => by unfold execOp; simp only [ho, hxe, hye]; show Sem.run _ _ w = _; simp [eqGuard, binOp]; show ((Sem.run Try.prog (Op.equalIn (9999 + 1) 4 (.bool s) (.bool r)) w).andThen _) = _; unfold Op.equalIn; simp [run_underlying bool_ty, ← hxy, bne]) h
end
end Go.Proofs.Ytklpcppdjcedpaa
