/- Steps of regions in the text's order, for the numbers. -/
import Derived.Test.YtklpcppdjcedpaaN3
import Derived.Test.YtklpcppdjcedpaaB0
set_option linter.unusedVariables false
set_option linter.unusedSimpArgs false
namespace Go.Proofs.Ytklpcppdjcedpaa
open Go.RowKit

section
variable {o : Oper} {a : Act} {ops : Array Oper} {rest : List Oper} {C : World → Prop} {Q : Act → Prop}
end
section
variable {o : Oper} {a : Act} {ops : Array Oper} {rest : List Oper} {C : World → Prop} {Q : Act → Prop}
/-- Passed by, whatever the reason. -/
theorem k_skipN (hw : Region.wanted o (yielded ops a.tmps) = false) (h : KQ ops C Q rest (a.put o.dst undef)) : KQ ops C Q (o :: rest) a := ⟨q_skip hw h.go⟩
/-- A field's place. -/
theorem k_fld {b j j' : Nat} (hw : Region.wanted o (yielded ops a.tmps) = true) (ty : TypeId) (x : Operand) (f : Nat) (ho : o.op = .fieldAddr ty x f) (hx : a.eval x = .pointer (some ⟨b, j, none⟩)) (hf : ∀ w, (Instr.fieldAt ty (.pointer (some ⟨b, j, none⟩)) f).run Try.prog w = .ok (.pointer (some ⟨b, j', none⟩)) w)
    (h : KQ ops C Q rest (a.put o.dst (.pointer (some ⟨b, j', none⟩)))) : KQ ops C Q (o :: rest) a :=
  k_pure hw (fun w => by unfold execOp; simp only [ho, hx]; show Sem.run _ _ w = _; simp only [Sem.run_bind, hf w, Result.andThen_ok]; rfl) h
theorem k_gtr {t : Bool} {m n : Int} (hw : Region.wanted o (yielded ops a.tmps) = true) (xo yo : Operand) (yt : TypeId) (ho : o.op = .binOp .gtr 3 xo yo yt)
    (hxe : a.eval xo = .int .i64 m) (hye : a.eval yo = .int .i64 n) (hxy : decide (n < m) = t) (h : KQ ops C Q rest (a.put o.dst (.bool t))) : KQ ops C Q (o :: rest) a :=
  k_pure hw (fun w => by unfold execOp; simp only [ho, hxe, hye]; show Sem.run _ _ w = _; simp [eqGuard, binOp, Op.intCmp, hxy]) h
theorem k_eq8 {t : Bool} {m n : Int} (hw : Region.wanted o (yielded ops a.tmps) = true) (xo yo : Operand) (yt : TypeId) (ho : o.op = .binOp .eql 5 xo yo yt)
    (hxe : a.eval xo = .int .u8 m) (hye : a.eval yo = .int .u8 n) (hxy : (m == n) = t) (h : KQ ops C Q rest (a.put o.dst (.bool t))) : KQ ops C Q (o :: rest) a :=
  k_pure hw (fun w => by unfold execOp; simp only [ho, hxe, hye]; show Sem.run _ _ w = _; simp [eqGuard, binOp, Op.intCmp, hxy]) h
end
theorem bool_aggN (w : World) : (isAgg 4).run Try.prog w = .ok false w := by simp [isAgg, run_underlying bool_ty]
theorem bytes_aggN (w : World) : (isAgg 34).run Try.prog w = .ok false w := by simp [isAgg, run_underlying bytes_ty]
theorem u8_aggN (w : World) : (isAgg 5).run Try.prog w = .ok false w := by simp [isAgg, run_underlying byte_ty]
end Go.Proofs.Ytklpcppdjcedpaa
