/- OpsAll's walk. -/
import Derived.Test.YtjbjjiibldlipaaO8
import Derived.Test.YtjbjjiibldlipaaO2
import Derived.Test.YtjbjjiibldlipaaB2
namespace Go.Proofs.Ytjbjjiibldlipaa
open Go.RowKit

theorem strB_inj' {a b : List Nat} (ha : ∀ x ∈ a, x < 256) (hb : ∀ x ∈ b, x < 256) (h : strB a = strB b) : a = b := by
  have := strB_eq ha hb
  rw [h, beq_self_eq_true] at this
  exact (beq_iff_eq.1 this.symm)
theorem nm_inj (x y : Nat) (hx : x < 256) (hy : y < 256) (h0 : nm x ≠ []) (h : nm x = nm y) : x = y := by
  have hd := nm_codes
  have hx' : x ∈ (List.range 256).filter fun x => nm x != [] := List.mem_filter.2 ⟨List.mem_range.2 hx, by simpa using h0⟩
  have hy' : y ∈ (List.range 256).filter fun x => nm x != [] := List.mem_filter.2 ⟨List.mem_range.2 hy, by rw [← h]; simpa using h0⟩
  have hp := List.pairwise_map.1 hd
  obtain ⟨i, hi, rfl⟩ := List.mem_iff_getElem.1 hx'
  obtain ⟨j, hj, rfl⟩ := List.mem_iff_getElem.1 hy'
  have hpw := List.pairwise_iff_getElem.1 hp
  rcases Nat.lt_trichotomy i j with hl | he | hl
  · exact absurd (by rw [h]) (hpw i j hi hj hl)
  · subst he; rfl
  · exact absurd (by rw [h]) (hpw j i hj hi hl)
/-- How many of the first bytes are instructions. -/
def cnt (k : Nat) : Nat := ((List.range k).filter fun x => nm x != []).length
theorem cnt_yes {k : Nat} (h : nm k ≠ []) : cnt (k + 1) = cnt k + 1 := by
  unfold cnt; rw [List.range_succ, List.filter_append, List.length_append]
  simp [h]
theorem cnt_no {k : Nat} (h : nm k = []) : cnt (k + 1) = cnt k := by
  unfold cnt; rw [List.range_succ, List.filter_append, List.length_append]
  simp [h]
theorem cnt_le (k : Nat) : cnt k ≤ k := by
  unfold cnt
  exact Nat.le_trans (List.length_filter_le _ _) (by simp)
section
variable {ops : Array Oper} {rest : List Oper} {o : Oper} {a : Act} {w : World} {Q : Exit → Act → World → Prop}
/-- A text held against another. -/
theorem st_eqS {l m : List Nat} {t : Bool} (hgd : o.guard = none) (x y : Operand) (yt : TypeId) (ho : o.op = .binOp .eql 9 x y yt) (hx : a.eval x = .string (strB l)) (hy : a.eval y = .string (strB m)) (hl : ∀ x ∈ l, x < 256) (hm : ∀ x ∈ m, x < 256) (ht : (l == m) = t)
    (h : wpList Try.prog ops Q rest (a.put o.dst (.bool t)) w) : wpList Try.prog ops Q (o :: rest) a w :=
  wpList_plain hgd fun K hK => by
    have e : ((strB l).toList == (strB m).toList) = t := by rw [strB_eq hl hm]; exact ht
    have hr : (execOp a.eval o).run Try.prog w = .ok (.value (.bool t)) w := by
      unfold execOp; simp only [ho, hx, hy]; show Sem.run _ _ w = _; simp [eqGuard, binOp, Op.stringOp, e]
    unfold Oper.wp
    rw [hr]
    exact hK _ _ h
end
section
variable {o : Oper} {a : Act} {ops : Array Oper} {rest : List Oper} {C : World → Prop} {Q : Act → Prop} {t : Bool}
theorem k_eqS {l m : List Nat} (hw : Region.wanted o (yielded ops a.tmps) = true) (x y : Operand) (yt : TypeId) (ho : o.op = .binOp .eql 9 x y yt) (hx : a.eval x = .string (strB l)) (hy : a.eval y = .string (strB m)) (hl : ∀ x ∈ l, x < 256) (hm : ∀ x ∈ m, x < 256) (ht : (l == m) = t)
    (h : KQ ops C Q rest (a.put o.dst (.bool t))) : KQ ops C Q (o :: rest) a :=
  k_pure hw (fun w => by
    have e : ((strB l).toList == (strB m).toList) = t := by rw [strB_eq hl hm]; exact ht
    unfold execOp; simp only [ho, hx, hy]; show Sem.run _ _ w = _; simp [eqGuard, binOp, Op.stringOp, e]) h
theorem k_gtr {m n : Int} (hw : Region.wanted o (yielded ops a.tmps) = true) (xo yo : Operand) (yt : TypeId) (ho : o.op = .binOp .gtr 3 xo yo yt)
    (hxe : a.eval xo = .int .i64 m) (hye : a.eval yo = .int .i64 n) (hxy : decide (n < m) = t) (h : KQ ops C Q rest (a.put o.dst (.bool t))) : KQ ops C Q (o :: rest) a :=
  k_pure hw (fun w => by unfold execOp; simp only [ho, hxe, hye]; show Sem.run _ _ w = _; simp [eqGuard, binOp, Op.intCmp, ← hxy]) h
/-- A conversion. -/
theorem k_cvt {s d : TypeId} {x : Operand} {vx v : Value} (hw : Region.wanted o (yielded ops a.tmps) = true) (ho : o.op = .convert s d x) (hx : a.eval x = vx) (hr : ∀ w, (convert s d vx).run Try.prog w = .ok v w) (h : KQ ops C Q rest (a.put o.dst v)) : KQ ops C Q (o :: rest) a :=
  k_pure hw (fun w => by unfold execOp; simp only [ho, hx, Sem.run_bind, hr, Result.andThen_ok, Sem.run_pure]) h
end
theorem cvt_u8 (x : Nat) (hx : x < 256) (w : World) : (convert 3 5 (.int .i64 (x : Int))).run Try.prog w = .ok (.int .u8 (x : Int)) w := by
  have h : IntKind.u8.wrap (x : Int) = (x : Int) := by simp [IntKind.wrap, IntKind.bits, IntKind.signed]; omega
  simp [convert, run_underlying int_tyI, run_underlying byte_ty, Conv.intToInt, h]
end Go.Proofs.Ytjbjjiibldlipaa
