/- Words held against each other. -/
import Derived.Test.YtcdjinjeogodfaaE2
import Derived.Test.YtcdjinjeogodfaaF
import Derived.Stop.BytesEq
namespace Go.Proofs.Ytcdjinjeogodfaa
open Go.RowKit

def bytesOf (x : Nat) : List UInt8 := (List.range 32).map fun i => UInt8.ofNat (byt x i)
theorem wcells_bytes (x : Nat) : wcells x = ((bytesOf x).map Extern.Stop.cell).toArray := by
  unfold bytesOf
  rw [List.map_map]
  show ((List.range 32).map fun i => Value.int .u8 ((byt x i : Nat) : Int)).toArray = _
  congr 1
  apply List.map_congr_left
  intro i _
  simp only [Function.comp, Extern.Stop.cell]
  have h := byt_lt x i
  congr 1
  simp [Nat.mod_eq_of_lt h]
theorem bytesOf_eq {x y : Nat} (hx : x < M256) (hy : y < M256) : (bytesOf x == bytesOf y) = decide (x = y) := by
  rw [Bool.eq_iff_iff]
  simp only [beq_iff_eq, decide_eq_true_eq]
  refine ⟨fun h => wcells_inj hx hy (by rw [wcells_bytes, wcells_bytes, h]), fun h => by rw [h]⟩
theorem word_guard : Try.prog.eqGuardType Try.prog.depth 23 = false := by kernel_rfl
theorem run_eql_word {x y : Nat} (hx : x < M256) (hy : y < M256) (w : World) : (binOp .eql 23 (.agg (wcells x)) (.agg (wcells y))).run Try.prog w = .ok (.bool (decide (x = y))) w := by
  rw [wcells_bytes, wcells_bytes, run_eql_bytes w 23 5 32 word_ty byte_ty (fun w => sizeOf_one u8_size w) _ _ (by simp [bytesOf]) (by simp [bytesOf]), bytesOf_eq hx hy]
theorem run_neq_word {x y : Nat} (hx : x < M256) (hy : y < M256) (w : World) : (binOp .neq 23 (.agg (wcells x)) (.agg (wcells y))).run Try.prog w = .ok (.bool (!decide (x = y))) w := by
  have h := run_eql_word hx hy w
  rw [run_eql_struct] at h
  rw [run_neq_struct]
  generalize Sem.run Try.prog (Op.equalIn 10000 23 (Value.agg (wcells x)) (Value.agg (wcells y))) w = r at *
  cases r with
  | ok b w' =>
    simp only [Result.andThen_ok, Result.ok.injEq, Value.bool.injEq] at h
    simp only [Result.andThen_ok, h.1, h.2]
  | halt => simp at h
section
variable {o : Oper} {a : Act} {x y : Nat}
theorem ex_eql (xo yo : Operand) (yt : TypeId) (ho : o.op = .binOp .eql 23 xo yo yt) (hxe : a.eval xo = .agg (wcells x)) (hye : a.eval yo = .agg (wcells y)) (hx : x < M256) (hy : y < M256) (w : World) :
    (execOp a.eval o).run Try.prog w = .ok (.value (.bool (decide (x = y)))) w := by
  unfold execOp
  simp only [ho, hxe, hye, Sem.run_bind, run_eqGuard_agg w .eql 23 xo yo _ _ word_guard, Result.andThen_ok, run_eql_word hx hy, Sem.run_pure]
theorem ex_neq (xo yo : Operand) (yt : TypeId) (ho : o.op = .binOp .neq 23 xo yo yt) (hxe : a.eval xo = .agg (wcells x)) (hye : a.eval yo = .agg (wcells y)) (hx : x < M256) (hy : y < M256) (w : World) :
    (execOp a.eval o).run Try.prog w = .ok (.value (.bool (!decide (x = y)))) w := by
  unfold execOp
  simp only [ho, hxe, hye, Sem.run_bind, run_eqGuard_agg w .neq 23 xo yo _ _ word_guard, Result.andThen_ok, run_neq_word hx hy, Sem.run_pure]
/-- Two words that are one, compared in a plain region. -/
theorem st_same {ops : Array Oper} {rest : List Oper} {w : World} {Q : Exit → Act → World → Prop} (hw : Region.wanted o (yielded ops a.tmps) = true) (xo yo : Operand) (yt : TypeId) (ho : o.op = .binOp .eql 23 xo yo yt)
    (hxe : a.eval xo = .agg (wcells x)) (hye : a.eval yo = .agg (wcells y)) (hx : x < M256) (hxy : x = y) (h : wpList Try.prog ops Q rest (a.put o.dst (.bool true)) w) : wpList Try.prog ops Q (o :: rest) a w := by
  unfold wpList
  rw [if_pos hw]
  refine .inl ?_
  unfold Oper.wp
  rw [ex_eql xo yo yt ho hxe hye hx (hxy ▸ hx) w, decide_eq_true hxy]
  exact h
theorem st_unlike {ops : Array Oper} {rest : List Oper} {w : World} {Q : Exit → Act → World → Prop} (hw : Region.wanted o (yielded ops a.tmps) = true) (xo yo : Operand) (yt : TypeId) (ho : o.op = .binOp .neq 23 xo yo yt)
    (hxe : a.eval xo = .agg (wcells x)) (hye : a.eval yo = .agg (wcells y)) (hx : x < M256) (hy : y < M256) (hxy : x ≠ y) (h : wpList Try.prog ops Q rest (a.put o.dst (.bool true)) w) : wpList Try.prog ops Q (o :: rest) a w := by
  unfold wpList
  rw [if_pos hw]
  refine .inl ?_
  unfold Oper.wp
  rw [ex_neq xo yo yt ho hxe hye hx hy w, decide_eq_false hxy]
  exact h
theorem q_bool {ops : Array Oper} {rest : List Oper} {C : World → Prop} {Q : Act → Prop} {t : Bool} (hw : Region.wanted o (yielded ops a.tmps) = true) (xo : Operand) (ho : o.op = .assign xo) (hx : a.eval xo = .bool t)
    (h : wpQuiet Try.prog ops C Q rest (a.put o.dst (.bool t))) : wpQuiet Try.prog ops C Q (o :: rest) a :=
  q_pure hw (fun w => by unfold execOp; simp only [ho, hx]; rfl) h
theorem q_boolm {ops : Array Oper} {rest : List Oper} {C : World → Prop} {Q : Act → Prop} {t : Bool} (hw : Region.wanted o (yielded ops a.tmps) = true) (xo : Operand) (ho : o.op = .move xo) (hx : a.eval xo = .bool t)
    (h : wpQuiet Try.prog ops C Q rest (a.put o.dst (.bool t))) : wpQuiet Try.prog ops C Q (o :: rest) a :=
  q_pure hw (fun w => by unfold execOp; simp only [ho, hx]; rfl) h
theorem q_pick {ops : Array Oper} {rest : List Oper} {C : World → Prop} {Q : Act → Prop} {t : Bool} (hw : Region.wanted o (yielded ops a.tmps) = true) (co xo yo : Operand) (ho : o.op = .pick co xo yo) (hc : a.eval co = .bool true) (hx : a.eval xo = .bool t)
    (h : wpQuiet Try.prog ops C Q rest (a.put o.dst (.bool t))) : wpQuiet Try.prog ops C Q (o :: rest) a :=
  q_pure hw (fun w => by unfold execOp; simp only [ho, hc, hx, asBool]; rfl) h
theorem q_same {ops : Array Oper} {rest : List Oper} {C : World → Prop} {Q : Act → Prop} (hw : Region.wanted o (yielded ops a.tmps) = true) (xo yo : Operand) (yt : TypeId) (ho : o.op = .binOp .eql 23 xo yo yt)
    (hxe : a.eval xo = .agg (wcells x)) (hye : a.eval yo = .agg (wcells y)) (hx : x < M256) (hxy : x = y) (h : wpQuiet Try.prog ops C Q rest (a.put o.dst (.bool true))) : wpQuiet Try.prog ops C Q (o :: rest) a :=
  q_pure hw (fun w => by rw [ex_eql xo yo yt ho hxe hye hx (hxy ▸ hx) w, decide_eq_true hxy]) h
end
end Go.Proofs.Ytcdjinjeogodfaa
