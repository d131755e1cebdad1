/- States: Move; New of nothing. -/
import Derived.Test.YtopfmaoeebgjmaaGreatDoorM01
import Derived.Test.YtopfmaoeebgjmaaGreatDoorM25
import Derived.Maps.AppendAt
set_option linter.unusedVariables false
set_option linter.unusedSimpArgs false
namespace Go.Proofs.YtopfmaoeebgjmaaGreatDoor
section
open Go.RowKit Go.WideMaps Go.ChangeMaps Go.MapKept
set_option maxRecDepth 100000
set_option maxHeartbeats 1000000
section
variable {o : Oper} {a : Act} {w w' : World}
end
section
variable {a : Act} {w : World} {o : Oper} {Q : Exit → Act → World → Prop} {l0 : List Oper}
theorem held_alloc {n : Nat} {K : Act → World → Prop} (ty : TypeId) {c : Array Value} (ho : l0[n]? = some o) (hw : Region.wanted o (yielded l0.toArray a.tmps) = true) (hop : o.op = .alloc ty) (hz : (Tryz.prog.info? ty).bind (·.zero) = some (.agg c))
    (h : ∀ w' b, Tch [] w w' → Blk w' b ty c → b = w.heap.size → K (a.put o.dst (.pointer (some ⟨b, 0, none⟩))) w') : wpOp Tryz.prog l0.toArray Q n K a w := by
  have ho' : l0.toArray[n]? = some o := by rw [List.getElem?_toArray]; exact ho
  have hr0 : (Instr.alloc ty true (.tuple #[])).run Tryz.prog w = .ok (.pointer (some ⟨w.heap.size, 0, none⟩)) (w.alloc (.cells c ty)) := by
    cases hq : Tryz.prog.info? ty with
    | none => simp [hq] at hz
    | some i =>
      have hz' : i.zero = some (.agg c) := by simpa [hq] using hz
      simp [Instr.alloc, zeroValue, typeInfo, hq, hz', newVar, newRow, Value.cells]
  have hr : (execOp a.eval o).run Tryz.prog w = .ok (.value (.pointer (some ⟨w.heap.size, 0, none⟩))) (w.alloc (.cells c ty)) := by
    unfold execOp
    simp only [hop, Sem.run_bind, hr0, Result.andThen_ok, Sem.run_pure]
  exact held_run ho hw hr (h _ _ ((Tch.refl _ _).alloc _) (heap_alloc_new w _) rfl)
end
theorem splS_all {c d : Array Value} (h : c.size = d.size) : splS c 0 d = d := by
  unfold splS
  rw [Nat.zero_add, List.take_zero, List.nil_append, List.drop_eq_nil_of_le (by simp [h]), List.append_nil]
theorem StepP.trans {B M M' : Nat} {bS : Nat} {mv rv : Value} {F : List Nat → Option Nat} {k : Int} {E E' : List Nat → Nat × Nat} {w w1 w2 : World} (h : StepP B M bS mv F rv k E w w1) (h' : ∀ mv1 F1, StP B M w1 bS mv1 rv k F1 E → StepP B M' bS mv1 F1 rv k E' w1 w2) : StepP B M' bS mv F rv k E' w w2 := by
  obtain ⟨mv1, F1, h1, h2, h3⟩ := h
  obtain ⟨mv2, F2, g1, g2, g3⟩ := h' mv1 F1 h1
  refine ⟨mv2, F2, g1, ⟨g2.os.trans h2.os, g2.tape.trans h2.tape, g2.output.trans h2.output, Nat.le_trans h2.size g2.size, fun j hj hn => (g2.block j (Nat.lt_of_lt_of_le hj h2.size) (fun hf => ?_)).trans (h2.block j hj hn)⟩, fun j hj => ?_⟩
  · rcases h3 j hf with g | g
    · exact hn g
    · omega
  · rcases g3 j hj with g | g
    · exact h3 j g
    · exact .inr (Nat.le_trans h2.size g)
end
section
open Go.RowKit Go.WideMaps Go.ChangeMaps Go.MapKept
set_option maxRecDepth 100000
set_option maxHeartbeats 1000000
def aLt : List Nat → List Nat → Prop
  | [], [] => False
  | [], _ :: _ => True
  | _ :: _, [] => False
  | x :: a, y :: b => x < y ∨ (x = y ∧ aLt a b)
instance aLt_dec : ∀ a b : List Nat, Decidable (aLt a b)
  | [], [] => .isFalse (fun h => h)
  | [], _ :: _ => .isTrue trivial
  | _ :: _, [] => .isFalse (fun h => h)
  | x :: a, y :: b => by
    have := aLt_dec a b
    unfold aLt
    exact inferInstance
abbrev AL := List (List Nat × Nat)
section
variable {B : Nat} {w w' : World} {bR : Nat} {lv : Value} {L : AL}
end
theorem len_accs (ty : TypeId) (p : Option Addr) (n c : Nat) (w : World) : (Builtin.len_ #[31] ty #[.slice p n c]).run Tryz.prog w = .ok (.int .i64 (n : Int)) w := by
  simp [Builtin.len_, run_underlying accts_tyY, goInt, Result.andThen, Builtin.lenOf]
section
variable {o : Oper} {a : Act} {w w' : World}
theorem x_lenA {p : Option Addr} {n c : Nat} (xo : Operand) (ho : o.op = .call { callee := .builtin .len, args := #[xo], argTypes := #[31] }) (hx : a.eval xo = .slice p n c) : (execOp a.eval o).run Tryz.prog w = .ok (.value (.int .i64 (n : Int))) w := by
  unfold execOp
  simp [ho, resolve, invoke, builtin, hx, len_accs]
theorem x_addI {m n s : Int} (he : IntKind.i64.wrap (m + n) = s) (ty yt : TypeId) (xo yo : Operand) (ho : o.op = .binOp .add ty xo yo yt) (hxe : a.eval xo = .int .i64 m) (hye : a.eval yo = .int .i64 n) : (execOp a.eval o).run Tryz.prog w = .ok (.value (.int .i64 s)) w := by
  unfold execOp; simp only [ho, hxe, hye]; show Sem.run _ _ w = _; simp [eqGuard, binOp, Op.intArith, he]
end
end
section
open Go.RowKit Go.WideMaps Go.ChangeMaps Go.MapKept
set_option maxRecDepth 100000
set_option maxHeartbeats 1000000
section
variable {a : Act} {w : World} {o : Oper} {ops : Array Oper} {rest : List Oper} {Q : Exit → Act → World → Prop}
end
section
variable {o : Oper} {a : Act} {w w' : World}
theorem x_slF {v u i : Value} (ty : TypeId) (x y : Operand) (ho : o.op = .slice ty x (some y) none none) (hx : a.eval x = v) (hy : a.eval y = i) (hr : (Instr.sliceAt ty v (some i) none none).run Tryz.prog w = .ok u w) : (execOp a.eval o).run Tryz.prog w = .ok (.value u) w := by
  unfold execOp
  simp only [ho, hx, hy, Option.map_none, Option.map_some, Sem.run_bind, hr, Result.andThen_ok, Sem.run_pure]
theorem x_slT {v u i : Value} (ty : TypeId) (x y : Operand) (ho : o.op = .slice ty x none (some y) none) (hx : a.eval x = v) (hy : a.eval y = i) (hr : (Instr.sliceAt ty v none (some i) none).run Tryz.prog w = .ok u w) : (execOp a.eval o).run Tryz.prog w = .ok (.value u) w := by
  unfold execOp
  simp only [ho, hx, hy, Option.map_none, Option.map_some, Sem.run_bind, hr, Result.andThen_ok, Sem.run_pure]
theorem x_convS {v : Value} {l : List Nat} (x : Operand) (ho : o.op = .convert 26 9 x) (hx : a.eval x = v) (hv : RdB w v l) : (execOp a.eval o).run Tryz.prog w = .ok (.value (.string (strB l))) w := by
  unfold execOp
  simp only [ho, hx, Sem.run_bind, conv_rd hv, Result.andThen_ok, Sem.run_pure]
end
end
end Go.Proofs.YtopfmaoeebgjmaaGreatDoor
