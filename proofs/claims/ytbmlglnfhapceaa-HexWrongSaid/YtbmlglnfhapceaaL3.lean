/- A slice that is built. -/
import Derived.Test.YtbmlglnfhapceaaL2
namespace Go.Proofs.Ytbmlglnfhapceaa
open Go.RowKit

/-- A slice is built. -/
theorem st_buildS {ops : Array Oper} {rest : List Oper} {o : Oper} {a : Act} {bs : List Nat} {w0 w : World} {Q : Exit → Act → World → Prop} {L : List Ent} {n : Nat} {ty t : TypeId} {c : Array Value} {parts : Array (Nat × Operand)} (hS : St bs w0 w L) (hgd : o.guard = none) (ho : o.op = .buildSlice ty n parts)
    (hr : ∀ w : World, (Instr.buildSlice ty n (parts.map fun (i, x) => (i, a.eval x))).run Try.prog w = .ok (.slice (some ⟨w.heap.size, 0, none⟩) n n) (w.alloc (.cells c t)))
    (h : ∀ w' b, St bs w0 w' ((b, t, c) :: L) → wpList Try.prog ops Q rest (a.put o.dst (.slice (some ⟨b, 0, none⟩) n n)) w') : wpList Try.prog ops Q (o :: rest) a w :=
  wpList_plain hgd fun K hK => by
    have hr2 := hr w
    unfold Oper.wp execOp
    simp only [ho, Sem.run_bind, hr2, Result.andThen_ok, Sem.run_pure]
    exact hK _ _ (h _ _ (hS.new t c))
end Go.Proofs.Ytbmlglnfhapceaa
