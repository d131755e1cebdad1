/- States: what holds behind the round of Back. -/
import Derived.Test.YtklpcppdjcedpaaST17
namespace Go.Proofs.Ytklpcppdjcedpaa
open Go.RowKit Go.WideMaps Go.ChangeMaps Go.MapKept
set_option linter.unusedVariables false
set_option linter.unusedSimpArgs false
set_option maxRecDepth 100000
set_option maxHeartbeats 2000000
theorem sp_agg (w : World) : (isAgg 27).run Try.prog w = .ok false w := by kernel_rfl
theorem rec_zero : (Try.prog.info? 74).bind (·.zero) = some (.agg #[.int .i64 0, .slice none 0 0, .map none]) := by kernel_rfl
section
variable {F : Fence} {n : Nat} {ops : Array Oper} {rest : List Oper} {o : Oper} {a : Act} {w w' : World} {Q : Exit → Act → World → Prop}
theorem in_new (hF : ∀ f, F.fn f) (hgd : o.guard = none) (ty : TypeId) (ho : o.op = .alloc ty) {c : Array Value} (hz : (Try.prog.info? ty).bind (·.zero) = some (.agg c))
    (h : ∀ w' b, Tch [] w w' → Blk w' b ty c → w.heap.size ≤ b → wpListIn F n Try.prog ops Q rest (a.put o.dst (.pointer (some ⟨b, 0, none⟩))) w') : wpListIn F n Try.prog ops Q (o :: rest) a w := by
  have hr : (Instr.alloc ty true (.tuple #[])).run Try.prog w = .ok (.pointer (some ⟨w.heap.size, 0, none⟩)) (w.alloc (.cells c ty)) := by
    cases hq : Try.prog.info? ty with
    | none => simp [hq] at hz
    | some i =>
      have hz' : i.zero = some (.agg c) := by simpa [hq] using hz
      simp [Instr.alloc, zeroValue, typeInfo, hq, hz', newVar, newRow, Value.cells]
  refine in_run hF hgd (by rw [ho]; intro c hc; cases hc) ?_ (h _ _ ((Tch.refl _ _).alloc _) (heap_alloc_new w _) (Nat.le_refl _))
  unfold execOp
  simp only [ho, Sem.run_bind, hr, Result.andThen_ok, Sem.run_pure]
theorem in_store {b : Nat} {t ty : TypeId} {c c' : Array Value} {k : Nat} (hF : ∀ f, F.fn f) (hgd : o.guard = none) (x y : Operand) (ho : o.op = .store ty x y) (hx : a.eval x = .pointer (some ⟨b, 0, none⟩)) (hy : a.eval y = .agg c') (hB : Blk w b t c)
    (hi : (Try.prog.info? ty).map (·.size) = some k) (hn : c.size = k) (hn' : c'.size = k) (h1 : c'.all (·.oneCell') = true)
    (h : ∀ w', Only b w w' → Blk w' b t c' → wpListIn F n Try.prog ops Q rest (a.put o.dst undef) w') : wpListIn F n Try.prog ops Q (o :: rest) a w := by
  refine in_skip hF hgd (by rw [ho]; intro c hc; cases hc) ?_ (h _ (Only.setRow _ _ _) (hB.row _))
  have hl := hB.store (P := Try.prog) hi hn hn' h1
  unfold execOp
  simp only [ho, hx, hy, Sem.run_bind, hl, Result.andThen_ok, Sem.run_pure]
end
/-- What holds from the round on. -/
def FinB (B N : Nat) (w : World) (bS b2 g : Nat) (mv pv lv rv : Value) (E : List Nat → Nat × Nat) (W : World) : Prop :=
  Below B w W ∧ Blk W b2 27 #[.pointer (some ⟨bS, 0, none⟩)] ∧ RecB W g 1 pv lv ∧ ∃ F2, StP B N W bS mv rv 1 F2 E ∧ ¬ foot bS mv F2 g
theorem FinB.grow {B N B0 : Nat} {w W W' : World} {bS b2 g : Nat} {mv pv lv rv : Value} {E : List Nat → Nat × Nat} {row : Option Nat} (hm : ∀ r, mv = .map (some r) → r < B0) (hw : B ≤ w.heap.size) (hB0 : B ≤ B0) (h : FinB B N w bS b2 g mv pv lv rv E W) (hg : W.grownBy W' row) (hr : ∀ r, row = some r → B0 ≤ r ∧ ∃ o : Obj, W.heap[r]? = some o ∧ o.isCells = false) :
    FinB B N w bS b2 g mv pv lv rv E W' := by
  have hc : ∀ {b : Nat} {t : TypeId} {c : Array Value}, Blk W b t c → W'.heap[b]? = W.heap[b]? := fun {b t c} hb => hg.block b hb.lt (fun e => by
    obtain ⟨_, o, ho, hc⟩ := hr b e.symm
    rw [show W.heap[b]? = _ from hb] at ho
    cases ho; cases hc)
  obtain ⟨h1, h2, h3, F2, h4, h5⟩ := h
  refine ⟨⟨hg.os.trans h1.os, hg.tape.trans h1.tape, hg.output.trans h1.output, Nat.le_trans h1.size hg.size, fun k hk => (hg.block k (by have := h1.size; omega) (fun e => by have := (hr k e.symm).1; omega)).trans (h1.block k hk)⟩, (hc h2).trans h2, ?_, F2, h4.same fun j hj => ?_, h5⟩
  · obtain ⟨cur, g1, g2⟩ := h3
    exact ⟨cur, (hc g1).trans g1, g2⟩
  · rcases hj with rfl | hj | ⟨A, hA, hF⟩
    · exact hc h4.blk
    · exact hg.block j (h4.lt (.inr (.inl hj))).2 (fun e => by have := (hr j e.symm).1; have := hm j hj; omega)
    · exact hc (h4.acc A j hA hF).1
theorem keepsFrom_of_pt {S : Nat → Prop} {W W' : World} {B : Nat} (h : PT S W W') (hS : ∀ k, S k → k < B) : KeepsFrom B W W' := ⟨h.size, fun k o hk ho _ => (h.block k (Array.getElem?_eq_some_iff.1 ho).1 (fun hs => by have := hS k hs; omega)).trans ho⟩
theorem keepsFrom_of_tch {W W' : World} {B : Nat} (h : Tch [] W W') : KeepsFrom B W W' := keepsFrom_of_pt (PT.nil (S := fun _ => False) h) (fun _ h => h.elim)
theorem below_of_tch {W W' : World} {B : Nat} (h : Tch [] W W') (hB : B ≤ W.heap.size) : Below B W W' := ⟨h.os, h.tape, h.output, h.size, fun k hk => h.block k (by omega) (by simp)⟩
theorem below_of_pt {S : Nat → Prop} {W W' : World} {B : Nat} (h : PT S W W') (hS : ∀ k, S k → B ≤ k) (hB : B ≤ W.heap.size) : Below B W W' := ⟨h.os, h.tape, h.output, h.size, fun k hk => h.block k (by omega) (fun hs => by have := hS k hs; omega)⟩
theorem below_blk {B : Nat} {W W' : World} (h : Below B W W') {b : Nat} {t : TypeId} {c : Array Value} (hb : Blk W b t c) (hB : b < B) : Blk W' b t c := (h.block b hB).trans hb
end Go.Proofs.Ytklpcppdjcedpaa
