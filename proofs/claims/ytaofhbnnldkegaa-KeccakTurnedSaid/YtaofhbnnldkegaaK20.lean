/- Slices of parts that are built; reslices. -/
import Derived.Test.YtaofhbnnldkegaaK18
namespace Go.Proofs.Ytaofhbnnldkegaa
open Go.RowKit

theorem build1 (p1 : Option Addr) (n1 c1 : Nat) (w : World) : (Instr.buildSlice 22 1 #[(0, .slice p1 n1 c1)]).run Try.prog w = .ok (.slice (some ⟨w.heap.size, 0, none⟩) 1 1) (w.alloc (.cells #[.slice p1 n1 c1] 24)) := by kernel_rfl
theorem build2 (p1 p2 : Option Addr) (n1 c1 n2 c2 : Nat) (w : World) : (Instr.buildSlice 22 2 #[(0, .slice p1 n1 c1), (1, .slice p2 n2 c2)]).run Try.prog w = .ok (.slice (some ⟨w.heap.size, 0, none⟩) 2 2) (w.alloc (.cells #[.slice p1 n1 c1, .slice p2 n2 c2] 24)) := by kernel_rfl
theorem build3 (p1 p2 p3 : Option Addr) (n1 c1 n2 c2 n3 c3 : Nat) (w : World) : (Instr.buildSlice 22 3 #[(0, .slice p1 n1 c1), (1, .slice p2 n2 c2), (2, .slice p3 n3 c3)]).run Try.prog w = .ok (.slice (some ⟨w.heap.size, 0, none⟩) 3 3) (w.alloc (.cells #[.slice p1 n1 c1, .slice p2 n2 c2, .slice p3 n3 c3] 24)) := by kernel_rfl
theorem sum_new2 (v1 v2 : Value) (l1 l2 : List Nat) (W : World) (h1 : RdB W v1 l1) (h2 : RdB W v2 l2) (m1 : l1.length < 1000000) (m2 : l2.length < 1000000) :
    Calls Try.prog 8 #[.slice (some ⟨W.heap.size, 0, none⟩) 2 2] (W.alloc (.cells #[v1, v2] 24)) fun e w' => e = .returned (.agg (wf (hashN (l1 ++ l2)))) ∧ Tch [] W w' := by
  have hB := Blk.new W 24 #[v1, v2]
  have hT := (Tch.refl [] W).alloc (.cells #[v1, v2] 24)
  have := sum_parts W.heap.size [l1, l2] (W.alloc (.cells #[v1, v2] 24)) (show 2 < 1000000 by decide) hB.lt (fun i hi => by
    match i, hi with
    | 0, _ => exact ⟨v1, hB.cell (j := 0) rfl, h1.tch hT (by simp), m1⟩
    | 1, _ => exact ⟨v2, hB.cell (j := 1) rfl, h2.tch hT (by simp), m2⟩) 2
  rw [show ([l1, l2] : List (List Nat)).flatten = l1 ++ l2 by simp] at this
  exact this.mono fun e w' h => ⟨h.1, hT.trans h.2⟩
theorem sum_new3 (v1 v2 v3 : Value) (l1 l2 l3 : List Nat) (W : World) (h1 : RdB W v1 l1) (h2 : RdB W v2 l2) (h3 : RdB W v3 l3) (m1 : l1.length < 1000000) (m2 : l2.length < 1000000) (m3 : l3.length < 1000000) :
    Calls Try.prog 8 #[.slice (some ⟨W.heap.size, 0, none⟩) 3 3] (W.alloc (.cells #[v1, v2, v3] 24)) fun e w' => e = .returned (.agg (wf (hashN (l1 ++ (l2 ++ l3))))) ∧ Tch [] W w' := by
  have hB := Blk.new W 24 #[v1, v2, v3]
  have hT := (Tch.refl [] W).alloc (.cells #[v1, v2, v3] 24)
  have := sum_parts W.heap.size [l1, l2, l3] (W.alloc (.cells #[v1, v2, v3] 24)) (show 3 < 1000000 by decide) hB.lt (fun i hi => by
    match i, hi with
    | 0, _ => exact ⟨v1, hB.cell (j := 0) rfl, h1.tch hT (by simp), m1⟩
    | 1, _ => exact ⟨v2, hB.cell (j := 1) rfl, h2.tch hT (by simp), m2⟩
    | 2, _ => exact ⟨v3, hB.cell (j := 2) rfl, h3.tch hT (by simp), m3⟩) 3
  rw [show ([l1, l2, l3] : List (List Nat)).flatten = l1 ++ (l2 ++ l3) by simp] at this
  exact this.mono fun e w' h => ⟨h.1, hT.trans h.2⟩
theorem slice_toP (p : Option Addr) (n c k : Nat) (hk : k ≤ n) (hc : n ≤ c) (w : World) : (Instr.sliceAt 24 (.slice p n c) none (some (.int .i64 (k : Int))) none).run Try.prog w = .ok (.slice p k c) w := by
  have hel : Try.prog.elem 24 = 5 := by kernel_rfl
  have ht : Try.prog.underlying 24 = some (.slice (Try.prog.elem 24)) := by rw [hel]; exact bytes_ty
  have e1 := run_sliceAt_slice (P := Try.prog) (w := w) 24 (.slice p n c) none (some (.int .i64 (k : Int))) none ht
  have e2 := run_slice_h (P := Try.prog) (w := w) 24 p n c ht .i64 (k : Int) (by omega) (by omega)
  rw [e1, e2, hel, sizeOf_u8]
  cases p <;> simp [Result.andThen, sliced, Addr.add]
section
variable {a : Act} {w : World} {o : Oper}
/-- A slice is built, of values that are given. -/
theorem held_build2 {P : Program} {l0 : List Oper} {Q : Exit → Act → World → Prop} {n m : Nat} {K : Act → World → Prop} {ty t : TypeId} {c : Array Value} {parts : Array (Nat × Operand)} (vals : Array (Nat × Value)) (ho : l0[n]? = some o) (hw : Region.wanted o (yielded l0.toArray a.tmps) = true)
    (hop : o.op = .buildSlice ty m parts) (hv : (parts.map fun (i, x) => (i, a.eval x)) = vals) (hr : (Instr.buildSlice ty m vals).run P w = .ok (.slice (some ⟨w.heap.size, 0, none⟩) m m) (w.alloc (.cells c t)))
    (h : K (a.put o.dst (.slice (some ⟨w.heap.size, 0, none⟩) m m)) (w.alloc (.cells c t))) : wpOp P l0.toArray Q n K a w :=
  held_build ho hw hop (by rw [hv]; exact hr) h
theorem x_to {v u n : Value} (x y : Operand) (t : TypeId) (ho : o.op = .slice t x none (some y) none) (hx : a.eval x = v) (hy : a.eval y = n) (hr : (Instr.sliceAt t v none (some n) none).run Try.prog w = .ok u w) : (execOp a.eval o).run Try.prog w = .ok (.value u) w := by
  unfold execOp; simp only [ho, hx, hy, Option.map_some, Option.map_none]; show Sem.run _ _ w = _; simp only [Sem.run_bind, hr, Result.andThen_ok]; rfl
theorem x_from {v u n : Value} (x y : Operand) (t : TypeId) (ho : o.op = .slice t x (some y) none none) (hx : a.eval x = v) (hy : a.eval y = n) (hr : (Instr.sliceAt t v (some n) none none).run Try.prog w = .ok u w) : (execOp a.eval o).run Try.prog w = .ok (.value u) w := by
  unfold execOp; simp only [ho, hx, hy, Option.map_some, Option.map_none]; show Sem.run _ _ w = _; simp only [Sem.run_bind, hr, Result.andThen_ok]; rfl
end
end Go.Proofs.Ytaofhbnnldkegaa
