/- Lanes in memory; steps over them. -/
import Derived.Test.YthchmnhoombecaaGreatKa3
import Derived.Test.YthchmnhoombecaaGreatR2
namespace Go.Proofs.YthchmnhoombecaaGreat
open Go.RowKit

/-- A block's first 25 cells are lanes. -/
def lay (c : Array Value) (A : Nat → Nat) : Array Value := ((List.range c.size).map fun i => if i < 25 then Value.int .u64 ((A i : Nat) : Int) else c.getD i undef).toArray
theorem lay_size (c : Array Value) (A : Nat → Nat) : (lay c A).size = c.size := by simp [lay]
theorem lay_get {c : Array Value} {A : Nat → Nat} {i : Nat} (h : i < 25) (hc : 25 ≤ c.size) : (lay c A)[i]? = some (.int .u64 ((A i : Nat) : Int)) := by
  have : i < c.size := by omega
  simp [lay, this, h]
theorem lay_far {c : Array Value} {A : Nat → Nat} {i : Nat} (h : 25 ≤ i) : (lay c A)[i]? = c[i]? := by
  have h2 : ¬ i < 25 := by omega
  by_cases hi : i < c.size
  · simp [lay, hi, h2]
  · rw [Array.getElem?_eq_none (by rw [lay_size]; omega), Array.getElem?_eq_none (by omega)]
theorem lay_set {c : Array Value} {A : Nat → Nat} {j v : Nat} (h : j < 25) (hc : 25 ≤ c.size) : (lay c A).setIfInBounds j (.int .u64 (v : Int)) = lay c (fun i => if i = j then v else A i) := by
  apply Array.ext_getElem?
  intro i
  rw [Array.getElem?_setIfInBounds]
  by_cases hi : i < 25
  · by_cases hj : j = i
    · subst hj; rw [if_pos rfl, if_pos (by rw [lay_size]; omega), lay_get hi hc, if_pos rfl]
    · rw [if_neg hj, lay_get hi hc, lay_get hi hc, if_neg (fun e => hj e.symm)]
  · rw [if_neg (show ¬ j = i by omega), lay_far (by omega), lay_far (by omega)]
theorem lay_congr {c : Array Value} {A B : Nat → Nat} (h : ∀ i, i < 25 → A i = B i) : lay c A = lay c B := by
  unfold lay
  congr 1
  apply List.map_congr_left
  intro i _
  by_cases hi : i < 25
  · rw [if_pos hi, if_pos hi, h i hi]
  · rw [if_neg hi, if_neg hi]
theorem Tch.less {a b : Nat} {t : TypeId} {c : Array Value} {w w' : World} (h : Tch [b, a] w w') (h1 : Blk w a t c) (h2 : Blk w' a t c) : Tch [b] w w' :=
  ⟨h.os, h.tape, h.output, h.size, fun k hk hkb => by
    by_cases e : k = a
    · subst e; rw [show w.heap[k]? = _ from h1, show w'.heap[k]? = _ from h2]
    · exact h.block k hk (by simp at hkb ⊢; exact ⟨hkb, e⟩)⟩
theorem u64_size : (Tryz.prog.info? 111).map (·.size) = some 1 := by kernel_rfl
theorem lanes_type : Tryz.prog.underlying 132 = some (.array 25 111) := by kernel_rfl
theorem lanes2_type : Tryz.prog.underlying 112 = some (.array 25 111) := by kernel_rfl
theorem five_type : Tryz.prog.underlying 144 = some (.array 5 111) := by kernel_rfl
theorem nums_type : Tryz.prog.underlying 229 = some (.array 24 111) := by kernel_rfl
theorem word_type : Tryz.prog.underlying 35 = some (.array 32 5) := by kernel_rfl
theorem word_size : (Tryz.prog.info? 35).map (·.size) = some 32 := by kernel_rfl
theorem nums_size : (Tryz.prog.info? 229).map (·.size) = some 24 := by kernel_rfl
theorem u64_agg (w : World) : (isAgg 111).run Tryz.prog w = .ok false w := by
  have hu : Tryz.prog.underlying 111 = some (.int .u64) := by kernel_rfl
  simp [isAgg, run_underlying hu]
theorem int_agg (w : World) : (isAgg 3).run Tryz.prog w = .ok false w := by
  have hu : Tryz.prog.underlying 3 = some (.int .i64) := by kernel_rfl
  simp [isAgg, run_underlying hu]
section
variable {ops : Array Oper} {o : Oper} {a : Act} {S : World → Prop} {b : Nat} {rest : List Oper} {C : World → Prop} {Qa : Act → Prop}
theorem k_nil (p : Addr) (hw : Region.wanted o (yielded ops a.tmps) = true) (x : Operand) (ho : o.op = .nilCheck x) (hx : a.eval x = .pointer (some p))
    (h : KQ ops C Qa rest (a.put o.dst (.pointer (some p)))) : KQ ops C Qa (o :: rest) a := k_pure hw (fun w => by unfold execOp; simp only [ho, hx]; rfl) h
theorem k_ptr (p : Addr) (hw : Region.wanted o (yielded ops a.tmps) = true) (xo : Operand) (ho : o.op = .move xo) (hx : a.eval xo = .pointer (some p))
    (h : KQ ops C Qa rest (a.put o.dst (.pointer (some p)))) : KQ ops C Qa (o :: rest) a := k_val hw xo (.inl ho) hx h
theorem k_tup (vs : Array Value) (hw : Region.wanted o (yielded ops a.tmps) = true) (xo : Operand) (ho : o.op = .move xo) (hx : a.eval xo = .tuple vs)
    (h : KQ ops C Qa rest (a.put o.dst (.tuple vs))) : KQ ops C Qa (o :: rest) a := k_val hw xo (.inl ho) hx h
theorem k_ext {k : IntKind} {n : Int} (vs : Array Value) (hw : Region.wanted o (yielded ops a.tmps) = true) (x : Operand) (ix : Nat) (ho : o.op = .extract x ix) (hx : a.eval x = .tuple vs) (hv : vs[ix]? = some (.int k n))
    (h : KQ ops C Qa rest (a.put o.dst (.int k n))) : KQ ops C Qa (o :: rest) a := k_pure hw (fun w => by unfold execOp; simp only [ho, hx, Instr.extract, hv]; rfl) h
theorem x_idx {n e j : Nat} (ty : TypeId) (x y : Operand) (ho : o.op = .indexAddr ty x y) (hx : a.eval x = .pointer (some ⟨b, 0, none⟩)) (hy : a.eval y = .int .i64 (j : Int)) (hu : Tryz.prog.underlying ty = some (.array n e)) (he : (Tryz.prog.info? e).map (·.size) = some 1) (hj : j < n) (w : World) :
    (execOp a.eval o).run Tryz.prog w = .ok (.value (.pointer (some ⟨b, j, none⟩))) w := by
  have hadd : (⟨b, 0, none⟩ : Addr).add j = ⟨b, j, none⟩ := by unfold Addr.add; split <;> simp_all
  unfold execOp
  simp [ho, hx, hy, Instr.indexAt, run_underlying hu, Instr.sureAddr, asIntOf, sizeOf_one he, hj, hadd]
theorem k_idx {n e : Nat} (j : Nat) (hw : Region.wanted o (yielded ops a.tmps) = true) (ty : TypeId) (x y : Operand) (ho : o.op = .indexAddr ty x y) (hx : a.eval x = .pointer (some ⟨b, 0, none⟩)) (hy : a.eval y = .int .i64 (j : Int)) (hu : Tryz.prog.underlying ty = some (.array n e)) (he : (Tryz.prog.info? e).map (·.size) = some 1) (hj : j < n)
    (h : KQ ops C Qa rest (a.put o.dst (.pointer (some ⟨b, j, none⟩)))) : KQ ops C Qa (o :: rest) a := k_pure hw (x_idx ty x y ho hx hy hu he hj) h
theorem k_xor {m n s : Nat} (hw : Region.wanted o (yielded ops a.tmps) = true) (ty yt : TypeId) (x y : Operand) (ho : o.op = .binOp .xor ty x y yt) (hx : a.eval x = .int .u64 (m : Int)) (hy : a.eval y = .int .u64 (n : Int)) (he : m ^^^ n = s) (hm : m < 18446744073709551616) (hn : n < 18446744073709551616)
    (h : KQ ops C Qa rest (a.put o.dst (.int .u64 (s : Int)))) : KQ ops C Qa (o :: rest) a :=
  k_pure hw (fun w => by unfold execOp; simp only [ho, hx, hy]; show Sem.run _ _ w = _; rw [← he, ← u64_xor_nat m n hm hn]; simp [eqGuard, binOp, Op.intBits]; rfl) h
theorem k_calls {bs : List Nat} {w0 : World} {L : List Ent} {v : Value} {f : FuncId} {ts : Array TypeId} {xs : Array Operand} {args : Array Value} (hw : Region.wanted o (yielded ops a.tmps) = true) (ho : o.op = .call { callee := .value (.func f), args := xs, argTypes := ts }) (ha : xs.map a.eval = args)
    (hc : (∀ args w, (callFunc f args).run Tryz.prog w = .ok (.enter f args) w) ∧ ∀ w, Calls Tryz.prog f args w fun e w' => e = .returned v ∧ w = w')
    (h : KQ ops (fun w' => St bs w0 w' L) Qa rest (a.put o.dst v)) : KQ ops (fun w' => St bs w0 w' L) Qa (o :: rest) a :=
  k_call hw ho ha ⟨hc.1, fun w => (hc.2 w).mono fun e w' ⟨h1, h2⟩ => ⟨h1, by subst h2; exact Tch.refl _ _⟩⟩ h
end
end Go.Proofs.YthchmnhoombecaaGreat
