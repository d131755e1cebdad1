/- Regions whose order is open, gone in one order by one check. -/
import Derived.Test.YtopfmaoeebgjmaaGreatDoorM01
import Derived.Test.YtopfmaoeebgjmaaGreatDoorM04
set_option linter.unusedVariables false
set_option linter.unusedSimpArgs false
namespace Go.Proofs.YtopfmaoeebgjmaaGreatDoor
open Go.RowKit
section
variable {P : Program} {ops : Array Oper} {md : Region.Mode} {S : World → Prop} {Q : Exit → Act → World → Prop}
def HW (P : Program) (ops : Array Oper) (S : World → Prop) (Q : Exit → Act → World → Prop) : List (Nat × Bool) → Act → World → Prop
  | [], a, w => Q .normal a w
  | (i, true) :: is, a, w => ∃ oi v, ops[i]? = some oi ∧ YieldsIf P ops S oi v a ∧ HW P ops S Q is (a.put oi.dst v) w
  | (i, false) :: is, a, w => wpOp P ops Q i (fun a' w' => S w' ∧ HW P ops S Q is a' w') a w
def okH (md : Region.Mode) (ops : Array Oper) : List (Nat × Bool) → Array Bool → Bool
  | [], listed => Region.ready md ops listed == []
  | (i, true) :: is, listed => Region.free md ops listed i && (Region.ready md ops listed).contains i && okH md ops is (listed.setIfInBounds i true)
  | (i, false) :: is, listed => Region.ready md ops listed == [i] && okH md ops is (listed.setIfInBounds i true)
theorem HW.any (hsel : Region.noSelect ops = true) (hQ : ∀ (d : Option Tmp) (v : Value) c a w, Q (.panic c) (a.put d v) w → Q (.panic c) a w) :
    ∀ (is : List (Nat × Bool)) (listed : Array Bool) (a : Act) (w : World), okH md ops is listed = true → S w → HW P ops S Q is a w → wpAnyH P md ops Q S is.length listed a w
  | [], listed, a, w, hk, _, h => by
    simp only [okH, beq_iff_eq] at hk
    exact wpAnyH_done hk h _
  | (i, true) :: is, listed, a, w, hk, hS, h => by
    simp only [okH, Bool.and_eq_true] at hk
    obtain ⟨oi, v, hi, hy, h'⟩ := h
    exact wpAnyH_take hi hsel hk.1.1 hk.1.2 (fun c a w => hQ _ _ c a w) hy hS (HW.any hsel hQ is _ _ w hk.2 hS h')
  | (i, false) :: is, listed, a, w, hk, hS, h => by
    simp only [okH, Bool.and_eq_true, beq_iff_eq] at hk
    refine wpAnyH_all hk.1 (by simp) fun j hj => ?_
    obtain rfl : j = i := by simpa using hj
    exact wpOp_mono (fun a' w' h2 => ⟨h2.1, HW.any hsel hQ is _ a' w' hk.2 h2.1 h2.2⟩) h
end
structure HQ (ops : Array Oper) (S : World → Prop) (Q : Exit → Act → World → Prop) (is : List (Nat × Bool)) (a : Act) (w : World) : Prop where
  go : HW Tryz.prog ops S Q is a w
section
variable {ops : Array Oper} {S : World → Prop} {Q : Exit → Act → World → Prop} {is : List (Nat × Bool)} {a : Act} {w : World} {o : Oper} {i : Nat} {b : Nat}
def brief (o : Oper) : Option Tmp × Op × Option (Nat × Bool) := (o.dst, o.op, o.guard)
theorem bAt {x : Option Tmp × Op × Option (Nat × Bool)} {L : List (Option Tmp × Op × Option (Nat × Bool))} (h : ops.toList.map brief = L) (hi : L[i]? = some x) : (ops[i]?).map brief = some x := by
  rw [← hi, ← h, List.getElem?_map, Array.getElem?_toList]
theorem h_region {id : Nat} {l : List Oper} (is : List (Nat × Bool)) (hm : Tryz.prog.follows .mixedOrders = true) (hn : is.length = l.toArray.size) (hsel : Region.noSelect l.toArray = true) (hk : okH .any l.toArray is (Array.replicate l.toArray.size false) = true) (hS : S w.drew)
    (hQ : ∀ (d : Option Tmp) (v : Value) c a w, Q (.panic c) (a.put d v) w → Q (.panic c) a w) (h : ∀ ops : Array Oper, ops.toList.map brief = l.map brief → HQ ops S Q is a w.drew) : (Code.region id l.toArray true).wp Tryz.prog Q a w :=
  wp_region_held hm (by rw [← hn]; exact HW.any hsel hQ is _ _ _ (by rw [hn]; exact hk) hS (h _ (by simp)).go)
theorem h_end (h : Q .normal a w) : HQ ops S Q [] a w := ⟨h⟩
theorem of_brief {d : Option Tmp} {op : Op} (h : (ops[i]?).map brief = some (d, op, none)) : ∃ o, ops[i]? = some o ∧ o.dst = d ∧ o.op = op ∧ Region.wanted o (yielded ops a.tmps) = true := by
  cases hq : ops[i]? with
  | none => rw [hq] at h; cases h
  | some o =>
    rw [hq] at h
    have h2 : brief o = (d, op, none) := Option.some.inj h
    have e1 : o.dst = d := congrArg (·.1) h2
    have e2 : o.op = op := congrArg (·.2.1) h2
    have e3 : o.guard = none := congrArg (·.2.2) h2
    exact ⟨o, rfl, e1, e2, by simp [Region.wanted, e3]⟩
theorem h_pure {d : Option Tmp} {op : Op} {v : Value} (hi : (ops[i]?).map brief = some (d, op, none)) (hr : ∀ o : Oper, o.op = op → ∀ w, (execOp a.eval o).run Tryz.prog w = .ok (.value v) w) (h : HQ ops S Q is (a.put d v) w) : HQ ops S Q ((i, true) :: is) a w := by
  obtain ⟨o, h1, h2, h3, h4⟩ := of_brief (a := a) hi
  exact ⟨⟨o, v, h1, .inl ⟨h4, fun w _ => hr o h3 w⟩, by rw [h2]; exact h.go⟩⟩
theorem h_val {d : Option Tmp} (v : Value) (xo : Operand) (hi : (ops[i]?).map brief = some (d, .move xo, none)) (hx : a.eval xo = v) (h : HQ ops S Q is (a.put d v) w) : HQ ops S Q ((i, true) :: is) a w :=
  h_pure hi (fun o ho w => by unfold execOp; simp only [ho, hx]; rfl) h
theorem h_nil {d : Option Tmp} (p : Addr) (x : Operand) (hi : (ops[i]?).map brief = some (d, .nilCheck x, none)) (hx : a.eval x = .pointer (some p)) (h : HQ ops S Q is (a.put d (.pointer (some p))) w) : HQ ops S Q ((i, true) :: is) a w :=
  h_pure hi (fun o ho w => by unfold execOp; simp only [ho, hx]; rfl) h
theorem h_idx {d : Option Tmp} {n e : Nat} (j : Nat) (ty : TypeId) (x y : Operand) (hi : (ops[i]?).map brief = some (d, .indexAddr ty x y, none)) (hx : a.eval x = .pointer (some ⟨b, 0, none⟩)) (hy : a.eval y = .int .i64 (j : Int)) (hu : Tryz.prog.underlying ty = some (.array n e)) (he : (Tryz.prog.info? e).map (·.size) = some 1) (hj : j < n)
    (h : HQ ops S Q is (a.put d (.pointer (some ⟨b, j, none⟩))) w) : HQ ops S Q ((i, true) :: is) a w := h_pure hi (fun o ho w => x_idx ty x y ho hx hy hu he hj w) h
theorem h_cell {d : Option Tmp} {j : Nat} (v : Value) (ty : TypeId) (x : Operand) (hi : (ops[i]?).map brief = some (d, .load ty x, none)) (hx : a.eval x = .pointer (some ⟨b, j, none⟩)) (hu : ∀ w, (isAgg ty).run Tryz.prog w = .ok false w) (hv : ∀ w, S w → w.cell? ⟨b, j, none⟩ = some v)
    (h : HQ ops S Q is (a.put d v) w) : HQ ops S Q ((i, true) :: is) a w := by
  obtain ⟨o, h1, h2, h3, h4⟩ := of_brief (a := a) hi
  refine ⟨⟨o, v, h1, .inl ⟨h4, fun w hS => ?_⟩, by rw [h2]; exact h.go⟩⟩
  unfold execOp
  simp only [h3, hx, Instr.loadAt, Instr.sureAddr, loadVar, Sem.run_bind, hu, Result.andThen_ok, Sem.run_pure, Bool.false_eq_true, if_false, run_load, hv w hS]
theorem h_xor {d : Option Tmp} {m n s : Nat} (ty yt : TypeId) (x y : Operand) (hi : (ops[i]?).map brief = some (d, .binOp .xor ty x y yt, none)) (hx : a.eval x = .int .u64 (m : Int)) (hy : a.eval y = .int .u64 (n : Int)) (he : m ^^^ n = s) (hm : m < 18446744073709551616) (hn : n < 18446744073709551616)
    (h : HQ ops S Q is (a.put d (.int .u64 (s : Int))) w) : HQ ops S Q ((i, true) :: is) a w :=
  h_pure hi (fun o ho w => by unfold execOp; simp only [ho, hx, hy]; show Sem.run _ _ w = _; rw [← he, ← u64_xor_nat m n hm hn]; simp [eqGuard, binOp, Op.intBits]; rfl) h
theorem h_ext {d : Option Tmp} {k : IntKind} {n : Int} (vs : Array Value) (x : Operand) (ix : Nat) (hi : (ops[i]?).map brief = some (d, .extract x ix, none)) (hx : a.eval x = .tuple vs) (hv : vs[ix]? = some (.int k n))
    (h : HQ ops S Q is (a.put d (.int k n)) w) : HQ ops S Q ((i, true) :: is) a w := h_pure hi (fun o ho w => by unfold execOp; simp only [ho, hx, Instr.extract, hv]; rfl) h
section
variable {d : Option Tmp} {v : Value} {f : FuncId} {ts : Array TypeId} {xs : Array Operand} {args : Array Value}
theorem h_call (hi : (ops[i]?).map brief = some (d, .call { callee := .value (.func f), args := xs, argTypes := ts }, none)) (ha : xs.map a.eval = args)
    (hc : (∀ args w, (callFunc f args).run Tryz.prog w = .ok (.enter f args) w) ∧ ∀ w, Calls Tryz.prog f args w fun e w' => e = .returned v ∧ w = w') (hS : S w)
    (h : HQ ops S Q is (a.put d v) w) : HQ ops S Q ((i, false) :: is) a w := by
  obtain ⟨o, h1, h2, h3, h4⟩ := of_brief (a := a) hi
  exact ⟨o_callR h1 h4 (by unfold execOp; simp [h3, resolve, invoke, ha, hc.1, show a.eval (.func f) = .func (.func f) #[] #[] from rfl, Deferred.ofValue]) (hc.2 w) fun e w' h5 => ⟨v, h5.1, by rw [← h5.2, h2]; exact ⟨hS, h.go⟩⟩⟩
theorem h_c2 {x1 x2 : Operand} {v1 v2 : Value} (hi : (ops[i]?).map brief = some (d, .call { callee := .value (.func f), args := #[x1, x2], argTypes := ts }, none)) (h1 : a.eval x1 = v1) (h2 : a.eval x2 = v2)
    (hc : (∀ args w, (callFunc f args).run Tryz.prog w = .ok (.enter f args) w) ∧ ∀ w, Calls Tryz.prog f #[v1, v2] w fun e w' => e = .returned v ∧ w = w') (hS : S w)
    (h : HQ ops S Q is (a.put d v) w) : HQ ops S Q ((i, false) :: is) a w := h_call hi (by simp [h1, h2]) hc hS h
theorem h_c5 {x1 x2 x3 x4 x5 : Operand} {v1 v2 v3 v4 v5 : Value} (hi : (ops[i]?).map brief = some (d, .call { callee := .value (.func f), args := #[x1, x2, x3, x4, x5], argTypes := ts }, none)) (h1 : a.eval x1 = v1) (h2 : a.eval x2 = v2) (h3 : a.eval x3 = v3) (h4 : a.eval x4 = v4) (h5 : a.eval x5 = v5)
    (hc : (∀ args w, (callFunc f args).run Tryz.prog w = .ok (.enter f args) w) ∧ ∀ w, Calls Tryz.prog f #[v1, v2, v3, v4, v5] w fun e w' => e = .returned v ∧ w = w') (hS : S w)
    (h : HQ ops S Q is (a.put d v) w) : HQ ops S Q ((i, false) :: is) a w := h_call hi (by simp [h1, h2, h3, h4, h5]) hc hS h
end
theorem h_store {bs : List Nat} {w0 : World} {L L' : List Ent} {t : TypeId} {c c' : Array Value} {k : IntKind} {n : Int} {j : Nat} {d : Option Tmp} (hS : St bs w0 w L) (ty : TypeId) (x y : Operand) (hi : (ops[i]?).map brief = some (d, .store ty x y, none)) (hx : a.eval x = .pointer (some ⟨b, j, none⟩)) (hy : a.eval y = .int k n) (hz : (Tryz.prog.info? ty).map (·.size) = some 1)
    (hc : c.setIfInBounds j (.int k n) = c') (m : Upd L b t c c' L') (hj : j < c.size) (h : ∀ w', St bs w0 w' L' → S w' ∧ HQ ops S Q is (a.put d undef) w') : HQ ops S Q ((i, false) :: is) a w := ⟨by
  obtain ⟨o, h1, rfl, h3, h4⟩ := of_brief (a := a) hi
  show wpOp Tryz.prog ops Q i (fun a' w' => S w' ∧ HW Tryz.prog ops S Q is a' w') a w
  unfold wpOp
  simp only [h1, h4, if_true]
  refine .inl ?_
  have hb := hS.get m.at_
  have hcell : w.cell? ⟨b, j, none⟩ = some c[j] := hb.cell (by simp [hj])
  have hst : (Instr.storeAt ty (.pointer (some ⟨b, j, none⟩)) (.int k n)).run Tryz.prog w = .ok () (w.setCell ⟨b, j, none⟩ (.int k n)) := by
    cases hq : Tryz.prog.info? ty with
    | none => simp [hq] at hz
    | some i =>
      have hs : i.size = 1 := by simpa [hq] using hz
      simp [Instr.storeAt, Instr.sureAddr, storeVar, sizeOf, typeInfo, hq, Value.cells, hs, storeCells, Addr.add, run_store Tryz.prog w ⟨b, j, none⟩ (.int k n) .plain rfl, hcell, hb.free j]
  unfold Oper.wp execOp
  simp only [h3, hx, hy, Sem.run_bind, hst, Result.andThen_ok, Sem.run_pure]
  have h2' := h _ (hS.upd m (Only.setCell w ⟨b, j, none⟩ (.int k n)) (by rw [← hc]; exact hb.set j (.int k n)))
  exact ⟨h2'.1, h2'.2.go⟩⟩
end
end Go.Proofs.YtopfmaoeebgjmaaGreatDoor
