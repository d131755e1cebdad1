/- Quiet steps of a law's regions: words, integers and bools held against each other, picks, sums, calls. What is left to do stands behind a structure, so that no tactic unfolds it. -/
import Derived.Test.YtcdjinjeogodfaaG
import Derived.Deep.DeepCutAuto
namespace Go.Proofs.Ytcdjinjeogodfaa
open Go.RowKit

/-- The rest of a quiet region, closed. -/
structure KQ (ops : Array Oper) (C : World → Prop) (Q : Act → Prop) (l : List Oper) (a : Act) : Prop where
  go : wpQuiet Try.prog ops C Q l a
theorem bool_ty : Try.prog.underlying 4 = some .bool := by kernel_rfl
section
variable {o : Oper} {a : Act} {x y : Nat} {ops : Array Oper} {rest : List Oper} {C : World → Prop} {Q : Act → Prop} {t : Bool}
theorem k_pure {v : Value} (hw : Region.wanted o (yielded ops a.tmps) = true) (hr : ∀ w, (execOp a.eval o).run Try.prog w = .ok (.value v) w) (h : KQ ops C Q rest (a.put o.dst v)) : KQ ops C Q (o :: rest) a := ⟨q_pure hw hr h.go⟩
theorem k_end (h : Q a) : KQ ops C Q [] a := ⟨wpQuiet_nil h⟩
/-- What is guarded by a test that came out otherwise is passed by. -/
theorem k_skip {j d : Nat} {b want : Bool} {p : Oper} (hg : o.guard = some (j, want)) (hp : ops[j]? = some p) (hd : p.dst = some d) (ht : a.tmps[d]? = some (.bool b)) (hb : (!(b == want)) = true)
    (h : KQ ops C Q rest (a.put o.dst undef)) : KQ ops C Q (o :: rest) a := by
  refine ⟨q_skip ?_ h.go⟩
  have hy : yielded ops a.tmps j = some b := by unfold yielded; simp only [hp, Option.bind_some, hd, ht]
  have hw : Region.wanted o (yielded ops a.tmps) = (yielded ops a.tmps j == some want) := by unfold Region.wanted; simp only [hg]
  rw [hw, hy]
  cases b <;> cases want <;> first | rfl | simp at hb
/-- Any value moved. -/
theorem k_val {v : Value} (hw : Region.wanted o (yielded ops a.tmps) = true) (xo : Operand) (ho : o.op = .move xo ∨ o.op = .assign xo) (hx : a.eval xo = v)
    (h : KQ ops C Q rest (a.put o.dst v)) : KQ ops C Q (o :: rest) a :=
  k_pure hw (fun w => by unfold execOp; rcases ho with ho | ho <;> simp only [ho, hx] <;> rfl) h
theorem k_intm {k : IntKind} {n : Int} (hw : Region.wanted o (yielded ops a.tmps) = true) (xo : Operand) (ho : o.op = .move xo) (hx : a.eval xo = .int k n)
    (h : KQ ops C Q rest (a.put o.dst (.int k n))) : KQ ops C Q (o :: rest) a := k_val hw xo (.inl ho) hx h
theorem k_inta {k : IntKind} {n : Int} (hw : Region.wanted o (yielded ops a.tmps) = true) (xo : Operand) (ho : o.op = .assign xo) (hx : a.eval xo = .int k n)
    (h : KQ ops C Q rest (a.put o.dst (.int k n))) : KQ ops C Q (o :: rest) a := k_val hw xo (.inr ho) hx h
theorem k_boolm (hw : Region.wanted o (yielded ops a.tmps) = true) (xo : Operand) (ho : o.op = .move xo) (hx : a.eval xo = .bool t)
    (h : KQ ops C Q rest (a.put o.dst (.bool t))) : KQ ops C Q (o :: rest) a := k_val hw xo (.inl ho) hx h
theorem k_boola (hw : Region.wanted o (yielded ops a.tmps) = true) (xo : Operand) (ho : o.op = .assign xo) (hx : a.eval xo = .bool t)
    (h : KQ ops C Q rest (a.put o.dst (.bool t))) : KQ ops C Q (o :: rest) a := k_val hw xo (.inr ho) hx h
/-- Two words held against each other. -/
theorem k_words (hw : Region.wanted o (yielded ops a.tmps) = true) (xo yo : Operand) (yt : TypeId) (ho : o.op = .binOp .eql 23 xo yo yt)
    (hxe : a.eval xo = .agg (wcells x)) (hye : a.eval yo = .agg (wcells y)) (hxy : x < M256 ∧ y < M256 ∧ decide (x = y) = t) (h : KQ ops C Q rest (a.put o.dst (.bool t))) : KQ ops C Q (o :: rest) a :=
  k_pure hw (fun w => by rw [ex_eql xo yo yt ho hxe hye hxy.1 hxy.2.1 w, hxy.2.2]) h
/-- Two integers held against each other. -/
theorem k_ints {m n : Int} (hw : Region.wanted o (yielded ops a.tmps) = true) (xo yo : Operand) (yt : TypeId) (ho : o.op = .binOp .eql 3 xo yo yt)
    (hxe : a.eval xo = .int .i64 m) (hye : a.eval yo = .int .i64 n) (hxy : (m == n) = t) (h : KQ ops C Q rest (a.put o.dst (.bool t))) : KQ ops C Q (o :: rest) a :=
  k_pure hw (fun w => by unfold execOp; simp only [ho, hxe, hye]; show Sem.run _ _ w = _; simp [eqGuard, binOp, Op.intCmp, hxy]) h
/-- Two integers in order. -/
theorem k_lss {m n : Int} (hw : Region.wanted o (yielded ops a.tmps) = true) (xo yo : Operand) (yt : TypeId) (ho : o.op = .binOp .lss 3 xo yo yt)
    (hxe : a.eval xo = .int .i64 m) (hye : a.eval yo = .int .i64 n) (hxy : decide (m < n) = t) (h : KQ ops C Q rest (a.put o.dst (.bool t))) : KQ ops C Q (o :: rest) a :=
  k_pure hw (fun w => by unfold execOp; simp only [ho, hxe, hye]; show Sem.run _ _ w = _; simp [eqGuard, binOp, Op.intCmp, hxy]) h
/-- Two bools held against each other. -/
theorem k_bools {s r : Bool} (hw : Region.wanted o (yielded ops a.tmps) = true) (xo yo : Operand) (yt : TypeId) (ho : o.op = .binOp .eql 4 xo yo yt)
    (hxe : a.eval xo = .bool s) (hye : a.eval yo = .bool r) (h : KQ ops C Q rest (a.put o.dst (.bool (s == r)))) : KQ ops C Q (o :: rest) a :=
  k_pure hw (fun w => by unfold execOp; simp only [ho, hxe, hye]; show Sem.run _ _ w = _; simp [eqGuard, binOp]; show ((Sem.run Try.prog (Op.equalIn (9999 + 1) 4 (.bool s) (.bool r)) w).andThen _) = _; unfold Op.equalIn; simp [run_underlying bool_ty]) h
theorem k_not {s : Bool} (hw : Region.wanted o (yielded ops a.tmps) = true) (ty : TypeId) (xo : Operand) (ho : o.op = .unOp .not ty xo) (hx : a.eval xo = .bool s)
    (h : KQ ops C Q rest (a.put o.dst (.bool !s))) : KQ ops C Q (o :: rest) a :=
  k_pure hw (fun w => by unfold execOp; simp only [ho, hx]; show Sem.run _ _ w = _; simp [Op.unary]) h
theorem k_neg {m n : Int} (hw : Region.wanted o (yielded ops a.tmps) = true) (ty : TypeId) (xo : Operand) (ho : o.op = .unOp .neg ty xo) (hx : a.eval xo = .int .i64 m) (he : IntKind.i64.wrap (-m) = n)
    (h : KQ ops C Q rest (a.put o.dst (.int .i64 n))) : KQ ops C Q (o :: rest) a :=
  k_pure hw (fun w => by unfold execOp; simp only [ho, hx]; show Sem.run _ _ w = _; simp [Op.unary, Op.intArith, he]) h
theorem k_add {m n s : Int} (hw : Region.wanted o (yielded ops a.tmps) = true) (ty yt : TypeId) (xo yo : Operand) (ho : o.op = .binOp .add ty xo yo yt) (hx : a.eval xo = .int .i64 m) (hy : a.eval yo = .int .i64 n) (he : IntKind.i64.wrap (m + n) = s)
    (h : KQ ops C Q rest (a.put o.dst (.int .i64 s))) : KQ ops C Q (o :: rest) a :=
  k_pure hw (fun w => by unfold execOp; simp only [ho, hx, hy]; show Sem.run _ _ w = _; simp [eqGuard, binOp, Op.intArith, he]) h
theorem k_sub {m n s : Int} (hw : Region.wanted o (yielded ops a.tmps) = true) (ty yt : TypeId) (xo yo : Operand) (ho : o.op = .binOp .sub ty xo yo yt) (hx : a.eval xo = .int .i64 m) (hy : a.eval yo = .int .i64 n) (he : IntKind.i64.wrap (m - n) = s)
    (h : KQ ops C Q rest (a.put o.dst (.int .i64 s))) : KQ ops C Q (o :: rest) a :=
  k_pure hw (fun w => by unfold execOp; simp only [ho, hx, hy]; show Sem.run _ _ w = _; simp [eqGuard, binOp, Op.intArith, he]) h
theorem k_pickT (hw : Region.wanted o (yielded ops a.tmps) = true) (co xo yo : Operand) (ho : o.op = .pick co xo yo) (hc : a.eval co = .bool true) (hx : a.eval xo = .bool t)
    (h : KQ ops C Q rest (a.put o.dst (.bool t))) : KQ ops C Q (o :: rest) a :=
  k_pure hw (fun w => by unfold execOp; simp only [ho, hc, hx, asBool]; rfl) h
theorem k_pickF (hw : Region.wanted o (yielded ops a.tmps) = true) (co xo yo : Operand) (ho : o.op = .pick co xo yo) (hc : a.eval co = .bool false) (hx : a.eval yo = .bool t)
    (h : KQ ops C Q rest (a.put o.dst (.bool t))) : KQ ops C Q (o :: rest) a :=
  k_pure hw (fun w => by unfold execOp; simp only [ho, hc, hx, asBool]; rfl) h
section
variable {w0 : World} {L : List Ent} {b : Nat} {ty : TypeId} {c : Array Value} {v : Value} {f : FuncId} {ts : Array TypeId}
/-- An array is loaded whole. -/
theorem k_load (hw : Region.wanted o (yielded ops a.tmps) = true) (ty' : TypeId) (xo : Operand) (ho : o.op = .load ty' xo) (hx : a.eval xo = .pointer (some ⟨b, 0, none⟩)) (m : At L b ty c)
    {n1 : Nat} {e1 : TypeId} (hu : Try.prog.underlying ty' = some (.array n1 e1)) {n : Nat} (hi : (Try.prog.info? ty').map (·.size) = some n) (hn : c.size = n)
    (h : KQ ops (fun w' => St w0 w' L) Q rest (a.put o.dst (.agg c))) : KQ ops (fun w' => St w0 w' L) Q (o :: rest) a := ⟨q_load hw ty' xo ho hx m hu rfl hi hn h.go⟩
/-- One cell is loaded. -/
theorem k_cell {j : Nat} (hw : Region.wanted o (yielded ops a.tmps) = true) (ty' : TypeId) (xo : Operand) (ho : o.op = .load ty' xo) (hx : a.eval xo = .pointer (some ⟨b, j, none⟩)) (m : At L b ty c) (hv : c[j]? = some v)
    (hu : ∀ w, (isAgg ty').run Try.prog w = .ok false w)
    (h : KQ ops (fun w' => St w0 w' L) Q rest (a.put o.dst v)) : KQ ops (fun w' => St w0 w' L) Q (o :: rest) a := ⟨q_cell hw ty' xo ho hx m hv hu h.go⟩
theorem k_call {xs : Array Operand} {args : Array Value} (hw : Region.wanted o (yielded ops a.tmps) = true) (ho : o.op = .call { callee := .value (.func f), args := xs, argTypes := ts }) (ha : xs.map a.eval = args)
    (hc : (∀ args w, (callFunc f args).run Try.prog w = .ok (.enter f args) w) ∧ ∀ w, Calls Try.prog f args w fun e w' => e = .returned v ∧ Below w.heap.size w w')
    (h : KQ ops (fun w' => St w0 w' L) Q rest (a.put o.dst v)) : KQ ops (fun w' => St w0 w' L) Q (o :: rest) a :=
  ⟨q_call hw (fun w => by unfold execOp; simp [ho, resolve, invoke, ha, hc.1, show a.eval (.func f) = .func (.func f) #[] #[] from rfl, Deferred.ofValue]) hc.2 h.go⟩
theorem k_call_o (hw : Region.wanted o (yielded ops a.tmps) = true) (ho : o.op = .call { callee := .value (.func f), args := #[], argTypes := ts }) 
    (hc : (∀ args w, (callFunc f args).run Try.prog w = .ok (.enter f args) w) ∧ ∀ w, Calls Try.prog f #[] w fun e w' => e = .returned v ∧ Below w.heap.size w w')
    (h : KQ ops (fun w' => St w0 w' L) Q rest (a.put o.dst v)) : KQ ops (fun w' => St w0 w' L) Q (o :: rest) a := k_call hw ho (by simp) hc h
theorem k_call_w {x1 : Operand} {c1 : Array Value} (hw : Region.wanted o (yielded ops a.tmps) = true) (ho : o.op = .call { callee := .value (.func f), args := #[x1], argTypes := ts }) (h1 : a.eval x1 = .agg c1)
    (hc : (∀ args w, (callFunc f args).run Try.prog w = .ok (.enter f args) w) ∧ ∀ w, Calls Try.prog f #[.agg c1] w fun e w' => e = .returned v ∧ Below w.heap.size w w')
    (h : KQ ops (fun w' => St w0 w' L) Q rest (a.put o.dst v)) : KQ ops (fun w' => St w0 w' L) Q (o :: rest) a := k_call hw ho (by simp [h1]) hc h
theorem k_call_i {x1 : Operand} {k1 : IntKind} {m1 : Int} (hw : Region.wanted o (yielded ops a.tmps) = true) (ho : o.op = .call { callee := .value (.func f), args := #[x1], argTypes := ts }) (h1 : a.eval x1 = .int k1 m1)
    (hc : (∀ args w, (callFunc f args).run Try.prog w = .ok (.enter f args) w) ∧ ∀ w, Calls Try.prog f #[.int k1 m1] w fun e w' => e = .returned v ∧ Below w.heap.size w w')
    (h : KQ ops (fun w' => St w0 w' L) Q rest (a.put o.dst v)) : KQ ops (fun w' => St w0 w' L) Q (o :: rest) a := k_call hw ho (by simp [h1]) hc h
theorem k_call_ww {x1 x2 : Operand} {c1 : Array Value} {c2 : Array Value} (hw : Region.wanted o (yielded ops a.tmps) = true) (ho : o.op = .call { callee := .value (.func f), args := #[x1, x2], argTypes := ts }) (h1 : a.eval x1 = .agg c1) (h2 : a.eval x2 = .agg c2)
    (hc : (∀ args w, (callFunc f args).run Try.prog w = .ok (.enter f args) w) ∧ ∀ w, Calls Try.prog f #[.agg c1, .agg c2] w fun e w' => e = .returned v ∧ Below w.heap.size w w')
    (h : KQ ops (fun w' => St w0 w' L) Q rest (a.put o.dst v)) : KQ ops (fun w' => St w0 w' L) Q (o :: rest) a := k_call hw ho (by simp [h1, h2]) hc h
theorem k_call_www {x1 x2 x3 : Operand} {c1 : Array Value} {c2 : Array Value} {c3 : Array Value} (hw : Region.wanted o (yielded ops a.tmps) = true) (ho : o.op = .call { callee := .value (.func f), args := #[x1, x2, x3], argTypes := ts }) (h1 : a.eval x1 = .agg c1) (h2 : a.eval x2 = .agg c2) (h3 : a.eval x3 = .agg c3)
    (hc : (∀ args w, (callFunc f args).run Try.prog w = .ok (.enter f args) w) ∧ ∀ w, Calls Try.prog f #[.agg c1, .agg c2, .agg c3] w fun e w' => e = .returned v ∧ Below w.heap.size w w')
    (h : KQ ops (fun w' => St w0 w' L) Q rest (a.put o.dst v)) : KQ ops (fun w' => St w0 w' L) Q (o :: rest) a := k_call hw ho (by simp [h1, h2, h3]) hc h
theorem k_call_iw {x1 x2 : Operand} {k1 : IntKind} {m1 : Int} {c2 : Array Value} (hw : Region.wanted o (yielded ops a.tmps) = true) (ho : o.op = .call { callee := .value (.func f), args := #[x1, x2], argTypes := ts }) (h1 : a.eval x1 = .int k1 m1) (h2 : a.eval x2 = .agg c2)
    (hc : (∀ args w, (callFunc f args).run Try.prog w = .ok (.enter f args) w) ∧ ∀ w, Calls Try.prog f #[.int k1 m1, .agg c2] w fun e w' => e = .returned v ∧ Below w.heap.size w w')
    (h : KQ ops (fun w' => St w0 w' L) Q rest (a.put o.dst v)) : KQ ops (fun w' => St w0 w' L) Q (o :: rest) a := k_call hw ho (by simp [h1, h2]) hc h
theorem k_call_wi {x1 x2 : Operand} {c1 : Array Value} {k2 : IntKind} {m2 : Int} (hw : Region.wanted o (yielded ops a.tmps) = true) (ho : o.op = .call { callee := .value (.func f), args := #[x1, x2], argTypes := ts }) (h1 : a.eval x1 = .agg c1) (h2 : a.eval x2 = .int k2 m2)
    (hc : (∀ args w, (callFunc f args).run Try.prog w = .ok (.enter f args) w) ∧ ∀ w, Calls Try.prog f #[.agg c1, .int k2 m2] w fun e w' => e = .returned v ∧ Below w.heap.size w w')
    (h : KQ ops (fun w' => St w0 w' L) Q rest (a.put o.dst v)) : KQ ops (fun w' => St w0 w' L) Q (o :: rest) a := k_call hw ho (by simp [h1, h2]) hc h
theorem k_call_s {x1 : Operand} {p1 : Option Addr} {l1 d1 : Nat} (hw : Region.wanted o (yielded ops a.tmps) = true) (ho : o.op = .call { callee := .value (.func f), args := #[x1], argTypes := ts }) (h1 : a.eval x1 = .slice p1 l1 d1)
    (hc : (∀ args w, (callFunc f args).run Try.prog w = .ok (.enter f args) w) ∧ ∀ w, Calls Try.prog f #[.slice p1 l1 d1] w fun e w' => e = .returned v ∧ Below w.heap.size w w')
    (h : KQ ops (fun w' => St w0 w' L) Q rest (a.put o.dst v)) : KQ ops (fun w' => St w0 w' L) Q (o :: rest) a := k_call hw ho (by simp [h1]) hc h
theorem k_call_ss {x1 x2 : Operand} {p1 : Option Addr} {l1 d1 : Nat} {p2 : Option Addr} {l2 d2 : Nat} (hw : Region.wanted o (yielded ops a.tmps) = true) (ho : o.op = .call { callee := .value (.func f), args := #[x1, x2], argTypes := ts }) (h1 : a.eval x1 = .slice p1 l1 d1) (h2 : a.eval x2 = .slice p2 l2 d2)
    (hc : (∀ args w, (callFunc f args).run Try.prog w = .ok (.enter f args) w) ∧ ∀ w, Calls Try.prog f #[.slice p1 l1 d1, .slice p2 l2 d2] w fun e w' => e = .returned v ∧ Below w.heap.size w w')
    (h : KQ ops (fun w' => St w0 w' L) Q rest (a.put o.dst v)) : KQ ops (fun w' => St w0 w' L) Q (o :: rest) a := k_call hw ho (by simp [h1, h2]) hc h
end
end
/-- All of a region is quiet. -/
theorem k_region {id : Nat} {Q : Exit → Act → World → Prop} {a : Act} {w : World} {l : List Oper} {C : World → Prop} (hm : Try.prog.follows .mixedOrders = true) (hB : Region.lexB .any l.toArray = true) (hC : C w.drew)
    (h : KQ l.toArray C (fun a' => ∀ w', C w' → Q .normal a' w') l a) : (Code.region id l.toArray true).wp Try.prog Q a w := wp_region_all hm hB hC h.go
/-- The head of a region is quiet, its tail comes in one order. -/
theorem k_region_head {id : Nat} {Q : Exit → Act → World → Prop} {a : Act} {w : World} {l : List Oper} {C : World → Prop} (n : Nat) (hm : Try.prog.follows .mixedOrders = true) (hB : Region.lexTailB .any l.toArray n = true) (hC : C w.drew)
    (h : KQ l.toArray C (fun a' => ∀ w', C w' → wpList Try.prog l.toArray Q (l.drop n) a' w') (l.take n) a) : (Code.region id l.toArray true).wp Try.prog Q a w := wp_region_head n hm hB hC h.go
end Go.Proofs.Ytcdjinjeogodfaa
