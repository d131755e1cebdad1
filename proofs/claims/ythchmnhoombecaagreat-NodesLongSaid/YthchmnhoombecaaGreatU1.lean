/- Steps for trees of nodes: type assertions, calls of several arguments, words held against each other. -/
import Derived.Test.YthchmnhoombecaaGreatK18
import Derived.Test.YthchmnhoombecaaGreatR18
import Derived.Test.YthchmnhoombecaaGreatP4
import Derived.Test.YthchmnhoombecaaGreatB2
namespace Go.Proofs.YthchmnhoombecaaGreat
open Go.RowKit

section
variable {ops : Array Oper} {md : Region.Mode} {Q : Exit → Act → World → Prop} {a : Act} {w : World} {o : Oper}
theorem held_call2 {P : Program} {l0 : List Oper} {n : Nat} {K : Act → World → Prop} {f : FuncId} {ts : Array TypeId} {x1 x2 : Operand} {v1 v2 : Value} {R : Ending → World → Prop} (ho : l0[n]? = some o) (hw : Region.wanted o (yielded l0.toArray a.tmps) = true)
    (hop : o.op = .call { callee := .value (.func f), args := #[x1, x2], argTypes := ts }) (h1 : a.eval x1 = v1) (h2 : a.eval x2 = v2) (hf : ∀ args w, (callFunc f args).run P w = .ok (.enter f args) w)
    (hc : Calls P f #[v1, v2] w R) (h : ∀ e w', R e w' → ∃ v, e = .returned v ∧ K (a.put o.dst v) w') : wpOp P l0.toArray Q n K a w :=
  o_callR (by rw [List.getElem?_toArray]; exact ho) hw (by unfold execOp; simp [hop, resolve, invoke, h1, h2, hf, show a.eval (.func f) = .func (.func f) #[] #[] from rfl, Deferred.ofValue]) hc h
theorem held_call4 {P : Program} {l0 : List Oper} {n : Nat} {K : Act → World → Prop} {f : FuncId} {ts : Array TypeId} {x1 x2 x3 x4 : Operand} {v1 v2 v3 v4 : Value} {R : Ending → World → Prop} (ho : l0[n]? = some o) (hw : Region.wanted o (yielded l0.toArray a.tmps) = true)
    (hop : o.op = .call { callee := .value (.func f), args := #[x1, x2, x3, x4], argTypes := ts }) (h1 : a.eval x1 = v1) (h2 : a.eval x2 = v2) (h3 : a.eval x3 = v3) (h4 : a.eval x4 = v4) (hf : ∀ args w, (callFunc f args).run P w = .ok (.enter f args) w)
    (hc : Calls P f #[v1, v2, v3, v4] w R) (h : ∀ e w', R e w' → ∃ v, e = .returned v ∧ K (a.put o.dst v) w') : wpOp P l0.toArray Q n K a w :=
  o_callR (by rw [List.getElem?_toArray]; exact ho) hw (by unfold execOp; simp [hop, resolve, invoke, h1, h2, h3, h4, hf, show a.eval (.func f) = .func (.func f) #[] #[] from rfl, Deferred.ofValue]) hc h
theorem held_call0 {P : Program} {l0 : List Oper} {n : Nat} {K : Act → World → Prop} {f : FuncId} {ts : Array TypeId} {R : Ending → World → Prop} (ho : l0[n]? = some o) (hw : Region.wanted o (yielded l0.toArray a.tmps) = true)
    (hop : o.op = .call { callee := .value (.func f), args := #[], argTypes := ts }) (hf : ∀ args w, (callFunc f args).run P w = .ok (.enter f args) w)
    (hc : Calls P f #[] w R) (h : ∀ e w', R e w' → ∃ v, e = .returned v ∧ K (a.put o.dst v) w') : wpOp P l0.toArray Q n K a w :=
  o_callR (by rw [List.getElem?_toArray]; exact ho) hw (by unfold execOp; simp [hop, resolve, invoke, hf, show a.eval (.func f) = .func (.func f) #[] #[] from rfl, Deferred.ofValue]) hc h
/-- One cell, as it stands in every world of the class. -/
theorem x_cell {v : Value} {b j : Nat} (ty : TypeId) (x : Operand) (ho : o.op = .load ty x) (hx : a.eval x = .pointer (some ⟨b, j, none⟩)) (hl : w.cell? ⟨b, j, none⟩ = some v) (hu : ∀ w, (isAgg ty).run Tryz.prog w = .ok false w) :
    (execOp a.eval o).run Tryz.prog w = .ok (.value v) w := by
  unfold execOp
  simp only [ho, hx, Instr.loadAt, Instr.sureAddr, loadVar, Sem.run_bind, hu, Result.andThen_ok, Sem.run_pure, Bool.false_eq_true, if_false, run_load, hl]
theorem x_nilck {p : Addr} (x : Operand) (ho : o.op = .nilCheck x) (hx : a.eval x = .pointer (some p)) : (execOp a.eval o).run Tryz.prog w = .ok (.value (.pointer (some p))) w := by
  unfold execOp; simp only [ho, hx]; rfl
theorem x_extract {v : Value} {vs : Array Value} (x : Operand) (i : Nat) (ho : o.op = .extract x i) (hx : a.eval x = .tuple vs) (hv : vs[i]? = some v) : (execOp a.eval o).run Tryz.prog w = .ok (.value v) w := by
  unfold execOp; simp [ho, hx, Instr.extract, hv]
end
/-- The zero value of a hash that was not looked at. -/
def hz : Array Value := (bc 32 fun _ => 0).push .nilIface
theorem hz_zero : (Tryz.prog.info? 66).bind (·.zero) = some (.agg hz) := by kernel_rfl
theorem hz_size : (Tryz.prog.info? 66).map (·.size) = some 33 := by kernel_rfl
theorem hz_len : hz.size = 33 := by kernel_rfl
theorem hz_one : hz.all (·.oneCell') = true := by kernel_rfl
theorem ta_nil_h (w : World) : (Instr.typeAssert .nilIface 62 66 true).run Tryz.prog w = .ok (.tuple #[.agg hz, .bool false]) w := by kernel_rfl
theorem ta_leaf_h (v : Value) (w : World) : (Instr.typeAssert (.iface 87 v) 62 66 true).run Tryz.prog w = .ok (.tuple #[.agg hz, .bool false]) w := by kernel_rfl
theorem ta_nil_l (w : World) : (Instr.typeAssert .nilIface 62 87 true).run Tryz.prog w = .ok (.tuple #[.pointer none, .bool false]) w := by kernel_rfl
theorem ta_nil_e (w : World) : (Instr.typeAssert .nilIface 62 90 true).run Tryz.prog w = .ok (.tuple #[.pointer none, .bool false]) w := by kernel_rfl
theorem ta_nil_b (w : World) : (Instr.typeAssert .nilIface 62 92 true).run Tryz.prog w = .ok (.tuple #[.pointer none, .bool false]) w := by kernel_rfl
theorem ta_leaf_l (v : Value) (w : World) : (Instr.typeAssert (.iface 87 v) 62 87 true).run Tryz.prog w = .ok (.tuple #[v, .bool true]) w := by kernel_rfl
set_option maxHeartbeats 1000000 in
theorem look_nil (p : Value) (w : World) : Calls Tryz.prog 27 #[p, .nilIface] w fun e w' => e = .returned (.tuple #[.nilIface, .int .i64 0]) ∧ Tch [] w w' := by
  have hS := St.start w
  have k1 := ta_nil_h
  go_enter Tryz.func27, Tryz.ntmps27
  go_wp2_with (first
    | (refine st_new (c := hz) hS rfl 66 rfl hz_zero ?_; clear hS; intro w1 b1 hS)
    | (refine st_store (b := b1) (c' := hz) hS rfl 66 _ _ rfl rfl rfl .head hz_size hz_len hz_len hz_one ?_; clear hS; intro w2 hS))
  go_ret2
  exact ⟨rfl, hS.frame⟩
set_option maxHeartbeats 1000000 in
theorem look_leaf (p v : Value) (w : World) : Calls Tryz.prog 27 #[p, .iface 87 v] w fun e w' => e = .returned (.tuple #[.iface 87 v, .int .i64 0]) ∧ Tch [] w w' := by
  have hS := St.start w
  have k1 := ta_leaf_h
  go_enter Tryz.func27, Tryz.ntmps27
  go_wp2_with (first
    | (refine st_new (c := hz) hS rfl 66 rfl hz_zero ?_; clear hS; intro w1 b1 hS)
    | (refine st_store (b := b1) (c' := hz) hS rfl 66 _ _ rfl rfl rfl .head hz_size hz_len hz_len hz_one ?_; clear hS; intro w2 hS))
  go_ret2
  exact ⟨rfl, hS.frame⟩
/-- bytes.Equal. -/
theorem equal_any (va vb : Value) (a b : List Nat) (w : World) (ha : RdB w va a) (hb : RdB w vb b) : Calls Tryz.prog 48 #[va, vb] w fun e w' => e = .returned (.bool (a == b)) ∧ Tch [] w w' := by
  have c1 := conv_rd ha
  have c2 := conv_rd hb
  have he := strB_eq (a := a) (b := b) ha.choose_spec.choose_spec.2.2.1 hb.choose_spec.choose_spec.2.2.1
  obtain ⟨pa, n, ca, rfl⟩ : ∃ p n c, va = .slice p n c := ⟨_, _, _, ha.choose_spec.choose_spec.1⟩
  obtain ⟨pb, m, cb, rfl⟩ : ∃ p n c, vb = .slice p n c := ⟨_, _, _, hb.choose_spec.choose_spec.1⟩
  generalize strB a = sa at c1 he
  generalize strB b = sb at c2 he
  have HE := Lib.hid he
  clear he ha hb
  go_enter Tryz.func48, Tryz.ntmps48
  go_wp2
  go_ret
  exact ⟨by rw [← HE.out]; rfl, Tch.refl _ _⟩
end Go.Proofs.YthchmnhoombecaaGreat
