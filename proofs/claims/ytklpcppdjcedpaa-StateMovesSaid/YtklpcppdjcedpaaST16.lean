/- States: the iterators over one record, one part. -/
import Derived.Test.YtklpcppdjcedpaaST15
import Derived.RangeFuncNested
import Derived.RangeFuncBound
import Derived.RangeFuncCalls
import Derived.RangeFuncLeaves
import Derived.Shelf.Abstract
import Derived.WalkKit
import Derived.OwnWalkIn
import Derived.TacticsInMore
import Derived.LoopNIn
import Derived.LoopIn
import Derived.Sort.CutIn
namespace Go.Proofs.Ytklpcppdjcedpaa
open Go.RowKit Go.WideMaps Go.ChangeMaps Go.MapKept
set_option linter.unusedVariables false
set_option linter.unusedSimpArgs false
set_option maxRecDepth 100000
set_option maxHeartbeats 2000000
attribute [local go_sem] Oper.semAt_some
section
variable {F : Fence} {n : Nat} {ops : Array Oper} {rest : List Oper} {o : Oper} {a : Act} {w w' : World} {Q : Exit → Act → World → Prop}
theorem in_x {v : Value} (hF : ∀ f, F.fn f) (hgd : o.guard = none) (hnd : ∀ c, o.op ≠ .defer c) (hr : (execOp a.eval o).run Try.prog w = .ok (.value v) w) (h : wpListIn F n Try.prog ops Q rest (a.put o.dst v) w) : wpListIn F n Try.prog ops Q (o :: rest) a w :=
  wpListIn_plain hgd fun K hK => by
    unfold Oper.wpIn
    refine ⟨fun f _ => hF f, ?_⟩
    rw [Oper.semAt_plain F _ _ hnd, hr]
    exact hK _ _ h
theorem in_run {v : Value} (hF : ∀ f, F.fn f) (hgd : o.guard = none) (hnd : ∀ c, o.op ≠ .defer c) (hr : (execOp a.eval o).run Try.prog w = .ok (.value v) w') (h : wpListIn F n Try.prog ops Q rest (a.put o.dst v) w') : wpListIn F n Try.prog ops Q (o :: rest) a w :=
  wpListIn_plain hgd fun K hK => by
    unfold Oper.wpIn
    refine ⟨fun f _ => hF f, ?_⟩
    rw [Oper.semAt_plain F _ _ hnd, hr]
    exact hK _ _ h
theorem in_skip (hF : ∀ f, F.fn f) (hgd : o.guard = none) (hnd : ∀ c, o.op ≠ .defer c) (hr : (execOp a.eval o).run Try.prog w = .ok .skip w') (h : wpListIn F n Try.prog ops Q rest (a.put o.dst undef) w') : wpListIn F n Try.prog ops Q (o :: rest) a w :=
  wpListIn_plain hgd fun K hK => by
    unfold Oper.wpIn
    refine ⟨fun f _ => hF f, ?_⟩
    rw [Oper.semAt_plain F _ _ hnd, hr]
    exact hK _ _ h
theorem in_call {f : FuncId} {ts : Array TypeId} {xs : Array Operand} {args : Array Value} {R : Ending → World → Prop} (hF : ∀ f, F.fn f) (hd : F.depth = none) (hgd : o.guard = none) (hop : o.op = .call { callee := .value (.func f), args := xs, argTypes := ts }) (ha : xs.map a.eval = args) (hf : ∀ args w, (callFunc f args).run Try.prog w = .ok (.enter f args) w)
    (hc : CallsIn F (n - 1) Try.prog f args w R) (h : ∀ e w', R e w' → ∃ v, e = .returned v ∧ wpListIn F n Try.prog ops Q rest (a.put o.dst v) w') : wpListIn F n Try.prog ops Q (o :: rest) a w :=
  wpListIn_plain hgd fun K hK => by
    subst ha
    have hr : (execOp a.eval o).run Try.prog w = .ok (.enter f (xs.map a.eval)) w := by unfold execOp; simp [hop, resolve, invoke, hf, show a.eval (.func f) = .func (.func f) #[] #[] from rfl, Deferred.ofValue]
    unfold Oper.wpIn
    refine ⟨fun f _ => hF f, ?_⟩
    rw [Oper.semAt_plain F _ _ (by rw [hop]; intro c hc; cases hc), hr]
    refine ⟨fun h => (by rw [hd] at h; cases h), hc.mono fun e w' hR => ?_⟩
    obtain ⟨v, rfl, hk⟩ := h e w' hR
    exact hK _ _ hk
theorem in_yield {l : Nat} {ts : Array TypeId} {x : Operand} {xs : Array Operand} {args : Array Value} {R : Ending → World → Prop} (hF : ∀ f, F.fn f) (hd : F.depth = none) (hgd : o.guard = none) (hop : o.op = .call { callee := .value x, args := xs, argTypes := ts }) (hx : a.eval x = .func (.yield l) #[] #[]) (ha : xs.map a.eval = args)
    (hy : YieldAt F (n - 1) Try.prog l args w R) (h : ∀ e w', R e w' → ∃ v, e = .returned v ∧ wpListIn F n Try.prog ops Q rest (a.put o.dst v) w') : wpListIn F n Try.prog ops Q (o :: rest) a w :=
  wpListIn_plain hgd fun K hK => by
    subst ha
    obtain ⟨fn, tmps, assign, body, hy, hR⟩ := hy
    have hr : (execOp a.eval o).run Try.prog w = .ok (.round l fn tmps assign body) w := by unfold execOp; simp [hop, resolve, invoke, hx, Deferred.ofValue, hy]
    unfold Oper.wpIn
    refine ⟨fun f _ => hF f, ?_⟩
    rw [Oper.semAt_plain F _ _ (by rw [hop]; intro c hc; cases hc), hr]
    refine ⟨fun h => (by rw [hd] at h; cases h), hR.mono fun e w' hR => ?_⟩
    obtain ⟨v, rfl, hk⟩ := h e w' hR
    exact hK _ _ hk
end
section
variable {ops : Array Oper} {rest : List Oper} {o : Oper} {a : Act} {w : World} {Q : Exit → Act → World → Prop}
theorem st_box1 {v : Value} (hgd : o.guard = none) (ty : TypeId) (x : Operand) (ho : o.op = .box ty x) (hx : a.eval x = v) (hv : (Instr.box ty v).run Try.prog w = .ok (.pointer (some ⟨w.heap.size, 0, none⟩)) (w.alloc (.cells #[v] ty)))
    (h : ∀ w' b, Tch [] w w' → Blk w' b ty #[v] → w.heap.size ≤ b → wpList Try.prog ops Q rest (a.put o.dst (.pointer (some ⟨b, 0, none⟩))) w') : wpList Try.prog ops Q (o :: rest) a w := by
  refine st_run hgd ?_ (h _ _ ((Tch.refl _ _).alloc _) (heap_alloc_new w _) (Nat.le_refl _))
  unfold execOp
  simp only [ho, hx, Sem.run_bind, hv, Result.andThen_ok, Sem.run_pure]
end
theorem backwardR (w : World) (g cap : Nat) : Calls Try.prog 35 #[.slice (some ⟨g, 0, none⟩) 1 cap] w fun e w' => ∃ b, e = .returned (.func (.func 54) #[] #[.pointer (some ⟨b, 0, none⟩)]) ∧ Blk w' b 46 #[.slice (some ⟨g, 0, none⟩) 1 cap] ∧ w.heap.size ≤ b ∧ Tch [] w w' := by
  go_enter Try.func35, Try.ntmps35
  go_upto_region 0 with (fail)
  try simp only [Act.put, List.setIfInBounds_toArray, List.set_cons_zero, List.set_cons_succ]
  refine wp_region_lit ?_
  refine st_box1 rfl 46 _ rfl rfl rfl ?_
  intro w1 b1 hT hb hl
  try simp only [Act.put, List.setIfInBounds_toArray, List.set_cons_zero, List.set_cons_succ]
  refine st_x (v := .nilFunc) rfl (x_val _ (.inr rfl) rfl) ?_; try simp only [Act.put, List.setIfInBounds_toArray, List.set_cons_zero, List.set_cons_succ]
  refine st_end14 ?_
  go_upto_region 1 with (fail)
  try simp only [Act.put, List.setIfInBounds_toArray, List.set_cons_zero, List.set_cons_succ]
  refine wp_region_lit ?_
  refine st_x (v := .func (.func 54) #[] #[.pointer (some ⟨b1, 0, none⟩)]) rfl (by kernel_rfl) ?_; try simp only [Act.put, List.setIfInBounds_toArray, List.set_cons_zero, List.set_cons_succ]
  refine st_x (v := .func (.func 54) #[] #[.pointer (some ⟨b1, 0, none⟩)]) rfl (x_val _ (.inr rfl) rfl) ?_; try simp only [Act.put, List.setIfInBounds_toArray, List.set_cons_zero, List.set_cons_succ]
  refine st_end14 ?_
  go_wp2
  go_ret
  exact ⟨b1, rfl, hb, hl, hT⟩
theorem backwardP (w : World) (g cap : Nat) : Calls Try.prog 36 #[.slice (some ⟨g, 0, none⟩) 1 cap] w fun e w' => ∃ b, e = .returned (.func (.func 55) #[] #[.pointer (some ⟨b, 0, none⟩)]) ∧ Blk w' b 71 #[.slice (some ⟨g, 0, none⟩) 1 cap] ∧ w.heap.size ≤ b ∧ Tch [] w w' := by
  go_enter Try.func36, Try.ntmps36
  go_upto_region 0 with (fail)
  try simp only [Act.put, List.setIfInBounds_toArray, List.set_cons_zero, List.set_cons_succ]
  refine wp_region_lit ?_
  refine st_box1 rfl 71 _ rfl rfl rfl ?_
  intro w1 b1 hT hb hl
  try simp only [Act.put, List.setIfInBounds_toArray, List.set_cons_zero, List.set_cons_succ]
  refine st_x (v := .nilFunc) rfl (x_val _ (.inr rfl) rfl) ?_; try simp only [Act.put, List.setIfInBounds_toArray, List.set_cons_zero, List.set_cons_succ]
  refine st_end14 ?_
  go_upto_region 1 with (fail)
  try simp only [Act.put, List.setIfInBounds_toArray, List.set_cons_zero, List.set_cons_succ]
  refine wp_region_lit ?_
  refine st_x (v := .func (.func 55) #[] #[.pointer (some ⟨b1, 0, none⟩)]) rfl (by kernel_rfl) ?_; try simp only [Act.put, List.setIfInBounds_toArray, List.set_cons_zero, List.set_cons_succ]
  refine st_x (v := .func (.func 55) #[] #[.pointer (some ⟨b1, 0, none⟩)]) rfl (x_val _ (.inr rfl) rfl) ?_; try simp only [Act.put, List.setIfInBounds_toArray, List.set_cons_zero, List.set_cons_succ]
  refine st_end14 ?_
  go_wp2
  go_ret
  exact ⟨b1, rfl, hb, hl, hT⟩
end Go.Proofs.Ytklpcppdjcedpaa
