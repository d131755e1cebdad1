/- The document's example, that each law begins with; texts of bytes held against each other. -/
import Derived.Test.YtgdojomaknbheaaP13
import Derived.Test.YtgdojomaknbheaaB2
namespace Go.Proofs.Ytgdojomaknbheaa
open Go.RowKit

theorem RdA.nofix {w : World} {v : Value} {l : List Nat} (h : RdA [] w v l) {w' : World} (hT : Tch [] w w') : RdB w' v l := (h.tch hT).rdB
theorem strB_inj {a b : List Nat} (ha : ∀ x ∈ a, x < 256) (hb : ∀ x ∈ b, x < 256) (h : strB a = strB b) : a = b := by
  have := strB_eq ha hb
  rw [h, beq_self_eq_true] at this
  exact (beq_iff_eq.1 this.symm)
section
variable {o : Oper} {a : Act} {ops : Array Oper} {rest : List Oper} {C : World → Prop} {Q : Act → Prop}
/-- Two texts of bytes held against each other. -/
theorem k_strL {l m : List Nat} {t : Bool} (hw : Region.wanted o (yielded ops a.tmps) = true) (x y : Operand) (yt : TypeId) (ho : o.op = .binOp .eql 9 x y yt) (hx : a.eval x = .string (strB l)) (hy : a.eval y = .string (strB m)) (hl : ∀ x ∈ l, x < 256) (hm : ∀ x ∈ m, x < 256) (ht : (l == m) = t)
    (h : KQ ops C Q rest (a.put o.dst (.bool t))) : KQ ops C Q (o :: rest) a :=
  k_pure hw (fun w => by
    have e : ((strB l).toList == (strB m).toList) = t := by rw [strB_eq hl hm]; exact ht
    unfold execOp; simp only [ho, hx, hy]; show Sem.run _ _ w = _; simp [eqGuard, binOp, Op.stringOp, e]) h
theorem k_strN {l m : List Nat} {t : Bool} (hw : Region.wanted o (yielded ops a.tmps) = true) (x y : Operand) (yt : TypeId) (ho : o.op = .binOp .neq 9 x y yt) (hx : a.eval x = .string (strB l)) (hy : a.eval y = .string (strB m)) (hl : ∀ x ∈ l, x < 256) (hm : ∀ x ∈ m, x < 256) (ht : (l != m) = t)
    (h : KQ ops C Q rest (a.put o.dst (.bool t))) : KQ ops C Q (o :: rest) a :=
  k_pure hw (fun w => by
    have e : ((strB l).toList == (strB m).toList) = (l == m) := strB_eq hl hm
    unfold execOp; simp only [ho, hx, hy]; show Sem.run _ _ w = _; simp [eqGuard, binOp, Op.stringOp, e, ← ht, bne]) h
end
set_option maxHeartbeats 1000000 in
set_option maxRecDepth 100000 in
theorem alive_any (w : World) : Calls Try.prog 6 #[] w fun e w' => e = .returned (.bool true) ∧ Tch [] w w' := by
  have hpk := fun (u : Value) (w1 : World) (h : RdA [] w1 u [1, 2, 3]) => Pack_any u [1, 2, 3] true w1 (by simp) h
  rw [show packL [1, 2, 3] true = some [49, 35] by decide] at hpk
  have HPK := Lib.hid (hpk _ _ ((RdB.lit w 5 [1, 2, 3] (by intro y hy; simp at hy; omega) #[.int .u8 1, .int .u8 2, .int .u8 3] rfl).rdA (by simp)))
  clear hpk
  go_enter Try.func6, Try.ntmps6
  go_upto_region 2 with (go_at_call 10; go_must (refine HPK.out.mono ?_; rintro e w2 ⟨hT2, v2, rfl, hv2⟩))
  refine k_seq (C := fun w' => Tch [] w2 w') (Tch.refl _ _) ?_
  repeat (first
    | (refine k_boolm rfl _ rfl rfl ?_; try simp only [Act.put, List.setIfInBounds_toArray, List.set_cons_zero, List.set_cons_succ])
    | (refine k_boola rfl _ rfl rfl ?_; try simp only [Act.put, List.setIfInBounds_toArray, List.set_cons_zero, List.set_cons_succ])
    | (refine k_slice rfl _ rfl rfl ?_; try simp only [Act.put, List.setIfInBounds_toArray, List.set_cons_zero, List.set_cons_succ])
    | (refine k_val rfl _ (.inl rfl) rfl ?_; try simp only [Act.put, List.setIfInBounds_toArray, List.set_cons_zero, List.set_cons_succ])
    | (refine k_conv rfl _ rfl rfl (fun w' h => hv2.nofix h) ?_; try simp only [Act.put, List.setIfInBounds_toArray, List.set_cons_zero, List.set_cons_succ])
    | (refine k_strL (l := [49, 35]) (m := [49, 35]) rfl _ _ _ rfl rfl rfl (by decide) (by decide) rfl ?_; try simp only [Act.put, List.setIfInBounds_toArray, List.set_cons_zero, List.set_cons_succ])
    | (refine k_pickT rfl _ _ _ rfl rfl rfl ?_; try simp only [Act.put, List.setIfInBounds_toArray, List.set_cons_zero, List.set_cons_succ]))
  refine k_end ?_
  intro w3 hT3
  go_wp2
  go_ret
  exact ⟨rfl, (((Tch.refl [] w).alloc _).trans hT2).trans hT3⟩
end Go.Proofs.Ytgdojomaknbheaa
