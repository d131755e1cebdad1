/- Straight code, step by step. -/
import Derived.Test.YthchmnhoombecaaGreatKa4
namespace Go.Proofs.YthchmnhoombecaaGreat
open Go.RowKit

/-- The rest of a region in the text's order, closed. -/
structure KL (ops : Array Oper) (Q : Exit → Act → World → Prop) (l : List Oper) (a : Act) (w : World) : Prop where
  go : wpList Tryz.prog ops Q l a w
section
variable {ops : Array Oper} {o : Oper} {a : Act} {rest : List Oper} {C : World → Prop} {Q : Exit → Act → World → Prop} {w : World} {b : Nat}
theorem l_end (h : Q .normal a w) : KL ops Q [] a w := ⟨h⟩
theorem l_pure {v : Value} (hw : Region.wanted o (yielded ops a.tmps) = true) (hr : ∀ w, (execOp a.eval o).run Tryz.prog w = .ok (.value v) w) (h : KL ops Q rest (a.put o.dst v) w) : KL ops Q (o :: rest) a w := ⟨by
  unfold wpList
  rw [if_pos hw]
  refine .inl ?_
  unfold Oper.wp
  rw [hr w]
  exact h.go⟩
theorem l_nil (p : Addr) (hw : Region.wanted o (yielded ops a.tmps) = true) (x : Operand) (ho : o.op = .nilCheck x) (hx : a.eval x = .pointer (some p))
    (h : KL ops Q rest (a.put o.dst (.pointer (some p))) w) : KL ops Q (o :: rest) a w := l_pure hw (fun w => by unfold execOp; simp only [ho, hx]; rfl) h
theorem l_idx {n e : Nat} (j : Nat) (hw : Region.wanted o (yielded ops a.tmps) = true) (ty : TypeId) (x y : Operand) (ho : o.op = .indexAddr ty x y) (hx : a.eval x = .pointer (some ⟨b, 0, none⟩)) (hy : a.eval y = .int .i64 (j : Int)) (hu : Tryz.prog.underlying ty = some (.array n e)) (he : (Tryz.prog.info? e).map (·.size) = some 1) (hj : j < n)
    (h : KL ops Q rest (a.put o.dst (.pointer (some ⟨b, j, none⟩))) w) : KL ops Q (o :: rest) a w := l_pure hw (x_idx ty x y ho hx hy hu he hj) h
theorem l_store {bs : List Nat} {w0 : World} {L L' : List Ent} {t : TypeId} {c c' : Array Value} {k : IntKind} {n : Int} {j : Nat} (hS : St bs w0 w L) (hgd : o.guard = none) (ty : TypeId) (x y : Operand) (ho : o.op = .store ty x y) (hx : a.eval x = .pointer (some ⟨b, j, none⟩)) (hy : a.eval y = .int k n) (hi : (Tryz.prog.info? ty).map (·.size) = some 1)
    (hc : c.setIfInBounds j (.int k n) = c') (m : Upd L b t c c' L') (hj : j < c.size)
    (h : ∀ w', St bs w0 w' L' → KL ops Q rest (a.put o.dst undef) w') : KL ops Q (o :: rest) a w := ⟨st_store1 (j := j) hS hgd ty x y ho hx hy hi (by rw [hc]; exact m) hj fun w' hS' => (h w' hS').go⟩
/-- What is quiet may be walked in the text's order too. -/
theorem wpList_of_quietQ {Q' : Act → Prop} (hQ : ∀ a w, C w → Q' a → Q .normal a w) : ∀ (l : List Oper) (a : Act) (w : World), C w → wpQuiet Tryz.prog ops C Q' l a → wpList Tryz.prog ops Q l a w
  | [], a, w, hw, h => hQ a w hw h
  | o :: rest, a, w, hw, h => by
    unfold wpQuiet at h
    unfold wpList
    split
    · rename_i hwt
      rw [if_pos hwt] at h
      exact .inl (Oper.wp_of_quiet hw (fun a' w' hw' h' => wpList_of_quietQ hQ rest a' w' hw' h') h)
    · rename_i hwt
      rw [if_neg hwt] at h
      exact wpList_of_quietQ hQ rest _ w hw h
theorem k_plain {id : Nat} {l : List Oper} (hC : C w) (h : KQ l.toArray C (fun a' => ∀ w', C w' → Q .normal a' w') l a) : (Code.region id l.toArray false).wp Tryz.prog Q a w :=
  wp_region_list (wpList_of_quietQ (C := C) (fun a' w' hw' h' => h' w' hw') l a w hC h.go)
theorem l_plain {id : Nat} {l : List Oper} (h : KL l.toArray Q l a w) : (Code.region id l.toArray false).wp Tryz.prog Q a w := wp_region_list h.go
theorem wpQuiet_mono {Q1 Q2 : Act → Prop} (h : ∀ a, Q1 a → Q2 a) : ∀ (l : List Oper) (a : Act), wpQuiet Tryz.prog ops C Q1 l a → wpQuiet Tryz.prog ops C Q2 l a
  | [], a, hh => h a hh
  | o :: rest, a, hh => by
    unfold wpQuiet at hh ⊢
    split
    · rename_i hwt; rw [if_pos hwt] at hh; exact Oper.quiet_mono (fun a h' => wpQuiet_mono h rest a h') hh
    · rename_i hwt; rw [if_neg hwt] at hh; exact wpQuiet_mono h rest _ hh
theorem k_head {id : Nat} {l : List Oper} (n : Nat) (hm : Tryz.prog.follows .mixedOrders = true) (hB : Region.lexTailB .any l.toArray n = true) (hC : C w.drew)
    (h : KQ l.toArray C (fun a' => ∀ w', C w' → KL l.toArray Q (l.drop n) a' w') (l.take n) a) : (Code.region id l.toArray true).wp Tryz.prog Q a w :=
  k_region_head n hm hB hC ⟨by
    have e : ∀ a', (∀ w', C w' → KL l.toArray Q (l.drop n) a' w') → ∀ w', C w' → wpList Tryz.prog l.toArray Q (l.drop n) a' w' := fun a' h w' hw => (h w' hw).go
    exact wpQuiet_mono e _ _ h.go⟩
end
section
variable {ops : Array Oper} {o : Oper} {a : Act} {rest : List Oper} {Qa : Act → Prop} {bs : List Nat} {w0 : World} {L : List Ent} {v : Value} {f : FuncId} {ts : Array TypeId}
theorem k_c1 {x1 : Operand} {v1 : Value} (hw : Region.wanted o (yielded ops a.tmps) = true) (ho : o.op = .call { callee := .value (.func f), args := #[x1], argTypes := ts }) (h1 : a.eval x1 = v1)
    (hc : (∀ args w, (callFunc f args).run Tryz.prog w = .ok (.enter f args) w) ∧ ∀ w, Calls Tryz.prog f #[v1] w fun e w' => e = .returned v ∧ w = w')
    (h : KQ ops (fun w' => St bs w0 w' L) Qa rest (a.put o.dst v)) : KQ ops (fun w' => St bs w0 w' L) Qa (o :: rest) a := k_calls hw ho (by simp [h1]) hc h
theorem k_c2 {x1 x2 : Operand} {v1 v2 : Value} (hw : Region.wanted o (yielded ops a.tmps) = true) (ho : o.op = .call { callee := .value (.func f), args := #[x1, x2], argTypes := ts }) (h1 : a.eval x1 = v1) (h2 : a.eval x2 = v2)
    (hc : (∀ args w, (callFunc f args).run Tryz.prog w = .ok (.enter f args) w) ∧ ∀ w, Calls Tryz.prog f #[v1, v2] w fun e w' => e = .returned v ∧ w = w')
    (h : KQ ops (fun w' => St bs w0 w' L) Qa rest (a.put o.dst v)) : KQ ops (fun w' => St bs w0 w' L) Qa (o :: rest) a := k_calls hw ho (by simp [h1, h2]) hc h
theorem k_c5 {x1 x2 x3 x4 x5 : Operand} {v1 v2 v3 v4 v5 : Value} (hw : Region.wanted o (yielded ops a.tmps) = true) (ho : o.op = .call { callee := .value (.func f), args := #[x1, x2, x3, x4, x5], argTypes := ts }) (h1 : a.eval x1 = v1) (h2 : a.eval x2 = v2) (h3 : a.eval x3 = v3) (h4 : a.eval x4 = v4) (h5 : a.eval x5 = v5)
    (hc : (∀ args w, (callFunc f args).run Tryz.prog w = .ok (.enter f args) w) ∧ ∀ w, Calls Tryz.prog f #[v1, v2, v3, v4, v5] w fun e w' => e = .returned v ∧ w = w')
    (h : KQ ops (fun w' => St bs w0 w' L) Qa rest (a.put o.dst v)) : KQ ops (fun w' => St bs w0 w' L) Qa (o :: rest) a := k_calls hw ho (by simp [h1, h2, h3, h4, h5]) hc h
end
end Go.Proofs.YthchmnhoombecaaGreat
