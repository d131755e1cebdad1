/- A region that draws its order and holds calls whose values hang on the world: what reads is taken first, each call comes up alone. -/
import Derived.Test.YtjlhnjnoigjjfaaDoorN15
import Derived.Deep.RegionHeld3
namespace Go.Proofs.YtjlhnjnoigjjfaaDoor
open Go.RowKit

section
variable {ops : Array Oper} {md : Region.Mode} {Q : Exit → Act → World → Prop} {S : World → Prop} {a : Act} {w : World} {fuel : Nat} {listed : Array Bool}
/-- What is quiet in a class within S is held. -/
theorem held_of_quiet {P : Program} {C : World → Prop} {R : Act → Prop} (hsub : ∀ w, C w → S w) (hR : ∀ a w, C w → R a → Q .normal a w) : ∀ (fuel : Nat) (listed : Array Bool) (a : Act) (w : World), C w → wpAnyQ P md ops C R fuel listed a → wpAnyH P md ops Q S fuel listed a w
  | 0, _, _, _, hw, h => ⟨h.1, hR _ _ hw h.2⟩
  | fuel + 1, _, _, _, hw, h => ⟨fun h0 => hR _ _ hw (h.1 h0), fun i hi => wpOp_of_qOp hw (fun a' w' hw' h' => ⟨hsub _ hw', held_of_quiet hsub hR fuel _ a' w' hw' h'⟩) (h.2 i hi)⟩
/-- Number k comes up alone. -/
theorem held_one {P : Program} (k : Nat) (hr : Region.ready md ops listed = [k]) (h : wpOp P ops Q k (fun a' w' => S w' ∧ wpAnyH P md ops Q S fuel (listed.setIfInBounds k true) a' w') a w) : wpAnyH P md ops Q S (fuel + 1) listed a w :=
  wpAnyH_all hr (by simp) (fun i hi => by
    have : i = k := by simpa using hi
    subst this; exact h)
/-- From number k on all is quiet in a class. -/
theorem held_rest {l : List Oper} (k : Nat) (C : World → Prop) (hs : Region.noSelect l.toArray = true) (hB : Region.lexFrom md l.toArray (l.drop k).length k listed = true) (hC : C w) (hsub : ∀ w, C w → S w)
    (h : KQ l.toArray C (fun a' => ∀ w', C w' → Q .normal a' w') (l.drop k) a) : wpAnyH Tryd.prog md l.toArray Q S (l.drop k).length listed a w :=
  held_of_quiet hsub (fun _ w' hw' h => h w' hw') _ _ _ _ hC (wpAnyQ_lex (C := C) hs (l.drop k) k listed a (fun j => by simp [List.getElem?_drop]) hB h.go)
/-- What yields in every world that is met is taken first. -/
theorem held_in {l0 : List Oper} {o : Oper} {v : Value} (i : Nat) (hi : l0[i]? = some o) (hs : Region.noSelect l0.toArray = true) (hf : Region.free md l0.toArray listed i = true) (hr : (Region.ready md l0.toArray listed).contains i = true) (hQ : ∀ c a w, Q (.panic c) (a.put o.dst v) w → Q (.panic c) a w) (hS : S w)
    (hw : Region.wanted o (yielded l0.toArray a.tmps) = true) (hx : ∀ w, S w → (execOp a.eval o).run Tryd.prog w = .ok (.value v) w)
    (h : wpAnyH Tryd.prog md l0.toArray Q S fuel (listed.setIfInBounds i true) (a.put o.dst v) w) : wpAnyH Tryd.prog md l0.toArray Q S (fuel + 1) listed a w :=
  wpAnyH_take (by rw [List.getElem?_toArray]; exact hi) hs hf hr hQ (.inl ⟨hw, fun w hS => by rw [hx w hS]⟩) hS h
end
section
variable {a : Act} {w : World} {o : Oper}
theorem x_val {v : Value} (xo : Operand) (ho : o.op = .move xo ∨ o.op = .assign xo) (hx : a.eval xo = v) : (execOp a.eval o).run Tryd.prog w = .ok (.value v) w := by
  unfold execOp; rcases ho with ho | ho <;> simp only [ho, hx] <;> rfl
theorem x_ints {m : Int} (xo yo : Operand) (yt : TypeId) (ho : o.op = .binOp .eql 3 xo yo yt) (hxe : a.eval xo = .int .i64 m) (hye : a.eval yo = .int .i64 m) : (execOp a.eval o).run Tryd.prog w = .ok (.value (.bool true)) w := by
  unfold execOp; simp only [ho, hxe, hye]; show Sem.run _ _ w = _; simp [eqGuard, binOp, Op.intCmp]
theorem x_bools {s : Bool} (xo yo : Operand) (yt : TypeId) (ho : o.op = .binOp .eql 4 xo yo yt) (hxe : a.eval xo = .bool s) (hye : a.eval yo = .bool s) : (execOp a.eval o).run Tryd.prog w = .ok (.value (.bool true)) w := by
  unfold execOp; simp only [ho, hxe, hye]; show Sem.run _ _ w = _; simp [eqGuard, binOp]; show ((Sem.run Tryd.prog (Op.equalIn (9999 + 1) 4 (.bool s) (.bool s)) w).andThen _) = _; unfold Op.equalIn; simp [run_underlying bool_ty]
theorem x_pickT {t : Bool} (co xo yo : Operand) (ho : o.op = .pick co xo yo) (hc : a.eval co = .bool true) (hx : a.eval xo = .bool t) : (execOp a.eval o).run Tryd.prog w = .ok (.value (.bool t)) w := by
  unfold execOp; simp only [ho, hc, hx, asBool]; rfl
theorem x_load {b n n1 : Nat} {t e1 : TypeId} {c : Array Value} (ty : TypeId) (x : Operand) (ho : o.op = .load ty x) (hx : a.eval x = .pointer (some ⟨b, 0, none⟩)) (hB : Blk w b t c)
    (hu : Tryd.prog.underlying ty = some (.array n1 e1)) (hi : (Tryd.prog.info? ty).map (·.size) = some n) (hn : c.size = n) : (execOp a.eval o).run Tryd.prog w = .ok (.value (.agg c)) w := by
  have hl := hB.load (P := Tryd.prog) hu rfl hi hn
  unfold execOp
  simp only [ho, hx, Sem.run_bind, hl, Result.andThen_ok, Sem.run_pure]
def bytesOfN (n : Nat) (f : Nat → Nat) : List UInt8 := (List.range n).map fun i => UInt8.ofNat (f i)
theorem bc_bytesN (n : Nat) (f : Nat → Nat) (h : ∀ i, i < n → f i < 256) : bc n f = ((bytesOfN n f).map Extern.Stop.cell).toArray := by
  unfold bytesOfN
  rw [List.map_map]
  show ((List.range n).map fun i => Value.int .u8 ((f i : Nat) : Int)).toArray = _
  congr 1
  apply List.map_congr_left
  intro i hi
  simp only [Function.comp, Extern.Stop.cell]
  have h := h i (List.mem_range.1 hi)
  congr 1
  simp [Nat.mod_eq_of_lt h]
theorem byteN_ty : Tryd.prog.underlying 5 = some (.int .u8) := by kernel_rfl
theorem run_eql_word (W : List Nat) (h : ∀ x ∈ W, x < 256) (w : World) : (binOp .eql 23 (.agg (wv W)) (.agg (wv W))).run Tryd.prog w = .ok (.bool true) w := by
  have hb : ∀ i, i < 32 → W.getD i 0 < 256 := fun i _ => by
    rw [List.getD_eq_getElem?_getD]
    cases hq : W[i]? with
    | none => decide
    | some y => exact h y (List.mem_of_getElem? hq)
  have := run_eql_bytes (P := Tryd.prog) w 23 5 32 wordN_type byteN_ty (fun w => sizeOf_u8 w) (bytesOfN 32 (fun i => W.getD i 0)) (bytesOfN 32 (fun i => W.getD i 0)) (by simp [bytesOfN]) (by simp [bytesOfN])
  rw [← bc_bytesN 32 (fun i => W.getD i 0) hb, beq_self_eq_true] at this
  exact this
theorem x_words {W : List Nat} (h : ∀ x ∈ W, x < 256) (xo yo : Operand) (yt : TypeId) (ho : o.op = .binOp .eql 23 xo yo yt) (hxe : a.eval xo = .agg (wv W)) (hye : a.eval yo = .agg (wv W)) : (execOp a.eval o).run Tryd.prog w = .ok (.value (.bool true)) w := by
  have := run_eql_word W h w
  unfold execOp
  simp only [ho, hxe, hye]
  show Sem.run _ _ w = _
  simp [eqGuard, this]
/-- A call of one argument. -/
theorem held_call {P : Program} {l0 : List Oper} {Q : Exit → Act → World → Prop} {n : Nat} {K : Act → World → Prop} {f : FuncId} {ts : Array TypeId} {x1 : Operand} {v1 : Value} {R : Ending → World → Prop} (ho : l0[n]? = some o) (hw : Region.wanted o (yielded l0.toArray a.tmps) = true)
    (hop : o.op = .call { callee := .value (.func f), args := #[x1], argTypes := ts }) (h1 : a.eval x1 = v1) (hf : ∀ args w, (callFunc f args).run P w = .ok (.enter f args) w)
    (hc : Calls P f #[v1] w R) (h : ∀ e w', R e w' → ∃ v, e = .returned v ∧ K (a.put o.dst v) w') : wpOp P l0.toArray Q n K a w :=
  o_callR (by rw [List.getElem?_toArray]; exact ho) hw (by unfold execOp; simp [hop, resolve, invoke, h1, hf, show a.eval (.func f) = .func (.func f) #[] #[] from rfl, Deferred.ofValue]) hc h
/-- A call of two arguments. -/
theorem held_call2 {P : Program} {l0 : List Oper} {Q : Exit → Act → World → Prop} {n : Nat} {K : Act → World → Prop} {f : FuncId} {ts : Array TypeId} {x1 x2 : Operand} {v1 v2 : Value} {R : Ending → World → Prop} (ho : l0[n]? = some o) (hw : Region.wanted o (yielded l0.toArray a.tmps) = true)
    (hop : o.op = .call { callee := .value (.func f), args := #[x1, x2], argTypes := ts }) (h1 : a.eval x1 = v1) (h2 : a.eval x2 = v2) (hf : ∀ args w, (callFunc f args).run P w = .ok (.enter f args) w)
    (hc : Calls P f #[v1, v2] w R) (h : ∀ e w', R e w' → ∃ v, e = .returned v ∧ K (a.put o.dst v) w') : wpOp P l0.toArray Q n K a w :=
  o_callR (by rw [List.getElem?_toArray]; exact ho) hw (by unfold execOp; simp [hop, resolve, invoke, h1, h2, hf, show a.eval (.func f) = .func (.func f) #[] #[] from rfl, Deferred.ofValue]) hc h
end
end Go.Proofs.YtjlhnjnoigjjfaaDoor
