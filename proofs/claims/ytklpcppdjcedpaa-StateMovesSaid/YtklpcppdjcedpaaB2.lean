/- A region that draws its order and holds one call whose value hangs on the world: reads are taken first, the call comes up alone, then the rest is quiet in a class of its own. -/
import Derived.Test.YtklpcppdjcedpaaB1
import Derived.Deep.RegionHeld3
set_option linter.unusedVariables false
set_option linter.unusedSimpArgs false
namespace Go.Proofs.Ytklpcppdjcedpaa
open Go.RowKit

section
variable {ops : Array Oper} {md : Region.Mode} {Q : Exit → Act → World → Prop} {S : World → Prop} {a : Act} {w : World} {fuel : Nat} {listed : Array Bool}
/-- What is quiet in a class within S is held. -/
theorem held_of_quiet {P : Program} {C : World → Prop} {R : Act → Prop} (hsub : ∀ w, C w → S w) (hR : ∀ a w, C w → R a → Q .normal a w) : ∀ (fuel : Nat) (listed : Array Bool) (a : Act) (w : World), C w → wpAnyQ P md ops C R fuel listed a → wpAnyH P md ops Q S fuel listed a w
  | 0, _, _, _, hw, h => ⟨h.1, hR _ _ hw h.2⟩
  | fuel + 1, _, _, _, hw, h => ⟨fun h0 => hR _ _ hw (h.1 h0), fun i hi => wpOp_of_qOp hw (fun a' w' hw' h' => ⟨hsub _ hw', held_of_quiet hsub hR fuel _ a' w' hw' h'⟩) (h.2 i hi)⟩
/-- Number k comes up alone. -/
theorem held_one {P : Program} (k : Nat) (hr : Region.ready md ops listed = [k]) (h : wpOp P ops Q k (fun a' w' => S w' ∧ wpAnyH P md ops Q S fuel (listed.setIfInBounds k true) a' w') a w) : wpAnyH P md ops Q S (fuel + 1) listed a w :=
  wpAnyH_all hr (by simp) (fun i hi => by
    have : i = k := by simpa using hi
    subst this; exact h)
/-- From number k on all is quiet in a class. -/
theorem held_rest {l : List Oper} (k : Nat) (C : World → Prop) (hs : Region.noSelect l.toArray = true) (hB : Region.lexFrom md l.toArray (l.drop k).length k listed = true) (hC : C w) (hsub : ∀ w, C w → S w)
    (h : KQ l.toArray C (fun a' => ∀ w', C w' → Q .normal a' w') (l.drop k) a) : wpAnyH Try.prog md l.toArray Q S (l.drop k).length listed a w :=
  held_of_quiet hsub (fun _ w' hw' h => h w' hw') _ _ _ _ hC (wpAnyQ_lex (C := C) hs (l.drop k) k listed a (fun j => by simp [List.getElem?_drop]) hB h.go)
/-- A value moved is taken first. -/
theorem held_val {l0 : List Oper} {o : Oper} {v : Value} (i : Nat) (hi : l0[i]? = some o) (hs : Region.noSelect l0.toArray = true) (hf : Region.free md l0.toArray listed i = true) (hr : (Region.ready md l0.toArray listed).contains i = true) (hQ : ∀ c a w, Q (.panic c) (a.put o.dst v) w → Q (.panic c) a w) (hS : S w)
    (hw : Region.wanted o (yielded l0.toArray a.tmps) = true) (xo : Operand) (ho : o.op = .move xo ∨ o.op = .assign xo) (hx : a.eval xo = v)
    (h : wpAnyH Try.prog md l0.toArray Q S fuel (listed.setIfInBounds i true) (a.put o.dst v) w) : wpAnyH Try.prog md l0.toArray Q S (fuel + 1) listed a w :=
  wpAnyH_take (by rw [List.getElem?_toArray]; exact hi) hs hf hr hQ (.inl ⟨hw, fun w _ => by unfold execOp; rcases ho with ho | ho <;> simp only [ho, hx] <;> rfl⟩) hS h
/-- Bytes turned into a text are taken first. -/
theorem held_conv {l0 : List Oper} {o : Oper} {v : Value} {l : List Nat} (i : Nat) (hi : l0[i]? = some o) (hs : Region.noSelect l0.toArray = true) (hf : Region.free md l0.toArray listed i = true) (hr : (Region.ready md l0.toArray listed).contains i = true) (hQ : ∀ c a w, Q (.panic c) (a.put o.dst (.string (strB l))) w → Q (.panic c) a w) (hS : S w)
    (hw : Region.wanted o (yielded l0.toArray a.tmps) = true) (x : Operand) (ho : o.op = .convert 34 9 x) (hx : a.eval x = v) (hv : ∀ w, S w → RdB w v l)
    (h : wpAnyH Try.prog md l0.toArray Q S fuel (listed.setIfInBounds i true) (a.put o.dst (.string (strB l))) w) : wpAnyH Try.prog md l0.toArray Q S (fuel + 1) listed a w :=
  wpAnyH_take (by rw [List.getElem?_toArray]; exact hi) hs hf hr hQ (.inl ⟨hw, fun w hS => by
    unfold execOp
    simp only [ho, hx, Sem.run_bind, conv_rd (hv w hS), Result.andThen_ok, Sem.run_pure]⟩) hS h
/-- The call itself. -/
theorem held_call {P : Program} {l0 : List Oper} {n : Nat} {o : Oper} {K : Act → World → Prop} {f : FuncId} {ts : Array TypeId} {x1 : Operand} {v1 : Value} {R : Ending → World → Prop} (ho : l0[n]? = some o) (hw : Region.wanted o (yielded l0.toArray a.tmps) = true)
    (hop : o.op = .call { callee := .value (.func f), args := #[x1], argTypes := ts }) (h1 : a.eval x1 = v1) (hf : ∀ args w, (callFunc f args).run P w = .ok (.enter f args) w)
    (hc : Calls P f #[v1] w R) (h : ∀ e w', R e w' → ∃ v, e = .returned v ∧ K (a.put o.dst v) w') : wpOp P l0.toArray Q n K a w :=
  o_callR (by rw [List.getElem?_toArray]; exact ho) hw (by unfold execOp; simp [hop, resolve, invoke, h1, hf, show a.eval (.func f) = .func (.func f) #[] #[] from rfl, Deferred.ofValue]) hc h
end
end Go.Proofs.Ytklpcppdjcedpaa
