/- Four structs of one slice each that lie apart (two memories, two stacks); a call as a value. -/
import Derived.Test.YtlliidfkjlmadaaIB
import Derived.Test.YtlliidfkjlmadaaIF
set_option linter.unusedVariables false
set_option linter.unusedSimpArgs false
namespace Go.Proofs.Ytlliidfkjlmadaa
open Go.RowKit
set_option maxRecDepth 100000

/-- Two memories and two stacks in memory, all apart, all laid down since w0. -/
structure Quad (w0 w : World) (bm br bs bt : Nat) (vm vr vs vt : Value) (Lm Lr : List Nat) (Ws Wt : List (List Nat)) : Prop where
  T : Tch [] w0 w
  m : MemIn w0.heap.size 26 w bm vm Lm
  r : MemIn w0.heap.size 32 w br vr Lr
  s : StkIn w0.heap.size 29 w bs vs Ws
  t : StkIn w0.heap.size 35 w bt vt Wt
  mr : ∀ x ∈ fpr bm vm, x ∉ fpr br vr
  ms : ∀ x ∈ fpr bm vm, x ∉ fpr bs vs
  mt : ∀ x ∈ fpr bm vm, x ∉ fpr bt vt
  rs : ∀ x ∈ fpr br vr, x ∉ fpr bs vs
  rt : ∀ x ∈ fpr br vr, x ∉ fpr bt vt
  st : ∀ x ∈ fpr bs vs, x ∉ fpr bt vt
section
variable {w0 w w' : World} {bm br bs bt : Nat} {vm vr vs vt : Value} {Lm Lr : List Nat} {Ws Wt : List (List Nat)}
theorem Quad.call (h : Quad w0 w bm br bs bt vm vr vs vt Lm Lr Ws Wt) (hT : Tch [] w w') : Quad w0 w' bm br bs bt vm vr vs vt Lm Lr Ws Wt :=
  ⟨h.T.trans hT, h.m.call hT, h.r.call hT, h.s.call hT, h.t.call hT, h.mr, h.ms, h.mt, h.rs, h.rt, h.st⟩
theorem Quad.turnM {v' : Value} {L' : List Nat} (h : Quad w0 w bm br bs bt vm vr vs vt Lm Lr Ws Wt) (h1 : MemIn w0.heap.size 26 w' bm v' L') (hT : Turned w w' bm vm v') : Quad w0 w' bm br bs bt v' vr vs vt L' Lr Ws Wt :=
  ⟨Turned.fresh_tch h.T hT (fun x hx => (h.m.lt hx).1), h1, h.r.far hT.tch (dis_symm h.mr), h.s.far hT.tch (dis_symm h.ms), h.t.far hT.tch (dis_symm h.mt), dis_symm (hT.dis (dis_symm h.mr) (fun x hx => (h.r.lt hx).2)), dis_symm (hT.dis (dis_symm h.ms) (fun x hx => (h.s.lt hx).2)), dis_symm (hT.dis (dis_symm h.mt) (fun x hx => (h.t.lt hx).2)), h.rs, h.rt, h.st⟩
theorem Quad.turnR {v' : Value} {L' : List Nat} (h : Quad w0 w bm br bs bt vm vr vs vt Lm Lr Ws Wt) (h1 : MemIn w0.heap.size 32 w' br v' L') (hT : Turned w w' br vr v') : Quad w0 w' bm br bs bt vm v' vs vt Lm L' Ws Wt :=
  ⟨Turned.fresh_tch h.T hT (fun x hx => (h.r.lt hx).1), h.m.far hT.tch (h.mr), h1, h.s.far hT.tch (dis_symm h.rs), h.t.far hT.tch (dis_symm h.rt), hT.dis h.mr (fun x hx => (h.m.lt hx).2), h.ms, h.mt, dis_symm (hT.dis (dis_symm h.rs) (fun x hx => (h.s.lt hx).2)), dis_symm (hT.dis (dis_symm h.rt) (fun x hx => (h.t.lt hx).2)), h.st⟩
theorem Quad.turnS {v' : Value} {W' : List (List Nat)} (h : Quad w0 w bm br bs bt vm vr vs vt Lm Lr Ws Wt) (h1 : StkIn w0.heap.size 29 w' bs v' W') (hT : Turned w w' bs vs v') : Quad w0 w' bm br bs bt vm vr v' vt Lm Lr W' Wt :=
  ⟨Turned.fresh_tch h.T hT (fun x hx => (h.s.lt hx).1), h.m.far hT.tch (h.ms), h.r.far hT.tch (h.rs), h1, h.t.far hT.tch (dis_symm h.st), h.mr, hT.dis h.ms (fun x hx => (h.m.lt hx).2), h.mt, hT.dis h.rs (fun x hx => (h.r.lt hx).2), h.rt, dis_symm (hT.dis (dis_symm h.st) (fun x hx => (h.t.lt hx).2))⟩
theorem Quad.turnT {v' : Value} {W' : List (List Nat)} (h : Quad w0 w bm br bs bt vm vr vs vt Lm Lr Ws Wt) (h1 : StkIn w0.heap.size 35 w' bt v' W') (hT : Turned w w' bt vt v') : Quad w0 w' bm br bs bt vm vr vs v' Lm Lr Ws W' :=
  ⟨Turned.fresh_tch h.T hT (fun x hx => (h.t.lt hx).1), h.m.far hT.tch (h.mt), h.r.far hT.tch (h.rt), h.s.far hT.tch (h.st), h1, h.mr, h.ms, hT.dis h.mt (fun x hx => (h.m.lt hx).2), h.rs, hT.dis h.rt (fun x hx => (h.r.lt hx).2), hT.dis h.st (fun x hx => (h.s.lt hx).2)⟩
theorem Quad.far {G : List Nat} (h : Quad w0 w bm br bs bt vm vr vs vt Lm Lr Ws Wt) (hT : Tch G w w') (hG : ∀ x ∈ G, w0.heap.size ≤ x) (gm : ∀ x ∈ fpr bm vm, x ∉ G) (gr : ∀ x ∈ fpr br vr, x ∉ G) (gs : ∀ x ∈ fpr bs vs, x ∉ G) (gt : ∀ x ∈ fpr bt vt, x ∉ G) : Quad w0 w' bm br bs bt vm vr vs vt Lm Lr Ws Wt :=
  ⟨Tch.fresh h.T hT hG, h.m.far hT gm, h.r.far hT gr, h.s.far hT gs, h.t.far hT gt, h.mr, h.ms, h.mt, h.rs, h.rt, h.st⟩
end
/-- A call as cells. -/
def actC (way i j : Int) (A N : List Nat) (vb : Value) : Array Value := (.int .i64 way :: .int .i64 i :: .int .i64 j :: ((wv A).toList ++ ((wv N).toList ++ [vb]))).toArray
section
variable (way i j : Int) (A N : List Nat) (vb : Value)
theorem actC_size : (actC way i j A N vb).size = 68 := by simp [actC, show ∀ W, (wv W).size = 32 from fun W => bc_size _ _]
theorem actC_0 : (actC way i j A N vb)[0]? = some (.int .i64 way) := rfl
theorem actC_1 : (actC way i j A N vb)[1]? = some (.int .i64 i) := rfl
theorem actC_2 : (actC way i j A N vb)[2]? = some (.int .i64 j) := rfl
theorem actC_at {q : Nat} (hq : q < 32) : (actC way i j A N vb)[3 + q]? = (wv A)[q]? := by
  rw [show 3 + q = q + 3 by omega]
  simp only [actC, List.getElem?_toArray, List.getElem?_cons_succ]
  rw [List.getElem?_append_left (by rw [wv_len]; exact hq), Array.getElem?_toList]
theorem actC_n {q : Nat} (hq : q < 32) : (actC way i j A N vb)[35 + q]? = (wv N)[q]? := by
  rw [show 35 + q = (32 + q) + 3 by omega]
  simp only [actC, List.getElem?_toArray, List.getElem?_cons_succ]
  rw [List.getElem?_append_right (by rw [wv_len]; omega), wv_len, Nat.add_sub_cancel_left, List.getElem?_append_left (by rw [wv_len]; exact hq), Array.getElem?_toList]
theorem actC_b : (actC way i j A N vb)[67]? = some vb := by
  rw [show 67 = 64 + 3 by rfl]
  simp only [actC, List.getElem?_toArray, List.getElem?_cons_succ]
  rw [List.getElem?_append_right (by rw [wv_len]; omega), wv_len, List.getElem?_append_right (by rw [wv_len]; omega), wv_len]
  rfl
end
theorem act_range_at {w : World} {b : Nat} {t : TypeId} {way i j : Int} {A N : List Nat} {vb : Value} (h : Blk w b t (actC way i j A N vb)) : w.rangeAt b 3 (wv A).toList := fun q v hq => by
  have hq' : q < 32 := by have := (List.getElem?_eq_some_iff.1 hq).1; rwa [wv_len] at this
  exact h.cell (by rw [actC_at _ _ _ _ _ _ hq', ← Array.getElem?_toList]; exact hq)
theorem act_range_n {w : World} {b : Nat} {t : TypeId} {way i j : Int} {A N : List Nat} {vb : Value} (h : Blk w b t (actC way i j A N vb)) : w.rangeAt b 35 (wv N).toList := fun q v hq => by
  have hq' : q < 32 := by have := (List.getElem?_eq_some_iff.1 hq).1; rwa [wv_len] at this
  exact h.cell (by rw [actC_n _ _ _ _ _ _ hq', ← Array.getElem?_toList]; exact hq)
section
variable {o : Oper} {a : Act} {w : World}
theorem x_ldAt {b q : Nat} {W : List Nat} (x : Operand) (ho : o.op = .load 37 x) (hx : a.eval x = .pointer (some ⟨b, q, none⟩)) (hr : w.rangeAt b q (wv W).toList) : (execOp a.eval o).run Try.prog w = .ok (.value (.agg (wv W))) w := by
  have h := run_loadAt_mid (P := Try.prog) w b q 37 (wv W).toList _ hr wordN_type rfl (by rw [wv_len]; exact wordN_size)
  rw [Array.toArray_toList] at h
  unfold execOp
  simp only [ho, hx, Sem.run_bind, h, Result.andThen_ok, Sem.run_pure]
theorem x_ldAt' {b q : Nat} {c : Array Value} (x : Operand) (ho : o.op = .load 37 x) (hx : a.eval x = .pointer (some ⟨b, q, none⟩)) (hr : w.rangeAt b q c.toList) (hc : c.size = 32) : (execOp a.eval o).run Try.prog w = .ok (.value (.agg c)) w := by
  have h := run_loadAt_mid (P := Try.prog) w b q 37 c.toList _ hr wordN_type rfl (by rw [Array.length_toList, hc]; exact wordN_size)
  rw [Array.toArray_toList] at h
  unfold execOp
  simp only [ho, hx, Sem.run_bind, h, Result.andThen_ok, Sem.run_pure]
theorem fa_act (b : Nat) (w : World) : (Instr.fieldAt 39 (.pointer (some ⟨b, 0, none⟩)) 0).run Try.prog w = .ok (.pointer (some ⟨b, 0, none⟩)) w ∧ (Instr.fieldAt 39 (.pointer (some ⟨b, 0, none⟩)) 1).run Try.prog w = .ok (.pointer (some ⟨b, 1, none⟩)) w ∧ (Instr.fieldAt 39 (.pointer (some ⟨b, 0, none⟩)) 2).run Try.prog w = .ok (.pointer (some ⟨b, 2, none⟩)) w ∧ (Instr.fieldAt 39 (.pointer (some ⟨b, 0, none⟩)) 3).run Try.prog w = .ok (.pointer (some ⟨b, 3, none⟩)) w ∧ (Instr.fieldAt 39 (.pointer (some ⟨b, 0, none⟩)) 4).run Try.prog w = .ok (.pointer (some ⟨b, 35, none⟩)) w ∧ (Instr.fieldAt 39 (.pointer (some ⟨b, 0, none⟩)) 5).run Try.prog w = .ok (.pointer (some ⟨b, 67, none⟩)) w := ⟨by kernel_rfl, by kernel_rfl, by kernel_rfl, by kernel_rfl, by kernel_rfl, by kernel_rfl⟩
end
theorem xor_byte (x : Int) : ∃ y : Nat, bits BinOp.xor IntKind.u8 x 255 = (y : Int) := by
  refine ⟨(bits BinOp.xor IntKind.u8 x 255).toNat, ?_⟩
  have : 0 ≤ bits BinOp.xor IntKind.u8 x 255 := by
    unfold bits
    rw [IntKind.wrap_u8]
    exact Int.emod_nonneg _ (by decide)
  omega
/-- A byte is stored into a row of one's own. -/
theorem run_stB {w : World} {B g n c k x : Nat} {L : List Nat} (h : w.ownsRow B 5 1 (.slice (some ⟨g, 0, none⟩) n c) n (nb L)) (hk : k < L.length) :
    (Instr.storeAt 5 (.pointer (some ⟨g, k, none⟩)) (.int .u8 (x : Int))).run Try.prog w = .ok () (w.setCell ⟨g, k, none⟩ (.int .u8 (x : Int))) ∧ (w.setCell ⟨g, k, none⟩ (.int .u8 (x : Int))).ownsRow B 5 1 (.slice (some ⟨g, 0, none⟩) n c) n (nb (L.set k x)) ∧ Only g w (w.setCell ⟨g, k, none⟩ (.int .u8 (x : Int))) := by
  have hl := h.1
  rw [nb_length, Nat.mul_one] at hl
  have hc := own_cellB h hk
  obtain ⟨_, ⟨h1, _⟩ | ⟨g', cap, cur, he, hB, hb, hnc, hcm, hsz, htk⟩⟩ := h
  · cases h1
  injection he with e1 _ e3
  injection e1 with e1
  injection e1 with e1
  subst e1 e3
  have hBk : Blk w g 5 cur := hb
  refine ⟨?_, ⟨by rw [nb_length, List.length_set]; omega, .inr ⟨g, c, cur.setIfInBounds k (.int .u8 (x : Int)), rfl, hB, hBk.set k _, hnc, hcm, by rw [Array.size_setIfInBounds]; exact hsz, ?_⟩⟩, Only.setCell w ⟨g, k, none⟩ _⟩
  · cases hq : Try.prog.info? 5 with
    | none => have := u8_size; simp [hq] at this
    | some i =>
      have hi : i.size = 1 := by have := u8_size; simpa [hq] using this
      simp [Instr.storeAt, Instr.sureAddr, storeVar, sizeOf, typeInfo, hq, Value.cells, hi, storeCells, Addr.add, run_store Try.prog w ⟨g, k, none⟩ (.int .u8 (x : Int)) .plain rfl, hc, hBk.free k]
  · rw [Nat.mul_one] at htk ⊢
    rw [Array.toList_setIfInBounds, List.take_set, htk]
    simp [nb]
theorem st_stB {ops : Array Oper} {rest : List Oper} {o : Oper} {a : Act} {w : World} {Q : Exit → Act → World → Prop} {B g n c k x : Nat} {L : List Nat} (hown : w.ownsRow B 5 1 (.slice (some ⟨g, 0, none⟩) n c) n (nb L)) (hk : k < L.length) (hgd : o.guard = none) (xo yo : Operand)
    (ho : o.op = .store 5 xo yo) (hx : a.eval xo = .pointer (some ⟨g, k, none⟩)) (hy : a.eval yo = .int .u8 (x : Int))
    (h : ∀ w', Only g w w' → w'.ownsRow B 5 1 (.slice (some ⟨g, 0, none⟩) n c) n (nb (L.set k x)) → wpList Try.prog ops Q rest (a.put o.dst undef) w') : wpList Try.prog ops Q (o :: rest) a w :=
  wpList_plain hgd fun K hK => by
    obtain ⟨hr, h1, h2⟩ := run_stB (x := x) hown hk
    unfold Oper.wp execOp
    simp only [ho, hx, hy, Sem.run_bind, hr, Result.andThen_ok, Sem.run_pure]
    exact hK _ _ (h _ h2 h1)
section
variable {o : Oper} {a : Act} {w : World} {Q : Exit → Act → World → Prop}
theorem x_xorI {m s : Int} (xo : Operand) {ty yt : TypeId} (ho : o.op = .binOp .xor ty xo (.const (.int .u8 255)) yt) (hx : a.eval xo = .int .u8 m) (he : bits BinOp.xor IntKind.u8 m 255 = s) : (execOp a.eval o).run Try.prog w = .ok (.value (.int .u8 s)) w := by
  unfold execOp; simp only [ho, hx]; show Sem.run _ _ w = _
  have e : a.eval (.const (.int .u8 255)) = .int .u8 255 := rfl
  simp [e, eqGuard, binOp, intBits_xor, he]
theorem x_pickT {t : Bool} (co xo yo : Operand) (ho : o.op = .pick co xo yo) (hc : a.eval co = .bool true) (hx : a.eval xo = .bool t) : (execOp a.eval o).run Try.prog w = .ok (.value (.bool t)) w := by
  unfold execOp; simp only [ho, hc, hx, asBool]; rfl
theorem x_boolsE {s : Bool} (xo yo : Operand) (yt : TypeId) (ho : o.op = .binOp .eql 4 xo yo yt) (hxe : a.eval xo = .bool s) (hye : a.eval yo = .bool s) : (execOp a.eval o).run Try.prog w = .ok (.value (.bool true)) w := by
  unfold execOp; simp only [ho, hxe, hye]; show Sem.run _ _ w = _; simp [eqGuard, binOp]; show ((Sem.run Try.prog (Op.equalIn (9999 + 1) 4 (.bool s) (.bool s)) w).andThen _) = _; unfold Op.equalIn; simp [run_underlying bool_ty]
theorem held_call2I {P : Program} {l0 : List Oper} {n : Nat} {K : Act → World → Prop} {f : FuncId} {ts : Array TypeId} {x1 x2 : Operand} {v1 v2 : Value} {R : Ending → World → Prop} (ho : l0[n]? = some o) (hw : Region.wanted o (yielded l0.toArray a.tmps) = true)
    (hop : o.op = .call { callee := .value (.func f), args := #[x1, x2], argTypes := ts }) (h1 : a.eval x1 = v1) (h2 : a.eval x2 = v2) (hf : ∀ args w, (callFunc f args).run P w = .ok (.enter f args) w)
    (hc : Calls P f #[v1, v2] w R) (h : ∀ e w', R e w' → ∃ v, e = .returned v ∧ K (a.put o.dst v) w') : wpOp P l0.toArray Q n K a w :=
  o_callR (by rw [List.getElem?_toArray]; exact ho) hw (by unfold execOp; simp [hop, resolve, invoke, h1, h2, hf, show a.eval (.func f) = .func (.func f) #[] #[] from rfl, Deferred.ofValue]) hc h
end
theorem run_stB' {w : World} {B g n m c k x : Nat} {L : List Nat} (h : w.ownsRow B 5 1 (.slice (some ⟨g, 0, none⟩) n c) m (nb L)) (hk : k < L.length) :
    (Instr.storeAt 5 (.pointer (some ⟨g, k, none⟩)) (.int .u8 (x : Int))).run Try.prog w = .ok () (w.setCell ⟨g, k, none⟩ (.int .u8 (x : Int))) ∧ (w.setCell ⟨g, k, none⟩ (.int .u8 (x : Int))).ownsRow B 5 1 (.slice (some ⟨g, 0, none⟩) n c) (L.set k x).length (nb (L.set k x)) ∧ Only g w (w.setCell ⟨g, k, none⟩ (.int .u8 (x : Int))) := by
  have hmn : n = m ∧ m = L.length := by
    have h1 := h.1
    rw [nb_length, Nat.mul_one] at h1
    rcases h.2 with ⟨e, _⟩ | ⟨g', cap, cur, e, _⟩
    · cases e
    · injection e with _ e2 _
      exact ⟨e2, h1.symm⟩
  obtain ⟨rfl, h2⟩ := hmn
  obtain ⟨h3, h4, h5⟩ := run_stB (x := x) h hk
  refine ⟨h3, ?_, h5⟩
  rw [List.length_set, ← h2]; exact h4
theorem st_stB' {ops : Array Oper} {rest : List Oper} {o : Oper} {a : Act} {w : World} {Q : Exit → Act → World → Prop} {B g n m c k x : Nat} {L : List Nat} (hown : w.ownsRow B 5 1 (.slice (some ⟨g, 0, none⟩) n c) m (nb L)) (hk : k < L.length) (hgd : o.guard = none) (xo yo : Operand)
    (ho : o.op = .store 5 xo yo) (hx : a.eval xo = .pointer (some ⟨g, k, none⟩)) (hy : a.eval yo = .int .u8 (x : Int))
    (h : ∀ w', Only g w w' → w'.ownsRow B 5 1 (.slice (some ⟨g, 0, none⟩) n c) (L.set k x).length (nb (L.set k x)) → wpList Try.prog ops Q rest (a.put o.dst undef) w') : wpList Try.prog ops Q (o :: rest) a w :=
  wpList_plain hgd fun K hK => by
    obtain ⟨hr, h1, h2⟩ := run_stB' (x := x) hown hk
    unfold Oper.wp execOp
    simp only [ho, hx, hy, Sem.run_bind, hr, Result.andThen_ok, Sem.run_pure]
    exact hK _ _ (h _ h2 h1)
/-- What stands in a quad that a step left: both memories alike, both stacks alike. -/
def StepP (w0 : World) (bm br bs bt : Nat) (e : Ending) (w' : World) : Prop :=
  e = .returned (.bool true) ∧ ∃ vm vr vs vt k L Ws, Quad w0 w' bm br bs bt vm vr vs vt L L Ws Ws ∧ L.length = 32 * k ∧ k ≤ 32768 ∧ (∀ x ∈ L, x < 256) ∧ Ws.length ≤ 1024 ∧ ∀ W ∈ Ws, Wd W
theorem StepP.mk {w0 w' : World} {bm br bs bt : Nat} {e : Ending} {vm vr vs vt : Value} {k : Nat} {L : List Nat} {Ws : List (List Nat)} (he : e = .returned (.bool true)) (h : Quad w0 w' bm br bs bt vm vr vs vt L L Ws Ws) (h1 : L.length = 32 * k) (h2 : k ≤ 32768) (h3 : ∀ x ∈ L, x < 256) (h4 : Ws.length ≤ 1024) (h5 : ∀ W ∈ Ws, Wd W) : StepP w0 bm br bs bt e w' := ⟨he, vm, vr, vs, vt, k, L, Ws, h, h1, h2, h3, h4, h5⟩
end Go.Proofs.Ytlliidfkjlmadaa
