/- Steps for the laws of hashes. -/
import Derived.Test.YthchmnhoombecaaGreatK17
import Derived.Test.YthchmnhoombecaaGreatB2
import Derived.Deep.RegionHeld3
namespace Go.Proofs.YthchmnhoombecaaGreat
open Go.RowKit

theorem byteN_ty : Tryz.prog.underlying 5 = some (.int .u8) := by kernel_rfl
def bytesOfN (n : Nat) (f : Nat → Nat) : List UInt8 := (List.range n).map fun i => UInt8.ofNat (f i)
theorem bc_bytesN (n : Nat) (f : Nat → Nat) (h : ∀ i, i < n → f i < 256) : bc n f = ((bytesOfN n f).map Extern.Stop.cell).toArray := by
  unfold bytesOfN
  rw [List.map_map]
  show ((List.range n).map fun i => Value.int .u8 ((f i : Nat) : Int)).toArray = _
  congr 1
  apply List.map_congr_left
  intro i hi
  simp only [Function.comp, Extern.Stop.cell]
  have h := h i (List.mem_range.1 hi)
  congr 1
  simp [Nat.mod_eq_of_lt h]
theorem run_eql_hash (l : List Nat) (w : World) : (binOp .eql 35 (.agg (wf (hashN l))) (.agg (wf (hashN l)))).run Tryz.prog w = .ok (.bool true) w := by
  have := run_eql_bytes (P := Tryz.prog) w 35 5 32 word_type byteN_ty (fun w => sizeOf_u8 w) (bytesOfN 32 (hashN l)) (bytesOfN 32 (hashN l)) (by simp [bytesOfN]) (by simp [bytesOfN])
  rw [← bc_bytesN 32 (hashN l) (fun i _ => outN_lt _ _), beq_self_eq_true, bc_wf] at this
  exact this
section
variable {a : Act} {w : World} {o : Oper}
theorem x_hash {l : List Nat} (xo yo : Operand) (yt : TypeId) (ho : o.op = .binOp .eql 35 xo yo yt) (hxe : a.eval xo = .agg (wf (hashN l))) (hye : a.eval yo = .agg (wf (hashN l))) : (execOp a.eval o).run Tryz.prog w = .ok (.value (.bool true)) w := by
  have := run_eql_hash l w
  unfold execOp
  simp only [ho, hxe, hye]
  show Sem.run _ _ w = _
  simp [eqGuard, this]
theorem st_hash {ops : Array Oper} {rest : List Oper} {Q : Exit → Act → World → Prop} {l : List Nat} (hgd : o.guard = none) (xo yo : Operand) (yt : TypeId) (ho : o.op = .binOp .eql 35 xo yo yt) (hxe : a.eval xo = .agg (wf (hashN l))) (hye : a.eval yo = .agg (wf (hashN l)))
    (h : wpList Tryz.prog ops Q rest (a.put o.dst (.bool true)) w) : wpList Tryz.prog ops Q (o :: rest) a w :=
  wpList_plain hgd fun K hK => by
    have := x_hash (w := w) xo yo yt ho hxe hye
    unfold Oper.wp
    rw [this]
    exact hK _ _ h
end
/-- The hash of one part that was just laid down. -/
theorem sum_new (v : Value) (l : List Nat) (W : World) (hv : RdB W v l) (hl : l.length < 1000000) :
    Calls Tryz.prog 51 #[.slice (some ⟨W.heap.size, 0, none⟩) 1 1] (W.alloc (.cells #[v] 31)) fun e w' => e = .returned (.agg (wf (hashN l))) ∧ Tch [] W w' :=
  (sum_one _ v l _ ((Blk.new W 31 #[v]).cell (j := 0) rfl) (Blk.new W 31 #[v]).lt (hv.tch ((Tch.refl [] W).alloc _) (by simp)) hl).mono fun e w' h => ⟨h.1, ((Tch.refl [] W).alloc _).trans h.2⟩
theorem keccak_rd (v : Value) (l : List Nat) (w : World) (hv : RdB w v l) (hl : l.length ≤ 1000000) :
    Calls Tryz.prog 34 #[v] w fun e w' => e = .returned (.agg (wf (hashN l))) ∧ Tch [] w w' := keccak_any v l w hl (hv.rdA (by simp))
section
variable {o : Oper} {a : Act} {ops : Array Oper} {rest : List Oper} {C : World → Prop} {Q : Act → Prop}
theorem k_skipU (hw : Region.wanted o (yielded ops a.tmps) = false) (h : KQ ops C Q rest (a.put o.dst undef)) : KQ ops C Q (o :: rest) a := ⟨q_skip hw h.go⟩
theorem k_gtr {t : Bool} {m n : Int} (hw : Region.wanted o (yielded ops a.tmps) = true) (xo yo : Operand) (yt : TypeId) (ho : o.op = .binOp .gtr 3 xo yo yt)
    (hxe : a.eval xo = .int .i64 m) (hye : a.eval yo = .int .i64 n) (hxy : decide (n < m) = t) (h : KQ ops C Q rest (a.put o.dst (.bool t))) : KQ ops C Q (o :: rest) a :=
  k_pure hw (fun w => by unfold execOp; simp only [ho, hxe, hye]; show Sem.run _ _ w = _; simp [eqGuard, binOp, Op.intCmp, hxy]) h
end
section
variable {ops : Array Oper} {md : Region.Mode} {Q : Exit → Act → World → Prop} {S : World → Prop} {a : Act} {w : World} {fuel : Nat} {listed : Array Bool} {o : Oper}
/-- What yields in every world that is met is taken first. -/
theorem held_in {l0 : List Oper} {v : Value} (i : Nat) (hi : l0[i]? = some o) (hs : Region.noSelect l0.toArray = true) (hf : Region.free md l0.toArray listed i = true) (hr : (Region.ready md l0.toArray listed).contains i = true) (hQ : ∀ c a w, Q (.panic c) (a.put o.dst v) w → Q (.panic c) a w) (hS : S w)
    (hw : Region.wanted o (yielded l0.toArray a.tmps) = true) (hx : ∀ w, S w → (execOp a.eval o).run Tryz.prog w = .ok (.value v) w)
    (h : wpAnyH Tryz.prog md l0.toArray Q S fuel (listed.setIfInBounds i true) (a.put o.dst v) w) : wpAnyH Tryz.prog md l0.toArray Q S (fuel + 1) listed a w :=
  wpAnyH_take (by rw [List.getElem?_toArray]; exact hi) hs hf hr hQ (.inl ⟨hw, fun w hS => by rw [hx w hS]⟩) hS h
/-- A slice is built. -/
theorem held_build {P : Program} {l0 : List Oper} {n m : Nat} {K : Act → World → Prop} {ty t : TypeId} {c : Array Value} {parts : Array (Nat × Operand)} (ho : l0[n]? = some o) (hw : Region.wanted o (yielded l0.toArray a.tmps) = true)
    (hop : o.op = .buildSlice ty m parts) (hr : (Instr.buildSlice ty m (parts.map fun (i, x) => (i, a.eval x))).run P w = .ok (.slice (some ⟨w.heap.size, 0, none⟩) m m) (w.alloc (.cells c t)))
    (h : K (a.put o.dst (.slice (some ⟨w.heap.size, 0, none⟩) m m)) (w.alloc (.cells c t))) : wpOp P l0.toArray Q n K a w := by
  unfold wpOp
  have ho' : l0.toArray[n]? = some o := by rw [List.getElem?_toArray]; exact ho
  simp only [ho', hw, if_true]
  refine .inl ?_
  unfold Oper.wp execOp
  simp only [hop, Sem.run_bind, hr, Result.andThen_ok, Sem.run_pure]
  exact h
theorem x_load {b n n1 : Nat} {t e1 : TypeId} {c : Array Value} (ty : TypeId) (x : Operand) (ho : o.op = .load ty x) (hx : a.eval x = .pointer (some ⟨b, 0, none⟩)) (hB : Blk w b t c)
    (hu : Tryz.prog.underlying ty = some (.array n1 e1)) (hi : (Tryz.prog.info? ty).map (·.size) = some n) (hn : c.size = n) : (execOp a.eval o).run Tryz.prog w = .ok (.value (.agg c)) w := by
  have hl := hB.load (P := Tryz.prog) hu rfl hi hn
  unfold execOp
  simp only [ho, hx, Sem.run_bind, hl, Result.andThen_ok, Sem.run_pure]
theorem x_pickT {t : Bool} (co xo yo : Operand) (ho : o.op = .pick co xo yo) (hc : a.eval co = .bool true) (hx : a.eval xo = .bool t) : (execOp a.eval o).run Tryz.prog w = .ok (.value (.bool t)) w := by
  unfold execOp; simp only [ho, hc, hx, asBool]; rfl
end
end Go.Proofs.YthchmnhoombecaaGreat
