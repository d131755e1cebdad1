/- States: what the iterators over one record, one part hand on. -/
import Derived.Test.YtopfmaoeebgjmaaGreatDoorM01
import Derived.Test.YtopfmaoeebgjmaaGreatDoorM34
set_option linter.unusedVariables false
set_option linter.unusedSimpArgs false
namespace Go.Proofs.YtopfmaoeebgjmaaGreatDoor
section
open Go.RowKit Go.WideMaps Go.ChangeMaps Go.MapKept
set_option maxRecDepth 100000
set_option maxHeartbeats 2000000
attribute [local go_sem] Oper.semAt_some
theorem part_agg (w : World) : (isAgg 92).run Tryz.prog w = .ok false w := by kernel_rfl
theorem part_size : (Tryz.prog.info? 92).map (·.size) = some 1 := by kernel_rfl
theorem x_lenP {o : Oper} {a : Act} {w : World} {p : Option Addr} {n c : Nat} (x : Operand) (ho : o.op = .call { callee := .builtin .len, args := #[x], argTypes := #[73] }) (hx : a.eval x = .slice p n c) : (execOp a.eval o).run Tryz.prog w = .ok (.value (.int .i64 (n : Int))) w := by
  unfold execOp; simp [ho, resolve, invoke, builtin, hx, Builtin.len_, run_underlying parts_ty, goInt, Result.andThen, Builtin.lenOf]
theorem stopsR (m : Nat) (Bs g cap : Nat) (w : World) (hBs : Blk w Bs 44 #[.slice (some ⟨g, 0, none⟩) 1 cap]) {pv lv : Value} (hR : RecB w g 1 pv lv) : SeqStopsK Fence.wide m Tryz.prog 51 #[.pointer (some ⟨Bs, 0, none⟩)] (fun _ : Unit => #[.int .i64 0, .agg (recV pv lv)]) (fun _ _ => True) (fun ys => ys = [()]) (fun _ => True) 1 w := by
  intro l J Jx W hW _ _ hY h0
  have hB1 : Blk W Bs 44 #[.slice (some ⟨g, 0, none⟩) 1 cap] := (hW.block Bs hBs.lt).trans hBs
  have hR1 : RecB W g 1 pv lv := by
    obtain ⟨cur, h1, h2⟩ := hR
    exact ⟨cur, (hW.block g h1.lt).trans h1, h2⟩
  refine callsIn_of_wp Tryz.func51 rfl trivial ?_ rfl
  simp only [Tryz.ntmps51, List.size_toArray, List.length_cons, List.length_nil, Nat.reduceAdd, Nat.reduceSub, Array.replicate_succ, Array.replicate_zero, List.push_toArray, List.append_toArray, List.nil_append, List.cons_append]
  gi_upto_region 0 with (fail)
  try simp only [Act.put, ppA, ppB, ppC]
  refine wpIn_wide.2 ?_
  refine wp_region_lit ?_
  refine st_x (v := .slice (some ⟨g, 0, none⟩) 1 cap) rfl (x_cell _ _ rfl rfl (hB1.cell rfl) recs_agg) ?_; try simp only [Act.put, ppA, ppB, ppC]
  refine st_x (v := .int .i64 1) rfl (x_lenR _ rfl rfl) ?_; try simp only [Act.put, ppA, ppB, ppC]
  refine st_x (v := .int .i64 0) rfl (by kernel_rfl) ?_; try simp only [Act.put, ppA, ppB, ppC]
  refine st_x (v := .int .i64 0) rfl (x_val _ (.inr rfl) rfl) ?_; try simp only [Act.put, ppA, ppB, ppC]
  refine st_end14 ?_
  gi_wp2
  gi_loopw [3] (fun i wr => (i = .int .i64 0 ∧ wr = W) ∨ (i = .int .i64 (-1) ∧ J [()] wr)) (fun i _ => (intOf i + 1).toNat)
  case atStart => exact .inl ⟨rfl, rfl⟩
  case round =>
    obtain ⟨rfl, rfl⟩ | ⟨rfl, hJ⟩ := hrel
    · gi_upto_region 1 with (fail)
      try simp only [Act.put, ppA, ppB, ppC]
      refine wpIn_wide.2 ?_
      refine wp_region_lit ?_
      refine st_x (v := .int .i64 0) rfl (x_val _ (.inl rfl) rfl) ?_; try simp only [Act.put, ppA, ppB, ppC]
      refine st_x (v := .bool true) rfl (by kernel_rfl) ?_; try simp only [Act.put, ppA, ppB, ppC]
      refine st_end14 ?_
      gi_upto_region 3 with (fail)
      try simp only [Act.put, ppA, ppB, ppC]
      refine wpIn_region_lit ?_
      refine in_x (v := .func (.yield l) #[] #[]) (fun _ => trivial) rfl (by intro c hc; cases hc) (x_val _ (.inl rfl) rfl) ?_; try simp only [Act.put, ppA, ppB, ppC]
      refine in_x (v := .int .i64 0) (fun _ => trivial) rfl (by intro c hc; cases hc) (x_val _ (.inl rfl) rfl) ?_; try simp only [Act.put, ppA, ppB, ppC]
      refine in_x (v := .slice (some ⟨g, 0, none⟩) 1 cap) (fun _ => trivial) rfl (by intro c hc; cases hc) (x_cell _ _ rfl rfl (hB1.cell rfl) recs_agg) ?_; try simp only [Act.put, ppA, ppB, ppC]
      refine in_x (v := .int .i64 0) (fun _ => trivial) rfl (by intro c hc; cases hc) (x_val _ (.inl rfl) rfl) ?_; try simp only [Act.put, ppA, ppB, ppC]
      refine in_x (v := .pointer (some ⟨g, 0 + 0 * 3, none⟩)) (fun _ => trivial) rfl (by intro c hc; cases hc) (x_idxS _ _ rfl rfl rfl recs_ty rec_size (by decide)) ?_; try simp only [Act.put, ppA, ppB, ppC]
      refine in_x (v := .agg (recV pv lv)) (fun _ => trivial) rfl (by intro c hc; cases hc) (x_ldMid _ rfl rfl hR1.range rec_ty rfl rec_size) ?_; try simp only [Act.put, ppA, ppB, ppC]
      refine in_yield (args := #[.int .i64 0, .agg (recV pv lv)]) (fun _ => trivial) rfl rfl rfl rfl (by simp only [List.map_toArray, List.map_cons, List.map_nil]; rfl) (hY [] () _ h0 (by decide)) ?_
      rintro e w3 (⟨rfl, hJ3, _⟩ | ⟨rfl, hJ3⟩)
      · refine ⟨_, rfl, ?_⟩
        try simp only [Act.put, ppA, ppB, ppC]
        refine in_x (v := .bool false) (fun _ => trivial) rfl (by intro c hc; cases hc) (by kernel_rfl) ?_; try simp only [Act.put, ppA, ppB, ppC]
        refine wpListIn_nil ?_
        gi_upto_region 2 with (fail)
        try simp only [Act.put, ppA, ppB, ppC]
        refine wpIn_wide.2 ?_
        refine wp_region_lit ?_
        refine st_x (v := .int .i64 0) rfl (x_val _ (.inl rfl) rfl) ?_; try simp only [Act.put, ppA, ppB, ppC]
        refine st_x (v := .int .i64 (-1)) rfl (by kernel_rfl) ?_; try simp only [Act.put, ppA, ppB, ppC]
        refine st_x (v := .int .i64 (-1)) rfl (x_val _ (.inr rfl) rfl) ?_; try simp only [Act.put, ppA, ppB, ppC]
        refine st_end14 ?_
        gi_wp2
        go_roundw
        case rel => exact .inr ⟨rfl, hJ3⟩
        case measure => decide
      · refine ⟨_, rfl, ?_⟩
        try simp only [Act.put, ppA, ppB, ppC]
        refine in_x (v := .bool true) (fun _ => trivial) rfl (by intro c hc; cases hc) (by kernel_rfl) ?_; try simp only [Act.put, ppA, ppB, ppC]
        refine wpListIn_nil ?_
        gi_wp2
        refine bodyPost_ret (results_none rfl _ _ _) rfl ?_
        exact ⟨⟨_, rfl⟩, .inr ⟨_, trivial, hJ3⟩⟩
    · gi_upto_region 1 with (fail)
      try simp only [Act.put, ppA, ppB, ppC]
      refine wpIn_wide.2 ?_
      refine wp_region_lit ?_
      refine st_x (v := .int .i64 (-1)) rfl (x_val _ (.inl rfl) rfl) ?_; try simp only [Act.put, ppA, ppB, ppC]
      refine st_x (v := .bool false) rfl (by kernel_rfl) ?_; try simp only [Act.put, ppA, ppB, ppC]
      refine st_end14 ?_
      gi_wp2
      go_end0
      exact ⟨⟨_, rfl⟩, .inl ⟨_, rfl, hJ⟩⟩
theorem stopsP (m : Nat) (Bs g cap : Nat) (w : World) (hBs : Blk w Bs 73 #[.slice (some ⟨g, 0, none⟩) 1 cap]) (hR : w.cell? ⟨g, 0, none⟩ = some oldP) (hg : g < w.heap.size) : SeqStopsK Fence.wide m Tryz.prog 52 #[.pointer (some ⟨Bs, 0, none⟩)] (fun _ : Unit => #[.int .i64 0, oldP]) (fun _ _ => True) (fun ys => ys = [()]) (fun _ => True) 1 w := by
  intro l J Jx W hW _ _ hY h0
  have hB1 : Blk W Bs 73 #[.slice (some ⟨g, 0, none⟩) 1 cap] := (hW.block Bs hBs.lt).trans hBs
  have hR1 : W.cell? ⟨g, 0, none⟩ = some oldP := (World.cell?_of_block (hW.block g hg)).trans hR
  refine callsIn_of_wp Tryz.func52 rfl trivial ?_ rfl
  simp only [Tryz.ntmps52, List.size_toArray, List.length_cons, List.length_nil, Nat.reduceAdd, Nat.reduceSub, Array.replicate_succ, Array.replicate_zero, List.push_toArray, List.append_toArray, List.nil_append, List.cons_append]
  gi_upto_region 0 with (fail)
  try simp only [Act.put, ppA, ppB, ppC]
  refine wpIn_wide.2 ?_
  refine wp_region_lit ?_
  refine st_x (v := .slice (some ⟨g, 0, none⟩) 1 cap) rfl (x_cell _ _ rfl rfl (hB1.cell rfl) pa_agg) ?_; try simp only [Act.put, ppA, ppB, ppC]
  refine st_x (v := .int .i64 1) rfl (x_lenP _ rfl rfl) ?_; try simp only [Act.put, ppA, ppB, ppC]
  refine st_x (v := .int .i64 0) rfl (by kernel_rfl) ?_; try simp only [Act.put, ppA, ppB, ppC]
  refine st_x (v := .int .i64 0) rfl (x_val _ (.inr rfl) rfl) ?_; try simp only [Act.put, ppA, ppB, ppC]
  refine st_end14 ?_
  gi_wp2
  gi_loopw [3] (fun i wr => (i = .int .i64 0 ∧ wr = W) ∨ (i = .int .i64 (-1) ∧ J [()] wr)) (fun i _ => (intOf i + 1).toNat)
  case atStart => exact .inl ⟨rfl, rfl⟩
  case round =>
    obtain ⟨rfl, rfl⟩ | ⟨rfl, hJ⟩ := hrel
    · gi_upto_region 1 with (fail)
      try simp only [Act.put, ppA, ppB, ppC]
      refine wpIn_wide.2 ?_
      refine wp_region_lit ?_
      refine st_x (v := .int .i64 0) rfl (x_val _ (.inl rfl) rfl) ?_; try simp only [Act.put, ppA, ppB, ppC]
      refine st_x (v := .bool true) rfl (by kernel_rfl) ?_; try simp only [Act.put, ppA, ppB, ppC]
      refine st_end14 ?_
      gi_upto_region 3 with (fail)
      try simp only [Act.put, ppA, ppB, ppC]
      refine wpIn_region_lit ?_
      refine in_x (v := .func (.yield l) #[] #[]) (fun _ => trivial) rfl (by intro c hc; cases hc) (x_val _ (.inl rfl) rfl) ?_; try simp only [Act.put, ppA, ppB, ppC]
      refine in_x (v := .int .i64 0) (fun _ => trivial) rfl (by intro c hc; cases hc) (x_val _ (.inl rfl) rfl) ?_; try simp only [Act.put, ppA, ppB, ppC]
      refine in_x (v := .slice (some ⟨g, 0, none⟩) 1 cap) (fun _ => trivial) rfl (by intro c hc; cases hc) (x_cell _ _ rfl rfl (hB1.cell rfl) pa_agg) ?_; try simp only [Act.put, ppA, ppB, ppC]
      refine in_x (v := .int .i64 0) (fun _ => trivial) rfl (by intro c hc; cases hc) (x_val _ (.inl rfl) rfl) ?_; try simp only [Act.put, ppA, ppB, ppC]
      refine in_x (v := .pointer (some ⟨g, 0 + 0 * 1, none⟩)) (fun _ => trivial) rfl (by intro c hc; cases hc) (x_idxS _ _ rfl rfl rfl parts_ty part_size (by decide)) ?_; try simp only [Act.put, ppA, ppB, ppC]
      refine in_x (v := oldP) (fun _ => trivial) rfl (by intro c hc; cases hc) (x_cell _ _ rfl rfl hR1 part_agg) ?_; try simp only [Act.put, ppA, ppB, ppC]
      refine in_yield (args := #[.int .i64 0, oldP]) (fun _ => trivial) rfl rfl rfl rfl (by simp only [List.map_toArray, List.map_cons, List.map_nil]; rfl) (hY [] () _ h0 (by decide)) ?_
      rintro e w3 (⟨rfl, hJ3, _⟩ | ⟨rfl, hJ3⟩)
      · refine ⟨_, rfl, ?_⟩
        try simp only [Act.put, ppA, ppB, ppC]
        refine in_x (v := .bool false) (fun _ => trivial) rfl (by intro c hc; cases hc) (by kernel_rfl) ?_; try simp only [Act.put, ppA, ppB, ppC]
        refine wpListIn_nil ?_
        gi_upto_region 2 with (fail)
        try simp only [Act.put, ppA, ppB, ppC]
        refine wpIn_wide.2 ?_
        refine wp_region_lit ?_
        refine st_x (v := .int .i64 0) rfl (x_val _ (.inl rfl) rfl) ?_; try simp only [Act.put, ppA, ppB, ppC]
        refine st_x (v := .int .i64 (-1)) rfl (by kernel_rfl) ?_; try simp only [Act.put, ppA, ppB, ppC]
        refine st_x (v := .int .i64 (-1)) rfl (x_val _ (.inr rfl) rfl) ?_; try simp only [Act.put, ppA, ppB, ppC]
        refine st_end14 ?_
        gi_wp2
        go_roundw
        case rel => exact .inr ⟨rfl, hJ3⟩
        case measure => decide
      · refine ⟨_, rfl, ?_⟩
        try simp only [Act.put, ppA, ppB, ppC]
        refine in_x (v := .bool true) (fun _ => trivial) rfl (by intro c hc; cases hc) (by kernel_rfl) ?_; try simp only [Act.put, ppA, ppB, ppC]
        refine wpListIn_nil ?_
        gi_wp2
        refine bodyPost_ret (results_none rfl _ _ _) rfl ?_
        exact ⟨⟨_, rfl⟩, .inr ⟨_, trivial, hJ3⟩⟩
    · gi_upto_region 1 with (fail)
      try simp only [Act.put, ppA, ppB, ppC]
      refine wpIn_wide.2 ?_
      refine wp_region_lit ?_
      refine st_x (v := .int .i64 (-1)) rfl (x_val _ (.inl rfl) rfl) ?_; try simp only [Act.put, ppA, ppB, ppC]
      refine st_x (v := .bool false) rfl (by kernel_rfl) ?_; try simp only [Act.put, ppA, ppB, ppC]
      refine st_end14 ?_
      gi_wp2
      go_end0
      exact ⟨⟨_, rfl⟩, .inl ⟨_, rfl, hJ⟩⟩
end
section
open Go.RowKit Go.WideMaps Go.ChangeMaps Go.MapKept
set_option maxRecDepth 100000
set_option maxHeartbeats 2000000
theorem sp_agg (w : World) : (isAgg 28).run Tryz.prog w = .ok false w := by kernel_rfl
theorem rec_zero : (Tryz.prog.info? 76).bind (·.zero) = some (.agg #[.int .i64 0, .slice none 0 0, .map none]) := by kernel_rfl
section
variable {F : Fence} {n : Nat} {ops : Array Oper} {rest : List Oper} {o : Oper} {a : Act} {w w' : World} {Q : Exit → Act → World → Prop}
theorem in_new (hF : ∀ f, F.fn f) (hgd : o.guard = none) (ty : TypeId) (ho : o.op = .alloc ty) {c : Array Value} (hz : (Tryz.prog.info? ty).bind (·.zero) = some (.agg c))
    (h : ∀ w' b, Tch [] w w' → Blk w' b ty c → w.heap.size ≤ b → wpListIn F n Tryz.prog ops Q rest (a.put o.dst (.pointer (some ⟨b, 0, none⟩))) w') : wpListIn F n Tryz.prog ops Q (o :: rest) a w := by
  have hr : (Instr.alloc ty true (.tuple #[])).run Tryz.prog w = .ok (.pointer (some ⟨w.heap.size, 0, none⟩)) (w.alloc (.cells c ty)) := by
    cases hq : Tryz.prog.info? ty with
    | none => simp [hq] at hz
    | some i =>
      have hz' : i.zero = some (.agg c) := by simpa [hq] using hz
      simp [Instr.alloc, zeroValue, typeInfo, hq, hz', newVar, newRow, Value.cells]
  refine in_run hF hgd (by rw [ho]; intro c hc; cases hc) ?_ (h _ _ ((Tch.refl _ _).alloc _) (heap_alloc_new w _) (Nat.le_refl _))
  unfold execOp
  simp only [ho, Sem.run_bind, hr, Result.andThen_ok, Sem.run_pure]
theorem in_store {b : Nat} {t ty : TypeId} {c c' : Array Value} {k : Nat} (hF : ∀ f, F.fn f) (hgd : o.guard = none) (x y : Operand) (ho : o.op = .store ty x y) (hx : a.eval x = .pointer (some ⟨b, 0, none⟩)) (hy : a.eval y = .agg c') (hB : Blk w b t c)
    (hi : (Tryz.prog.info? ty).map (·.size) = some k) (hn : c.size = k) (hn' : c'.size = k) (h1 : c'.all (·.oneCell') = true)
    (h : ∀ w', Only b w w' → Blk w' b t c' → wpListIn F n Tryz.prog ops Q rest (a.put o.dst undef) w') : wpListIn F n Tryz.prog ops Q (o :: rest) a w := by
  refine in_skip hF hgd (by rw [ho]; intro c hc; cases hc) ?_ (h _ (Only.setRow _ _ _) (hB.row _))
  have hl := hB.store (P := Tryz.prog) hi hn hn' h1
  unfold execOp
  simp only [ho, hx, hy, Sem.run_bind, hl, Result.andThen_ok, Sem.run_pure]
end
def FinB (B N : Nat) (w : World) (bS b2 g : Nat) (mv pv lv rv : Value) (E : List Nat → Nat × Nat) (W : World) : Prop :=
  Below B w W ∧ Blk W b2 28 #[.pointer (some ⟨bS, 0, none⟩)] ∧ RecB W g 1 pv lv ∧ ∃ F2, StP B N W bS mv rv 1 F2 E ∧ ¬ foot bS mv F2 g
theorem FinB.grow {B N B0 : Nat} {w W W' : World} {bS b2 g : Nat} {mv pv lv rv : Value} {E : List Nat → Nat × Nat} {row : Option Nat} (hm : ∀ r, mv = .map (some r) → r < B0) (hw : B ≤ w.heap.size) (hB0 : B ≤ B0) (h : FinB B N w bS b2 g mv pv lv rv E W) (hg : W.grownBy W' row) (hr : ∀ r, row = some r → B0 ≤ r ∧ ∃ o : Obj, W.heap[r]? = some o ∧ o.isCells = false) :
    FinB B N w bS b2 g mv pv lv rv E W' := by
  have hc : ∀ {b : Nat} {t : TypeId} {c : Array Value}, Blk W b t c → W'.heap[b]? = W.heap[b]? := fun {b t c} hb => hg.block b hb.lt (fun e => by
    obtain ⟨_, o, ho, hc⟩ := hr b e.symm
    rw [show W.heap[b]? = _ from hb] at ho
    cases ho; cases hc)
  obtain ⟨h1, h2, h3, F2, h4, h5⟩ := h
  refine ⟨⟨hg.os.trans h1.os, hg.tape.trans h1.tape, hg.output.trans h1.output, Nat.le_trans h1.size hg.size, fun k hk => (hg.block k (by have := h1.size; omega) (fun e => by have := (hr k e.symm).1; omega)).trans (h1.block k hk)⟩, (hc h2).trans h2, ?_, F2, h4.same fun j hj => ?_, h5⟩
  · obtain ⟨cur, g1, g2⟩ := h3
    exact ⟨cur, (hc g1).trans g1, g2⟩
  · rcases hj with rfl | hj | ⟨A, hA, hF⟩
    · exact hc h4.blk
    · exact hg.block j (h4.lt (.inr (.inl hj))).2 (fun e => by have := (hr j e.symm).1; have := hm j hj; omega)
    · exact hc (h4.acc A j hA hF).1
theorem keepsFrom_of_pt {S : Nat → Prop} {W W' : World} {B : Nat} (h : PT S W W') (hS : ∀ k, S k → k < B) : KeepsFrom B W W' := ⟨h.size, fun k o hk ho _ => (h.block k (Array.getElem?_eq_some_iff.1 ho).1 (fun hs => by have := hS k hs; omega)).trans ho⟩
theorem keepsFrom_of_tch {W W' : World} {B : Nat} (h : Tch [] W W') : KeepsFrom B W W' := keepsFrom_of_pt (PT.nil (S := fun _ => False) h) (fun _ h => h.elim)
theorem below_of_tch {W W' : World} {B : Nat} (h : Tch [] W W') (hB : B ≤ W.heap.size) : Below B W W' := ⟨h.os, h.tape, h.output, h.size, fun k hk => h.block k (by omega) (by simp)⟩
theorem below_of_pt {S : Nat → Prop} {W W' : World} {B : Nat} (h : PT S W W') (hS : ∀ k, S k → B ≤ k) (hB : B ≤ W.heap.size) : Below B W W' := ⟨h.os, h.tape, h.output, h.size, fun k hk => h.block k (by omega) (fun hs => by have := hS k hs; omega)⟩
theorem below_blk {B : Nat} {W W' : World} (h : Below B W W') {b : Nat} {t : TypeId} {c : Array Value} (hb : Blk W b t c) (hB : b < B) : Blk W' b t c := (h.block b hB).trans hb
end
section
open Go.RowKit Go.WideMaps Go.ChangeMaps Go.MapKept
set_option maxRecDepth 100000
set_option maxHeartbeats 4000000
attribute [local go_sem] Oper.semAt_some
theorem sld_e (cap g : Nat) (h : 1 ≤ cap) (w : World) : (Instr.sliceAt 44 (.slice (some ⟨g, 0, none⟩) 1 cap) (some (.int .i64 0)) none none).run Tryz.prog w = .ok (.slice (some ⟨g, 0, none⟩) 1 cap) w := by
  obtain ⟨i, hi, hs, hz⟩ := rec_inf
  simp [Instr.sliceAt, Instr.slice, Instr.sliceBounds, Instr.sliceBound, run_underlying recs_ty, Result.andThen, asIntOf, sizeOf, typeInfo, hi, hs, Addr.add]
theorem FinB.call {B N : Nat} {w W W' : World} {bS b2 g : Nat} {mv pv lv rv : Value} {E : List Nat → Nat × Nat} (hm : ∀ r, mv = .map (some r) → r < W.heap.size) (hw : B ≤ w.heap.size) (h : FinB B N w bS b2 g mv pv lv rv E W) (hT : Tch [] W W') : FinB B N w bS b2 g mv pv lv rv E W' :=
  h.grow (B0 := W.heap.size) hm hw (Nat.le_trans hw h.1.size) ⟨hT.os, hT.tape, hT.output, hT.size, fun k hk _ => hT.block k hk (by simp)⟩ (fun r (e : none = some r) => by cases e)
def onlyN (Q : Exit → Act → World → Prop) : Exit → Act → World → Prop
  | .normal, a, w => Q .normal a w
  | _, _, _ => False
theorem onlyN_in {Q : Exit → Act → World → Prop} {a : Act} {w : World} (h : Q .normal a w) : onlyN Q .normal a w := h
theorem wp_normal {P : Program} {c : Code} {Q : Exit → Act → World → Prop} {a : Act} {w : World} (h : c.wp P (onlyN Q) a w) : c.wp P Q a w :=
  wp_mono h (fun e a w h => by cases e <;> first | exact h | exact h.elim)
def FinC (B N : Nat) (w : World) (bS : Nat) (mv rv : Value) (E : List Nat → Nat × Nat) (W : World) : Prop := Below B w W ∧ ∃ F2, StP B N W bS mv rv 1 F2 E
theorem FinC.grow {B N B0 : Nat} {w W W' : World} {bS : Nat} {mv rv : Value} {E : List Nat → Nat × Nat} {row : Option Nat} (hm : ∀ r, mv = .map (some r) → r < B0) (hw : B ≤ w.heap.size) (hB0 : B ≤ B0) (h : FinC B N w bS mv rv E W) (hg : W.grownBy W' row) (hr : ∀ r, row = some r → B0 ≤ r ∧ ∃ o : Obj, W.heap[r]? = some o ∧ o.isCells = false) :
    FinC B N w bS mv rv E W' := by
  have hc : ∀ {b : Nat} {t : TypeId} {c : Array Value}, Blk W b t c → W'.heap[b]? = W.heap[b]? := fun {b t c} hb => hg.block b hb.lt (fun e => by
    obtain ⟨_, o, ho, hc⟩ := hr b e.symm
    rw [show W.heap[b]? = _ from hb] at ho
    cases ho; cases hc)
  obtain ⟨h1, F2, h4⟩ := h
  refine ⟨⟨hg.os.trans h1.os, hg.tape.trans h1.tape, hg.output.trans h1.output, Nat.le_trans h1.size hg.size, fun k hk => (hg.block k (by have := h1.size; omega) (fun e => by have := (hr k e.symm).1; omega)).trans (h1.block k hk)⟩, F2, h4.same fun j hj => ?_⟩
  rcases hj with rfl | hj | ⟨A, hA, hF⟩
  · exact hc h4.blk
  · exact hg.block j (h4.lt (.inr (.inl hj))).2 (fun e => by have := (hr j e.symm).1; have := hm j hj; omega)
  · exact hc (h4.acc A j hA hF).1
theorem back_any (B N : Nat) (w : World) (bS g cap gp cp : Nat) (rr : Nat) (mv : Value) (F : List Nat → Option Nat) (E : List Nat → Nat × Nat) (h : StP B N w bS mv (.slice (some ⟨g, 0, none⟩) 1 cap) 1 F E) (hE : E zA = (5, 0)) (hR : RecB w g 1 (.slice (some ⟨gp, 0, none⟩) 1 cp) (.map (some rr))) (hcp : w.cell? ⟨gp, 0, none⟩ = some oldP) (hgp : gp < w.heap.size) (hg : ¬ foot bS mv F g) (hgB : B ≤ g) (hcap : 1 ≤ cap) (hN : N < 1000000000) :
    Calls Tryz.prog 17 #[.pointer (some ⟨bS, 0, none⟩), .int .i64 1] w fun e w' => e = .returned (.bool true) ∧ FinC B (N + 1) w bS mv (.slice (some ⟨g, 0, none⟩) 0 cap) (upE E zA (0, 0)) w' := by
  have hmn : mv ≠ .map none := fun e => by
    have hF : F zA = none := by
      rcases h.map with ⟨_, hF⟩ | ⟨r, n, D, hr, _⟩
      · exact hF zA
      · rw [e] at hr; cases hr
    have := h.non zA zA_ok hF
    rw [hE] at this
    cases this
  have hBw : B ≤ w.heap.size := Nat.le_trans h.base (Nat.le_of_lt h.blk.lt)
  have hmw : ∀ r, mv = .map (some r) → r < w.heap.size := fun r hr => (h.lt (.inr (.inl hr))).2
  refine (callsIn_wide (n := 10)).1 (callsIn_of_wp_marks Tryz.func17 rfl trivial ?_)
  simp only [Tryz.ntmps17, List.size_toArray, List.length_cons, List.length_nil, Nat.reduceAdd, Nat.reduceSub, Array.replicate_succ, Array.replicate_zero, List.push_toArray, List.append_toArray, List.nil_append, List.cons_append]
  gi_upto_region 0 with (fail)
  try simp only [Act.put, ppA, ppB, ppC]
  refine wpIn_wide.2 ?_
  refine wp_region_lit ?_
  refine st_box1 rfl 28 _ rfl rfl rfl ?_
  intro w1 b2 hT1 hb2 hl2
  try simp only [Act.put, ppA, ppB, ppC]
  refine st_x (v := .bool false) rfl (x_val _ (.inr rfl) rfl) ?_; try simp only [Act.put, ppA, ppB, ppC]
  refine st_end14 ?_
  have hR1 := hR.call hT1
  have hs1 := h.call hT1
  gi_upto_region 1 with (fail)
  try simp only [Act.put, ppA, ppB, ppC]
  refine wpIn_wide.2 ?_
  refine wp_region_lit ?_
  refine st_x (v := .pointer (some ⟨bS, 0, none⟩)) rfl (x_cell _ _ rfl rfl (hb2.cell rfl) sp_agg) ?_; try simp only [Act.put, ppA, ppB, ppC]
  refine st_x (v := .pointer (some ⟨bS, 0, none⟩)) rfl (x_nilck _ rfl rfl) ?_; try simp only [Act.put, ppA, ppB, ppC]
  refine st_x (v := .pointer (some ⟨bS, 1, none⟩)) rfl (x_fa _ _ _ rfl rfl (fa_s1 _ _)) ?_; try simp only [Act.put, ppA, ppB, ppC]
  refine st_x (v := .slice (some ⟨g, 0, none⟩) 1 cap) rfl (x_cell _ _ rfl rfl (hs1.blk.cell rfl) recs_agg) ?_; try simp only [Act.put, ppA, ppB, ppC]
  refine st_x (v := .int .i64 1) rfl (x_val _ (.inl rfl) rfl) ?_; try simp only [Act.put, ppA, ppB, ppC]
  refine st_callS (args := #[.slice (some ⟨g, 0, none⟩) 1 cap, .int .i64 1, .func (.func 29) #[] #[]]) rfl rfl (by simp only [List.map_toArray, List.map_cons, List.map_nil]; rfl) Tryz.call28 (search_any w1 g cap (.slice (some ⟨gp, 0, none⟩) 1 cp) (.map (some rr)) hR1) ?_
  rintro e w2 ⟨rfl, hT2⟩
  refine ⟨_, rfl, ?_⟩
  try simp only [Act.put, ppA, ppB, ppC]
  refine st_x (v := .tuple #[.int .i64 0, .bool true]) rfl (x_val _ (.inl rfl) rfl) ?_; try simp only [Act.put, ppA, ppB, ppC]
  refine st_x (v := .int .i64 0) rfl (x_ext _ _ rfl rfl rfl) ?_; try simp only [Act.put, ppA, ppB, ppC]
  refine st_x (v := .bool true) rfl (x_ext _ _ rfl rfl rfl) ?_; try simp only [Act.put, ppA, ppB, ppC]
  refine st_x (v := .int .i64 0) rfl (x_val _ (.inr rfl) rfl) ?_; try simp only [Act.put, ppA, ppB, ppC]
  refine st_x (v := .bool true) rfl (x_val _ (.inr rfl) rfl) ?_; try simp only [Act.put, ppA, ppB, ppC]
  refine st_end14 ?_
  gi_upto_region 2 with (fail)
  try simp only [Act.put, ppA, ppB, ppC]
  refine wpIn_wide.2 ?_
  refine wp_region_lit ?_
  refine st_x (v := .bool true) rfl (x_val _ (.inl rfl) rfl) ?_; try simp only [Act.put, ppA, ppB, ppC]
  refine st_x (v := .bool false) rfl (by kernel_rfl) ?_; try simp only [Act.put, ppA, ppB, ppC]
  refine st_end14 ?_
  have hT02 := hT1.trans hT2
  have hR2 := hR.call hT02
  have hs2 := h.call hT02
  have hb22 := hT2.blk hb2 (by simp)
  gi_upto_region 4 with (fail)
  try simp only [Act.put, ppA, ppB, ppC]
  refine wpIn_wide.2 ?_
  refine wp_region_lit ?_
  refine st_x (v := .pointer (some ⟨bS, 0, none⟩)) rfl (x_cell _ _ rfl rfl (hb22.cell rfl) sp_agg) ?_; try simp only [Act.put, ppA, ppB, ppC]
  refine st_x (v := .pointer (some ⟨bS, 0, none⟩)) rfl (x_nilck _ rfl rfl) ?_; try simp only [Act.put, ppA, ppB, ppC]
  refine st_x (v := .pointer (some ⟨bS, 1, none⟩)) rfl (x_fa _ _ _ rfl rfl (fa_s1 _ _)) ?_; try simp only [Act.put, ppA, ppB, ppC]
  refine st_x (v := .slice (some ⟨g, 0, none⟩) 1 cap) rfl (x_cell _ _ rfl rfl (hs2.blk.cell rfl) recs_agg) ?_; try simp only [Act.put, ppA, ppB, ppC]
  refine st_x (v := .int .i64 0) rfl (x_val _ (.inl rfl) rfl) ?_; try simp only [Act.put, ppA, ppB, ppC]
  refine st_x (v := .slice (some ⟨g, 0, none⟩) 1 cap) rfl (x_slF _ _ _ rfl rfl rfl (sld_e _ _ hcap _)) ?_; try simp only [Act.put, ppA, ppB, ppC]
  refine st_callS (args := #[.slice (some ⟨g, 0, none⟩) 1 cap]) rfl rfl (by simp only [List.map_toArray, List.map_cons, List.map_nil]; rfl) Tryz.call31 (backwardR w2 g cap) ?_
  rintro e w3 ⟨b3, rfl, hB3, hl3, hT3⟩
  refine ⟨_, rfl, ?_⟩
  try simp only [Act.put, ppA, ppB, ppC]
  refine st_end14 ?_
  have hT03 := hT02.trans hT3
  have hR3 := hR.call hT03
  have hs3 := h.call hT03
  have hb23 := hT3.blk hb22 (by simp)
  have hcp3 : w3.cell? ⟨gp, 0, none⟩ = some oldP := (World.cell?_of_block (hT03.block gp hgp (by simp))).trans hcp
  have hgp3 : gp < w3.heap.size := Nat.lt_of_lt_of_le hgp hT03.size
  have hm3 : ∀ r, mv = .map (some r) → r < w3.heap.size := fun r hr => Nat.lt_of_lt_of_le (hmw r hr) hT03.size
  have hB30 : B ≤ w3.heap.size := Nat.le_trans hBw hT03.size
  have hft : ∀ j, foot bS mv F j → B ≤ j ∧ j < w.heap.size := fun j hj => h.lt hj
  clear hR1 hs1 hR2 hs2 hb22 hb2 hT2 hT3 hT02 hR hcp hgp
  gi_wp2
  refine wpIn_rangeFunc_ownH rfl (by decide) (gf := 51) (lb := #[.pointer (some ⟨b3, 0, none⟩)]) rfl trivial Tryz.call51 (stopsR (10 - 1) b3 g cap w3 hB3 hR3) (fun _ _ => trivial) (fun _ _ _ _ _ _ _ _ => trivial) (Below.refl _ _) (fun _ => rfl)
    (fun pre W => (pre = [] ∧ Below w3.heap.size w3 W) ∨ (pre = [()] ∧ FinB B (N + 1) w bS b2 g mv (.slice (some ⟨gp, 0, none⟩) 1 cp) (.map (some rr)) (.slice (some ⟨g, 0, none⟩) 1 cap) (upE E zA (0, 0)) W ∧ w3.heap.size ≤ W.heap.size))
    (fun _ _ _ => False)
    (fun s A C row hs hg hr => hs.elim (fun ⟨e, h⟩ => .inl ⟨e, ownFrom_below (Nat.le_refl _) (Nat.le_refl _) s A C row h hg hr⟩) (fun ⟨e, h, h'⟩ => .inr ⟨e, h.grow hm3 hBw hB30 hg hr, Nat.le_trans h' hg.size⟩))
    (fun _ _ _ _ _ hs _ _ => hs)
    (.inl ⟨rfl, Below.refl _ _⟩)
    (fun (_ : Unit) a' W => ∃ Bx, w3.heap.size ≤ Bx ∧ Blk W Bx 76 (recV (.slice (some ⟨gp, 0, none⟩) 1 cp) (.map (some rr))) ∧ a' = { tmps := #[.pointer (some ⟨bS, 0, none⟩), .int .i64 1, .pointer (some ⟨b2, 0, none⟩), undef, .bool false, .int .i64 0, .bool true, undef, .pointer (some ⟨Bx, 0, none⟩), undef, undef, .tuple #[.int .i64 0, .bool true], .pointer (some ⟨bS, 0, none⟩), .pointer (some ⟨bS, 0, none⟩), .pointer (some ⟨bS, 1, none⟩), .slice (some ⟨g, 0, none⟩) 1 cap, .int .i64 1, .tuple #[.int .i64 0, .bool true], .int .i64 0, .bool true, .bool true, .bool false, .pointer (some ⟨bS, 0, none⟩), .pointer (some ⟨bS, 0, none⟩), .pointer (some ⟨bS, 1, none⟩), .slice (some ⟨g, 0, none⟩) 1 cap, .int .i64 0, .slice (some ⟨g, 0, none⟩) 1 cap, .func (.func 51) #[] #[.pointer (some ⟨b3, 0, none⟩)], .int .i64 0, .agg (recV (.slice (some ⟨gp, 0, none⟩) 1 cp) (.map (some rr))), undef, undef, undef, undef, undef, undef, undef, undef, undef, undef, undef, undef, undef, undef, undef, undef, undef, undef, undef, undef, undef, undef], defers := [] })
    (fun x a' _ A C row hs hg hr => by
      obtain ⟨Bx, h1, h2, h3⟩ := hs
      exact ⟨Bx, h1, (hg.block Bx h2.lt (fun e => by obtain ⟨_, o, ho, hc⟩ := hr Bx e.symm; rw [show A.heap[Bx]? = _ from h2] at ho; cases ho; cases hc)).trans h2, h3⟩)
    ?assign ?body ?done ?stop
  case assign =>
    rintro l pre x W K hi hK
    have hszW : w3.heap.size ≤ W.heap.size := hi.elim (fun h => h.2.size) (fun h => h.2.2)
    simp only [List.zip_toArray, List.zip_cons_cons, List.zip_nil_left, List.zip_nil_right, List.foldl_toArray, List.foldl_cons, List.foldl_nil, ppA, ppB, ppC]
    refine wpIn_region_lit ?_
    refine in_new (fun _ => trivial) rfl 76 rfl rec_zero ?_
    intro W1 b hT hb hl
    try simp only [Act.put, ppA, ppB, ppC]
    refine in_store (fun _ => trivial) rfl _ _ rfl rfl rfl hb rec_size rfl rfl (by simp [Value.oneCell']) ?_
    intro W2 hO hb'
    try simp only [Act.put, ppA, ppB, ppC]
    refine wpListIn_nil ?_
    have hTT : Tch [] W W2 := ⟨hO.os.trans hT.os, hO.tape.trans hT.tape, hO.output.trans hT.output, Nat.le_trans hT.size (Nat.le_of_eq hO.size.symm), fun j hj _ => (hO.block j (by omega)).trans (hT.block j hj (by simp))⟩
    exact hK _ _ (keepsFrom_of_tch hTT) trivial (hi.imp (fun h => ⟨h.1, h.2.trans (below_of_tch hTT h.2.size)⟩) (fun h => ⟨h.1, h.2.1.call (fun r hr => Nat.lt_of_lt_of_le (hm3 r hr) hszW) hBw hTT, Nat.le_trans hszW hTT.size⟩)) ⟨b, Nat.le_trans hszW hl, hb', rfl⟩
  case body =>
    rintro l pre x a' W hl ⟨r, hr⟩ hi ⟨Bx, hBx, hbx, rfl⟩ hlt
    obtain rfl : pre = [] := List.length_eq_zero_iff.1 (by omega)
    obtain ⟨-, hW⟩ | ⟨hh, _⟩ := hi
    rotate_left
    · cases hh
    have hszW := hW.size
    have hTW : Below w3.heap.size w3 W := hW
    have hcpW : W.cell? ⟨gp, 0, none⟩ = some oldP := (World.cell?_of_block (hW.block gp hgp3)).trans hcp3
    gi_upto_region 6 with (fail)
    try simp only [Act.put, ppA, ppB, ppC]
    refine wpIn_region_lit ?_
    refine in_x (v := .pointer (some ⟨Bx, 1, none⟩)) (fun _ => trivial) rfl (by intro c hc; cases hc) (x_fa _ _ _ rfl rfl (fa_re _ _ _ (by simp) _)) ?_; try simp only [Act.put, ppA, ppB, ppC]
    refine in_x (v := .slice (some ⟨gp, 0, none⟩) 1 cp) (fun _ => trivial) rfl (by intro c hc; cases hc) (x_cell _ _ rfl rfl (hbx.cell rfl) pa_agg) ?_; try simp only [Act.put, ppA, ppB, ppC]
    refine in_call (args := #[.slice (some ⟨gp, 0, none⟩) 1 cp]) (fun _ => trivial) rfl rfl rfl (by simp only [List.map_toArray, List.map_cons, List.map_nil]; rfl) Tryz.call32 (CallsIn.inRound l (callsIn_wide.2 (backwardP W gp cp))) ?_
    rintro e W1 ⟨b4, rfl, hB4, hl4, hT4⟩
    refine ⟨_, rfl, ?_⟩
    try simp only [Act.put, ppA, ppB, ppC]
    refine wpListIn_nil ?_
    have hr' : W1.heap[l]? = some (.loop r) := (hT4.block l (Array.getElem?_eq_some_iff.1 hr).1 (by simp)).trans hr
    have hcp1 : W1.cell? ⟨gp, 0, none⟩ = some oldP := (World.cell?_of_block (hT4.block gp (by omega) (by simp))).trans hcpW
    have hgp1 : gp < W1.heap.size := by have := hT4.size; omega
    have hm1 : ∀ r, mv = .map (some r) → r < W1.heap.size := fun r hr => by have := hm3 r hr; have := hT4.size; omega
    have hB10 : B ≤ W1.heap.size := by have := hT4.size; omega
    have hW31 : Below w3.heap.size w3 W1 := hW.trans (below_of_tch hT4 hszW)
    gi_wp2
    refine wpIn_rangeFunc_ownN (l₀ := l) (r₀ := r) rfl hr' (by decide) (gf := 52) (lb := #[.pointer (some ⟨b4, 0, none⟩)]) rfl trivial Tryz.call52 ((stopsP _ b4 gp cp W1 hB4 hcp1 hgp1).inRound l) (fun _ _ => trivial) (fun _ _ _ _ _ _ _ _ => trivial) (Below.refl _ _) (fun _ => rfl)
      (fun pre W' => (pre = [] ∧ Below W1.heap.size W1 W') ∨ (pre = [()] ∧ KeepsFrom w3.heap.size W W' ∧ FinB B (N + 1) w bS b2 g mv (.slice (some ⟨gp, 0, none⟩) 1 cp) (.map (some rr)) (.slice (some ⟨g, 0, none⟩) 1 cap) (upE E zA (0, 0)) W' ∧ w3.heap.size ≤ W'.heap.size))
      (fun _ _ _ => False)
      (fun s A C row hs hg hr => hs.elim (fun ⟨e, h⟩ => .inl ⟨e, ownFrom_below (Nat.le_refl _) (Nat.le_refl _) s A C row h hg hr⟩) (fun ⟨e, h0, h, h'⟩ => .inr ⟨e, ownFrom_keepsFrom (B' := W1.heap.size) hT4.size () A C row h0 hg hr, h.grow hm1 hBw hB10 hg hr, Nat.le_trans h' hg.size⟩))
      (fun _ _ _ _ _ hs _ _ => hs)
      (.inl ⟨rfl, Below.refl _ _⟩)
      (fun (_ : Unit) a'' _ => a'' = { tmps := #[.pointer (some ⟨bS, 0, none⟩), .int .i64 1, .pointer (some ⟨b2, 0, none⟩), undef, .bool false, .int .i64 0, .bool true, undef, .pointer (some ⟨Bx, 0, none⟩), undef, oldP, .tuple #[.int .i64 0, .bool true], .pointer (some ⟨bS, 0, none⟩), .pointer (some ⟨bS, 0, none⟩), .pointer (some ⟨bS, 1, none⟩), .slice (some ⟨g, 0, none⟩) 1 cap, .int .i64 1, .tuple #[.int .i64 0, .bool true], .int .i64 0, .bool true, .bool true, .bool false, .pointer (some ⟨bS, 0, none⟩), .pointer (some ⟨bS, 0, none⟩), .pointer (some ⟨bS, 1, none⟩), .slice (some ⟨g, 0, none⟩) 1 cap, .int .i64 0, .slice (some ⟨g, 0, none⟩) 1 cap, .func (.func 51) #[] #[.pointer (some ⟨b3, 0, none⟩)], .int .i64 0, .agg (recV (.slice (some ⟨gp, 0, none⟩) 1 cp) (.map (some rr))), .pointer (some ⟨Bx, 1, none⟩), .slice (some ⟨gp, 0, none⟩) 1 cp, .func (.func 52) #[] #[.pointer (some ⟨b4, 0, none⟩)], .int .i64 0, oldP, undef, undef, undef, undef, undef, undef, undef, undef, undef, undef, undef, undef, undef, undef, undef, undef, undef], defers := [] })
      (fun _ _ _ _ _ _ hs _ _ => hs)
      ?assign2 ?body2 ?done2 ?stop2
    case assign2 =>
      rintro l2 pre' y W' K hi hK
      simp only [List.zip_toArray, List.zip_cons_cons, List.zip_nil_left, List.zip_nil_right, List.foldl_toArray, List.foldl_cons, List.foldl_nil, ppA, ppB, ppC]
      refine wpIn_region_lit ?_
      refine in_x (v := oldP) (fun _ => trivial) rfl (by intro c hc; cases hc) (x_val _ (.inr rfl) rfl) ?_; try simp only [Act.put, ppA, ppB, ppC]
      refine wpListIn_nil ?_
      exact hK _ _ (KeepsFrom.refl _ _) trivial hi rfl
    case body2 =>
      rintro l2 pre' y a'' W' _ _ hi rfl hlt'
      obtain rfl : pre' = [] := List.length_eq_zero_iff.1 (by omega)
      obtain ⟨-, hW'⟩ | ⟨hh, _⟩ := hi
      rotate_left
      · cases hh
      have hsz' := hW'.size
      have hsz4 := hT4.size
      have hT3W' : Below w3.heap.size w3 W' := hW31.trans ⟨hW'.os, hW'.tape, hW'.output, hW'.size, fun k hk => hW'.block k (by omega)⟩
      have hsW' : StP B N W' bS mv (.slice (some ⟨g, 0, none⟩) 1 cap) 1 F E := hs3.same fun j hj => hT3W'.block j (hs3.lt hj).2
      have hb2W' : Blk W' b2 28 #[.pointer (some ⟨bS, 0, none⟩)] := below_blk hT3W' hb23 hb23.lt
      have hRW' : RecB W' g 1 (.slice (some ⟨gp, 0, none⟩) 1 cp) (.map (some rr)) := by
        obtain ⟨cur, g1, g2⟩ := hR3
        exact ⟨cur, below_blk hT3W' g1 g1.lt, g2⟩
      have hgW' : g < W'.heap.size := hRW'.lt
      gi_upto_region 8 with (fail)
      try simp only [Act.put, ppA, ppB, ppC]
      refine wpIn_region_lit ?_
      refine in_x (v := .pointer (some ⟨bS, 0, none⟩)) (fun _ => trivial) rfl (by intro c hc; cases hc) (x_cell _ _ rfl rfl (hb2W'.cell rfl) sp_agg) ?_; try simp only [Act.put, ppA, ppB, ppC]
      refine in_x (v := oldP) (fun _ => trivial) rfl (by intro c hc; cases hc) (x_val _ (.inl rfl) rfl) ?_; try simp only [Act.put, ppA, ppB, ppC]
      refine in_call (args := #[.pointer (some ⟨bS, 0, none⟩), oldP]) (fun _ => trivial) rfl rfl rfl (by simp only [List.map_toArray, List.map_cons, List.map_nil]; rfl) Tryz.call33 (CallsIn.inRound l2 (CallsIn.inRound l (callsIn_wide.2 (put_nonM B N W' bS mv (.slice (some ⟨g, 0, none⟩) 1 cap) 1 F E zA 0 hsW' zA_ok hN (by decide))))) ?_
      rintro e W2 ⟨rfl, mv', F2, g0, g1, g2, g3⟩
      refine ⟨_, rfl, ?_⟩
      try simp only [Act.put, ppA, ppB, ppC]
      refine wpListIn_nil ?_
      obtain rfl := g0 hmn
      rw [hE] at g1
      have hKF : KeepsFrom w3.heap.size W' W2 := keepsFrom_of_pt g2 (fun k hk => by have := hft k hk; have := hT03.size; omega)
      have hKW : KeepsFrom w3.heap.size W W' := ⟨by omega, fun k o hk ho hc => (hW'.block k (by have := (Array.getElem?_eq_some_iff.1 ho).1; omega)).trans ((hT4.block k (Array.getElem?_eq_some_iff.1 ho).1 (by simp)).trans ho)⟩
      have hKF1 : KeepsFrom W1.heap.size W' W2 := ⟨hKF.size, fun k o hk ho hc => hKF.same k o (by omega) ho hc⟩
      have hBW2 : Below B w W2 := ((below_of_tch hT03 hBw).trans ⟨hT3W'.os, hT3W'.tape, hT3W'.output, hT3W'.size, fun k hk => hT3W'.block k (by omega)⟩).trans (below_of_pt g2 (fun k hk => (hft k hk).1) (by omega))
      have hb2W2 : Blk W2 b2 28 #[.pointer (some ⟨bS, 0, none⟩)] := g2.blk hb2W' (fun hf => by have := hft b2 hf; omega)
      have hRW2 : RecB W2 g 1 (.slice (some ⟨gp, 0, none⟩) 1 cp) (.map (some rr)) := hRW'.far g2 hg
      have hgF2 : ¬ foot bS mv' F2 g := fun hf => (g3 g hf).elim hg (fun hh => by omega)
      exact ⟨hKF1, trivial, .inr ⟨rfl, hKW.trans hKF, ⟨hBW2, hb2W2, hRW2, F2, g1, hgF2⟩, by have := hKF.size; omega⟩⟩
    case done2 =>
      rintro ys W' rfl hi
      obtain ⟨hh, _⟩ | ⟨-, hKF, hFin, hsz2⟩ := hi
      · cases hh
      gi_wp2
      exact ⟨hKF, trivial, .inr ⟨rfl, hFin, hsz2⟩⟩
    case stop2 =>
      rintro c pre' W' _ h
      exact h.elim
  case done =>
    rintro D ys W hD rfl hi hK
    obtain ⟨hh, _⟩ | ⟨-, ⟨hBW, hb2W, hRW, F2, hsW, hgF⟩, hsz2⟩ := hi
    · cases hh
    have hnb : ¬ (b2 = bS ∨ b2 = g) := by
      rintro (e | e)
      · have := hft bS (.inl rfl); omega
      · obtain ⟨cur, g1, _⟩ := hRW
        rw [e, show Blk W g _ _ = (W.heap[g]? = _) from rfl, show W.heap[g]? = _ from g1] at hb2W
        injection hb2W with hb2W
        injection hb2W with _ hty
        revert hty
        decide
    gi_upto_region 9 with (fail)
    try simp only [Act.put, ppA, ppB, ppC]
    refine wpIn_wide.2 (wp_normal ?_)
    refine wp_region_held_drew (S := fun w' => PT (fun j => j = bS ∨ j = g) W w') (by kernel_rfl) (PT.nil ((Tch.refl _ _).drew)) (fun hPu => ?_)
    have hTu : Tch [] W W.drew := (Tch.refl [] W).drew
    have hsu := hsW.call hTu
    have hRu := hRW.call hTu
    generalize World.drew W = u at hPu hTu hsu hRu ⊢
    refine held_in (v := .pointer (some ⟨bS, 0, none⟩)) 0 rfl (by kernel_rfl) (by kernel_rfl) (by kernel_rfl) (fun _ _ _ h => h) hPu rfl (fun w' hw' => x_cell _ _ rfl rfl ((hw'.blk hb2W hnb).cell rfl) sp_agg) ?_; try simp only [Act.put, ppA, ppB, ppC]
    refine held_in (v := .pointer (some ⟨bS, 0, none⟩)) 1 rfl (by kernel_rfl) (by kernel_rfl) (by kernel_rfl) (fun _ _ _ h => h) hPu rfl (fun w' hw' => x_cell _ _ rfl rfl ((hw'.blk hb2W hnb).cell rfl) sp_agg) ?_; try simp only [Act.put, ppA, ppB, ppC]
    refine held_in (v := .pointer (some ⟨bS, 0, none⟩)) 2 rfl (by kernel_rfl) (by kernel_rfl) (by kernel_rfl) (fun _ _ _ h => h) hPu rfl (fun w' hw' => x_nilck _ rfl rfl) ?_; try simp only [Act.put, ppA, ppB, ppC]
    refine held_in (v := .pointer (some ⟨bS, 1, none⟩)) 3 rfl (by kernel_rfl) (by kernel_rfl) (by kernel_rfl) (fun _ _ _ h => h) hPu rfl (fun w' hw' => x_fa _ _ _ rfl rfl (fa_s1 _ _)) ?_; try simp only [Act.put, ppA, ppB, ppC]
    refine held_in (v := .int .i64 0) 5 rfl (by kernel_rfl) (by kernel_rfl) (by kernel_rfl) (fun _ _ _ h => h) hPu rfl (fun w' hw' => x_val _ (.inl rfl) rfl) ?_; try simp only [Act.put, ppA, ppB, ppC]
    refine held_in (v := .pointer (some ⟨bS, 0, none⟩)) 6 rfl (by kernel_rfl) (by kernel_rfl) (by kernel_rfl) (fun _ _ _ h => h) hPu rfl (fun w' hw' => x_cell _ _ rfl rfl ((hw'.blk hb2W hnb).cell rfl) sp_agg) ?_; try simp only [Act.put, ppA, ppB, ppC]
    refine held_in (v := .pointer (some ⟨bS, 0, none⟩)) 7 rfl (by kernel_rfl) (by kernel_rfl) (by kernel_rfl) (fun _ _ _ h => h) hPu rfl (fun w' hw' => x_nilck _ rfl rfl) ?_; try simp only [Act.put, ppA, ppB, ppC]
    refine held_in (v := .pointer (some ⟨bS, 1, none⟩)) 8 rfl (by kernel_rfl) (by kernel_rfl) (by kernel_rfl) (fun _ _ _ h => h) hPu rfl (fun w' hw' => x_fa _ _ _ rfl rfl (fa_s1 _ _)) ?_; try simp only [Act.put, ppA, ppB, ppC]
    refine held_two 4 9 (by kernel_rfl) ?_ ?_
    · refine held_x (v := .slice (some ⟨g, 0, none⟩) 1 cap) rfl rfl (x_cell _ _ rfl rfl (hsu.blk.cell rfl) recs_agg) ⟨hPu, ?_⟩
      try simp only [Act.put, ppA, ppB, ppC]
      refine held_one 9 (by kernel_rfl) ?_
      refine held_x (v := .slice (some ⟨g, 0, none⟩) 1 cap) rfl rfl (x_cell _ _ rfl rfl (hsu.blk.cell rfl) recs_agg) ⟨hPu, ?_⟩
      try simp only [Act.put, ppA, ppB, ppC]
      refine held_in (v := .int .i64 1) 10 rfl (by kernel_rfl) (by kernel_rfl) (by kernel_rfl) (fun _ _ _ h => h) hPu rfl (fun w' hw' => x_lenR _ rfl rfl) ?_; try simp only [Act.put, ppA, ppB, ppC]
      refine held_one 11 (by kernel_rfl) ?_
      refine held_callS (args := #[.slice (some ⟨g, 0, none⟩) 1 cap, .int .i64 0, .int .i64 1]) rfl rfl rfl (by simp only [List.map_toArray, List.map_cons, List.map_nil]; rfl) Tryz.call34 (delete_any u g cap (.slice (some ⟨gp, 0, none⟩) 1 cp) (.map (some rr)) hRu hcap) ?_
      rintro e u1 ⟨rfl, hPd⟩
      refine ⟨_, rfl, ?_⟩
      try simp only [Act.put, ppA, ppB, ppC]
      have hPu1 := hPu.trans (hPd.mono (fun j _ hj => .inr hj))
      refine ⟨hPu1, ?_⟩
      try simp only [Act.put, ppA, ppB, ppC]
      refine held_in (v := .pointer (some ⟨bS, 0, none⟩)) 12 rfl (by kernel_rfl) (by kernel_rfl) (by kernel_rfl) (fun _ _ _ h => h) hPu1 rfl (fun w' hw' => x_nilck _ rfl rfl) ?_; try simp only [Act.put, ppA, ppB, ppC]
      refine held_in (v := .pointer (some ⟨bS, 1, none⟩)) 13 rfl (by kernel_rfl) (by kernel_rfl) (by kernel_rfl) (fun _ _ _ h => h) hPu1 rfl (fun w' hw' => x_fa _ _ _ rfl rfl (fa_s1 _ _)) ?_; try simp only [Act.put, ppA, ppB, ppC]
      have hB1 : Blk u1 bS 46 #[mv, .slice (some ⟨g, 0, none⟩) 1 cap, .int .i64 1] := hPd.blk hsu.blk (fun e => hgF (.inl e.symm))
      obtain ⟨u2, hu2⟩ : ∃ u2, u2 = World.setCell u1 ⟨bS, 1, none⟩ (.slice (some ⟨g, 0, none⟩) 0 cap) := ⟨_, rfl⟩
      refine held_one 14 (by kernel_rfl) ?_
      refine held_skip (w' := u2) rfl rfl (by rw [hu2]; exact r_store1 _ _ rfl rfl rfl hB1 one_size_recs (by show 1 < 3; decide) rfl) ?_
      have hO2 : Only bS u1 u2 := by rw [hu2]; exact Only.setCell u1 ⟨bS, 1, none⟩ _
      have hB2 : Blk u2 bS 46 #[mv, .slice (some ⟨g, 0, none⟩) 0 cap, .int .i64 1] := by rw [hu2]; exact hB1.set 1 _
      clear hu2
      have hPO : PT (fun j => j = bS ∨ j = g) u1 u2 := ⟨hO2.os, hO2.tape, hO2.output, Nat.le_of_eq hO2.size.symm, fun j hj hn => hO2.block j (fun e => hn (.inl e))⟩
      have hPu2 := hPu1.trans hPO
      refine ⟨hPu2, ?_⟩
      try simp only [Act.put, ppA, ppB, ppC]
      refine wpAnyH_done (by kernel_rfl) (onlyN_in ?_) _
      have hs1 : StP B (N + 1) u1 bS mv (.slice (some ⟨g, 0, none⟩) 1 cap) 1 F2 (upE E zA (0, 0)) := hsu.far hPd (fun j hj e => hgF (by rw [← e]; exact hj))
      have hne : mv ≠ .map (some bS) := hs1.mapne
      have hs2 : StP B (N + 1) u2 bS mv (.slice (some ⟨g, 0, none⟩) 0 cap) 1 F2 (upE E zA (0, 0)) := ⟨hB2, hs1.base, hs1.map.far (fun r hr => hO2.block r (fun e => hne (by rw [hr, e]))), fun A b hA hF => ⟨hO2.blk (hs1.acc A b hA hF).2.2 (hs1.acc A b hA hF).1, (hs1.acc A b hA hF).2⟩, hs1.non, hs1.inj, hs1.ok⟩
      have hFC : FinC B (N + 1) w bS mv (.slice (some ⟨g, 0, none⟩) 0 cap) (upE E zA (0, 0)) u2 := ⟨hBW.trans (below_of_pt hPu2 (fun k hk => hk.elim (fun e => by rw [e]; exact hs1.base) (fun e => by rw [e]; exact hgB)) (Nat.le_trans hBw hBW.size)), F2, hs2⟩
      have hKu : u2.heap[D]? = some (.deferred (some [])) := (hPu2.block D (Array.getElem?_eq_some_iff.1 hK).1 (fun e => e.elim (fun e => by rw [e, show W.heap[bS]? = _ from hsW.blk] at hK; cases hK) (fun e => by
        obtain ⟨cur, g1, _⟩ := hRW
        rw [e, show W.heap[g]? = _ from g1] at hK
        cases hK))).trans hK
      clear hPu2 hPu1 hPd hs1 hs2 hB1 hB2 hO2 hPO
      gi_upto_region 10 with (fail)
      try simp only [Act.put, ppA, ppB, ppC]
      refine wpIn_wide.2 ?_
      refine wp_region_lit ?_
      refine st_x (v := .bool true) rfl (x_val _ (.inr rfl) rfl) ?_; try simp only [Act.put, ppA, ppB, ppC]
      refine st_end14 ?_
      gi_wp2
      refine ⟨by simp, .inl ⟨_, _, rfl, run_takeDeferred hKu, ?_⟩⟩
      exact ⟨_, results_tmp rfl _ _ _, rfl, hFC.grow (B0 := w3.heap.size) hm3 hBw hB30 (grownBy_putObj' _ D (.deferred none)) (fun r e => by cases e; exact ⟨hD, _, hKu, rfl⟩)⟩
    · refine held_x (v := .slice (some ⟨g, 0, none⟩) 1 cap) rfl rfl (x_cell _ _ rfl rfl (hsu.blk.cell rfl) recs_agg) ⟨hPu, ?_⟩
      try simp only [Act.put, ppA, ppB, ppC]
      refine held_in (v := .int .i64 1) 10 rfl (by kernel_rfl) (by kernel_rfl) (by kernel_rfl) (fun _ _ _ h => h) hPu rfl (fun w' hw' => x_lenR _ rfl rfl) ?_; try simp only [Act.put, ppA, ppB, ppC]
      refine held_one 4 (by kernel_rfl) ?_
      refine held_x (v := .slice (some ⟨g, 0, none⟩) 1 cap) rfl rfl (x_cell _ _ rfl rfl (hsu.blk.cell rfl) recs_agg) ⟨hPu, ?_⟩
      try simp only [Act.put, ppA, ppB, ppC]
      refine held_one 11 (by kernel_rfl) ?_
      refine held_callS (args := #[.slice (some ⟨g, 0, none⟩) 1 cap, .int .i64 0, .int .i64 1]) rfl rfl rfl (by simp only [List.map_toArray, List.map_cons, List.map_nil]; rfl) Tryz.call34 (delete_any u g cap (.slice (some ⟨gp, 0, none⟩) 1 cp) (.map (some rr)) hRu hcap) ?_
      rintro e u1 ⟨rfl, hPd⟩
      refine ⟨_, rfl, ?_⟩
      try simp only [Act.put, ppA, ppB, ppC]
      have hPu1 := hPu.trans (hPd.mono (fun j _ hj => .inr hj))
      refine ⟨hPu1, ?_⟩
      try simp only [Act.put, ppA, ppB, ppC]
      refine held_in (v := .pointer (some ⟨bS, 0, none⟩)) 12 rfl (by kernel_rfl) (by kernel_rfl) (by kernel_rfl) (fun _ _ _ h => h) hPu1 rfl (fun w' hw' => x_nilck _ rfl rfl) ?_; try simp only [Act.put, ppA, ppB, ppC]
      refine held_in (v := .pointer (some ⟨bS, 1, none⟩)) 13 rfl (by kernel_rfl) (by kernel_rfl) (by kernel_rfl) (fun _ _ _ h => h) hPu1 rfl (fun w' hw' => x_fa _ _ _ rfl rfl (fa_s1 _ _)) ?_; try simp only [Act.put, ppA, ppB, ppC]
      have hB1 : Blk u1 bS 46 #[mv, .slice (some ⟨g, 0, none⟩) 1 cap, .int .i64 1] := hPd.blk hsu.blk (fun e => hgF (.inl e.symm))
      obtain ⟨u2, hu2⟩ : ∃ u2, u2 = World.setCell u1 ⟨bS, 1, none⟩ (.slice (some ⟨g, 0, none⟩) 0 cap) := ⟨_, rfl⟩
      refine held_one 14 (by kernel_rfl) ?_
      refine held_skip (w' := u2) rfl rfl (by rw [hu2]; exact r_store1 _ _ rfl rfl rfl hB1 one_size_recs (by show 1 < 3; decide) rfl) ?_
      have hO2 : Only bS u1 u2 := by rw [hu2]; exact Only.setCell u1 ⟨bS, 1, none⟩ _
      have hB2 : Blk u2 bS 46 #[mv, .slice (some ⟨g, 0, none⟩) 0 cap, .int .i64 1] := by rw [hu2]; exact hB1.set 1 _
      clear hu2
      have hPO : PT (fun j => j = bS ∨ j = g) u1 u2 := ⟨hO2.os, hO2.tape, hO2.output, Nat.le_of_eq hO2.size.symm, fun j hj hn => hO2.block j (fun e => hn (.inl e))⟩
      have hPu2 := hPu1.trans hPO
      refine ⟨hPu2, ?_⟩
      try simp only [Act.put, ppA, ppB, ppC]
      refine wpAnyH_done (by kernel_rfl) (onlyN_in ?_) _
      have hs1 : StP B (N + 1) u1 bS mv (.slice (some ⟨g, 0, none⟩) 1 cap) 1 F2 (upE E zA (0, 0)) := hsu.far hPd (fun j hj e => hgF (by rw [← e]; exact hj))
      have hne : mv ≠ .map (some bS) := hs1.mapne
      have hs2 : StP B (N + 1) u2 bS mv (.slice (some ⟨g, 0, none⟩) 0 cap) 1 F2 (upE E zA (0, 0)) := ⟨hB2, hs1.base, hs1.map.far (fun r hr => hO2.block r (fun e => hne (by rw [hr, e]))), fun A b hA hF => ⟨hO2.blk (hs1.acc A b hA hF).2.2 (hs1.acc A b hA hF).1, (hs1.acc A b hA hF).2⟩, hs1.non, hs1.inj, hs1.ok⟩
      have hFC : FinC B (N + 1) w bS mv (.slice (some ⟨g, 0, none⟩) 0 cap) (upE E zA (0, 0)) u2 := ⟨hBW.trans (below_of_pt hPu2 (fun k hk => hk.elim (fun e => by rw [e]; exact hs1.base) (fun e => by rw [e]; exact hgB)) (Nat.le_trans hBw hBW.size)), F2, hs2⟩
      have hKu : u2.heap[D]? = some (.deferred (some [])) := (hPu2.block D (Array.getElem?_eq_some_iff.1 hK).1 (fun e => e.elim (fun e => by rw [e, show W.heap[bS]? = _ from hsW.blk] at hK; cases hK) (fun e => by
        obtain ⟨cur, g1, _⟩ := hRW
        rw [e, show W.heap[g]? = _ from g1] at hK
        cases hK))).trans hK
      clear hPu2 hPu1 hPd hs1 hs2 hB1 hB2 hO2 hPO
      gi_upto_region 10 with (fail)
      try simp only [Act.put, ppA, ppB, ppC]
      refine wpIn_wide.2 ?_
      refine wp_region_lit ?_
      refine st_x (v := .bool true) rfl (x_val _ (.inr rfl) rfl) ?_; try simp only [Act.put, ppA, ppB, ppC]
      refine st_end14 ?_
      gi_wp2
      refine ⟨by simp, .inl ⟨_, _, rfl, run_takeDeferred hKu, ?_⟩⟩
      exact ⟨_, results_tmp rfl _ _ _, rfl, hFC.grow (B0 := w3.heap.size) hm3 hBw hB30 (grownBy_putObj' _ D (.deferred none)) (fun r e => by cases e; exact ⟨hD, _, hKu, rfl⟩)⟩
  case stop =>
    rintro D c pre W _ _ h _
    exact h.elim
end
end Go.Proofs.YtopfmaoeebgjmaaGreatDoor
