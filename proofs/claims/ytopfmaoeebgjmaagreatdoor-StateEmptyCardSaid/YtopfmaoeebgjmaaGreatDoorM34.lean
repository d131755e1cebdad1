/- States: the one Mark taken away. -/
import Derived.Test.YtopfmaoeebgjmaaGreatDoorM01
import Derived.Test.YtopfmaoeebgjmaaGreatDoorM27
import Derived.Test.YtopfmaoeebgjmaaGreatDoorM33
import Derived.RangeFuncNested
import Derived.RangeFuncBound
import Derived.RangeFuncCalls
import Derived.RangeFuncLeaves
import Derived.Shelf.Abstract
import Derived.WalkKit
import Derived.OwnWalkIn
import Derived.TacticsInMore
import Derived.LoopNIn
import Derived.LoopIn
import Derived.Sort.CutIn
set_option linter.unusedVariables false
set_option linter.unusedSimpArgs false
namespace Go.Proofs.YtopfmaoeebgjmaaGreatDoor
section
open Go.RowKit Go.WideMaps Go.ChangeMaps Go.MapKept
set_option maxRecDepth 100000
set_option maxHeartbeats 2000000
theorem rec_inf : ∃ i, Tryz.prog.info? 76 = some i ∧ i.size = 3 ∧ i.zero = some (.agg #[.int .i64 0, .slice none 0 0, .map none]) := by
  obtain ⟨i, hi, h⟩ := Option.map_eq_some_iff.1 rec_infos
  injection h with h1 h2
  injection h2 with h2 h3
  exact ⟨i, hi, h2, h1⟩
theorem sld_a (p : Addr) (cap : Nat) (h : 1 ≤ cap) (w : World) : (Instr.sliceAt 44 (.slice (some p) 1 cap) (some (.int .i64 0)) (some (.int .i64 1)) (some (.int .i64 1))).run Tryz.prog w = .ok (.slice (some p) 1 1) w := by
  obtain ⟨i, hi, hs, hz⟩ := rec_inf
  simp [Instr.sliceAt, Instr.slice, Instr.sliceBounds, Instr.sliceBound, run_underlying recs_ty, Result.andThen, asIntOf, sizeOf, typeInfo, hi, hs, show (1 : Int) ≤ (cap : Int) by omega, Addr.add]
theorem sld_b (p : Addr) (cap : Nat) (w : World) : (Instr.sliceAt 44 (.slice (some p) 1 cap) none (some (.int .i64 0)) none).run Tryz.prog w = .ok (.slice (some p) 0 cap) w := by
  obtain ⟨i, hi, hs, hz⟩ := rec_inf
  simp [Instr.sliceAt, Instr.slice, Instr.sliceBounds, Instr.sliceBound, run_underlying recs_ty, Result.andThen, asIntOf, sizeOf, typeInfo, hi, hs, Addr.add]
theorem sld_c (p : Addr) (cap : Nat) (h : 1 ≤ cap) (w : World) : (Instr.sliceAt 44 (.slice (some p) 1 cap) (some (.int .i64 1)) none none).run Tryz.prog w = .ok (.slice (some (if cap = 1 then p else p.add 3)) 0 (cap - 1)) w := by
  obtain ⟨i, hi, hs, hz⟩ := rec_inf
  simp [Instr.sliceAt, Instr.slice, Instr.sliceBounds, Instr.sliceBound, run_underlying recs_ty, Result.andThen, asIntOf, sizeOf, typeInfo, hi, hs, show (1 : Int) ≤ (cap : Int) by omega]
  split <;> rfl
theorem sld_d (p : Addr) (cap : Nat) (h : 1 ≤ cap) (w : World) : (Instr.sliceAt 44 (.slice (some p) 0 cap) (some (.int .i64 0)) (some (.int .i64 1)) none).run Tryz.prog w = .ok (.slice (some p) 1 cap) w := by
  obtain ⟨i, hi, hs, hz⟩ := rec_inf
  simp [Instr.sliceAt, Instr.slice, Instr.sliceBounds, Instr.sliceBound, run_underlying recs_ty, Result.andThen, asIntOf, sizeOf, typeInfo, hi, hs, show (1 : Int) ≤ (cap : Int) by omega, Addr.add]
theorem appd_0 (ty : TypeId) (p q : Addr) (c d : Nat) (w : World) : (Builtin.append_ #[44, 44] ty #[.slice (some p) 0 c, .slice (some q) 0 d]).run Tryz.prog w = .ok (.slice (some p) 0 c) w := by
  obtain ⟨i, hi, hs, hz⟩ := rec_inf
  simp [Builtin.append_, run_underlying recs_ty, Result.andThen, sizeOf, typeInfo, hi, hs, Builtin.lenOf, Builtin.firstCells, loadCells, loadCellsFrom, storeCells]
theorem clear_1 {w : World} {g cap : Nat} {cur : Array Value} (hB : Blk w g 76 cur) (hs : 3 ≤ cur.size) : ∃ c', ∀ ty, (Builtin.clear_ #[44] ty #[.slice (some ⟨g, 0, none⟩) 1 cap]).run Tryz.prog w = .ok (.tuple #[]) (w.setRow g c') := by
  obtain ⟨i, hi, hsz, hz⟩ := rec_inf
  have h := run_storeCells_at (P := Tryz.prog) g 0 76 [.int .i64 0, .slice none 0 0, .map none] 0 cur w hB (by simpa using hs) (by decide)
  refine ⟨(cur.toList.take (0 + 0) ++ [Value.int .i64 0, Value.slice none 0 0, Value.map none] ++ cur.toList.drop (0 + 0 + [Value.int .i64 0, Value.slice none 0 0, Value.map none].length)).toArray, fun ty => ?_⟩
  simp only [Builtin.clear_, Sem.run_bind, run_underlying recs_ty, Result.andThen_ok]
  simp [zeroValue, typeInfo, hi, hz, Result.andThen, Value.cells, Builtin.zeroCells, show List.range 3 = [0, 1, 2] from rfl, show (storeCells ⟨g, 0, none⟩ [Value.int .i64 0, .slice none 0 0, .map none]).run Tryz.prog w = _ from h]
section
variable {o : Oper} {a : Act} {w w' : World}
theorem x_sl3 {v u i j k : Value} (ty : TypeId) (x y z t : Operand) (ho : o.op = .slice ty x (some y) (some z) (some t)) (hx : a.eval x = v) (hy : a.eval y = i) (hz : a.eval z = j) (ht : a.eval t = k) (hr : (Instr.sliceAt ty v (some i) (some j) (some k)).run Tryz.prog w = .ok u w) : (execOp a.eval o).run Tryz.prog w = .ok (.value u) w := by
  unfold execOp
  simp only [ho, hx, hy, hz, ht, Option.map_none, Option.map_some, Sem.run_bind, hr, Result.andThen_ok, Sem.run_pure]
theorem x_sl2 {v u i j : Value} (ty : TypeId) (x y z : Operand) (ho : o.op = .slice ty x (some y) (some z) none) (hx : a.eval x = v) (hy : a.eval y = i) (hz : a.eval z = j) (hr : (Instr.sliceAt ty v (some i) (some j) none).run Tryz.prog w = .ok u w) : (execOp a.eval o).run Tryz.prog w = .ok (.value u) w := by
  unfold execOp
  simp only [ho, hx, hy, hz, Option.map_none, Option.map_some, Sem.run_bind, hr, Result.andThen_ok, Sem.run_pure]
theorem x_app0 {p q : Addr} {c d : Nat} (s x : Operand) (ho : o.op = .call { callee := .builtin .append, args := #[s, x], argTypes := #[44, 44] }) (hs : a.eval s = .slice (some p) 0 c) (hx : a.eval x = .slice (some q) 0 d) : (execOp a.eval o).run Tryz.prog w = .ok (.value (.slice (some p) 0 c)) w := by
  unfold execOp
  simp only [ho, resolve, invoke, builtin, Sem.run_bind, Sem.run_pure, Result.andThen_ok, List.map_toArray, List.map_cons, List.map_nil, hs, hx, appd_0]
theorem x_clear (s : Operand) (ho : o.op = .call { callee := .builtin .clear, args := #[s], argTypes := #[44] }) {v : Value} (hs : a.eval s = v) (hr : (Builtin.clear_ #[44] o.type #[v]).run Tryz.prog w = .ok (.tuple #[]) w') : (execOp a.eval o).run Tryz.prog w = .ok (.value (.tuple #[])) w' := by
  unfold execOp
  simp only [ho, resolve, invoke, builtin, Sem.run_bind, Sem.run_pure, Result.andThen_ok, List.map_toArray, List.map_cons, List.map_nil, hs, hr]
theorem x_lenR {p : Option Addr} {n c : Nat} (x : Operand) (ho : o.op = .call { callee := .builtin .len, args := #[x], argTypes := #[44] }) (hx : a.eval x = .slice p n c) : (execOp a.eval o).run Tryz.prog w = .ok (.value (.int .i64 (n : Int))) w := by
  unfold execOp; simp [ho, resolve, invoke, builtin, hx, Builtin.len_, run_underlying recs_ty, goInt, Result.andThen, Builtin.lenOf]
end
theorem delete_any (w : World) (g cap : Nat) (pv lv : Value) (h : RecB w g 1 pv lv) (hcap : 1 ≤ cap) : Calls Tryz.prog 34 #[.slice (some ⟨g, 0, none⟩) 1 cap, .int .i64 0, .int .i64 1] w fun e w' => e = .returned (.slice (some ⟨g, 0, none⟩) 0 cap) ∧ PT (fun j => j = g) w w' := by
  have hq := sld_c ⟨g, 0, none⟩ cap hcap
  generalize (if cap = 1 then (⟨g, 0, none⟩ : Addr) else (⟨g, 0, none⟩ : Addr).add 3) = q at hq
  go_enter Tryz.func34, Tryz.ntmps34
  go_upto_region 1 with (fail)
  try simp only [Act.put, ppA, ppB, ppC]
  refine wp_region_lit ?_
  refine st_x (v := .slice (some ⟨g, 0, none⟩) 1 cap) rfl (x_val _ (.inl rfl) rfl) ?_; try simp only [Act.put, ppA, ppB, ppC]
  refine st_x (v := .int .i64 0) rfl (x_val _ (.inl rfl) rfl) ?_; try simp only [Act.put, ppA, ppB, ppC]
  refine st_x (v := .int .i64 1) rfl (x_val _ (.inl rfl) rfl) ?_; try simp only [Act.put, ppA, ppB, ppC]
  refine st_x (v := .slice (some ⟨g, 0, none⟩) 1 cap) rfl (x_val _ (.inl rfl) rfl) ?_; try simp only [Act.put, ppA, ppB, ppC]
  refine st_x (v := .int .i64 1) rfl (x_lenR _ rfl rfl) ?_; try simp only [Act.put, ppA, ppB, ppC]
  refine st_x (v := .slice (some ⟨g, 0, none⟩) 1 1) rfl (x_sl3 _ _ _ _ _ rfl rfl rfl rfl rfl (sld_a _ _ hcap _)) ?_; try simp only [Act.put, ppA, ppB, ppC]
  refine st_end14 ?_
  go_upto_region 2 with (fail)
  try simp only [Act.put, ppA, ppB, ppC]
  refine wp_region_lit ?_
  refine st_x (v := .int .i64 0) rfl (x_val _ (.inl rfl) rfl) ?_; try simp only [Act.put, ppA, ppB, ppC]
  refine st_x (v := .int .i64 1) rfl (x_val _ (.inl rfl) rfl) ?_; try simp only [Act.put, ppA, ppB, ppC]
  refine st_x (v := .bool false) rfl (by kernel_rfl) ?_; try simp only [Act.put, ppA, ppB, ppC]
  refine st_end14 ?_
  go_upto_region 4 with (fail)
  try simp only [Act.put, ppA, ppB, ppC]
  refine wp_region_lit ?_
  refine st_x (v := .slice (some ⟨g, 0, none⟩) 1 cap) rfl (x_val _ (.inl rfl) rfl) ?_; try simp only [Act.put, ppA, ppB, ppC]
  refine st_x (v := .int .i64 1) rfl (x_lenR _ rfl rfl) ?_; try simp only [Act.put, ppA, ppB, ppC]
  refine st_x (v := .int .i64 1) rfl (x_val _ (.inr rfl) rfl) ?_; try simp only [Act.put, ppA, ppB, ppC]
  refine st_end14 ?_
  go_upto_region 5 with (fail)
  try simp only [Act.put, ppA, ppB, ppC]
  refine wp_region_held_drew (S := fun w' => Tch [] w w') (by kernel_rfl) ((Tch.refl _ _).drew) (fun hC => ?_)
  have hD0 : Tch [] w w.drew := (Tch.refl [] w).drew
  have h0 := h.call hD0
  have hP0 : PT (fun j => j = g) w w.drew := PT.nil hD0
  generalize World.drew w = u0 at hC hD0 h0 hP0 ⊢
  refine held_in (v := .slice (some ⟨g, 0, none⟩) 1 cap) 0 rfl (by kernel_rfl) (by kernel_rfl) (by kernel_rfl) (fun _ _ _ h => h) hC rfl (fun w' hw' => x_val _ (.inl rfl) rfl) ?_; try simp only [Act.put, ppA, ppB, ppC]
  refine held_in (v := .int .i64 0) 1 rfl (by kernel_rfl) (by kernel_rfl) (by kernel_rfl) (fun _ _ _ h => h) hC rfl (fun w' hw' => x_val _ (.inl rfl) rfl) ?_; try simp only [Act.put, ppA, ppB, ppC]
  refine held_in (v := .slice (some ⟨g, 0, none⟩) 0 cap) 2 rfl (by kernel_rfl) (by kernel_rfl) (by kernel_rfl) (fun _ _ _ h => h) hC rfl (fun w' hw' => x_slT _ _ _ rfl rfl rfl (sld_b _ _ _)) ?_; try simp only [Act.put, ppA, ppB, ppC]
  refine held_in (v := .slice (some ⟨g, 0, none⟩) 1 cap) 3 rfl (by kernel_rfl) (by kernel_rfl) (by kernel_rfl) (fun _ _ _ h => h) hC rfl (fun w' hw' => x_val _ (.inl rfl) rfl) ?_; try simp only [Act.put, ppA, ppB, ppC]
  refine held_in (v := .int .i64 1) 4 rfl (by kernel_rfl) (by kernel_rfl) (by kernel_rfl) (fun _ _ _ h => h) hC rfl (fun w' hw' => x_val _ (.inl rfl) rfl) ?_; try simp only [Act.put, ppA, ppB, ppC]
  refine held_in (v := .slice (some q) 0 (cap - 1)) 5 rfl (by kernel_rfl) (by kernel_rfl) (by kernel_rfl) (fun _ _ _ h => h) hC rfl (fun w' hw' => x_slF _ _ _ rfl rfl rfl (hq _)) ?_; try simp only [Act.put, ppA, ppB, ppC]
  refine held_one 6 (by kernel_rfl) ?_
  refine held_run (v := .slice (some ⟨g, 0, none⟩) 0 cap) rfl (by kernel_rfl) (x_app0 _ _ rfl rfl rfl) ?_
  refine ⟨hC, ?_⟩
  try simp only [Act.put, ppA, ppB, ppC]
  refine held_in (v := .slice (some ⟨g, 0, none⟩) 0 cap) 7 rfl (by kernel_rfl) (by kernel_rfl) (by kernel_rfl) (fun _ _ _ h => h) hC rfl (fun w' hw' => x_val _ (.inr rfl) rfl) ?_; try simp only [Act.put, ppA, ppB, ppC]
  refine wpAnyH_done (by kernel_rfl) ?_ _
  go_upto_region 6 with (fail)
  try simp only [Act.put, ppA, ppB, ppC]
  obtain ⟨cur, hB, hsz, _⟩ := h0
  refine wp_region_lit ?_
  refine st_x (v := .slice (some ⟨g, 0, none⟩) 0 cap) rfl (x_val _ (.inl rfl) rfl) ?_; try simp only [Act.put, ppA, ppB, ppC]
  refine st_x (v := .slice (some ⟨g, 0, none⟩) 0 cap) rfl (x_val _ (.inl rfl) rfl) ?_; try simp only [Act.put, ppA, ppB, ppC]
  refine st_x (v := .int .i64 0) rfl (x_lenR _ rfl rfl) ?_; try simp only [Act.put, ppA, ppB, ppC]
  refine st_x (v := .int .i64 1) rfl (x_val _ (.inl rfl) rfl) ?_; try simp only [Act.put, ppA, ppB, ppC]
  refine st_x (v := .slice (some ⟨g, 0, none⟩) 1 cap) rfl (x_sl2 _ _ _ _ rfl rfl rfl rfl (sld_d _ _ hcap _)) ?_; try simp only [Act.put, ppA, ppB, ppC]
  obtain ⟨c', hcl⟩ := clear_1 (cap := cap) hB hsz
  refine st_run (v := .tuple #[]) rfl (x_clear _ rfl rfl (hcl _)) ?_
  try simp only [Act.put, ppA, ppB, ppC]
  have hO := Only.setRow u0 g c'
  generalize World.setRow u0 g c' = u1 at hO ⊢
  clear hcl
  refine st_end14 ?_
  go_upto_region 7 with (fail)
  try simp only [Act.put, ppA, ppB, ppC]
  refine wp_region_lit ?_
  refine st_x (v := .slice (some ⟨g, 0, none⟩) 0 cap) rfl (x_val _ (.inl rfl) rfl) ?_; try simp only [Act.put, ppA, ppB, ppC]
  refine st_x (v := .slice (some ⟨g, 0, none⟩) 0 cap) rfl (x_val _ (.inr rfl) rfl) ?_; try simp only [Act.put, ppA, ppB, ppC]
  refine st_end14 ?_
  go_wp2
  go_ret
  exact ⟨rfl, hP0.trans ⟨hO.os, hO.tape, hO.output, Nat.le_of_eq hO.size.symm, fun j _ hn => hO.block j hn⟩⟩
end
section
open Go.RowKit Go.WideMaps Go.ChangeMaps Go.MapKept
set_option maxRecDepth 100000
theorem keep_anyM (B N : Nat) (w : World) (bS : Nat) (mv rv : Value) (k : Int) (F : List Nat → Option Nat) (E : List Nat → Nat × Nat) (A : List Nat) (b n x : Nat) (h : StP B N w bS mv rv k F E) (hA : Ad A) (hb : Blk w b 79 (acA n x)) (hB : B ≤ b) (hbs : b ≠ bS)
    (hok : n < 9223372036854775808 ∧ x < M256) (hN : N < 1000000000) (hF : (F A = some b) ∨ (F A = none ∧ ∀ X, Ad X → F X ≠ some b)) :
    Calls Tryz.prog 18 #[.pointer (some ⟨bS, 0, none⟩), .agg (av A), .pointer (some ⟨b, 0, none⟩)] w fun e w' => e = .returned (.tuple #[]) ∧
      ∃ mv' F', (mv ≠ .map none → mv' = mv) ∧ StP B (N + 1) w' bS mv' rv k F' (upE E A (n, x)) ∧ PT (foot bS mv F) w w' ∧ ∀ j, foot bS mv' F' j → foot bS mv F j ∨ j = b ∨ w.heap.size ≤ j := by
  have H := hQz h
  have HA := hQz hA
  have HK := hQz hok
  have HN := hQz hN
  have HF := hQz hF
  have HBb := hQz (And.intro hB hbs)
  have hBS := h.blk
  have hfb : ∀ X, Ad X → X ≠ A → F X ≠ some b := by
    intro X hX hne e
    rcases hF with h1 | ⟨_, h1⟩
    · exact hne (h.inj X A b hX hA e h1)
    · exact h1 X hX e
  have HX := hQz hfb
  have hE := fun w' (hB : Blk w' b 79 (acA n x)) => empty_any b n x w' hB hok.2
  have hbv := hb
  have hS := St.start w
  clear h hA hok hN hF hB hbs hfb
  go_enter Tryz.func18, Tryz.ntmps18
  go_upto_region 1 with (refine st_box hS rfl 23 _ rfl rfl ?_; clear hS; intro w1 b1 hS)
  try simp only [Act.put, ppA, ppB, ppC]
  have hT1 := hS.frame
  have hB1 := hS.get .head
  have hO1 : w.heap.size ≤ b1 := (hS.own .head).elim id (fun h => by simp at h)
  clear hS
  have H1 := hQz (H.out.call hT1)
  have hb1 := hT1.blk hb (by simp)
  clear hb
  generalize hcv : (#[mv, rv, .int .i64 k] : Array Value) = cv at hBS
  refine k_seq (C := fun w' => w' = w1) rfl ?_
  refine k_in (v := .pointer (some ⟨b, 0, none⟩)) rfl (fun w' hw' => x_val _ (.inl rfl) rfl) ?_; try simp only [Act.put, ppA, ppB, ppC]
  refine k_in (v := .bool false) rfl (fun w' hw' => x_bin _ _ _ _ rfl rfl rfl rfl (eqA_some _ _)) ?_; try simp only [Act.put, ppA, ppB, ppC]
  refine k_in (v := .bool false) rfl (fun w' hw' => x_val _ (.inl rfl) rfl) ?_; try simp only [Act.put, ppA, ppB, ppC]
  refine k_in (v := .pointer (some ⟨b, 0, none⟩)) rfl (fun w' hw' => x_val _ (.inl rfl) rfl) ?_; try simp only [Act.put, ppA, ppB, ppC]
  refine k_callC1 (v := .bool (decide (n = 0 ∧ x = 0))) rfl rfl rfl Tryz.call35 (fun w' hw' => (hE w' (by subst hw'; exact hb1)).mono fun e w2 ⟨g1, g2⟩ => ⟨g1, g2.trans hw'⟩) ?_; try simp only [Act.put, ppA, ppB, ppC]
  refine k_in (v := .bool (decide (n = 0 ∧ x = 0))) rfl (fun w' hw' => x_pickS (c := false) rfl _ _ _ rfl rfl rfl rfl) ?_; try simp only [Act.put, ppA, ppB, ppC]
  refine k_end ?_
  intro w2 hw2
  subst hw2
  clear hE
  by_cases h0 : n = 0 ∧ x = 0
  · rw [decide_eq_true h0]
    have H0 := hQz h0
    clear h0
    go_upto_region 2 with (fail)
    try simp only [Act.put, ppA, ppB, ppC]
    have hmu := H1.out.mapne
    have hma := H1.out.accne hB1
    have hBu := H1.out.blk
    have hBa := hB1
    obtain ⟨u1, hu1⟩ : ∃ u1, u1 = w2 := ⟨_, rfl⟩
    rw [← hu1] at hBu hBa H1 ⊢
    refine wp_region_held_drew (S := fun w' => PT (fun j => (mv : Value) = .map (some j)) u1 w') (by kernel_rfl) (PT.nil ((Tch.refl _ _).drew)) (fun hC => ?_)
    have hD0 : Tch [] u1 u1.drew := (Tch.refl [] u1).drew
    generalize World.drew u1 = u2 at hC hD0 ⊢
    refine held_in (v := .pointer (some ⟨bS, 0, none⟩)) 0 rfl (by kernel_rfl) (by kernel_rfl) (by kernel_rfl) (fun _ _ _ h => h) hC rfl (fun w' hw' => x_val _ (.inl rfl) rfl) ?_; try simp only [Act.put, ppA, ppB, ppC]
    refine held_in (v := .pointer (some ⟨bS, 0, none⟩)) 1 rfl (by kernel_rfl) (by kernel_rfl) (by kernel_rfl) (fun _ _ _ h => h) hC rfl (fun w' hw' => x_nilck _ rfl rfl) ?_; try simp only [Act.put, ppA, ppB, ppC]
    refine held_in (v := .pointer (some ⟨bS, 0, none⟩)) 2 rfl (by kernel_rfl) (by kernel_rfl) (by kernel_rfl) (fun _ _ _ h => h) hC rfl (fun w' hw' => x_fa _ _ _ rfl rfl (fa_s0 _ _)) ?_; try simp only [Act.put, ppA, ppB, ppC]
    refine held_in (v := mv) 3 rfl (by kernel_rfl) (by kernel_rfl) (by kernel_rfl) (fun _ _ _ h => h) hC rfl (fun w' hw' => x_cell _ _ rfl rfl ((hw'.blk hBu hmu).cell rfl) map_agg) ?_; try simp only [Act.put, ppA, ppB, ppC]
    refine held_in (v := .agg (av A)) 4 rfl (by kernel_rfl) (by kernel_rfl) (by kernel_rfl) (fun _ _ _ h => h) hC rfl (fun w' hw' => x_ld _ rfl rfl (hw'.blk hBa hma) addr_tyY rfl (by rw [arrV_size]; exact addr_sizeY)) ?_; try simp only [Act.put, ppA, ppB, ppC]
    have hM := (H1.out.call hD0).map
    refine held_one 5 (by kernel_rfl) ?_
    refine held_del hM HA.out rfl rfl rfl rfl rfl ?_
    intro w3 g1 g2
    refine ⟨hC.trans g2, ?_⟩
    try simp only [Act.put, ppA, ppB, ppC]
    refine wpAnyH_done (by kernel_rfl) ?_ _
    go_wp2
    refine bodyPost_ret (results_none rfl _ _ _) rfl ?_
    have hP := hC.trans g2
    have hnf : ∀ X b', Ad X → X ≠ A → F X = some b' → ¬ mv = .map (some b') := fun X b' hX _ hf => H1.out.accne (H1.out.acc X b' hX hf).1
    refine ⟨rfl, mv, upF F A none, fun _ => rfl, ((H1.out.change HA.out (hP.blk H1.out.blk hmu) g1 (fun X b' hX hne hf => hP.block b' (H1.out.acc X b' hX hf).1.lt (hnf X b' hX hne hf)) (.inl ⟨rfl, H0.out.1, H0.out.2⟩) HK.out)).more (Nat.le_succ _), ?_, ?_⟩
    · have hP2 : PT (fun j => mv = .map (some j)) w w3 := (PT.nil (by rw [hu1]; exact hT1)).trans hP
      exact hP2.mono fun j _ hj => .inr (.inl hj)
    · rintro j (rfl | hj | ⟨X, hX, hf⟩)
      · exact .inl (.inl rfl)
      · exact .inl (.inr (.inl hj))
      · unfold upF at hf
        split at hf
        · cases hf
        · exact .inl (.inr (.inr ⟨X, hX, hf⟩))
  · rw [decide_eq_false h0]
    clear h0
    cases hmv : mv with
    | map p =>
      subst hmv
      cases p with
      | some r =>
        go_upto_region 3 with (fail)
        try simp only [Act.put, ppA, ppB, ppC]
        refine k_seq (C := fun w' => w' = w2) rfl ?_
        refine k_in (v := .pointer (some ⟨bS, 0, none⟩)) rfl (fun w' hw' => x_val _ (.inl rfl) rfl) ?_; try simp only [Act.put, ppA, ppB, ppC]
        refine k_in (v := .pointer (some ⟨bS, 0, none⟩)) rfl (fun w' hw' => x_nilck _ rfl rfl) ?_; try simp only [Act.put, ppA, ppB, ppC]
        refine k_in (v := .pointer (some ⟨bS, 0, none⟩)) rfl (fun w' hw' => x_fa _ _ _ rfl rfl (fa_s0 _ _)) ?_; try simp only [Act.put, ppA, ppB, ppC]
        refine k_in (v := .map (some r)) rfl (fun w' hw' => x_cell _ _ rfl rfl (by subst hw'; exact H1.out.blk.cell rfl) map_agg) ?_; try simp only [Act.put, ppA, ppB, ppC]
        refine k_in (v := .bool false) rfl (fun w' hw' => x_bin _ _ _ _ rfl rfl rfl rfl (eqM_some _ _)) ?_; try simp only [Act.put, ppA, ppB, ppC]
        refine k_end ?_
        intro u1 hu1
        have hBa := hB1
        rw [← hu1] at hBa H1 hb1
        go_upto_region 5 with (fail)
        try simp only [Act.put, ppA, ppB, ppC]
        have hmu := H1.out.mapne
        have hma := H1.out.accne hBa
        have hBu := H1.out.blk
        refine wp_region_held_drew (S := fun w' => PT (fun j => (.map (some r) : Value) = .map (some j)) u1 w') (by kernel_rfl) (PT.nil ((Tch.refl _ _).drew)) (fun hC => ?_)
        have hD0 : Tch [] u1 u1.drew := (Tch.refl [] u1).drew
        generalize World.drew u1 = u2 at hC hD0 ⊢
        refine held_in (v := .pointer (some ⟨bS, 0, none⟩)) 0 rfl (by kernel_rfl) (by kernel_rfl) (by kernel_rfl) (fun _ _ _ h => h) hC rfl (fun w' hw' => x_val _ (.inl rfl) rfl) ?_; try simp only [Act.put, ppA, ppB, ppC]
        refine held_in (v := .pointer (some ⟨bS, 0, none⟩)) 1 rfl (by kernel_rfl) (by kernel_rfl) (by kernel_rfl) (fun _ _ _ h => h) hC rfl (fun w' hw' => x_nilck _ rfl rfl) ?_; try simp only [Act.put, ppA, ppB, ppC]
        refine held_in (v := .pointer (some ⟨bS, 0, none⟩)) 2 rfl (by kernel_rfl) (by kernel_rfl) (by kernel_rfl) (fun _ _ _ h => h) hC rfl (fun w' hw' => x_fa _ _ _ rfl rfl (fa_s0 _ _)) ?_; try simp only [Act.put, ppA, ppB, ppC]
        refine held_in (v := .map (some r)) 3 rfl (by kernel_rfl) (by kernel_rfl) (by kernel_rfl) (fun _ _ _ h => h) hC rfl (fun w' hw' => x_cell _ _ rfl rfl ((hw'.blk hBu hmu).cell rfl) map_agg) ?_; try simp only [Act.put, ppA, ppB, ppC]
        refine held_in (v := .agg (av A)) 4 rfl (by kernel_rfl) (by kernel_rfl) (by kernel_rfl) (fun _ _ _ h => h) hC rfl (fun w' hw' => x_ld _ rfl rfl (hw'.blk hBa hma) addr_tyY rfl (by rw [arrV_size]; exact addr_sizeY)) ?_; try simp only [Act.put, ppA, ppB, ppC]
        refine held_in (v := .pointer (some ⟨b, 0, none⟩)) 5 rfl (by kernel_rfl) (by kernel_rfl) (by kernel_rfl) (fun _ _ _ h => h) hC rfl (fun w' hw' => x_val _ (.inl rfl) rfl) ?_; try simp only [Act.put, ppA, ppB, ppC]
        have hM := (H1.out.call hD0).map
        refine held_one 6 (by kernel_rfl) ?_
        refine held_put hM (by have := HN.out; unfold maxLen; omega) HA.out rfl rfl rfl rfl rfl rfl ?_
        intro w3 g1 g2
        refine ⟨hC.trans g2, ?_⟩
        try simp only [Act.put, ppA, ppB, ppC]
        refine wpAnyH_done (by kernel_rfl) ?_ _
        go_wp2
        go_end0
        have hP := hC.trans g2
        have hnf : ∀ X b', Ad X → X ≠ A → F X = some b' → ¬ (.map (some r) : Value) = .map (some b') := fun X b' hX _ hf => H1.out.accne (H1.out.acc X b' hX hf).1
        refine ⟨rfl, .map (some r), upF F A (some b), fun _ => rfl, H1.out.change HA.out (hP.blk H1.out.blk hmu) g1 (fun X b' hX hne hf => hP.block b' (H1.out.acc X b' hX hf).1.lt (hnf X b' hX hne hf)) (.inr ⟨b, rfl, hP.blk hb1 (H1.out.accne hb1), HBb.out.1, HBb.out.2, HX.out⟩) HK.out, ?_, ?_⟩
        · have hP2 : PT (fun j => (Value.map (some r)) = .map (some j)) w w3 := (PT.nil (by rw [hu1]; exact hT1)).trans hP
          exact hP2.mono fun j _ hj => .inr (.inl hj)
        · rintro j (rfl | hj | ⟨X, hX, hf⟩)
          · exact .inl (.inl rfl)
          · exact .inl (.inr (.inl hj))
          · unfold upF at hf
            split at hf
            · cases hf; exact .inr (.inl rfl)
            · exact .inl (.inr (.inr ⟨X, hX, hf⟩))
      | none =>
        go_upto_region 3 with (fail)
        try simp only [Act.put, ppA, ppB, ppC]
        refine k_seq (C := fun w' => w' = w2) rfl ?_
        refine k_in (v := .pointer (some ⟨bS, 0, none⟩)) rfl (fun w' hw' => x_val _ (.inl rfl) rfl) ?_; try simp only [Act.put, ppA, ppB, ppC]
        refine k_in (v := .pointer (some ⟨bS, 0, none⟩)) rfl (fun w' hw' => x_nilck _ rfl rfl) ?_; try simp only [Act.put, ppA, ppB, ppC]
        refine k_in (v := .pointer (some ⟨bS, 0, none⟩)) rfl (fun w' hw' => x_fa _ _ _ rfl rfl (fa_s0 _ _)) ?_; try simp only [Act.put, ppA, ppB, ppC]
        refine k_in (v := .map none) rfl (fun w' hw' => x_cell _ _ rfl rfl (by subst hw'; exact H1.out.blk.cell rfl) map_agg) ?_; try simp only [Act.put, ppA, ppB, ppC]
        refine k_in (v := .bool true) rfl (fun w' hw' => x_bin _ _ _ _ rfl rfl rfl rfl (eqM_none _)) ?_; try simp only [Act.put, ppA, ppB, ppC]
        refine k_end ?_
        intro u0 hu0
        have hBa := hB1
        rw [← hu0] at hBa H1 hb1
        go_upto_region 4 with (fail)
        try simp only [Act.put, ppA, ppB, ppC]
        refine wp_region_lit ?_
        refine st_x (v := .pointer (some ⟨bS, 0, none⟩)) rfl (x_val _ (.inl rfl) rfl) ?_; try simp only [Act.put, ppA, ppB, ppC]
        refine st_run (v := .map (some u0.heap.size)) rfl (r_mkMap rfl) ?_; try simp only [Act.put, ppA, ppB, ppC]
        have hF0 : ∀ X, Ad X → F X = none := fun X hX => by
          rcases H1.out.map with ⟨_, g⟩ | ⟨r, n, D, e, _⟩
          · exact g X
          · cases e
        obtain ⟨r, hr⟩ : ∃ r, r = u0.heap.size := ⟨_, rfl⟩
        have hbase : B ≤ r := by rw [hr]; exact Nat.le_of_lt (Nat.lt_of_le_of_lt H1.out.base H1.out.blk.lt)
        have hmm := MapP.made B N u0 (by rw [← hr]; exact hbase) F hF0
        have hTa : Tch [] u0 (u0.alloc (.map #[] 0)) := (Tch.refl [] u0).alloc _
        rw [← hr] at hmm ⊢
        generalize u0.alloc (.map #[] 0) = u4 at hmm hTa ⊢
        have hBS4 := hTa.blk H1.out.blk (by simp)
        have hBa4 := hTa.blk hBa (by simp)
        have hb4 := hTa.blk hb1 (by simp)
        refine st_x (v := .pointer (some ⟨bS, 0, none⟩)) rfl (x_nilck _ rfl rfl) ?_; try simp only [Act.put, ppA, ppB, ppC]
        refine st_x (v := .pointer (some ⟨bS, 0, none⟩)) rfl (x_fa _ _ _ rfl rfl (fa_s0 _ _)) ?_; try simp only [Act.put, ppA, ppB, ppC]
        obtain ⟨u1, hu1⟩ : ∃ u1, u1 = World.setCell u4 ⟨bS, 0, none⟩ (.map (some r)) := ⟨_, rfl⟩
        refine st_skip (w' := u1) rfl (by rw [hu1]; exact r_store1 _ _ rfl rfl rfl hBS4 one_size_map (by show 0 < 3; decide) rfl) ?_; try simp only [Act.put, ppA, ppB, ppC]
        refine st_end14 ?_
        have hO := Only.setCell u4 ⟨bS, 0, none⟩ (.map (some r))
        have hB5 := hBS4.set 0 (.map (some r))
        rw [show (#[(.map none : Value), rv, .int .i64 k] : Array Value).setIfInBounds 0 (.map (some r)) = #[.map (some r), rv, .int .i64 k] from rfl] at hB5
        rw [← hu1] at hO hB5
        clear hu1
        have hne : r ≠ bS := by have := H1.out.blk.lt; omega
        have hx1 : ∀ j, j ≠ bS → u1.heap[j]? = u4.heap[j]? := fun j hj => hO.block j hj
        have H1 := hQz (show StP B N u1 bS (.map (some r)) rv k F E from ⟨hB5, H1.out.base, hmm.far (fun r' e => by cases e; exact hx1 r hne), fun X b' hX hf => (by rw [hF0 X hX] at hf; cases hf), H1.out.non, H1.out.inj, H1.out.ok⟩)
        replace hBa := hO.blk (by have h1 := H.out.blk.lt; intro e; have : b1 = bS := e; omega) hBa4
        replace hb1 := hO.blk HBb.out.2 hb4
        go_upto_region 5 with (fail)
        try simp only [Act.put, ppA, ppB, ppC]
        have hmu := H1.out.mapne
        have hma := H1.out.accne hBa
        have hBu := H1.out.blk
        refine wp_region_held_drew (S := fun w' => PT (fun j => (.map (some r) : Value) = .map (some j)) u1 w') (by kernel_rfl) (PT.nil ((Tch.refl _ _).drew)) (fun hC => ?_)
        have hD0 : Tch [] u1 u1.drew := (Tch.refl [] u1).drew
        generalize World.drew u1 = u2 at hC hD0 ⊢
        refine held_in (v := .pointer (some ⟨bS, 0, none⟩)) 0 rfl (by kernel_rfl) (by kernel_rfl) (by kernel_rfl) (fun _ _ _ h => h) hC rfl (fun w' hw' => x_val _ (.inl rfl) rfl) ?_; try simp only [Act.put, ppA, ppB, ppC]
        refine held_in (v := .pointer (some ⟨bS, 0, none⟩)) 1 rfl (by kernel_rfl) (by kernel_rfl) (by kernel_rfl) (fun _ _ _ h => h) hC rfl (fun w' hw' => x_nilck _ rfl rfl) ?_; try simp only [Act.put, ppA, ppB, ppC]
        refine held_in (v := .pointer (some ⟨bS, 0, none⟩)) 2 rfl (by kernel_rfl) (by kernel_rfl) (by kernel_rfl) (fun _ _ _ h => h) hC rfl (fun w' hw' => x_fa _ _ _ rfl rfl (fa_s0 _ _)) ?_; try simp only [Act.put, ppA, ppB, ppC]
        refine held_in (v := .map (some r)) 3 rfl (by kernel_rfl) (by kernel_rfl) (by kernel_rfl) (fun _ _ _ h => h) hC rfl (fun w' hw' => x_cell _ _ rfl rfl ((hw'.blk hBu hmu).cell rfl) map_agg) ?_; try simp only [Act.put, ppA, ppB, ppC]
        refine held_in (v := .agg (av A)) 4 rfl (by kernel_rfl) (by kernel_rfl) (by kernel_rfl) (fun _ _ _ h => h) hC rfl (fun w' hw' => x_ld _ rfl rfl (hw'.blk hBa hma) addr_tyY rfl (by rw [arrV_size]; exact addr_sizeY)) ?_; try simp only [Act.put, ppA, ppB, ppC]
        refine held_in (v := .pointer (some ⟨b, 0, none⟩)) 5 rfl (by kernel_rfl) (by kernel_rfl) (by kernel_rfl) (fun _ _ _ h => h) hC rfl (fun w' hw' => x_val _ (.inl rfl) rfl) ?_; try simp only [Act.put, ppA, ppB, ppC]
        have hM := (H1.out.call hD0).map
        refine held_one 6 (by kernel_rfl) ?_
        refine held_put hM (by have := HN.out; unfold maxLen; omega) HA.out rfl rfl rfl rfl rfl rfl ?_
        intro w3 g1 g2
        refine ⟨hC.trans g2, ?_⟩
        try simp only [Act.put, ppA, ppB, ppC]
        refine wpAnyH_done (by kernel_rfl) ?_ _
        go_wp2
        go_end0
        have hP := hC.trans g2
        have hnf : ∀ X b', Ad X → X ≠ A → F X = some b' → ¬ (.map (some r) : Value) = .map (some b') := fun X b' hX _ hf => H1.out.accne (H1.out.acc X b' hX hf).1
        refine ⟨rfl, .map (some r), upF F A (some b), H1.out.change HA.out (hP.blk H1.out.blk hmu) g1 (fun X b' hX hne hf => hP.block b' (H1.out.acc X b' hX hf).1.lt (hnf X b' hX hne hf)) (.inr ⟨b, rfl, hP.blk hb1 (H1.out.accne hb1), HBb.out.1, HBb.out.2, HX.out⟩) HK.out, ?_, ?_⟩
        · have hP2 : PT (fun j => j = bS ∨ (Value.map (some r)) = .map (some j)) w w3 := (((PT.nil (by rw [hu0]; exact hT1)).trans (PT.nil hTa)).trans ⟨hO.os, hO.tape, hO.output, Nat.le_of_eq hO.size.symm, fun j _ hj => hO.block j (fun e => hj (.inl e))⟩).trans (hP.mono fun j _ hj => .inr hj)
          refine hP2.mono fun j hj hs => ?_
          rcases hs with rfl | e
          · exact .inl rfl
          · cases e; have := hT1.size; rw [← hu0] at this; omega
        · rintro j (rfl | hj | ⟨X, hX, hf⟩)
          · exact .inl (.inl rfl)
          · cases hj; exact .inr (.inr (by have := hT1.size; rw [← hu0] at this; omega))
          · unfold upF at hf
            split at hf
            · cases hf; exact .inr (.inl rfl)
            · exact .inl (.inr (.inr ⟨X, hX, hf⟩))
    | _ => rcases H1.out.map with ⟨e, _⟩ | ⟨r, n, D, e, _⟩ <;> rw [hmv] at e <;> cases e
def StepQ (B M : Nat) (bS : Nat) (mv : Value) (F : List Nat → Option Nat) (rv : Value) (k : Int) (E : List Nat → Nat × Nat) (w w' : World) : Prop :=
  ∃ mv' F', (mv ≠ .map none → mv' = mv) ∧ StP B M w' bS mv' rv k F' E ∧ PT (foot bS mv F) w w' ∧ ∀ j, foot bS mv' F' j → foot bS mv F j ∨ w.heap.size ≤ j
theorem put_nonM (B N : Nat) (w : World) (bS : Nat) (mv rv : Value) (k : Int) (F : List Nat → Option Nat) (E : List Nat → Nat × Nat) (A : List Nat) (y : Nat) (h : StP B N w bS mv rv k F E) (hA : Ad A) (hN : N < 1000000000) (hy : y < 9223372036854775808) :
    Calls Tryz.prog 33 #[.pointer (some ⟨bS, 0, none⟩), .iface 60 (.agg (nonC A y))] w fun e w' => e = .returned (.iface 60 (.agg (nonC A (E A).1))) ∧
      StepQ B (N + 1) bS mv F rv k (upE E A (y, (E A).2)) w w' := by
  have H := hQz h
  have HA := hQz hA
  have HN := hQz hN
  have HY := hQz hy
  have HO := hQz (h.ok A hA)
  clear h hA hN hy
  have hS := St.start w
  obtain ⟨n, hn⟩ : ∃ n, n = (E A).1 := ⟨_, rfl⟩
  obtain ⟨x, hx⟩ : ∃ x, x = (E A).2 := ⟨_, rfl⟩
  rw [← hn, ← hx] at HO ⊢
  have HE := hQz (And.intro hn hx)
  clear hn hx
  go_enter Tryz.func33, Tryz.ntmps33
  go_upto_region 2 with (fail)
  try simp only [Act.put, ppA, ppB, ppC]
  refine wp_region_lit ?_
  refine st_x (v := .tuple #[.agg (nonC A y), .bool true]) rfl (x_ta _ _ _ rfl rfl (taNN _ _)) ?_; try simp only [Act.put, ppA, ppB, ppC]
  refine st_x (v := .bool true) rfl (x_ext _ _ rfl rfl rfl) ?_; try simp only [Act.put, ppA, ppB, ppC]
  refine st_x (v := .agg (nonC A y)) rfl (x_ext _ _ rfl rfl rfl) ?_; try simp only [Act.put, ppA, ppB, ppC]
  refine st_end14 ?_
  go_upto_region 3 with (fail)
  try simp only [Act.put, ppA, ppB, ppC]
  refine wp_region_lit ?_
  refine st_new hS rfl 60 rfl non_zero ?_; clear hS; intro w1 b7 hS; try simp only [Act.put, ppA, ppB, ppC]
  refine st_store (b := b7) (c' := nonC A y) hS rfl 60 _ _ rfl rfl rfl .head non_size (nonC_size _ _) (nonC_size _ _) (nonC_one _ _) ?_; clear hS; intro w2 hS; try simp only [Act.put, ppA, ppB, ppC]
  refine st_end14 ?_
  have hT2 := hS.frame
  have hO7 : w.heap.size ≤ b7 := hS.le .head
  have H2 := hQz (H.out.call hT2)
  have hB7 := hS.get .head
  have hlt7 := hB7.lt
  clear hS
  go_upto_region 4 with (fail)
  try simp only [Act.put, ppA, ppB, ppC]
  refine wp_region_lit ?_
  refine st_x (v := .pointer (some ⟨bS, 0, none⟩)) rfl (x_val _ (.inl rfl) rfl) ?_; try simp only [Act.put, ppA, ppB, ppC]
  refine st_x (v := .pointer (some ⟨b7, 0, none⟩)) rfl (x_fa _ _ _ rfl rfl (fa_n0 _ _)) ?_; try simp only [Act.put, ppA, ppB, ppC]
  refine st_x (v := .agg (av A)) rfl (x_ldIn (n := 20) _ rfl rfl hB7 (arrV_size _ _) (fun j hj => nonC_a A y j hj) addr_tyY rfl addr_sizeY) ?_; try simp only [Act.put, ppA, ppB, ppC]
  refine st_callS (args := #[.pointer (some ⟨bS, 0, none⟩), .agg (av A)]) rfl rfl (by simp only [List.map_toArray, List.map_cons, List.map_nil]; rfl) Tryz.call53 (open_any B N w2 bS mv rv k F E A H2.out HA.out) ?_
  rintro e w3 ⟨b, rfl, hT3, hb, hFA⟩
  refine ⟨_, rfl, ?_⟩
  try simp only [Act.put, ppA, ppB, ppC]
  rw [← HE.out.1, ← HE.out.2] at hb
  refine st_x (v := .pointer (some ⟨b, 0, none⟩)) rfl (x_val _ (.inr rfl) rfl) ?_; try simp only [Act.put, ppA, ppB, ppC]
  refine st_end14 ?_
  have H3 := hQz (H2.out.call hT3)
  replace hB7 := hT3.blk hB7 (by simp)
  have hT := hT2.trans hT3
  have h7lt := hB7.lt
  have hO7' : w.heap.size ≤ b7 := hO7
  have hb7 : b ≠ b7 := by
    intro e
    subst e
    have h1 : (b : Nat) < w2.heap.size := hlt7
    rcases hFA with g | ⟨_, g⟩
    · have := (H.out.acc A b HA.out g).1.lt; omega
    · omega
  have hbb : B ≤ b ∧ b ≠ bS := by
    rcases hFA with g | ⟨_, g⟩
    · exact (H.out.acc A b HA.out g).2
    · have h1 := H2.out.blk.lt; have h2 := H.out.base; omega
  have hFF : F A = some b ∨ F A = none ∧ ∀ X, Ad X → F X ≠ some b := by
    rcases hFA with g | ⟨g, g2⟩
    · exact .inl g
    · refine .inr ⟨g, fun X hX e => ?_⟩
      have := (H2.out.acc X b hX e).1.lt
      omega
  have hFn : F A = some b ∨ F A = none ∧ w.heap.size ≤ b := hFA.imp id (fun g => ⟨g.1, Nat.le_trans hT2.size g.2⟩)
  have hb0 : F A = some b ∨ w.heap.size ≤ b := hFA.imp id (fun g => Nat.le_trans hT2.size g.2)
  clear hFA
  go_upto_region 5 with (fail)
  try simp only [Act.put, ppA, ppB, ppC]
  refine wp_region_held_drew (S := fun w' => Tch [b7, b] w3 w') (by kernel_rfl) ((Tch.refl _ _).drew) (fun hC => ?_)
  have hD0 : Tch [] w3 w3.drew := (Tch.refl [] w3).drew
  generalize World.drew w3 = u0 at hC hD0 ⊢
  have hBu := hD0.blk hB7 (by simp)
  have hbu := hD0.blk hb (by simp)
  refine held_in (v := .pointer (some ⟨b, 0, none⟩)) 0 rfl (by kernel_rfl) (by kernel_rfl) (by kernel_rfl) (fun _ _ _ h => h) hC rfl (fun w' hw' => x_val _ (.inl rfl) rfl) ?_; try simp only [Act.put, ppA, ppB, ppC]
  refine held_in (v := .pointer (some ⟨b, 0, none⟩)) 1 rfl (by kernel_rfl) (by kernel_rfl) (by kernel_rfl) (fun _ _ _ h => h) hC rfl (fun w' hw' => x_val _ (.inl rfl) rfl) ?_; try simp only [Act.put, ppA, ppB, ppC]
  refine held_in (v := .pointer (some ⟨b, 0, none⟩)) 2 rfl (by kernel_rfl) (by kernel_rfl) (by kernel_rfl) (fun _ _ _ h => h) hC rfl (fun w' hw' => x_nilck _ rfl rfl) ?_; try simp only [Act.put, ppA, ppB, ppC]
  refine held_in (v := .pointer (some ⟨b, 0, none⟩)) 3 rfl (by kernel_rfl) (by kernel_rfl) (by kernel_rfl) (fun _ _ _ h => h) hC rfl (fun w' hw' => x_fa _ _ _ rfl rfl (fa_a0 _ _)) ?_; try simp only [Act.put, ppA, ppB, ppC]
  refine held_in (v := .pointer (some ⟨b7, 20, none⟩)) 5 rfl (by kernel_rfl) (by kernel_rfl) (by kernel_rfl) (fun _ _ _ h => h) hC rfl (fun w' hw' => x_fa _ _ _ rfl rfl (fa_n1 _ _)) ?_; try simp only [Act.put, ppA, ppB, ppC]
  refine held_two 4 6 (by kernel_rfl) ?_ ?_
  · refine held_x (v := .int .i64 (n : Int)) rfl rfl (x_cell _ _ rfl rfl (hbu.cell (acA_n n x)) int_aggS) ⟨hC, ?_⟩
    try simp only [Act.put, ppA, ppB, ppC]
    refine held_one 6 (by kernel_rfl) ?_
    refine held_x (v := .int .i64 (y : Int)) rfl rfl (x_cell _ _ rfl rfl (hBu.cell (nonC_n A y)) int_aggS) ⟨hC, ?_⟩
    try simp only [Act.put, ppA, ppB, ppC]
    refine held_in (v := .pointer (some ⟨b7, 20, none⟩)) 7 rfl (by kernel_rfl) (by kernel_rfl) (by kernel_rfl) (fun _ _ _ h => h) hC rfl (fun w' hw' => x_fa _ _ _ rfl rfl (fa_n1 _ _)) ?_; try simp only [Act.put, ppA, ppB, ppC]
    refine held_one 8 (by kernel_rfl) ?_
    obtain ⟨u1, hu1⟩ : ∃ u1, u1 = World.setCell u0 ⟨b7, 20, none⟩ (.int .i64 (n : Int)) := ⟨_, rfl⟩
    refine held_skip (w' := u1) rfl rfl (by rw [hu1]; exact r_store1 _ _ rfl rfl rfl hBu size_one_int (by rw [nonC_size]; decide) rfl) ?_
    have hO1 : Only b7 u0 u1 := by rw [hu1]; exact Only.setCell u0 ⟨b7, 20, none⟩ _
    have hB1 : Blk u1 b7 60 (nonC A n) := by rw [hu1]; have := hBu.set 20 (.int .i64 (n : Int)); rwa [nonC_set] at this
    have hb1 : Blk u1 b 79 (acA n x) := hO1.blk hb7 hbu
    clear hu1 hBu hbu
    have hC1 : Tch [b7, b] w3 u1 := hC.only hO1 (.inr (by simp))
    refine ⟨hC1, ?_⟩
    try simp only [Act.put, ppA, ppB, ppC]
    refine held_in (v := .pointer (some ⟨b, 0, none⟩)) 9 rfl (by kernel_rfl) (by kernel_rfl) (by kernel_rfl) (fun _ _ _ h => h) hC1 rfl (fun w' hw' => x_nilck _ rfl rfl) ?_; try simp only [Act.put, ppA, ppB, ppC]
    refine held_in (v := .pointer (some ⟨b, 0, none⟩)) 10 rfl (by kernel_rfl) (by kernel_rfl) (by kernel_rfl) (fun _ _ _ h => h) hC1 rfl (fun w' hw' => x_fa _ _ _ rfl rfl (fa_a0 _ _)) ?_; try simp only [Act.put, ppA, ppB, ppC]
    refine held_one 11 (by kernel_rfl) ?_
    obtain ⟨u2, hu2⟩ : ∃ u2, u2 = World.setCell u1 ⟨b, 0, none⟩ (.int .i64 (y : Int)) := ⟨_, rfl⟩
    refine held_skip (w' := u2) rfl rfl (by rw [hu2]; exact r_store1 _ _ rfl rfl rfl hb1 size_one_int (by rw [acA_size]; decide) rfl) ?_
    have hO2 : Only b u1 u2 := by rw [hu2]; exact Only.setCell u1 ⟨b, 0, none⟩ _
    have hb2 : Blk u2 b 79 (acA y x) := by rw [hu2]; have := hb1.set 0 (.int .i64 (y : Int)); rwa [acA_setn] at this
    have hB2 : Blk u2 b7 60 (nonC A n) := hO2.blk (fun e => hb7 e.symm) hB1
    clear hu2 hB1 hb1
    have hC2 : Tch [b7, b] w3 u2 := hC1.only hO2 (.inr (by simp))
    refine ⟨hC2, ?_⟩
    try simp only [Act.put, ppA, ppB, ppC]
    refine wpAnyH_done (by kernel_rfl) ?_ _
    clear hC hC1 hO1 hO2
    have hP2 : PT (fun j => j = b7 ∨ j = b) w u2 := (PT.nil hT).trans (PT.of_tch hC2 (by intro q hq; rcases List.mem_cons.1 hq with rfl | hq; exact .inl (.inl rfl); rcases List.mem_singleton.1 hq with rfl; exact .inl (.inr rfl)))
    obtain ⟨E0, hE0, hEE⟩ := H.out.turn HA.out hP2 (by rintro j (rfl | rfl); exact .inr hO7'; exact .inl rfl) hb2 hbb hFn ⟨HY.out, HO.out.2⟩
    clear hC2
    go_upto_region 6 with (fail)
    try simp only [Act.put, ppA, ppB, ppC]
    refine wp_region_lit ?_
    refine st_x (v := .pointer (some ⟨bS, 0, none⟩)) rfl (x_val _ (.inl rfl) rfl) ?_; try simp only [Act.put, ppA, ppB, ppC]
    refine st_x (v := .pointer (some ⟨b7, 0, none⟩)) rfl (x_fa _ _ _ rfl rfl (fa_n0 _ _)) ?_; try simp only [Act.put, ppA, ppB, ppC]
    refine st_x (v := .agg (av A)) rfl (x_ldIn (n := 20) _ rfl rfl hB2 (arrV_size _ _) (fun j hj => nonC_a A n j hj) addr_tyY rfl addr_sizeY) ?_; try simp only [Act.put, ppA, ppB, ppC]
    refine st_x (v := .pointer (some ⟨b, 0, none⟩)) rfl (x_val _ (.inl rfl) rfl) ?_; try simp only [Act.put, ppA, ppB, ppC]
    refine st_callS (args := #[.pointer (some ⟨bS, 0, none⟩), .agg (av A), .pointer (some ⟨b, 0, none⟩)]) rfl rfl (by simp only [List.map_toArray, List.map_cons, List.map_nil]; rfl) Tryz.call18 (keep_anyM B N u2 bS mv rv k F E0 A b y x hE0 HA.out hb2 hbb.1 hbb.2 ⟨HY.out, HO.out.2⟩ HN.out hFF) ?_
    rintro e w5 ⟨rfl, mv5, F5, g0, g1, g2, g3⟩
    refine ⟨_, rfl, ?_⟩
    try simp only [Act.put, ppA, ppB, ppC]
    refine st_end14 ?_
    rw [hEE] at g1
    have hB5 : Blk w5 b7 60 (nonC A n) := g2.blk hB2 (by
      rintro (e | e | ⟨X, hX, e⟩)
      · have := H.out.blk.lt; omega
      · exact hE0.accne hB2 e
      · have := (H.out.acc X b7 hX e).1.lt; omega)
    have hstep : StepQ B (N + 1) bS mv F rv k (upE E A (y, x)) w w5 := ⟨mv5, F5, g0, g1, ⟨g2.os.trans hP2.os, g2.tape.trans hP2.tape, g2.output.trans hP2.output, Nat.le_trans hP2.size g2.size, fun j hj hn => (g2.block j (Nat.lt_of_lt_of_le hj hP2.size) hn).trans (hP2.block j hj (fun e => e.elim (fun e => by omega) (fun e => hb0.elim (fun g => hn (.inr (.inr ⟨A, HA.out, by rw [g, e]⟩))) (fun g => by omega))))⟩,
      fun j hj => (g3 j hj).elim .inl (fun g => g.elim (fun e => hb0.elim (fun g => .inl (.inr (.inr ⟨A, HA.out, by rw [g, e]⟩))) (fun g => .inr (by rw [e]; exact g))) (fun g => .inr (Nat.le_trans hP2.size g)))⟩
    clear g1 g2 g3 hB2 hE0 hb2 hP2
    go_upto_region 7 with (fail)
    try simp only [Act.put, ppA, ppB, ppC]
    refine wp_region_lit ?_
    refine st_x (v := .agg (nonC A n)) rfl (x_ld _ rfl rfl hB5 non_ty rfl (by rw [nonC_size]; exact non_size)) ?_; try simp only [Act.put, ppA, ppB, ppC]
    refine st_x (v := .iface 60 (.agg (nonC A n))) rfl (x_mkI _ _ rfl rfl (mkN _ _)) ?_; try simp only [Act.put, ppA, ppB, ppC]
    refine st_x (v := .iface 60 (.agg (nonC A n))) rfl (x_val _ (.inr rfl) rfl) ?_; try simp only [Act.put, ppA, ppB, ppC]
    refine st_end14 ?_
    go_wp2
    go_ret
    exact ⟨rfl, hstep⟩
  · refine held_x (v := .int .i64 (y : Int)) rfl rfl (x_cell _ _ rfl rfl (hBu.cell (nonC_n A y)) int_aggS) ⟨hC, ?_⟩
    try simp only [Act.put, ppA, ppB, ppC]
    refine held_one 4 (by kernel_rfl) ?_
    refine held_x (v := .int .i64 (n : Int)) rfl rfl (x_cell _ _ rfl rfl (hbu.cell (acA_n n x)) int_aggS) ⟨hC, ?_⟩
    try simp only [Act.put, ppA, ppB, ppC]
    refine held_in (v := .pointer (some ⟨b7, 20, none⟩)) 7 rfl (by kernel_rfl) (by kernel_rfl) (by kernel_rfl) (fun _ _ _ h => h) hC rfl (fun w' hw' => x_fa _ _ _ rfl rfl (fa_n1 _ _)) ?_; try simp only [Act.put, ppA, ppB, ppC]
    refine held_one 8 (by kernel_rfl) ?_
    obtain ⟨u1, hu1⟩ : ∃ u1, u1 = World.setCell u0 ⟨b7, 20, none⟩ (.int .i64 (n : Int)) := ⟨_, rfl⟩
    refine held_skip (w' := u1) rfl rfl (by rw [hu1]; exact r_store1 _ _ rfl rfl rfl hBu size_one_int (by rw [nonC_size]; decide) rfl) ?_
    have hO1 : Only b7 u0 u1 := by rw [hu1]; exact Only.setCell u0 ⟨b7, 20, none⟩ _
    have hB1 : Blk u1 b7 60 (nonC A n) := by rw [hu1]; have := hBu.set 20 (.int .i64 (n : Int)); rwa [nonC_set] at this
    have hb1 : Blk u1 b 79 (acA n x) := hO1.blk hb7 hbu
    clear hu1 hBu hbu
    have hC1 : Tch [b7, b] w3 u1 := hC.only hO1 (.inr (by simp))
    refine ⟨hC1, ?_⟩
    try simp only [Act.put, ppA, ppB, ppC]
    refine held_in (v := .pointer (some ⟨b, 0, none⟩)) 9 rfl (by kernel_rfl) (by kernel_rfl) (by kernel_rfl) (fun _ _ _ h => h) hC1 rfl (fun w' hw' => x_nilck _ rfl rfl) ?_; try simp only [Act.put, ppA, ppB, ppC]
    refine held_in (v := .pointer (some ⟨b, 0, none⟩)) 10 rfl (by kernel_rfl) (by kernel_rfl) (by kernel_rfl) (fun _ _ _ h => h) hC1 rfl (fun w' hw' => x_fa _ _ _ rfl rfl (fa_a0 _ _)) ?_; try simp only [Act.put, ppA, ppB, ppC]
    refine held_one 11 (by kernel_rfl) ?_
    obtain ⟨u2, hu2⟩ : ∃ u2, u2 = World.setCell u1 ⟨b, 0, none⟩ (.int .i64 (y : Int)) := ⟨_, rfl⟩
    refine held_skip (w' := u2) rfl rfl (by rw [hu2]; exact r_store1 _ _ rfl rfl rfl hb1 size_one_int (by rw [acA_size]; decide) rfl) ?_
    have hO2 : Only b u1 u2 := by rw [hu2]; exact Only.setCell u1 ⟨b, 0, none⟩ _
    have hb2 : Blk u2 b 79 (acA y x) := by rw [hu2]; have := hb1.set 0 (.int .i64 (y : Int)); rwa [acA_setn] at this
    have hB2 : Blk u2 b7 60 (nonC A n) := hO2.blk (fun e => hb7 e.symm) hB1
    clear hu2 hB1 hb1
    have hC2 : Tch [b7, b] w3 u2 := hC1.only hO2 (.inr (by simp))
    refine ⟨hC2, ?_⟩
    try simp only [Act.put, ppA, ppB, ppC]
    refine wpAnyH_done (by kernel_rfl) ?_ _
    clear hC hC1 hO1 hO2
    have hP2 : PT (fun j => j = b7 ∨ j = b) w u2 := (PT.nil hT).trans (PT.of_tch hC2 (by intro q hq; rcases List.mem_cons.1 hq with rfl | hq; exact .inl (.inl rfl); rcases List.mem_singleton.1 hq with rfl; exact .inl (.inr rfl)))
    obtain ⟨E0, hE0, hEE⟩ := H.out.turn HA.out hP2 (by rintro j (rfl | rfl); exact .inr hO7'; exact .inl rfl) hb2 hbb hFn ⟨HY.out, HO.out.2⟩
    clear hC2
    go_upto_region 6 with (fail)
    try simp only [Act.put, ppA, ppB, ppC]
    refine wp_region_lit ?_
    refine st_x (v := .pointer (some ⟨bS, 0, none⟩)) rfl (x_val _ (.inl rfl) rfl) ?_; try simp only [Act.put, ppA, ppB, ppC]
    refine st_x (v := .pointer (some ⟨b7, 0, none⟩)) rfl (x_fa _ _ _ rfl rfl (fa_n0 _ _)) ?_; try simp only [Act.put, ppA, ppB, ppC]
    refine st_x (v := .agg (av A)) rfl (x_ldIn (n := 20) _ rfl rfl hB2 (arrV_size _ _) (fun j hj => nonC_a A n j hj) addr_tyY rfl addr_sizeY) ?_; try simp only [Act.put, ppA, ppB, ppC]
    refine st_x (v := .pointer (some ⟨b, 0, none⟩)) rfl (x_val _ (.inl rfl) rfl) ?_; try simp only [Act.put, ppA, ppB, ppC]
    refine st_callS (args := #[.pointer (some ⟨bS, 0, none⟩), .agg (av A), .pointer (some ⟨b, 0, none⟩)]) rfl rfl (by simp only [List.map_toArray, List.map_cons, List.map_nil]; rfl) Tryz.call18 (keep_anyM B N u2 bS mv rv k F E0 A b y x hE0 HA.out hb2 hbb.1 hbb.2 ⟨HY.out, HO.out.2⟩ HN.out hFF) ?_
    rintro e w5 ⟨rfl, mv5, F5, g0, g1, g2, g3⟩
    refine ⟨_, rfl, ?_⟩
    try simp only [Act.put, ppA, ppB, ppC]
    refine st_end14 ?_
    rw [hEE] at g1
    have hB5 : Blk w5 b7 60 (nonC A n) := g2.blk hB2 (by
      rintro (e | e | ⟨X, hX, e⟩)
      · have := H.out.blk.lt; omega
      · exact hE0.accne hB2 e
      · have := (H.out.acc X b7 hX e).1.lt; omega)
    have hstep : StepQ B (N + 1) bS mv F rv k (upE E A (y, x)) w w5 := ⟨mv5, F5, g0, g1, ⟨g2.os.trans hP2.os, g2.tape.trans hP2.tape, g2.output.trans hP2.output, Nat.le_trans hP2.size g2.size, fun j hj hn => (g2.block j (Nat.lt_of_lt_of_le hj hP2.size) hn).trans (hP2.block j hj (fun e => e.elim (fun e => by omega) (fun e => hb0.elim (fun g => hn (.inr (.inr ⟨A, HA.out, by rw [g, e]⟩))) (fun g => by omega))))⟩,
      fun j hj => (g3 j hj).elim .inl (fun g => g.elim (fun e => hb0.elim (fun g => .inl (.inr (.inr ⟨A, HA.out, by rw [g, e]⟩))) (fun g => .inr (by rw [e]; exact g))) (fun g => .inr (Nat.le_trans hP2.size g)))⟩
    clear g1 g2 g3 hB2 hE0 hb2 hP2
    go_upto_region 7 with (fail)
    try simp only [Act.put, ppA, ppB, ppC]
    refine wp_region_lit ?_
    refine st_x (v := .agg (nonC A n)) rfl (x_ld _ rfl rfl hB5 non_ty rfl (by rw [nonC_size]; exact non_size)) ?_; try simp only [Act.put, ppA, ppB, ppC]
    refine st_x (v := .iface 60 (.agg (nonC A n))) rfl (x_mkI _ _ rfl rfl (mkN _ _)) ?_; try simp only [Act.put, ppA, ppB, ppC]
    refine st_x (v := .iface 60 (.agg (nonC A n))) rfl (x_val _ (.inr rfl) rfl) ?_; try simp only [Act.put, ppA, ppB, ppC]
    refine st_end14 ?_
    go_wp2
    go_ret
    exact ⟨rfl, hstep⟩
end
section
open Go.RowKit Go.WideMaps Go.ChangeMaps Go.MapKept
set_option maxRecDepth 100000
set_option maxHeartbeats 2000000
attribute [local go_sem] Oper.semAt_some
section
variable {F : Fence} {n : Nat} {ops : Array Oper} {rest : List Oper} {o : Oper} {a : Act} {w w' : World} {Q : Exit → Act → World → Prop}
theorem in_x {v : Value} (hF : ∀ f, F.fn f) (hgd : o.guard = none) (hnd : ∀ c, o.op ≠ .defer c) (hr : (execOp a.eval o).run Tryz.prog w = .ok (.value v) w) (h : wpListIn F n Tryz.prog ops Q rest (a.put o.dst v) w) : wpListIn F n Tryz.prog ops Q (o :: rest) a w :=
  wpListIn_plain hgd fun K hK => by
    unfold Oper.wpIn
    refine ⟨fun f _ => hF f, ?_⟩
    rw [Oper.semAt_plain F _ _ hnd, hr]
    exact hK _ _ h
theorem in_run {v : Value} (hF : ∀ f, F.fn f) (hgd : o.guard = none) (hnd : ∀ c, o.op ≠ .defer c) (hr : (execOp a.eval o).run Tryz.prog w = .ok (.value v) w') (h : wpListIn F n Tryz.prog ops Q rest (a.put o.dst v) w') : wpListIn F n Tryz.prog ops Q (o :: rest) a w :=
  wpListIn_plain hgd fun K hK => by
    unfold Oper.wpIn
    refine ⟨fun f _ => hF f, ?_⟩
    rw [Oper.semAt_plain F _ _ hnd, hr]
    exact hK _ _ h
theorem in_skip (hF : ∀ f, F.fn f) (hgd : o.guard = none) (hnd : ∀ c, o.op ≠ .defer c) (hr : (execOp a.eval o).run Tryz.prog w = .ok .skip w') (h : wpListIn F n Tryz.prog ops Q rest (a.put o.dst undef) w') : wpListIn F n Tryz.prog ops Q (o :: rest) a w :=
  wpListIn_plain hgd fun K hK => by
    unfold Oper.wpIn
    refine ⟨fun f _ => hF f, ?_⟩
    rw [Oper.semAt_plain F _ _ hnd, hr]
    exact hK _ _ h
theorem in_call {f : FuncId} {ts : Array TypeId} {xs : Array Operand} {args : Array Value} {R : Ending → World → Prop} (hF : ∀ f, F.fn f) (hd : F.depth = none) (hgd : o.guard = none) (hop : o.op = .call { callee := .value (.func f), args := xs, argTypes := ts }) (ha : xs.map a.eval = args) (hf : ∀ args w, (callFunc f args).run Tryz.prog w = .ok (.enter f args) w)
    (hc : CallsIn F (n - 1) Tryz.prog f args w R) (h : ∀ e w', R e w' → ∃ v, e = .returned v ∧ wpListIn F n Tryz.prog ops Q rest (a.put o.dst v) w') : wpListIn F n Tryz.prog ops Q (o :: rest) a w :=
  wpListIn_plain hgd fun K hK => by
    subst ha
    have hr : (execOp a.eval o).run Tryz.prog w = .ok (.enter f (xs.map a.eval)) w := by unfold execOp; simp [hop, resolve, invoke, hf, show a.eval (.func f) = .func (.func f) #[] #[] from rfl, Deferred.ofValue]
    unfold Oper.wpIn
    refine ⟨fun f _ => hF f, ?_⟩
    rw [Oper.semAt_plain F _ _ (by rw [hop]; intro c hc; cases hc), hr]
    refine ⟨fun h => (by rw [hd] at h; cases h), hc.mono fun e w' hR => ?_⟩
    obtain ⟨v, rfl, hk⟩ := h e w' hR
    exact hK _ _ hk
theorem in_yield {l : Nat} {ts : Array TypeId} {x : Operand} {xs : Array Operand} {args : Array Value} {R : Ending → World → Prop} (hF : ∀ f, F.fn f) (hd : F.depth = none) (hgd : o.guard = none) (hop : o.op = .call { callee := .value x, args := xs, argTypes := ts }) (hx : a.eval x = .func (.yield l) #[] #[]) (ha : xs.map a.eval = args)
    (hy : YieldAt F (n - 1) Tryz.prog l args w R) (h : ∀ e w', R e w' → ∃ v, e = .returned v ∧ wpListIn F n Tryz.prog ops Q rest (a.put o.dst v) w') : wpListIn F n Tryz.prog ops Q (o :: rest) a w :=
  wpListIn_plain hgd fun K hK => by
    subst ha
    obtain ⟨fn, tmps, assign, body, hy, hR⟩ := hy
    have hr : (execOp a.eval o).run Tryz.prog w = .ok (.round l fn tmps assign body) w := by unfold execOp; simp [hop, resolve, invoke, hx, Deferred.ofValue, hy]
    unfold Oper.wpIn
    refine ⟨fun f _ => hF f, ?_⟩
    rw [Oper.semAt_plain F _ _ (by rw [hop]; intro c hc; cases hc), hr]
    refine ⟨fun h => (by rw [hd] at h; cases h), hR.mono fun e w' hR => ?_⟩
    obtain ⟨v, rfl, hk⟩ := h e w' hR
    exact hK _ _ hk
end
section
variable {ops : Array Oper} {rest : List Oper} {o : Oper} {a : Act} {w : World} {Q : Exit → Act → World → Prop}
theorem st_box1 {v : Value} (hgd : o.guard = none) (ty : TypeId) (x : Operand) (ho : o.op = .box ty x) (hx : a.eval x = v) (hv : (Instr.box ty v).run Tryz.prog w = .ok (.pointer (some ⟨w.heap.size, 0, none⟩)) (w.alloc (.cells #[v] ty)))
    (h : ∀ w' b, Tch [] w w' → Blk w' b ty #[v] → w.heap.size ≤ b → wpList Tryz.prog ops Q rest (a.put o.dst (.pointer (some ⟨b, 0, none⟩))) w') : wpList Tryz.prog ops Q (o :: rest) a w := by
  refine st_run hgd ?_ (h _ _ ((Tch.refl _ _).alloc _) (heap_alloc_new w _) (Nat.le_refl _))
  unfold execOp
  simp only [ho, hx, Sem.run_bind, hv, Result.andThen_ok, Sem.run_pure]
end
theorem backwardR (w : World) (g cap : Nat) : Calls Tryz.prog 31 #[.slice (some ⟨g, 0, none⟩) 1 cap] w fun e w' => ∃ b, e = .returned (.func (.func 51) #[] #[.pointer (some ⟨b, 0, none⟩)]) ∧ Blk w' b 44 #[.slice (some ⟨g, 0, none⟩) 1 cap] ∧ w.heap.size ≤ b ∧ Tch [] w w' := by
  go_enter Tryz.func31, Tryz.ntmps31
  go_upto_region 0 with (fail)
  try simp only [Act.put, ppA, ppB, ppC]
  refine wp_region_lit ?_
  refine st_box1 rfl 44 _ rfl rfl rfl ?_
  intro w1 b1 hT hb hl
  try simp only [Act.put, ppA, ppB, ppC]
  refine st_x (v := .nilFunc) rfl (x_val _ (.inr rfl) rfl) ?_; try simp only [Act.put, ppA, ppB, ppC]
  refine st_end14 ?_
  go_upto_region 1 with (fail)
  try simp only [Act.put, ppA, ppB, ppC]
  refine wp_region_lit ?_
  refine st_x (v := .func (.func 51) #[] #[.pointer (some ⟨b1, 0, none⟩)]) rfl (by kernel_rfl) ?_; try simp only [Act.put, ppA, ppB, ppC]
  refine st_x (v := .func (.func 51) #[] #[.pointer (some ⟨b1, 0, none⟩)]) rfl (x_val _ (.inr rfl) rfl) ?_; try simp only [Act.put, ppA, ppB, ppC]
  refine st_end14 ?_
  go_wp2
  go_ret
  exact ⟨b1, rfl, hb, hl, hT⟩
theorem backwardP (w : World) (g cap : Nat) : Calls Tryz.prog 32 #[.slice (some ⟨g, 0, none⟩) 1 cap] w fun e w' => ∃ b, e = .returned (.func (.func 52) #[] #[.pointer (some ⟨b, 0, none⟩)]) ∧ Blk w' b 73 #[.slice (some ⟨g, 0, none⟩) 1 cap] ∧ w.heap.size ≤ b ∧ Tch [] w w' := by
  go_enter Tryz.func32, Tryz.ntmps32
  go_upto_region 0 with (fail)
  try simp only [Act.put, ppA, ppB, ppC]
  refine wp_region_lit ?_
  refine st_box1 rfl 73 _ rfl rfl rfl ?_
  intro w1 b1 hT hb hl
  try simp only [Act.put, ppA, ppB, ppC]
  refine st_x (v := .nilFunc) rfl (x_val _ (.inr rfl) rfl) ?_; try simp only [Act.put, ppA, ppB, ppC]
  refine st_end14 ?_
  go_upto_region 1 with (fail)
  try simp only [Act.put, ppA, ppB, ppC]
  refine wp_region_lit ?_
  refine st_x (v := .func (.func 52) #[] #[.pointer (some ⟨b1, 0, none⟩)]) rfl (by kernel_rfl) ?_; try simp only [Act.put, ppA, ppB, ppC]
  refine st_x (v := .func (.func 52) #[] #[.pointer (some ⟨b1, 0, none⟩)]) rfl (x_val _ (.inr rfl) rfl) ?_; try simp only [Act.put, ppA, ppB, ppC]
  refine st_end14 ?_
  go_wp2
  go_ret
  exact ⟨b1, rfl, hb, hl, hT⟩
end
end Go.Proofs.YtopfmaoeebgjmaaGreatDoor
