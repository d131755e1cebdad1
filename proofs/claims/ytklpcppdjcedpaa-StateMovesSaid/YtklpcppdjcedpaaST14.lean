/- States: the one Mark taken away. -/
import Derived.Test.YtklpcppdjcedpaaST13
import Derived.Test.YtklpcppdjcedpaaST9
namespace Go.Proofs.Ytklpcppdjcedpaa
open Go.RowKit Go.WideMaps Go.ChangeMaps Go.MapKept
set_option linter.unusedVariables false
set_option linter.unusedSimpArgs false
set_option maxRecDepth 100000
set_option maxHeartbeats 2000000
theorem rec_inf : ∃ i, Try.prog.info? 74 = some i ∧ i.size = 3 ∧ i.zero = some (.agg #[.int .i64 0, .slice none 0 0, .map none]) := by
  obtain ⟨i, hi, h⟩ := Option.map_eq_some_iff.1 rec_infos
  injection h with h1 h2
  injection h2 with h2 h3
  exact ⟨i, hi, h2, h1⟩
theorem sld_a (p : Addr) (cap : Nat) (h : 1 ≤ cap) (w : World) : (Instr.sliceAt 46 (.slice (some p) 1 cap) (some (.int .i64 0)) (some (.int .i64 1)) (some (.int .i64 1))).run Try.prog w = .ok (.slice (some p) 1 1) w := by
  obtain ⟨i, hi, hs, hz⟩ := rec_inf
  simp [Instr.sliceAt, Instr.slice, Instr.sliceBounds, Instr.sliceBound, run_underlying recs_ty, Result.andThen, asIntOf, sizeOf, typeInfo, hi, hs, show (1 : Int) ≤ (cap : Int) by omega, Addr.add]
theorem sld_b (p : Addr) (cap : Nat) (w : World) : (Instr.sliceAt 46 (.slice (some p) 1 cap) none (some (.int .i64 0)) none).run Try.prog w = .ok (.slice (some p) 0 cap) w := by
  obtain ⟨i, hi, hs, hz⟩ := rec_inf
  simp [Instr.sliceAt, Instr.slice, Instr.sliceBounds, Instr.sliceBound, run_underlying recs_ty, Result.andThen, asIntOf, sizeOf, typeInfo, hi, hs, Addr.add]
theorem sld_c (p : Addr) (cap : Nat) (h : 1 ≤ cap) (w : World) : (Instr.sliceAt 46 (.slice (some p) 1 cap) (some (.int .i64 1)) none none).run Try.prog w = .ok (.slice (some (if cap = 1 then p else p.add 3)) 0 (cap - 1)) w := by
  obtain ⟨i, hi, hs, hz⟩ := rec_inf
  simp [Instr.sliceAt, Instr.slice, Instr.sliceBounds, Instr.sliceBound, run_underlying recs_ty, Result.andThen, asIntOf, sizeOf, typeInfo, hi, hs, show (1 : Int) ≤ (cap : Int) by omega]
  split <;> rfl
theorem sld_d (p : Addr) (cap : Nat) (h : 1 ≤ cap) (w : World) : (Instr.sliceAt 46 (.slice (some p) 0 cap) (some (.int .i64 0)) (some (.int .i64 1)) none).run Try.prog w = .ok (.slice (some p) 1 cap) w := by
  obtain ⟨i, hi, hs, hz⟩ := rec_inf
  simp [Instr.sliceAt, Instr.slice, Instr.sliceBounds, Instr.sliceBound, run_underlying recs_ty, Result.andThen, asIntOf, sizeOf, typeInfo, hi, hs, show (1 : Int) ≤ (cap : Int) by omega, Addr.add]
theorem appd_0 (ty : TypeId) (p q : Addr) (c d : Nat) (w : World) : (Builtin.append_ #[46, 46] ty #[.slice (some p) 0 c, .slice (some q) 0 d]).run Try.prog w = .ok (.slice (some p) 0 c) w := by
  obtain ⟨i, hi, hs, hz⟩ := rec_inf
  simp [Builtin.append_, run_underlying recs_ty, Result.andThen, sizeOf, typeInfo, hi, hs, Builtin.lenOf, Builtin.firstCells, loadCells, loadCellsFrom, storeCells]
theorem clear_1 {w : World} {g cap : Nat} {cur : Array Value} (hB : Blk w g 74 cur) (hs : 3 ≤ cur.size) : ∃ c', ∀ ty, (Builtin.clear_ #[46] ty #[.slice (some ⟨g, 0, none⟩) 1 cap]).run Try.prog w = .ok (.tuple #[]) (w.setRow g c') := by
  obtain ⟨i, hi, hsz, hz⟩ := rec_inf
  have h := run_storeCells_at (P := Try.prog) g 0 74 [.int .i64 0, .slice none 0 0, .map none] 0 cur w hB (by simpa using hs) (by decide)
  refine ⟨(cur.toList.take (0 + 0) ++ [Value.int .i64 0, Value.slice none 0 0, Value.map none] ++ cur.toList.drop (0 + 0 + [Value.int .i64 0, Value.slice none 0 0, Value.map none].length)).toArray, fun ty => ?_⟩
  simp only [Builtin.clear_, Sem.run_bind, run_underlying recs_ty, Result.andThen_ok]
  simp [zeroValue, typeInfo, hi, hz, Result.andThen, Value.cells, Builtin.zeroCells, show List.range 3 = [0, 1, 2] from rfl, show (storeCells ⟨g, 0, none⟩ [Value.int .i64 0, .slice none 0 0, .map none]).run Try.prog w = _ from h]
section
variable {o : Oper} {a : Act} {w w' : World}
theorem x_sl3 {v u i j k : Value} (ty : TypeId) (x y z t : Operand) (ho : o.op = .slice ty x (some y) (some z) (some t)) (hx : a.eval x = v) (hy : a.eval y = i) (hz : a.eval z = j) (ht : a.eval t = k) (hr : (Instr.sliceAt ty v (some i) (some j) (some k)).run Try.prog w = .ok u w) : (execOp a.eval o).run Try.prog w = .ok (.value u) w := by
  unfold execOp
  simp only [ho, hx, hy, hz, ht, Option.map_none, Option.map_some, Sem.run_bind, hr, Result.andThen_ok, Sem.run_pure]
theorem x_sl2 {v u i j : Value} (ty : TypeId) (x y z : Operand) (ho : o.op = .slice ty x (some y) (some z) none) (hx : a.eval x = v) (hy : a.eval y = i) (hz : a.eval z = j) (hr : (Instr.sliceAt ty v (some i) (some j) none).run Try.prog w = .ok u w) : (execOp a.eval o).run Try.prog w = .ok (.value u) w := by
  unfold execOp
  simp only [ho, hx, hy, hz, Option.map_none, Option.map_some, Sem.run_bind, hr, Result.andThen_ok, Sem.run_pure]
theorem x_app0 {p q : Addr} {c d : Nat} (s x : Operand) (ho : o.op = .call { callee := .builtin .append, args := #[s, x], argTypes := #[46, 46] }) (hs : a.eval s = .slice (some p) 0 c) (hx : a.eval x = .slice (some q) 0 d) : (execOp a.eval o).run Try.prog w = .ok (.value (.slice (some p) 0 c)) w := by
  unfold execOp
  simp only [ho, resolve, invoke, builtin, Sem.run_bind, Sem.run_pure, Result.andThen_ok, List.map_toArray, List.map_cons, List.map_nil, hs, hx, appd_0]
theorem x_clear (s : Operand) (ho : o.op = .call { callee := .builtin .clear, args := #[s], argTypes := #[46] }) {v : Value} (hs : a.eval s = v) (hr : (Builtin.clear_ #[46] o.type #[v]).run Try.prog w = .ok (.tuple #[]) w') : (execOp a.eval o).run Try.prog w = .ok (.value (.tuple #[])) w' := by
  unfold execOp
  simp only [ho, resolve, invoke, builtin, Sem.run_bind, Sem.run_pure, Result.andThen_ok, List.map_toArray, List.map_cons, List.map_nil, hs, hr]
theorem x_lenR {p : Option Addr} {n c : Nat} (x : Operand) (ho : o.op = .call { callee := .builtin .len, args := #[x], argTypes := #[46] }) (hx : a.eval x = .slice p n c) : (execOp a.eval o).run Try.prog w = .ok (.value (.int .i64 (n : Int))) w := by
  unfold execOp; simp [ho, resolve, invoke, builtin, hx, Builtin.len_, run_underlying recs_ty, goInt, Result.andThen, Builtin.lenOf]
end
theorem delete_any (w : World) (g cap : Nat) (pv lv : Value) (h : RecB w g 1 pv lv) (hcap : 1 ≤ cap) : Calls Try.prog 38 #[.slice (some ⟨g, 0, none⟩) 1 cap, .int .i64 0, .int .i64 1] w fun e w' => e = .returned (.slice (some ⟨g, 0, none⟩) 0 cap) ∧ PT (fun j => j = g) w w' := by
  have hq := sld_c ⟨g, 0, none⟩ cap hcap
  generalize (if cap = 1 then (⟨g, 0, none⟩ : Addr) else (⟨g, 0, none⟩ : Addr).add 3) = q at hq
  go_enter Try.func38, Try.ntmps38
  go_upto_region 1 with (fail)
  try simp only [Act.put, List.setIfInBounds_toArray, List.set_cons_zero, List.set_cons_succ]
  refine wp_region_lit ?_
  refine st_x (v := .slice (some ⟨g, 0, none⟩) 1 cap) rfl (x_val _ (.inl rfl) rfl) ?_; try simp only [Act.put, List.setIfInBounds_toArray, List.set_cons_zero, List.set_cons_succ]
  refine st_x (v := .int .i64 0) rfl (x_val _ (.inl rfl) rfl) ?_; try simp only [Act.put, List.setIfInBounds_toArray, List.set_cons_zero, List.set_cons_succ]
  refine st_x (v := .int .i64 1) rfl (x_val _ (.inl rfl) rfl) ?_; try simp only [Act.put, List.setIfInBounds_toArray, List.set_cons_zero, List.set_cons_succ]
  refine st_x (v := .slice (some ⟨g, 0, none⟩) 1 cap) rfl (x_val _ (.inl rfl) rfl) ?_; try simp only [Act.put, List.setIfInBounds_toArray, List.set_cons_zero, List.set_cons_succ]
  refine st_x (v := .int .i64 1) rfl (x_lenR _ rfl rfl) ?_; try simp only [Act.put, List.setIfInBounds_toArray, List.set_cons_zero, List.set_cons_succ]
  refine st_x (v := .slice (some ⟨g, 0, none⟩) 1 1) rfl (x_sl3 _ _ _ _ _ rfl rfl rfl rfl rfl (sld_a _ _ hcap _)) ?_; try simp only [Act.put, List.setIfInBounds_toArray, List.set_cons_zero, List.set_cons_succ]
  refine st_end14 ?_
  go_upto_region 2 with (fail)
  try simp only [Act.put, List.setIfInBounds_toArray, List.set_cons_zero, List.set_cons_succ]
  refine wp_region_lit ?_
  refine st_x (v := .int .i64 0) rfl (x_val _ (.inl rfl) rfl) ?_; try simp only [Act.put, List.setIfInBounds_toArray, List.set_cons_zero, List.set_cons_succ]
  refine st_x (v := .int .i64 1) rfl (x_val _ (.inl rfl) rfl) ?_; try simp only [Act.put, List.setIfInBounds_toArray, List.set_cons_zero, List.set_cons_succ]
  refine st_x (v := .bool false) rfl (by kernel_rfl) ?_; try simp only [Act.put, List.setIfInBounds_toArray, List.set_cons_zero, List.set_cons_succ]
  refine st_end14 ?_
  go_upto_region 4 with (fail)
  try simp only [Act.put, List.setIfInBounds_toArray, List.set_cons_zero, List.set_cons_succ]
  refine wp_region_lit ?_
  refine st_x (v := .slice (some ⟨g, 0, none⟩) 1 cap) rfl (x_val _ (.inl rfl) rfl) ?_; try simp only [Act.put, List.setIfInBounds_toArray, List.set_cons_zero, List.set_cons_succ]
  refine st_x (v := .int .i64 1) rfl (x_lenR _ rfl rfl) ?_; try simp only [Act.put, List.setIfInBounds_toArray, List.set_cons_zero, List.set_cons_succ]
  refine st_x (v := .int .i64 1) rfl (x_val _ (.inr rfl) rfl) ?_; try simp only [Act.put, List.setIfInBounds_toArray, List.set_cons_zero, List.set_cons_succ]
  refine st_end14 ?_
  go_upto_region 5 with (fail)
  try simp only [Act.put, List.setIfInBounds_toArray, List.set_cons_zero, List.set_cons_succ]
  refine wp_region_held_drew (S := fun w' => Tch [] w w') (by kernel_rfl) ((Tch.refl _ _).drew) (fun hC => ?_)
  have hD0 : Tch [] w w.drew := (Tch.refl [] w).drew
  have h0 := h.call hD0
  have hP0 : PT (fun j => j = g) w w.drew := PT.nil hD0
  generalize World.drew w = u0 at hC hD0 h0 hP0 ⊢
  refine held_in (v := .slice (some ⟨g, 0, none⟩) 1 cap) 0 rfl (by kernel_rfl) (by kernel_rfl) (by kernel_rfl) (fun _ _ _ h => h) hC rfl (fun w' hw' => x_val _ (.inl rfl) rfl) ?_; try simp only [Act.put, List.setIfInBounds_toArray, List.set_cons_zero, List.set_cons_succ]
  refine held_in (v := .int .i64 0) 1 rfl (by kernel_rfl) (by kernel_rfl) (by kernel_rfl) (fun _ _ _ h => h) hC rfl (fun w' hw' => x_val _ (.inl rfl) rfl) ?_; try simp only [Act.put, List.setIfInBounds_toArray, List.set_cons_zero, List.set_cons_succ]
  refine held_in (v := .slice (some ⟨g, 0, none⟩) 0 cap) 2 rfl (by kernel_rfl) (by kernel_rfl) (by kernel_rfl) (fun _ _ _ h => h) hC rfl (fun w' hw' => x_slT _ _ _ rfl rfl rfl (sld_b _ _ _)) ?_; try simp only [Act.put, List.setIfInBounds_toArray, List.set_cons_zero, List.set_cons_succ]
  refine held_in (v := .slice (some ⟨g, 0, none⟩) 1 cap) 3 rfl (by kernel_rfl) (by kernel_rfl) (by kernel_rfl) (fun _ _ _ h => h) hC rfl (fun w' hw' => x_val _ (.inl rfl) rfl) ?_; try simp only [Act.put, List.setIfInBounds_toArray, List.set_cons_zero, List.set_cons_succ]
  refine held_in (v := .int .i64 1) 4 rfl (by kernel_rfl) (by kernel_rfl) (by kernel_rfl) (fun _ _ _ h => h) hC rfl (fun w' hw' => x_val _ (.inl rfl) rfl) ?_; try simp only [Act.put, List.setIfInBounds_toArray, List.set_cons_zero, List.set_cons_succ]
  refine held_in (v := .slice (some q) 0 (cap - 1)) 5 rfl (by kernel_rfl) (by kernel_rfl) (by kernel_rfl) (fun _ _ _ h => h) hC rfl (fun w' hw' => x_slF _ _ _ rfl rfl rfl (hq _)) ?_; try simp only [Act.put, List.setIfInBounds_toArray, List.set_cons_zero, List.set_cons_succ]
  refine held_one 6 (by kernel_rfl) ?_
  refine held_run (v := .slice (some ⟨g, 0, none⟩) 0 cap) rfl (by kernel_rfl) (x_app0 _ _ rfl rfl rfl) ?_
  refine ⟨hC, ?_⟩
  try simp only [Act.put, List.setIfInBounds_toArray, List.set_cons_zero, List.set_cons_succ]
  refine held_in (v := .slice (some ⟨g, 0, none⟩) 0 cap) 7 rfl (by kernel_rfl) (by kernel_rfl) (by kernel_rfl) (fun _ _ _ h => h) hC rfl (fun w' hw' => x_val _ (.inr rfl) rfl) ?_; try simp only [Act.put, List.setIfInBounds_toArray, List.set_cons_zero, List.set_cons_succ]
  refine wpAnyH_done (by kernel_rfl) ?_ _
  go_upto_region 6 with (fail)
  try simp only [Act.put, List.setIfInBounds_toArray, List.set_cons_zero, List.set_cons_succ]
  obtain ⟨cur, hB, hsz, _⟩ := h0
  refine wp_region_lit ?_
  refine st_x (v := .slice (some ⟨g, 0, none⟩) 0 cap) rfl (x_val _ (.inl rfl) rfl) ?_; try simp only [Act.put, List.setIfInBounds_toArray, List.set_cons_zero, List.set_cons_succ]
  refine st_x (v := .slice (some ⟨g, 0, none⟩) 0 cap) rfl (x_val _ (.inl rfl) rfl) ?_; try simp only [Act.put, List.setIfInBounds_toArray, List.set_cons_zero, List.set_cons_succ]
  refine st_x (v := .int .i64 0) rfl (x_lenR _ rfl rfl) ?_; try simp only [Act.put, List.setIfInBounds_toArray, List.set_cons_zero, List.set_cons_succ]
  refine st_x (v := .int .i64 1) rfl (x_val _ (.inl rfl) rfl) ?_; try simp only [Act.put, List.setIfInBounds_toArray, List.set_cons_zero, List.set_cons_succ]
  refine st_x (v := .slice (some ⟨g, 0, none⟩) 1 cap) rfl (x_sl2 _ _ _ _ rfl rfl rfl rfl (sld_d _ _ hcap _)) ?_; try simp only [Act.put, List.setIfInBounds_toArray, List.set_cons_zero, List.set_cons_succ]
  obtain ⟨c', hcl⟩ := clear_1 (cap := cap) hB hsz
  refine st_run (v := .tuple #[]) rfl (x_clear _ rfl rfl (hcl _)) ?_
  try simp only [Act.put, List.setIfInBounds_toArray, List.set_cons_zero, List.set_cons_succ]
  have hO := Only.setRow u0 g c'
  generalize World.setRow u0 g c' = u1 at hO ⊢
  clear hcl
  refine st_end14 ?_
  go_upto_region 7 with (fail)
  try simp only [Act.put, List.setIfInBounds_toArray, List.set_cons_zero, List.set_cons_succ]
  refine wp_region_lit ?_
  refine st_x (v := .slice (some ⟨g, 0, none⟩) 0 cap) rfl (x_val _ (.inl rfl) rfl) ?_; try simp only [Act.put, List.setIfInBounds_toArray, List.set_cons_zero, List.set_cons_succ]
  refine st_x (v := .slice (some ⟨g, 0, none⟩) 0 cap) rfl (x_val _ (.inr rfl) rfl) ?_; try simp only [Act.put, List.setIfInBounds_toArray, List.set_cons_zero, List.set_cons_succ]
  refine st_end14 ?_
  go_wp2
  go_ret
  exact ⟨rfl, hP0.trans ⟨hO.os, hO.tape, hO.output, Nat.le_of_eq hO.size.symm, fun j _ hn => hO.block j hn⟩⟩
end Go.Proofs.Ytklpcppdjcedpaa
