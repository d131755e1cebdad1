/- States: what the iterators over one record, one part hand on. -/
import Derived.Test.YtklpcppdjcedpaaST16
namespace Go.Proofs.Ytklpcppdjcedpaa
open Go.RowKit Go.WideMaps Go.ChangeMaps Go.MapKept
set_option linter.unusedVariables false
set_option linter.unusedSimpArgs false
set_option maxRecDepth 100000
set_option maxHeartbeats 2000000
attribute [local go_sem] Oper.semAt_some
theorem part_agg (w : World) : (isAgg 88).run Try.prog w = .ok false w := by kernel_rfl
theorem part_size : (Try.prog.info? 88).map (·.size) = some 1 := by kernel_rfl
theorem x_lenP {o : Oper} {a : Act} {w : World} {p : Option Addr} {n c : Nat} (x : Operand) (ho : o.op = .call { callee := .builtin .len, args := #[x], argTypes := #[71] }) (hx : a.eval x = .slice p n c) : (execOp a.eval o).run Try.prog w = .ok (.value (.int .i64 (n : Int))) w := by
  unfold execOp; simp [ho, resolve, invoke, builtin, hx, Builtin.len_, run_underlying parts_ty, goInt, Result.andThen, Builtin.lenOf]
theorem stopsR (m : Nat) (Bs g cap : Nat) (w : World) (hBs : Blk w Bs 46 #[.slice (some ⟨g, 0, none⟩) 1 cap]) {pv lv : Value} (hR : RecB w g 1 pv lv) : SeqStopsK Fence.wide m Try.prog 54 #[.pointer (some ⟨Bs, 0, none⟩)] (fun _ : Unit => #[.int .i64 0, .agg (recV pv lv)]) (fun _ _ => True) (fun ys => ys = [()]) (fun _ => True) 1 w := by
  intro l J Jx W hW _ _ hY h0
  have hB1 : Blk W Bs 46 #[.slice (some ⟨g, 0, none⟩) 1 cap] := (hW.block Bs hBs.lt).trans hBs
  have hR1 : RecB W g 1 pv lv := by
    obtain ⟨cur, h1, h2⟩ := hR
    exact ⟨cur, (hW.block g h1.lt).trans h1, h2⟩
  refine callsIn_of_wp Try.func54 rfl trivial ?_ rfl
  simp only [Try.ntmps54, List.size_toArray, List.length_cons, List.length_nil, Nat.reduceAdd, Nat.reduceSub, Array.replicate_succ, Array.replicate_zero, List.push_toArray, List.append_toArray, List.nil_append, List.cons_append]
  gi_upto_region 0 with (fail)
  try simp only [Act.put, List.setIfInBounds_toArray, List.set_cons_zero, List.set_cons_succ]
  refine wpIn_wide.2 ?_
  refine wp_region_lit ?_
  refine st_x (v := .slice (some ⟨g, 0, none⟩) 1 cap) rfl (x_cell _ _ rfl rfl (hB1.cell rfl) recs_agg) ?_; try simp only [Act.put, List.setIfInBounds_toArray, List.set_cons_zero, List.set_cons_succ]
  refine st_x (v := .int .i64 1) rfl (x_lenR _ rfl rfl) ?_; try simp only [Act.put, List.setIfInBounds_toArray, List.set_cons_zero, List.set_cons_succ]
  refine st_x (v := .int .i64 0) rfl (by kernel_rfl) ?_; try simp only [Act.put, List.setIfInBounds_toArray, List.set_cons_zero, List.set_cons_succ]
  refine st_x (v := .int .i64 0) rfl (x_val _ (.inr rfl) rfl) ?_; try simp only [Act.put, List.setIfInBounds_toArray, List.set_cons_zero, List.set_cons_succ]
  refine st_end14 ?_
  gi_wp2
  gi_loopw [3] (fun i wr => (i = .int .i64 0 ∧ wr = W) ∨ (i = .int .i64 (-1) ∧ J [()] wr)) (fun i _ => (intOf i + 1).toNat)
  case atStart => exact .inl ⟨rfl, rfl⟩
  case round =>
    obtain ⟨rfl, rfl⟩ | ⟨rfl, hJ⟩ := hrel
    · gi_upto_region 1 with (fail)
      try simp only [Act.put, List.setIfInBounds_toArray, List.set_cons_zero, List.set_cons_succ]
      refine wpIn_wide.2 ?_
      refine wp_region_lit ?_
      refine st_x (v := .int .i64 0) rfl (x_val _ (.inl rfl) rfl) ?_; try simp only [Act.put, List.setIfInBounds_toArray, List.set_cons_zero, List.set_cons_succ]
      refine st_x (v := .bool true) rfl (by kernel_rfl) ?_; try simp only [Act.put, List.setIfInBounds_toArray, List.set_cons_zero, List.set_cons_succ]
      refine st_end14 ?_
      gi_upto_region 3 with (fail)
      try simp only [Act.put, List.setIfInBounds_toArray, List.set_cons_zero, List.set_cons_succ]
      refine wpIn_region_lit ?_
      refine in_x (v := .func (.yield l) #[] #[]) (fun _ => trivial) rfl (by intro c hc; cases hc) (x_val _ (.inl rfl) rfl) ?_; try simp only [Act.put, List.setIfInBounds_toArray, List.set_cons_zero, List.set_cons_succ]
      refine in_x (v := .int .i64 0) (fun _ => trivial) rfl (by intro c hc; cases hc) (x_val _ (.inl rfl) rfl) ?_; try simp only [Act.put, List.setIfInBounds_toArray, List.set_cons_zero, List.set_cons_succ]
      refine in_x (v := .slice (some ⟨g, 0, none⟩) 1 cap) (fun _ => trivial) rfl (by intro c hc; cases hc) (x_cell _ _ rfl rfl (hB1.cell rfl) recs_agg) ?_; try simp only [Act.put, List.setIfInBounds_toArray, List.set_cons_zero, List.set_cons_succ]
      refine in_x (v := .int .i64 0) (fun _ => trivial) rfl (by intro c hc; cases hc) (x_val _ (.inl rfl) rfl) ?_; try simp only [Act.put, List.setIfInBounds_toArray, List.set_cons_zero, List.set_cons_succ]
      refine in_x (v := .pointer (some ⟨g, 0 + 0 * 3, none⟩)) (fun _ => trivial) rfl (by intro c hc; cases hc) (x_idxS _ _ rfl rfl rfl recs_ty rec_size (by decide)) ?_; try simp only [Act.put, List.setIfInBounds_toArray, List.set_cons_zero, List.set_cons_succ]
      refine in_x (v := .agg (recV pv lv)) (fun _ => trivial) rfl (by intro c hc; cases hc) (x_ldMid _ rfl rfl hR1.range rec_ty rfl rec_size) ?_; try simp only [Act.put, List.setIfInBounds_toArray, List.set_cons_zero, List.set_cons_succ]
      refine in_yield (args := #[.int .i64 0, .agg (recV pv lv)]) (fun _ => trivial) rfl rfl rfl rfl (by simp only [List.map_toArray, List.map_cons, List.map_nil]; rfl) (hY [] () _ h0 (by decide)) ?_
      rintro e w3 (⟨rfl, hJ3, _⟩ | ⟨rfl, hJ3⟩)
      · refine ⟨_, rfl, ?_⟩
        try simp only [Act.put, List.setIfInBounds_toArray, List.set_cons_zero, List.set_cons_succ]
        refine in_x (v := .bool false) (fun _ => trivial) rfl (by intro c hc; cases hc) (by kernel_rfl) ?_; try simp only [Act.put, List.setIfInBounds_toArray, List.set_cons_zero, List.set_cons_succ]
        refine wpListIn_nil ?_
        gi_upto_region 2 with (fail)
        try simp only [Act.put, List.setIfInBounds_toArray, List.set_cons_zero, List.set_cons_succ]
        refine wpIn_wide.2 ?_
        refine wp_region_lit ?_
        refine st_x (v := .int .i64 0) rfl (x_val _ (.inl rfl) rfl) ?_; try simp only [Act.put, List.setIfInBounds_toArray, List.set_cons_zero, List.set_cons_succ]
        refine st_x (v := .int .i64 (-1)) rfl (by kernel_rfl) ?_; try simp only [Act.put, List.setIfInBounds_toArray, List.set_cons_zero, List.set_cons_succ]
        refine st_x (v := .int .i64 (-1)) rfl (x_val _ (.inr rfl) rfl) ?_; try simp only [Act.put, List.setIfInBounds_toArray, List.set_cons_zero, List.set_cons_succ]
        refine st_end14 ?_
        gi_wp2
        go_roundw
        case rel => exact .inr ⟨rfl, hJ3⟩
        case measure => decide
      · refine ⟨_, rfl, ?_⟩
        try simp only [Act.put, List.setIfInBounds_toArray, List.set_cons_zero, List.set_cons_succ]
        refine in_x (v := .bool true) (fun _ => trivial) rfl (by intro c hc; cases hc) (by kernel_rfl) ?_; try simp only [Act.put, List.setIfInBounds_toArray, List.set_cons_zero, List.set_cons_succ]
        refine wpListIn_nil ?_
        gi_wp2
        refine bodyPost_ret (results_none rfl _ _ _) rfl ?_
        exact ⟨⟨_, rfl⟩, .inr ⟨_, trivial, hJ3⟩⟩
    · gi_upto_region 1 with (fail)
      try simp only [Act.put, List.setIfInBounds_toArray, List.set_cons_zero, List.set_cons_succ]
      refine wpIn_wide.2 ?_
      refine wp_region_lit ?_
      refine st_x (v := .int .i64 (-1)) rfl (x_val _ (.inl rfl) rfl) ?_; try simp only [Act.put, List.setIfInBounds_toArray, List.set_cons_zero, List.set_cons_succ]
      refine st_x (v := .bool false) rfl (by kernel_rfl) ?_; try simp only [Act.put, List.setIfInBounds_toArray, List.set_cons_zero, List.set_cons_succ]
      refine st_end14 ?_
      gi_wp2
      go_end0
      exact ⟨⟨_, rfl⟩, .inl ⟨_, rfl, hJ⟩⟩
theorem stopsP (m : Nat) (Bs g cap : Nat) (w : World) (hBs : Blk w Bs 71 #[.slice (some ⟨g, 0, none⟩) 1 cap]) (hR : w.cell? ⟨g, 0, none⟩ = some oldP) (hg : g < w.heap.size) : SeqStopsK Fence.wide m Try.prog 55 #[.pointer (some ⟨Bs, 0, none⟩)] (fun _ : Unit => #[.int .i64 0, oldP]) (fun _ _ => True) (fun ys => ys = [()]) (fun _ => True) 1 w := by
  intro l J Jx W hW _ _ hY h0
  have hB1 : Blk W Bs 71 #[.slice (some ⟨g, 0, none⟩) 1 cap] := (hW.block Bs hBs.lt).trans hBs
  have hR1 : W.cell? ⟨g, 0, none⟩ = some oldP := (World.cell?_of_block (hW.block g hg)).trans hR
  refine callsIn_of_wp Try.func55 rfl trivial ?_ rfl
  simp only [Try.ntmps55, List.size_toArray, List.length_cons, List.length_nil, Nat.reduceAdd, Nat.reduceSub, Array.replicate_succ, Array.replicate_zero, List.push_toArray, List.append_toArray, List.nil_append, List.cons_append]
  gi_upto_region 0 with (fail)
  try simp only [Act.put, List.setIfInBounds_toArray, List.set_cons_zero, List.set_cons_succ]
  refine wpIn_wide.2 ?_
  refine wp_region_lit ?_
  refine st_x (v := .slice (some ⟨g, 0, none⟩) 1 cap) rfl (x_cell _ _ rfl rfl (hB1.cell rfl) pa_agg) ?_; try simp only [Act.put, List.setIfInBounds_toArray, List.set_cons_zero, List.set_cons_succ]
  refine st_x (v := .int .i64 1) rfl (x_lenP _ rfl rfl) ?_; try simp only [Act.put, List.setIfInBounds_toArray, List.set_cons_zero, List.set_cons_succ]
  refine st_x (v := .int .i64 0) rfl (by kernel_rfl) ?_; try simp only [Act.put, List.setIfInBounds_toArray, List.set_cons_zero, List.set_cons_succ]
  refine st_x (v := .int .i64 0) rfl (x_val _ (.inr rfl) rfl) ?_; try simp only [Act.put, List.setIfInBounds_toArray, List.set_cons_zero, List.set_cons_succ]
  refine st_end14 ?_
  gi_wp2
  gi_loopw [3] (fun i wr => (i = .int .i64 0 ∧ wr = W) ∨ (i = .int .i64 (-1) ∧ J [()] wr)) (fun i _ => (intOf i + 1).toNat)
  case atStart => exact .inl ⟨rfl, rfl⟩
  case round =>
    obtain ⟨rfl, rfl⟩ | ⟨rfl, hJ⟩ := hrel
    · gi_upto_region 1 with (fail)
      try simp only [Act.put, List.setIfInBounds_toArray, List.set_cons_zero, List.set_cons_succ]
      refine wpIn_wide.2 ?_
      refine wp_region_lit ?_
      refine st_x (v := .int .i64 0) rfl (x_val _ (.inl rfl) rfl) ?_; try simp only [Act.put, List.setIfInBounds_toArray, List.set_cons_zero, List.set_cons_succ]
      refine st_x (v := .bool true) rfl (by kernel_rfl) ?_; try simp only [Act.put, List.setIfInBounds_toArray, List.set_cons_zero, List.set_cons_succ]
      refine st_end14 ?_
      gi_upto_region 3 with (fail)
      try simp only [Act.put, List.setIfInBounds_toArray, List.set_cons_zero, List.set_cons_succ]
      refine wpIn_region_lit ?_
      refine in_x (v := .func (.yield l) #[] #[]) (fun _ => trivial) rfl (by intro c hc; cases hc) (x_val _ (.inl rfl) rfl) ?_; try simp only [Act.put, List.setIfInBounds_toArray, List.set_cons_zero, List.set_cons_succ]
      refine in_x (v := .int .i64 0) (fun _ => trivial) rfl (by intro c hc; cases hc) (x_val _ (.inl rfl) rfl) ?_; try simp only [Act.put, List.setIfInBounds_toArray, List.set_cons_zero, List.set_cons_succ]
      refine in_x (v := .slice (some ⟨g, 0, none⟩) 1 cap) (fun _ => trivial) rfl (by intro c hc; cases hc) (x_cell _ _ rfl rfl (hB1.cell rfl) pa_agg) ?_; try simp only [Act.put, List.setIfInBounds_toArray, List.set_cons_zero, List.set_cons_succ]
      refine in_x (v := .int .i64 0) (fun _ => trivial) rfl (by intro c hc; cases hc) (x_val _ (.inl rfl) rfl) ?_; try simp only [Act.put, List.setIfInBounds_toArray, List.set_cons_zero, List.set_cons_succ]
      refine in_x (v := .pointer (some ⟨g, 0 + 0 * 1, none⟩)) (fun _ => trivial) rfl (by intro c hc; cases hc) (x_idxS _ _ rfl rfl rfl parts_ty part_size (by decide)) ?_; try simp only [Act.put, List.setIfInBounds_toArray, List.set_cons_zero, List.set_cons_succ]
      refine in_x (v := oldP) (fun _ => trivial) rfl (by intro c hc; cases hc) (x_cell _ _ rfl rfl hR1 part_agg) ?_; try simp only [Act.put, List.setIfInBounds_toArray, List.set_cons_zero, List.set_cons_succ]
      refine in_yield (args := #[.int .i64 0, oldP]) (fun _ => trivial) rfl rfl rfl rfl (by simp only [List.map_toArray, List.map_cons, List.map_nil]; rfl) (hY [] () _ h0 (by decide)) ?_
      rintro e w3 (⟨rfl, hJ3, _⟩ | ⟨rfl, hJ3⟩)
      · refine ⟨_, rfl, ?_⟩
        try simp only [Act.put, List.setIfInBounds_toArray, List.set_cons_zero, List.set_cons_succ]
        refine in_x (v := .bool false) (fun _ => trivial) rfl (by intro c hc; cases hc) (by kernel_rfl) ?_; try simp only [Act.put, List.setIfInBounds_toArray, List.set_cons_zero, List.set_cons_succ]
        refine wpListIn_nil ?_
        gi_upto_region 2 with (fail)
        try simp only [Act.put, List.setIfInBounds_toArray, List.set_cons_zero, List.set_cons_succ]
        refine wpIn_wide.2 ?_
        refine wp_region_lit ?_
        refine st_x (v := .int .i64 0) rfl (x_val _ (.inl rfl) rfl) ?_; try simp only [Act.put, List.setIfInBounds_toArray, List.set_cons_zero, List.set_cons_succ]
        refine st_x (v := .int .i64 (-1)) rfl (by kernel_rfl) ?_; try simp only [Act.put, List.setIfInBounds_toArray, List.set_cons_zero, List.set_cons_succ]
        refine st_x (v := .int .i64 (-1)) rfl (x_val _ (.inr rfl) rfl) ?_; try simp only [Act.put, List.setIfInBounds_toArray, List.set_cons_zero, List.set_cons_succ]
        refine st_end14 ?_
        gi_wp2
        go_roundw
        case rel => exact .inr ⟨rfl, hJ3⟩
        case measure => decide
      · refine ⟨_, rfl, ?_⟩
        try simp only [Act.put, List.setIfInBounds_toArray, List.set_cons_zero, List.set_cons_succ]
        refine in_x (v := .bool true) (fun _ => trivial) rfl (by intro c hc; cases hc) (by kernel_rfl) ?_; try simp only [Act.put, List.setIfInBounds_toArray, List.set_cons_zero, List.set_cons_succ]
        refine wpListIn_nil ?_
        gi_wp2
        refine bodyPost_ret (results_none rfl _ _ _) rfl ?_
        exact ⟨⟨_, rfl⟩, .inr ⟨_, trivial, hJ3⟩⟩
    · gi_upto_region 1 with (fail)
      try simp only [Act.put, List.setIfInBounds_toArray, List.set_cons_zero, List.set_cons_succ]
      refine wpIn_wide.2 ?_
      refine wp_region_lit ?_
      refine st_x (v := .int .i64 (-1)) rfl (x_val _ (.inl rfl) rfl) ?_; try simp only [Act.put, List.setIfInBounds_toArray, List.set_cons_zero, List.set_cons_succ]
      refine st_x (v := .bool false) rfl (by kernel_rfl) ?_; try simp only [Act.put, List.setIfInBounds_toArray, List.set_cons_zero, List.set_cons_succ]
      refine st_end14 ?_
      gi_wp2
      go_end0
      exact ⟨⟨_, rfl⟩, .inl ⟨_, rfl, hJ⟩⟩
end Go.Proofs.Ytklpcppdjcedpaa
