/- States of nothing: New, NewState. -/
import Derived.Test.YtklpcppdjcedpaaDT4
namespace Go.Proofs.Ytklpcppdjcedpaa
open Go.RowKit Go.WideMaps Go.ChangeMaps Go.MapKept
set_option linter.unusedVariables false
set_option linter.unusedSimpArgs false
set_option maxRecDepth 100000
set_option maxHeartbeats 1000000
theorem bld_state (w : World) : (Instr.build 48 #[]).run Try.prog w = .ok (.agg #[.map none, .slice none 0 0, .int .i64 0]) w := by kernel_rfl
theorem bld_doc (w : World) : (Instr.build 54 #[]).run Try.prog w = .ok (.agg #[.slice none 0 0, .slice none 0 0, .int .i64 0]) w := by kernel_rfl
theorem StP.none (B N : Nat) (w : World) (bS : Nat) (k : Int) (hB : B ≤ bS) (h : Blk w bS 48 #[.map none, .slice none 0 0, .int .i64 k]) : StP B N w bS (.map none) (.slice none 0 0) k (fun _ => none) (fun _ => (0, 0)) :=
  ⟨h, hB, .inl ⟨rfl, fun _ => rfl⟩, fun _ _ _ h => (by cases h), fun _ _ _ => rfl, fun _ _ _ _ _ h => (by cases h), fun _ _ => ⟨by decide, M256_pos⟩⟩
theorem DocP.none (B : Nat) (w : World) (bR : Nat) (hB : B ≤ bR) (h : Blk w bR 54 #[.slice none 0 0, .slice none 0 0, .int .i64 0]) : DocP B w bR (.slice none 0 0) [] :=
  ⟨h, ⟨rfl, .inl ⟨rfl, rfl⟩⟩, by simp [Value.ownBlock], hB, fun p hp => (by cases hp), .nil, by simp⟩
theorem new_nil (w : World) : Calls Try.prog 5 #[.slice none 0 0] w fun e w' => ∃ b, e = .returned (.pointer (some ⟨b, 0, none⟩)) ∧ w.heap.size ≤ b ∧ Tch [] w w' ∧ Blk w' b 48 #[.map none, .slice none 0 0, .int .i64 0] := by
  have hS := St.start w
  go_enter Try.func5, Try.ntmps5
  go_upto_region 1 with (fail)
  try simp only [Act.put, List.setIfInBounds_toArray, List.set_cons_zero, List.set_cons_succ]
  refine wp_region_lit ?_
  refine st_x (v := .agg #[.map none, .slice none 0 0, .int .i64 0]) rfl (x_bld (vals := #[]) rfl (by simp only [List.map_toArray, List.map_nil]) (bld_state _)) ?_; try simp only [Act.put, List.setIfInBounds_toArray, List.set_cons_zero, List.set_cons_succ]
  refine st_box hS rfl 48 _ rfl rfl ?_; clear hS; intro w1 b hS; try simp only [Act.put, List.setIfInBounds_toArray, List.set_cons_zero, List.set_cons_succ]
  refine st_x (v := .pointer (some ⟨b, 0, none⟩)) rfl (x_val _ (.inr rfl) rfl) ?_; try simp only [Act.put, List.setIfInBounds_toArray, List.set_cons_zero, List.set_cons_succ]
  refine st_end14 ?_
  go_upto_region 2 with (fail)
  try simp only [Act.put, List.setIfInBounds_toArray, List.set_cons_zero, List.set_cons_succ]
  refine wp_region_lit ?_
  refine st_x (v := .slice none 0 0) rfl (x_val _ (.inl rfl) rfl) ?_; try simp only [Act.put, List.setIfInBounds_toArray, List.set_cons_zero, List.set_cons_succ]
  refine st_x (v := .int .i64 0) rfl (x_lenA (p := none) (n := 0) (c := 0) _ rfl rfl) ?_; try simp only [Act.put, List.setIfInBounds_toArray, List.set_cons_zero, List.set_cons_succ]
  refine st_x (v := .int .i64 0) rfl (x_val _ (.inl rfl) rfl) ?_; try simp only [Act.put, List.setIfInBounds_toArray, List.set_cons_zero, List.set_cons_succ]
  refine st_end14 ?_
  go_wp2
  go_loopw [10] (fun i wr => i = .int .i64 0 ∧ wr = w1) (fun _ _ => 0)
  case atStart => exact ⟨rfl, rfl⟩
  case round =>
    obtain ⟨rfl, rfl⟩ := hrel
    go_wp2
    go_ret
    exact ⟨b, rfl, hS.le .head, hS.frame, hS.get .head⟩
theorem rnew_nil (w : World) : Calls Try.prog 6 #[.slice none 0 0] w fun e w' => ∃ b, e = .returned (.pointer (some ⟨b, 0, none⟩)) ∧ w.heap.size ≤ b ∧ Tch [] w w' ∧ Blk w' b 54 #[.slice none 0 0, .slice none 0 0, .int .i64 0] := by
  have hS := St.start w
  go_enter Try.func6, Try.ntmps6
  go_upto_region 1 with (fail)
  try simp only [Act.put, List.setIfInBounds_toArray, List.set_cons_zero, List.set_cons_succ]
  refine wp_region_lit ?_
  refine st_x (v := .agg #[.slice none 0 0, .slice none 0 0, .int .i64 0]) rfl (x_bld (vals := #[]) rfl (by simp only [List.map_toArray, List.map_nil]) (bld_doc _)) ?_; try simp only [Act.put, List.setIfInBounds_toArray, List.set_cons_zero, List.set_cons_succ]
  refine st_box hS rfl 54 _ rfl rfl ?_; clear hS; intro w1 b hS; try simp only [Act.put, List.setIfInBounds_toArray, List.set_cons_zero, List.set_cons_succ]
  refine st_x (v := .pointer (some ⟨b, 0, none⟩)) rfl (x_val _ (.inr rfl) rfl) ?_; try simp only [Act.put, List.setIfInBounds_toArray, List.set_cons_zero, List.set_cons_succ]
  refine st_end14 ?_
  go_wp2
  go_loopw [4] (fun i wr => i = .int .i64 0 ∧ wr = w1) (fun _ _ => 0)
  case atStart => exact ⟨rfl, rfl⟩
  case round =>
    obtain ⟨rfl, rfl⟩ := hrel
    go_wp2
    go_ret
    exact ⟨b, rfl, hS.le .head, hS.frame, hS.get .head⟩
end Go.Proofs.Ytklpcppdjcedpaa
