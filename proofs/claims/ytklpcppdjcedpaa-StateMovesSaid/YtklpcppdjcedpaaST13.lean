/- States: the search among one Mark: at it. -/
import Derived.Test.YtklpcppdjcedpaaST12
namespace Go.Proofs.Ytklpcppdjcedpaa
open Go.RowKit Go.WideMaps Go.ChangeMaps Go.MapKept
set_option linter.unusedVariables false
set_option linter.unusedSimpArgs false
set_option maxRecDepth 100000
set_option maxHeartbeats 2000000
theorem RecB.range {w : World} {g : Nat} {pv lv : Value} (h : RecB w g 1 pv lv) : w.rangeAt g 0 (recV pv lv).toList := fun j v hv => by
  obtain ⟨cur, hB, hs, h0, h1, h2⟩ := h
  rw [Nat.zero_add]
  refine hB.cell ?_
  match j with
  | 0 => rw [h0]; exact hv
  | 1 => rw [h1]; exact hv
  | 2 => rw [h2]; exact hv
  | j + 3 => cases hv
theorem RecB.call {w w' : World} {g : Nat} {n : Int} {pv lv : Value} (h : RecB w g n pv lv) (hT : Tch [] w w') : RecB w' g n pv lv := h.far (PT.nil (S := fun _ => False) hT) (fun h => h)
theorem search_any (w : World) (g cap : Nat) (pv lv : Value) (h : RecB w g 1 pv lv) : Calls Try.prog 32 #[.slice (some ⟨g, 0, none⟩) 1 cap, .int .i64 1, .func (.func 33) #[] #[]] w fun e w' => e = .returned (.tuple #[.int .i64 0, .bool true]) ∧ Tch [] w w' := by
  go_enter Try.func32, Try.ntmps32
  go_upto_region 1 with (fail)
  try simp only [Act.put, List.setIfInBounds_toArray, List.set_cons_zero, List.set_cons_succ]
  refine wp_region_lit ?_
  refine st_x (v := .slice (some ⟨g, 0, none⟩) 1 cap) rfl (x_val _ (.inl rfl) rfl) ?_; try simp only [Act.put, List.setIfInBounds_toArray, List.set_cons_zero, List.set_cons_succ]
  refine st_x (v := .int .i64 1) rfl (x_lenR1 _ rfl rfl) ?_; try simp only [Act.put, List.setIfInBounds_toArray, List.set_cons_zero, List.set_cons_succ]
  refine st_x (v := .int .i64 1) rfl (x_val _ (.inr rfl) rfl) ?_; try simp only [Act.put, List.setIfInBounds_toArray, List.set_cons_zero, List.set_cons_succ]
  refine st_end14 ?_
  go_upto_region 2 with (fail)
  try simp only [Act.put, List.setIfInBounds_toArray, List.set_cons_zero, List.set_cons_succ]
  refine wp_region_lit ?_
  refine st_x (v := .int .i64 1) rfl (x_val _ (.inl rfl) rfl) ?_; try simp only [Act.put, List.setIfInBounds_toArray, List.set_cons_zero, List.set_cons_succ]
  refine st_x (v := .int .i64 0) rfl (x_val _ (.inr rfl) rfl) ?_; try simp only [Act.put, List.setIfInBounds_toArray, List.set_cons_zero, List.set_cons_succ]
  refine st_x (v := .int .i64 1) rfl (x_val _ (.inr rfl) rfl) ?_; try simp only [Act.put, List.setIfInBounds_toArray, List.set_cons_zero, List.set_cons_succ]
  refine st_end14 ?_
  go_wp2
  go_loopw [9, 10] (fun i j wr => i = .int .i64 0 ∧ (j = .int .i64 1 ∨ j = .int .i64 0) ∧ Tch [] w wr) (fun _ j _ => (intOf j).toNat)
  case atStart => exact ⟨rfl, .inl rfl, Tch.refl _ _⟩
  case round =>
    obtain ⟨rfl, hj, hT⟩ := hrel
    have hR := h.call hT
    obtain rfl | rfl := hj
    · go_upto_region 3 with (fail)
      try simp only [Act.put, List.setIfInBounds_toArray, List.set_cons_zero, List.set_cons_succ]
      refine wp_region_lit ?_
      refine st_x (v := .int .i64 0) rfl (x_val _ (.inl rfl) rfl) ?_; try simp only [Act.put, List.setIfInBounds_toArray, List.set_cons_zero, List.set_cons_succ]
      refine st_x (v := .int .i64 1) rfl (x_val _ (.inl rfl) rfl) ?_; try simp only [Act.put, List.setIfInBounds_toArray, List.set_cons_zero, List.set_cons_succ]
      refine st_x (v := .bool true) rfl (by kernel_rfl) ?_; try simp only [Act.put, List.setIfInBounds_toArray, List.set_cons_zero, List.set_cons_succ]
      refine st_end14 ?_
      go_upto_region 4 with (fail)
      try simp only [Act.put, List.setIfInBounds_toArray, List.set_cons_zero, List.set_cons_succ]
      refine wp_region_lit ?_
      refine st_x (v := .int .i64 0) rfl (x_val _ (.inl rfl) rfl) ?_; try simp only [Act.put, List.setIfInBounds_toArray, List.set_cons_zero, List.set_cons_succ]
      refine st_x (v := .int .i64 1) rfl (x_val _ (.inl rfl) rfl) ?_; try simp only [Act.put, List.setIfInBounds_toArray, List.set_cons_zero, List.set_cons_succ]
      refine st_x (v := .int .i64 1) rfl (by kernel_rfl) ?_; try simp only [Act.put, List.setIfInBounds_toArray, List.set_cons_zero, List.set_cons_succ]
      refine st_x (v := .int .u64 1) rfl (by kernel_rfl) ?_; try simp only [Act.put, List.setIfInBounds_toArray, List.set_cons_zero, List.set_cons_succ]
      refine st_x (v := .int .u64 0) rfl (by kernel_rfl) ?_; try simp only [Act.put, List.setIfInBounds_toArray, List.set_cons_zero, List.set_cons_succ]
      refine st_x (v := .int .i64 0) rfl (by kernel_rfl) ?_; try simp only [Act.put, List.setIfInBounds_toArray, List.set_cons_zero, List.set_cons_succ]
      refine st_x (v := .int .i64 0) rfl (x_val _ (.inr rfl) rfl) ?_; try simp only [Act.put, List.setIfInBounds_toArray, List.set_cons_zero, List.set_cons_succ]
      refine st_end14 ?_
      go_upto_region 5 with (fail)
      try simp only [Act.put, List.setIfInBounds_toArray, List.set_cons_zero, List.set_cons_succ]
      refine wp_region_lit ?_
      refine st_x (v := .func (.func 33) #[] #[]) rfl (x_val _ (.inl rfl) rfl) ?_; try simp only [Act.put, List.setIfInBounds_toArray, List.set_cons_zero, List.set_cons_succ]
      refine st_x (v := .slice (some ⟨g, 0, none⟩) 1 cap) rfl (x_val _ (.inl rfl) rfl) ?_; try simp only [Act.put, List.setIfInBounds_toArray, List.set_cons_zero, List.set_cons_succ]
      refine st_x (v := .int .i64 0) rfl (x_val _ (.inl rfl) rfl) ?_; try simp only [Act.put, List.setIfInBounds_toArray, List.set_cons_zero, List.set_cons_succ]
      refine st_x (v := .pointer (some ⟨g, 0 + 0 * 3, none⟩)) rfl (x_idxS _ _ rfl rfl rfl recs_ty rec_size (by decide)) ?_; try simp only [Act.put, List.setIfInBounds_toArray, List.set_cons_zero, List.set_cons_succ]
      refine st_x (v := .agg (recV pv lv)) rfl (x_ldMid _ rfl rfl hR.range rec_ty rfl rec_size) ?_; try simp only [Act.put, List.setIfInBounds_toArray, List.set_cons_zero, List.set_cons_succ]
      refine st_x (v := .int .i64 1) rfl (x_val _ (.inl rfl) rfl) ?_; try simp only [Act.put, List.setIfInBounds_toArray, List.set_cons_zero, List.set_cons_succ]
      refine st_callVw (args := #[.agg (recV pv lv), .int .i64 1]) rfl rfl rfl (by simp only [List.map_toArray, List.map_cons, List.map_nil]; rfl) Try.call33 (back1_any pv lv _) ?_
      rintro e w2 ⟨rfl, hT2⟩
      refine ⟨_, rfl, ?_⟩
      try simp only [Act.put, List.setIfInBounds_toArray, List.set_cons_zero, List.set_cons_succ]
      refine st_x (v := .bool false) rfl (by kernel_rfl) ?_; try simp only [Act.put, List.setIfInBounds_toArray, List.set_cons_zero, List.set_cons_succ]
      refine st_end14 ?_
      go_upto_region 7 with (fail)
      try simp only [Act.put, List.setIfInBounds_toArray, List.set_cons_zero, List.set_cons_succ]
      refine wp_region_lit ?_
      refine st_x (v := .int .i64 0) rfl (x_val _ (.inl rfl) rfl) ?_; try simp only [Act.put, List.setIfInBounds_toArray, List.set_cons_zero, List.set_cons_succ]
      refine st_x (v := .int .i64 0) rfl (x_val _ (.inr rfl) rfl) ?_; try simp only [Act.put, List.setIfInBounds_toArray, List.set_cons_zero, List.set_cons_succ]
      refine st_end14 ?_
      go_wp2
      go_roundw
      case rel => exact ⟨rfl, .inr rfl, hT.trans hT2⟩
      case measure => decide
    · go_upto_region 3 with (fail)
      try simp only [Act.put, List.setIfInBounds_toArray, List.set_cons_zero, List.set_cons_succ]
      refine wp_region_lit ?_
      refine st_x (v := .int .i64 0) rfl (x_val _ (.inl rfl) rfl) ?_; try simp only [Act.put, List.setIfInBounds_toArray, List.set_cons_zero, List.set_cons_succ]
      refine st_x (v := .int .i64 0) rfl (x_val _ (.inl rfl) rfl) ?_; try simp only [Act.put, List.setIfInBounds_toArray, List.set_cons_zero, List.set_cons_succ]
      refine st_x (v := .bool false) rfl (by kernel_rfl) ?_; try simp only [Act.put, List.setIfInBounds_toArray, List.set_cons_zero, List.set_cons_succ]
      refine st_end14 ?_
      go_upto_region 8 with (fail)
      try simp only [Act.put, List.setIfInBounds_toArray, List.set_cons_zero, List.set_cons_succ]
      refine wp_region_lit ?_
      refine st_x (v := .int .i64 0) rfl (x_val _ (.inl rfl) rfl) ?_; try simp only [Act.put, List.setIfInBounds_toArray, List.set_cons_zero, List.set_cons_succ]
      refine st_x (v := .int .i64 0) rfl (x_val _ (.inl rfl) rfl) ?_; try simp only [Act.put, List.setIfInBounds_toArray, List.set_cons_zero, List.set_cons_succ]
      refine st_x (v := .int .i64 1) rfl (x_val _ (.inl rfl) rfl) ?_; try simp only [Act.put, List.setIfInBounds_toArray, List.set_cons_zero, List.set_cons_succ]
      refine st_x (v := .bool true) rfl (by kernel_rfl) ?_; try simp only [Act.put, List.setIfInBounds_toArray, List.set_cons_zero, List.set_cons_succ]
      refine st_x (v := .bool true) rfl (x_val _ (.inl rfl) rfl) ?_; try simp only [Act.put, List.setIfInBounds_toArray, List.set_cons_zero, List.set_cons_succ]
      refine st_xw (v := .func (.func 33) #[] #[]) rfl (x_val _ (.inl rfl) rfl) ?_; try simp only [Act.put, List.setIfInBounds_toArray, List.set_cons_zero, List.set_cons_succ]
      refine st_xw (v := .slice (some ⟨g, 0, none⟩) 1 cap) rfl (x_val _ (.inl rfl) rfl) ?_; try simp only [Act.put, List.setIfInBounds_toArray, List.set_cons_zero, List.set_cons_succ]
      refine st_xw (v := .int .i64 0) rfl (x_val _ (.inl rfl) rfl) ?_; try simp only [Act.put, List.setIfInBounds_toArray, List.set_cons_zero, List.set_cons_succ]
      refine st_xw (v := .pointer (some ⟨g, 0 + 0 * 3, none⟩)) rfl (x_idxS _ _ rfl rfl rfl recs_ty rec_size (by decide)) ?_; try simp only [Act.put, List.setIfInBounds_toArray, List.set_cons_zero, List.set_cons_succ]
      refine st_xw (v := .agg (recV pv lv)) rfl (x_ldMid _ rfl rfl hR.range rec_ty rfl rec_size) ?_; try simp only [Act.put, List.setIfInBounds_toArray, List.set_cons_zero, List.set_cons_succ]
      refine st_xw (v := .int .i64 1) rfl (x_val _ (.inl rfl) rfl) ?_; try simp only [Act.put, List.setIfInBounds_toArray, List.set_cons_zero, List.set_cons_succ]
      refine st_callVw (args := #[.agg (recV pv lv), .int .i64 1]) rfl rfl rfl (by simp only [List.map_toArray, List.map_cons, List.map_nil]; rfl) Try.call33 (back1_any pv lv _) ?_
      rintro e w2 ⟨rfl, hT2⟩
      refine ⟨_, rfl, ?_⟩
      try simp only [Act.put, List.setIfInBounds_toArray, List.set_cons_zero, List.set_cons_succ]
      refine st_xw (v := .bool true) rfl (by kernel_rfl) ?_; try simp only [Act.put, List.setIfInBounds_toArray, List.set_cons_zero, List.set_cons_succ]
      refine st_x (v := .bool true) rfl (by kernel_rfl) ?_; try simp only [Act.put, List.setIfInBounds_toArray, List.set_cons_zero, List.set_cons_succ]
      refine st_x (v := .int .i64 0) rfl (x_val _ (.inr rfl) rfl) ?_; try simp only [Act.put, List.setIfInBounds_toArray, List.set_cons_zero, List.set_cons_succ]
      refine st_x (v := .bool true) rfl (x_val _ (.inr rfl) rfl) ?_; try simp only [Act.put, List.setIfInBounds_toArray, List.set_cons_zero, List.set_cons_succ]
      refine st_end14 ?_
      go_wp2
      go_ret2
      exact ⟨rfl, hT.trans hT2⟩
end Go.Proofs.Ytklpcppdjcedpaa
