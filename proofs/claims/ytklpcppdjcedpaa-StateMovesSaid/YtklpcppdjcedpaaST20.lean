/- States: alive. -/
import Derived.Test.YtklpcppdjcedpaaST19
namespace Go.Proofs.Ytklpcppdjcedpaa
open Go.RowKit Go.WideMaps Go.ChangeMaps Go.MapKept
set_option linter.unusedVariables false
set_option linter.unusedSimpArgs false
set_option maxRecDepth 100000
set_option maxHeartbeats 2000000
theorem cap_of {w : World} {B g cap : Nat} {t : TypeId} {n : Nat} {us : List Value} (h : w.ownsRow B t n (.slice (some ⟨g, 0, none⟩) 1 cap) 1 us) : 1 ≤ cap := by
  obtain ⟨_, ⟨h1, _⟩ | ⟨g', cap', cur, he, hB, hb, hnc, hcm, hsz, htk⟩⟩ := h
  · cases h1
  injection he with e1 _ e3
  omega
theorem tch_of_below {w w' : World} (h : Below w.heap.size w w') : Tch [] w w' := ⟨h.os, h.tape, h.output, h.size, fun k hk _ => h.block k hk⟩
theorem bld_addr0 (w : World) : (Instr.build 23 #[]).run Try.prog w = .ok (.agg (av zA)) w := by kernel_rfl
abbrev E0 : List Nat → Nat × Nat := fun _ => (0, 0)
theorem alive_any (w : World) : Calls Try.prog 4 #[] w fun e w' => e = .returned (.bool true) ∧ Tch [] w w' := by
  go_enter Try.func4, Try.ntmps4
  go_upto_region 1 with (fail)
  try simp only [Act.put, List.setIfInBounds_toArray, List.set_cons_zero, List.set_cons_succ]
  refine wp_region_lit ?_
  refine st_callS (args := #[.slice none 0 0]) rfl rfl (by simp only [List.map_toArray, List.map_cons, List.map_nil]; rfl) Try.call5 (new_nil w) ?_
  rintro e w1 ⟨bS, rfl, hbS, hT1, hB1⟩
  refine ⟨_, rfl, ?_⟩
  try simp only [Act.put, List.setIfInBounds_toArray, List.set_cons_zero, List.set_cons_succ]
  refine st_x (v := .pointer (some ⟨bS, 0, none⟩)) rfl (x_val _ (.inr rfl) rfl) ?_; try simp only [Act.put, List.setIfInBounds_toArray, List.set_cons_zero, List.set_cons_succ]
  refine st_end14 ?_
  have hs1 := StP.none w.heap.size 0 w1 bS 0 hbS hB1
  go_upto_region 2 with (fail)
  try simp only [Act.put, List.setIfInBounds_toArray, List.set_cons_zero, List.set_cons_succ]
  refine wp_region_lit ?_
  refine st_x (v := .pointer (some ⟨bS, 0, none⟩)) rfl (x_val _ (.inl rfl) rfl) ?_; try simp only [Act.put, List.setIfInBounds_toArray, List.set_cons_zero, List.set_cons_succ]
  refine st_x (v := .bool false) rfl (by kernel_rfl) ?_; try simp only [Act.put, List.setIfInBounds_toArray, List.set_cons_zero, List.set_cons_succ]
  refine st_end14 ?_
  go_upto_region 4 with (fail)
  try simp only [Act.put, List.setIfInBounds_toArray, List.set_cons_zero, List.set_cons_succ]
  refine wp_region_lit ?_
  refine st_x (v := .pointer (some ⟨bS, 0, none⟩)) rfl (x_val _ (.inl rfl) rfl) ?_; try simp only [Act.put, List.setIfInBounds_toArray, List.set_cons_zero, List.set_cons_succ]
  refine st_callS (args := #[.pointer (some ⟨bS, 0, none⟩)]) rfl rfl (by simp only [List.map_toArray, List.map_cons, List.map_nil]; rfl) Try.call13 (mark_any w.heap.size 0 w1 bS _ _ _ hs1) ?_
  rintro e w2 ⟨rfl, g, cap, hs2, hown, hP2⟩
  refine ⟨_, rfl, ?_⟩
  try simp only [Act.put, List.setIfInBounds_toArray, List.set_cons_zero, List.set_cons_succ]
  refine st_x (v := .int .i64 1) rfl (x_val _ (.inr rfl) rfl) ?_; try simp only [Act.put, List.setIfInBounds_toArray, List.set_cons_zero, List.set_cons_succ]
  refine st_end14 ?_
  have hR2 := RecB.of hown
  have hcap := cap_of hown
  have hgl := hown.lt g rfl
  have hT2 : Tch [] w w2 := hP2.tch hT1 (fun k hk => by rw [hk]; exact hbS)
  have hg2 : ¬ foot bS (.map none) (fun _ => none) g := fun hf => by have := (hs1.lt hf).2; omega
  have hBg : w.heap.size ≤ g := Nat.le_trans hT1.size hgl.1
  go_upto_region 5 with (fail)
  try simp only [Act.put, List.setIfInBounds_toArray, List.set_cons_zero, List.set_cons_succ]
  refine wp_region_lit ?_
  refine st_x (v := .pointer (some ⟨bS, 0, none⟩)) rfl (x_val _ (.inl rfl) rfl) ?_; try simp only [Act.put, List.setIfInBounds_toArray, List.set_cons_zero, List.set_cons_succ]
  refine st_x (v := .agg (av zA)) rfl (x_bld (vals := #[]) rfl (by simp only [List.map_toArray, List.map_nil]) (bld_addr0 _)) ?_; try simp only [Act.put, List.setIfInBounds_toArray, List.set_cons_zero, List.set_cons_succ]
  refine st_callS (args := #[.pointer (some ⟨bS, 0, none⟩), .agg (av zA), .int .i64 5]) rfl rfl (by simp only [List.map_toArray, List.map_cons, List.map_nil]; rfl) Try.call14 (setNonce5 w.heap.size 0 w2 bS g cap _ _ _ hs2 hR2 hg2 rfl (by decide)) ?_
  rintro e w3 ⟨rfl, mv', FF, gp, cp, rr, hs3, hR3, hcp, hgp, hgpl, hg3, hgp3, hP3⟩
  refine ⟨_, rfl, ?_⟩
  try simp only [Act.put, List.setIfInBounds_toArray, List.set_cons_zero, List.set_cons_succ]
  refine st_end14 ?_
  have hT3 : Tch [] w w3 := hP3.tch hT2 (fun k hk => hk.elim (fun hf => (hs2.lt hf).1) (fun e => by rw [e]; exact hBg))
  have hE5 : upE E0 zA (5, 0) zA = (5, 0) := by simp [upE]
  have hN5 : Calls Try.prog 15 #[.pointer (some ⟨bS, 0, none⟩), .agg (av zA)] w3 fun e w' => e = .returned (.int .i64 5) ∧ Tch [] w3 w' := by
    have := nonce_any _ _ w3 bS _ _ _ _ _ zA hs3 zA_ok
    rw [hE5] at this
    exact this
  go_upto_region 6 with (fail)
  try simp only [Act.put, List.setIfInBounds_toArray, List.set_cons_zero, List.set_cons_succ]
  refine wp_region_lit ?_
  refine st_x (v := .pointer (some ⟨bS, 0, none⟩)) rfl (x_val _ (.inl rfl) rfl) ?_; try simp only [Act.put, List.setIfInBounds_toArray, List.set_cons_zero, List.set_cons_succ]
  refine st_x (v := .agg (av zA)) rfl (x_bld (vals := #[]) rfl (by simp only [List.map_toArray, List.map_nil]) (bld_addr0 _)) ?_; try simp only [Act.put, List.setIfInBounds_toArray, List.set_cons_zero, List.set_cons_succ]
  refine st_callS (args := #[.pointer (some ⟨bS, 0, none⟩), .agg (av zA)]) rfl rfl (by simp only [List.map_toArray, List.map_cons, List.map_nil]; rfl) Try.call15 (hN5) ?_
  rintro e w4 ⟨rfl, hT4⟩
  refine ⟨_, rfl, ?_⟩
  try simp only [Act.put, List.setIfInBounds_toArray, List.set_cons_zero, List.set_cons_succ]
  refine st_x (v := .int .i64 5) rfl (x_val _ (.inr rfl) rfl) ?_; try simp only [Act.put, List.setIfInBounds_toArray, List.set_cons_zero, List.set_cons_succ]
  refine st_end14 ?_
  have hs4 := hs3.call hT4
  have hbk := back_any w.heap.size _ w4 bS g cap gp cp rr mv' FF _ hs4 hE5 (hR3.call hT4) ((World.cell?_of_block (hT4.block gp hgpl (by simp))).trans hcp) (Nat.lt_of_lt_of_le hgpl hT4.size) hg3 hBg hcap (by decide)
  go_upto_region 7 with (fail)
  try simp only [Act.put, List.setIfInBounds_toArray, List.set_cons_zero, List.set_cons_succ]
  refine wp_region_lit ?_
  refine st_x (v := .pointer (some ⟨bS, 0, none⟩)) rfl (x_val _ (.inl rfl) rfl) ?_; try simp only [Act.put, List.setIfInBounds_toArray, List.set_cons_zero, List.set_cons_succ]
  refine st_x (v := .int .i64 1) rfl (x_val _ (.inl rfl) rfl) ?_; try simp only [Act.put, List.setIfInBounds_toArray, List.set_cons_zero, List.set_cons_succ]
  refine st_callS (args := #[.pointer (some ⟨bS, 0, none⟩), .int .i64 1]) rfl rfl (by simp only [List.map_toArray, List.map_cons, List.map_nil]; rfl) Try.call16 (hbk) ?_
  rintro e w5 ⟨rfl, hBl, F2, hs5⟩
  refine ⟨_, rfl, ?_⟩
  try simp only [Act.put, List.setIfInBounds_toArray, List.set_cons_zero, List.set_cons_succ]
  refine st_x (v := .bool true) rfl (x_val _ (.inr rfl) rfl) ?_; try simp only [Act.put, List.setIfInBounds_toArray, List.set_cons_zero, List.set_cons_succ]
  refine st_end14 ?_
  have hT5 : Tch [] w w5 := tch_of_below (by
    have h1 : Below w.heap.size w w4 := below_of_tch (hT3.trans hT4) (Nat.le_refl _)
    exact h1.trans hBl)
  have hE6 : upE (upE E0 zA (5, 0)) zA (0, 0) zA = (0, 0) := by simp [upE]
  have hN0 : Calls Try.prog 15 #[.pointer (some ⟨bS, 0, none⟩), .agg (av zA)] w5 fun e w' => e = .returned (.int .i64 0) ∧ Tch [] w5 w' := by
    have := nonce_any _ _ w5 bS _ _ _ _ _ zA hs5 zA_ok
    rw [hE6] at this
    exact this
  go_upto_region 8 with (fail)
  try simp only [Act.put, List.setIfInBounds_toArray, List.set_cons_zero, List.set_cons_succ]
  refine wp_region_lit ?_
  refine st_x (v := .bool true) rfl (x_val _ (.inl rfl) rfl) ?_; try simp only [Act.put, List.setIfInBounds_toArray, List.set_cons_zero, List.set_cons_succ]
  refine st_x (v := .bool true) rfl (x_val _ (.inl rfl) rfl) ?_; try simp only [Act.put, List.setIfInBounds_toArray, List.set_cons_zero, List.set_cons_succ]
  refine st_xw (v := .int .i64 5) rfl (x_val _ (.inl rfl) rfl) ?_; try simp only [Act.put, List.setIfInBounds_toArray, List.set_cons_zero, List.set_cons_succ]
  refine st_xw (v := .bool true) rfl (by kernel_rfl) ?_; try simp only [Act.put, List.setIfInBounds_toArray, List.set_cons_zero, List.set_cons_succ]
  refine st_x (v := .bool true) rfl (by kernel_rfl) ?_; try simp only [Act.put, List.setIfInBounds_toArray, List.set_cons_zero, List.set_cons_succ]
  refine st_x (v := .bool true) rfl (x_val _ (.inl rfl) rfl) ?_; try simp only [Act.put, List.setIfInBounds_toArray, List.set_cons_zero, List.set_cons_succ]
  refine st_xw (v := .pointer (some ⟨bS, 0, none⟩)) rfl (x_val _ (.inl rfl) rfl) ?_; try simp only [Act.put, List.setIfInBounds_toArray, List.set_cons_zero, List.set_cons_succ]
  refine st_xw (v := .agg (av zA)) rfl (x_bld (vals := #[]) rfl (by simp only [List.map_toArray, List.map_nil]) (bld_addr0 _)) ?_; try simp only [Act.put, List.setIfInBounds_toArray, List.set_cons_zero, List.set_cons_succ]
  refine st_callVw (args := #[.pointer (some ⟨bS, 0, none⟩), .agg (av zA)]) rfl rfl rfl (by simp only [List.map_toArray, List.map_cons, List.map_nil]; rfl) Try.call15 (hN0) ?_
  rintro e w6 ⟨rfl, hT6⟩
  refine ⟨_, rfl, ?_⟩
  try simp only [Act.put, List.setIfInBounds_toArray, List.set_cons_zero, List.set_cons_succ]
  refine st_xw (v := .bool true) rfl (by kernel_rfl) ?_; try simp only [Act.put, List.setIfInBounds_toArray, List.set_cons_zero, List.set_cons_succ]
  refine st_x (v := .bool true) rfl (by kernel_rfl) ?_; try simp only [Act.put, List.setIfInBounds_toArray, List.set_cons_zero, List.set_cons_succ]
  refine st_x (v := .bool true) rfl (x_val _ (.inr rfl) rfl) ?_; try simp only [Act.put, List.setIfInBounds_toArray, List.set_cons_zero, List.set_cons_succ]
  refine st_end14 ?_
  go_wp2
  go_ret
  exact ⟨rfl, hT5.trans hT6⟩
end Go.Proofs.Ytklpcppdjcedpaa
