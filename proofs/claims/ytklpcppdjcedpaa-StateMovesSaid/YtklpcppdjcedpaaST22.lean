/- StateMoves, walked. -/
import Derived.Test.YtklpcppdjcedpaaST21
namespace Go.Proofs.Ytklpcppdjcedpaa
open Go.RowKit Go.WideMaps Go.ChangeMaps Go.MapKept
set_option linter.unusedVariables false
set_option linter.unusedSimpArgs false
set_option maxRecDepth 100000
set_option maxHeartbeats 4000000
theorem eqBool_self (m : Bool) (w : World) : (binOp .eql 4 (.bool m) (.bool m)).run Try.prog w = .ok (.bool true) w := by cases m <;> kernel_rfl
theorem moves_walk (A T : List Nat) (x y z : Nat) (W : World) (hA : Ad A) (hT : Ad T) (hx : x < M256) (hy : y < M256) (hz : z < M256) :
    Calls Try.prog 3 #[.agg (av A), .agg (av T), .agg (wcells x), .agg (wcells y), .agg (wcells z)] W fun e w' => e = .returned (.bool true) ∧ Tch [] W w' := by
  have hS := St.start W
  go_enter Try.func3, Try.ntmps3
  go_upto_region 0 with (fail)
  try simp only [Act.put, List.setIfInBounds_toArray, List.set_cons_zero, List.set_cons_succ]
  refine wp_region_lit ?_
  refine st_box hS rfl 23 _ rfl rfl ?_; clear hS; intro w1 b1 hS; try simp only [Act.put, List.setIfInBounds_toArray, List.set_cons_zero, List.set_cons_succ]
  refine st_box hS rfl 23 _ rfl rfl ?_; clear hS; intro w2 b2 hS; try simp only [Act.put, List.setIfInBounds_toArray, List.set_cons_zero, List.set_cons_succ]
  refine st_box hS rfl 25 _ rfl rfl ?_; clear hS; intro w3 b3 hS; try simp only [Act.put, List.setIfInBounds_toArray, List.set_cons_zero, List.set_cons_succ]
  refine st_box hS rfl 25 _ rfl rfl ?_; clear hS; intro w4 b4 hS; try simp only [Act.put, List.setIfInBounds_toArray, List.set_cons_zero, List.set_cons_succ]
  refine st_box hS rfl 25 _ rfl rfl ?_; clear hS; intro w5 b5 hS; try simp only [Act.put, List.setIfInBounds_toArray, List.set_cons_zero, List.set_cons_succ]
  refine st_x (v := .bool false) rfl (x_val _ (.inr rfl) rfl) ?_; try simp only [Act.put, List.setIfInBounds_toArray, List.set_cons_zero, List.set_cons_succ]
  refine st_end14 ?_
  have G1 : Blk w5 b1 23 (av A) := hS.get (.tail (.tail (.tail (.tail .head))))
  have G2 : Blk w5 b2 23 (av T) := hS.get (.tail (.tail (.tail .head)))
  have G3 : Blk w5 b3 25 (wcells x) := hS.get (.tail (.tail .head))
  have G4 : Blk w5 b4 25 (wcells y) := hS.get (.tail .head)
  have G5 : Blk w5 b5 25 (wcells z) := hS.get .head
  have F1 : ∀ u, Below w5.heap.size w5 u → Blk u b1 23 (av A) := fun u hu => below_blk hu G1 G1.lt
  have F2 : ∀ u, Below w5.heap.size w5 u → Blk u b2 23 (av T) := fun u hu => below_blk hu G2 G2.lt
  have F3 : ∀ u, Below w5.heap.size w5 u → Blk u b3 25 (wcells x) := fun u hu => below_blk hu G3 G3.lt
  have F4 : ∀ u, Below w5.heap.size w5 u → Blk u b4 25 (wcells y) := fun u hu => below_blk hu G4 G4.lt
  have F5 : ∀ u, Below w5.heap.size w5 u → Blk u b5 25 (wcells z) := fun u hu => below_blk hu G5 G5.lt
  have hW5 : Tch [] W w5 := hS.frame
  clear hS
  go_upto_region 1 with (fail)
  try simp only [Act.put, List.setIfInBounds_toArray, List.set_cons_zero, List.set_cons_succ]
  refine wp_region_lit ?_
  refine st_callS (args := #[]) rfl rfl (by simp only [List.map_toArray, List.map_nil]) Try.call4 (alive_any w5) ?_
  rintro e w6 ⟨rfl, hT6⟩
  refine ⟨_, rfl, ?_⟩
  try simp only [Act.put, List.setIfInBounds_toArray, List.set_cons_zero, List.set_cons_succ]
  refine st_x (v := .bool true) rfl (x_val _ (.inr rfl) rfl) ?_; try simp only [Act.put, List.setIfInBounds_toArray, List.set_cons_zero, List.set_cons_succ]
  refine st_end14 ?_
  have B6 : Below w5.heap.size w5 w6 := below_of_tch hT6 (Nat.le_refl _)
  go_upto_region 2 with (fail)
  try simp only [Act.put, List.setIfInBounds_toArray, List.set_cons_zero, List.set_cons_succ]
  refine wp_region_lit ?_
  refine st_callS (args := #[.slice none 0 0]) rfl rfl (by simp only [List.map_toArray, List.map_cons, List.map_nil]; rfl) Try.call5 (new_nil w6) ?_
  rintro e w7 ⟨bS, rfl, hbS, hT7, hB7⟩
  refine ⟨_, rfl, ?_⟩
  try simp only [Act.put, List.setIfInBounds_toArray, List.set_cons_zero, List.set_cons_succ]
  refine st_x (v := .pointer (some ⟨bS, 0, none⟩)) rfl (x_val _ (.inr rfl) rfl) ?_; try simp only [Act.put, List.setIfInBounds_toArray, List.set_cons_zero, List.set_cons_succ]
  refine st_end14 ?_
  have B7 : Below w5.heap.size w5 w7 := B6.trans (below_of_tch hT7 B6.size)
  go_upto_region 3 with (fail)
  try simp only [Act.put, List.setIfInBounds_toArray, List.set_cons_zero, List.set_cons_succ]
  refine wp_region_lit ?_
  refine st_callS (args := #[.slice none 0 0]) rfl rfl (by simp only [List.map_toArray, List.map_cons, List.map_nil]; rfl) Try.call6 (rnew_nil w7) ?_
  rintro e w8 ⟨bR, rfl, hbR, hT8, hB8⟩
  refine ⟨_, rfl, ?_⟩
  try simp only [Act.put, List.setIfInBounds_toArray, List.set_cons_zero, List.set_cons_succ]
  refine st_x (v := .pointer (some ⟨bR, 0, none⟩)) rfl (x_val _ (.inr rfl) rfl) ?_; try simp only [Act.put, List.setIfInBounds_toArray, List.set_cons_zero, List.set_cons_succ]
  refine st_end14 ?_
  have B8 : Below w5.heap.size w5 w8 := B7.trans (below_of_tch hT8 B7.size)
  have T8 : Two w5.heap.size 0 w8 bS bR (EL []) [] := ⟨.map none, fun _ => none, .slice none 0 0, StP.none _ 0 w8 bS 0 (Nat.le_trans B6.size hbS) (hT8.blk hB7 (by simp)), DocP.none _ w8 bR (Nat.le_trans B7.size hbR) hB8, fun j hj hd => by
    rcases hj with rfl | hj | ⟨X, _, hX⟩
    · rcases hd with e | hd
      · have := hB7.lt; omega
      · cases hd
    · cases hj
    · cases hX⟩
  clear hB7 hB8 hT6 hT7 hT8 hbS hbR G1 G2 G3 G4 G5
  go_upto_region 4 with (fail)
  try simp only [Act.put, List.setIfInBounds_toArray, List.set_cons_zero, List.set_cons_succ]
  refine wp_region_lit ?_
  refine st_x (v := .pointer (some ⟨bS, 0, none⟩)) rfl (x_val _ (.inl rfl) rfl) ?_; try simp only [Act.put, List.setIfInBounds_toArray, List.set_cons_zero, List.set_cons_succ]
  refine st_x (v := .agg (av A)) rfl (x_ld _ rfl rfl (F1 _ B8) addr_tyY rfl (by rw [arrV_size]; exact addr_sizeY)) ?_; try simp only [Act.put, List.setIfInBounds_toArray, List.set_cons_zero, List.set_cons_succ]
  refine st_x (v := .agg (wcells x)) rfl (x_ld _ rfl rfl (F3 _ B8) wordN_type rfl (by rw [wc_size]; exact wordN_size)) ?_; try simp only [Act.put, List.setIfInBounds_toArray, List.set_cons_zero, List.set_cons_succ]
  refine st_callS (args := #[.pointer (some ⟨bS, 0, none⟩), .agg (av A), .agg (wcells x)]) rfl rfl (by simp only [List.map_toArray, List.map_cons, List.map_nil]; rfl) Try.call7 (T8.setS A x hA (by decide) hx) ?_
  rintro e w9 ⟨rfl, T9, hb9⟩
  refine ⟨_, rfl, ?_⟩
  try simp only [Act.put, List.setIfInBounds_toArray, List.set_cons_zero, List.set_cons_succ]
  refine st_end14 ?_
  have B9 := B8.trans hb9
  go_upto_region 5 with (fail)
  try simp only [Act.put, List.setIfInBounds_toArray, List.set_cons_zero, List.set_cons_succ]
  refine wp_region_lit ?_
  refine st_x (v := .pointer (some ⟨bR, 0, none⟩)) rfl (x_val _ (.inl rfl) rfl) ?_; try simp only [Act.put, List.setIfInBounds_toArray, List.set_cons_zero, List.set_cons_succ]
  refine st_x (v := .agg (av A)) rfl (x_ld _ rfl rfl (F1 _ B9) addr_tyY rfl (by rw [arrV_size]; exact addr_sizeY)) ?_; try simp only [Act.put, List.setIfInBounds_toArray, List.set_cons_zero, List.set_cons_succ]
  refine st_x (v := .agg (wcells x)) rfl (x_ld _ rfl rfl (F3 _ B9) wordN_type rfl (by rw [wc_size]; exact wordN_size)) ?_; try simp only [Act.put, List.setIfInBounds_toArray, List.set_cons_zero, List.set_cons_succ]
  refine st_callS (args := #[.pointer (some ⟨bR, 0, none⟩), .agg (av A), .agg (wcells x)]) rfl rfl (by simp only [List.map_toArray, List.map_cons, List.map_nil]; rfl) Try.call8 (T9.setD A x hA (by decide) hx) ?_
  rintro e w10 ⟨rfl, L1, ⟨T10, hb10⟩, hl1, hn1⟩
  refine ⟨_, rfl, ?_⟩
  try simp only [Act.put, List.setIfInBounds_toArray, List.set_cons_zero, List.set_cons_succ]
  refine st_end14 ?_
  have B10 := B9.trans hb10
  rw [upE_EL hl1] at T10
  go_upto_region 6 with (fail)
  try simp only [Act.put, List.setIfInBounds_toArray, List.set_cons_zero, List.set_cons_succ]
  refine wp_region_lit ?_
  refine st_x (v := .agg (av A)) rfl (x_ld _ rfl rfl (F1 _ B10) addr_tyY rfl (by rw [arrV_size]; exact addr_sizeY)) ?_; try simp only [Act.put, List.setIfInBounds_toArray, List.set_cons_zero, List.set_cons_succ]
  refine st_x (v := .agg (av T)) rfl (x_ld _ rfl rfl (F2 _ B10) addr_tyY rfl (by rw [arrV_size]; exact addr_sizeY)) ?_; try simp only [Act.put, List.setIfInBounds_toArray, List.set_cons_zero, List.set_cons_succ]
  by_cases he : A = T
  · have hd : decide (A = T) = true := decide_eq_true he
    clear he
    refine st_x (v := .bool false) rfl (x_neAv hA hT hd _ _ _ rfl rfl rfl) ?_; try simp only [Act.put, List.setIfInBounds_toArray, List.set_cons_zero, List.set_cons_succ]
    refine st_end14 ?_
    clear hd
    go_upto_region 9 with (fail)
    try simp only [Act.put, List.setIfInBounds_toArray, List.set_cons_zero, List.set_cons_succ]
    refine wp_region_lit ?_
    refine st_x (v := .pointer (some ⟨bS, 0, none⟩)) rfl (x_val _ (.inl rfl) rfl) ?_; try simp only [Act.put, List.setIfInBounds_toArray, List.set_cons_zero, List.set_cons_succ]
    refine st_x (v := .agg (av A)) rfl (x_ld _ rfl rfl (F1 _ B10) addr_tyY rfl (by rw [arrV_size]; exact addr_sizeY)) ?_; try simp only [Act.put, List.setIfInBounds_toArray, List.set_cons_zero, List.set_cons_succ]
    refine st_x (v := .agg (av T)) rfl (x_ld _ rfl rfl (F2 _ B10) addr_tyY rfl (by rw [arrV_size]; exact addr_sizeY)) ?_; try simp only [Act.put, List.setIfInBounds_toArray, List.set_cons_zero, List.set_cons_succ]
    refine st_x (v := .agg (wcells z)) rfl (x_ld _ rfl rfl (F5 _ B10) wordN_type rfl (by rw [wc_size]; exact wordN_size)) ?_; try simp only [Act.put, List.setIfInBounds_toArray, List.set_cons_zero, List.set_cons_succ]
    refine st_callS (args := #[.pointer (some ⟨bS, 0, none⟩), .agg (av A), .agg (av T), .agg (wcells z)]) rfl rfl (by simp only [List.map_toArray, List.map_cons, List.map_nil]; rfl) Try.call9 (T10.moveS A T z hA hT (by decide) hz) ?_
    rintro e v1 ⟨rfl, Ta, hba⟩
    refine ⟨_, rfl, ?_⟩
    try simp only [Act.put, List.setIfInBounds_toArray, List.set_cons_zero, List.set_cons_succ]
    refine st_x (v := .bool (mvOK (EL L1) A T z)) rfl (x_val _ (.inr rfl) rfl) ?_; try simp only [Act.put, List.setIfInBounds_toArray, List.set_cons_zero, List.set_cons_succ]
    refine st_end14 ?_
    have Ba := B10.trans hba
    go_upto_region 10 with (fail)
    try simp only [Act.put, List.setIfInBounds_toArray, List.set_cons_zero, List.set_cons_succ]
    refine wp_region_lit ?_
    refine st_x (v := .pointer (some ⟨bR, 0, none⟩)) rfl (x_val _ (.inl rfl) rfl) ?_; try simp only [Act.put, List.setIfInBounds_toArray, List.set_cons_zero, List.set_cons_succ]
    refine st_x (v := .agg (av A)) rfl (x_ld _ rfl rfl (F1 _ Ba) addr_tyY rfl (by rw [arrV_size]; exact addr_sizeY)) ?_; try simp only [Act.put, List.setIfInBounds_toArray, List.set_cons_zero, List.set_cons_succ]
    refine st_x (v := .agg (av T)) rfl (x_ld _ rfl rfl (F2 _ Ba) addr_tyY rfl (by rw [arrV_size]; exact addr_sizeY)) ?_; try simp only [Act.put, List.setIfInBounds_toArray, List.set_cons_zero, List.set_cons_succ]
    refine st_x (v := .agg (wcells z)) rfl (x_ld _ rfl rfl (F5 _ Ba) wordN_type rfl (by rw [wc_size]; exact wordN_size)) ?_; try simp only [Act.put, List.setIfInBounds_toArray, List.set_cons_zero, List.set_cons_succ]
    refine st_callS (args := #[.pointer (some ⟨bR, 0, none⟩), .agg (av A), .agg (av T), .agg (wcells z)]) rfl rfl (by simp only [List.map_toArray, List.map_cons, List.map_nil]; rfl) Try.call10 (Ta.moveD A T z hA hT (by have : ([] : AL).length = 0 := rfl; omega) hz) ?_
    rintro e v2 ⟨rfl, L3, ⟨Tb, hbb⟩, hl3, hn3⟩
    refine ⟨_, rfl, ?_⟩
    try simp only [Act.put, List.setIfInBounds_toArray, List.set_cons_zero, List.set_cons_succ]
    refine st_x (v := .bool (mvOK (EL L1) A T z)) rfl (x_val _ (.inr rfl) rfl) ?_; try simp only [Act.put, List.setIfInBounds_toArray, List.set_cons_zero, List.set_cons_succ]
    refine st_end14 ?_
    have Bb := Ba.trans hbb
    rw [mvR_EL hl3] at Tb
    generalize mvOK (EL L1) A T z = m
    go_upto_region 11 with (fail)
    try simp only [Act.put, List.setIfInBounds_toArray, List.set_cons_zero, List.set_cons_succ]
    refine k_region (C := fun w' => Below w5.heap.size w5 w' ∧ Two w5.heap.size ((0 + 1) + 2) w' bS bR (EL L3) L3) (by kernel_rfl) (by kernel_rfl) ⟨Bb.trans (below_of_tch ((Tch.refl [] v2).drew) Bb.size), Tb.call ((Tch.refl [] v2).drew)⟩ ?_
    refine k_in (v := .bool true) rfl (fun w' hw' => x_val _ (.inl rfl) rfl) ?_; try simp only [Act.put, List.setIfInBounds_toArray, List.set_cons_zero, List.set_cons_succ]
    refine k_in (v := .bool true) rfl (fun w' hw' => x_val _ (.inl rfl) rfl) ?_; try simp only [Act.put, List.setIfInBounds_toArray, List.set_cons_zero, List.set_cons_succ]
    refine k_in (v := .bool m) rfl (fun w' hw' => x_val _ (.inl rfl) rfl) ?_; try simp only [Act.put, List.setIfInBounds_toArray, List.set_cons_zero, List.set_cons_succ]
    refine k_in (v := .bool m) rfl (fun w' hw' => x_val _ (.inl rfl) rfl) ?_; try simp only [Act.put, List.setIfInBounds_toArray, List.set_cons_zero, List.set_cons_succ]
    refine k_in (v := .bool true) rfl (fun w' hw' => x_bin _ _ _ _ rfl rfl rfl rfl (eqBool_self _ _)) ?_; try simp only [Act.put, List.setIfInBounds_toArray, List.set_cons_zero, List.set_cons_succ]
    refine k_in (v := .bool true) rfl (fun w' hw' => x_pickS (c := true) rfl _ _ _ rfl rfl rfl rfl) ?_; try simp only [Act.put, List.setIfInBounds_toArray, List.set_cons_zero, List.set_cons_succ]
    refine k_in (v := .bool true) rfl (fun w' hw' => x_val _ (.inl rfl) rfl) ?_; try simp only [Act.put, List.setIfInBounds_toArray, List.set_cons_zero, List.set_cons_succ]
    refine k_in (v := .pointer (some ⟨bS, 0, none⟩)) rfl (fun w' hw' => x_val _ (.inl rfl) rfl) ?_; try simp only [Act.put, List.setIfInBounds_toArray, List.set_cons_zero, List.set_cons_succ]
    refine k_in (v := .agg (av A)) rfl (fun w' hw' => x_ld _ rfl rfl (F1 _ hw'.1) addr_tyY rfl (by rw [arrV_size]; exact addr_sizeY)) ?_; try simp only [Act.put, List.setIfInBounds_toArray, List.set_cons_zero, List.set_cons_succ]
    refine k_callC (v := .agg (wcells (balL L3 A))) (args := #[.pointer (some ⟨bS, 0, none⟩), .agg (av A)]) rfl rfl (by simp only [List.map_toArray, List.map_cons, List.map_nil]; rfl) Try.call11 (fun w' h => (h.2.bal A hA).mono fun e u ⟨he, hT⟩ => ⟨he, h.1.trans (below_of_tch hT h.1.size), h.2.call hT⟩) ?_; try simp only [Act.put, List.setIfInBounds_toArray, List.set_cons_zero, List.set_cons_succ]
    refine k_in (v := .pointer (some ⟨bR, 0, none⟩)) rfl (fun w' hw' => x_val _ (.inl rfl) rfl) ?_; try simp only [Act.put, List.setIfInBounds_toArray, List.set_cons_zero, List.set_cons_succ]
    refine k_in (v := .agg (av A)) rfl (fun w' hw' => x_ld _ rfl rfl (F1 _ hw'.1) addr_tyY rfl (by rw [arrV_size]; exact addr_sizeY)) ?_; try simp only [Act.put, List.setIfInBounds_toArray, List.set_cons_zero, List.set_cons_succ]
    refine k_callC (v := .agg (dC A (balL L3 A))) (args := #[.pointer (some ⟨bR, 0, none⟩), .agg (av A)]) rfl rfl (by simp only [List.map_toArray, List.map_cons, List.map_nil]; rfl) Try.call12 (fun w' h => (h.2.get A hA).mono fun e u ⟨he, hT⟩ => ⟨he, h.1.trans (below_of_tch hT h.1.size), h.2.call hT⟩) ?_; try simp only [Act.put, List.setIfInBounds_toArray, List.set_cons_zero, List.set_cons_succ]
    refine k_in (v := .agg (wcells (balL L3 A))) rfl (fun w' hw' => x_fld _ _ rfl rfl (fld_d2 _ _ _)) ?_; try simp only [Act.put, List.setIfInBounds_toArray, List.set_cons_zero, List.set_cons_succ]
    refine k_in (v := .bool true) rfl (fun w' hw' => x_eqWc (Two.ok hw'.2 A hA) (Two.ok hw'.2 A hA) (decide_eq_true rfl) _ _ _ rfl rfl rfl) ?_; try simp only [Act.put, List.setIfInBounds_toArray, List.set_cons_zero, List.set_cons_succ]
    refine k_in (v := .bool true) rfl (fun w' hw' => x_pickS (c := true) rfl _ _ _ rfl rfl rfl rfl) ?_; try simp only [Act.put, List.setIfInBounds_toArray, List.set_cons_zero, List.set_cons_succ]
    refine k_in (v := .bool true) rfl (fun w' hw' => x_val _ (.inl rfl) rfl) ?_; try simp only [Act.put, List.setIfInBounds_toArray, List.set_cons_zero, List.set_cons_succ]
    refine k_in (v := .pointer (some ⟨bS, 0, none⟩)) rfl (fun w' hw' => x_val _ (.inl rfl) rfl) ?_; try simp only [Act.put, List.setIfInBounds_toArray, List.set_cons_zero, List.set_cons_succ]
    refine k_in (v := .agg (av T)) rfl (fun w' hw' => x_ld _ rfl rfl (F2 _ hw'.1) addr_tyY rfl (by rw [arrV_size]; exact addr_sizeY)) ?_; try simp only [Act.put, List.setIfInBounds_toArray, List.set_cons_zero, List.set_cons_succ]
    refine k_callC (v := .agg (wcells (balL L3 T))) (args := #[.pointer (some ⟨bS, 0, none⟩), .agg (av T)]) rfl rfl (by simp only [List.map_toArray, List.map_cons, List.map_nil]; rfl) Try.call11 (fun w' h => (h.2.bal T hT).mono fun e u ⟨he, hT⟩ => ⟨he, h.1.trans (below_of_tch hT h.1.size), h.2.call hT⟩) ?_; try simp only [Act.put, List.setIfInBounds_toArray, List.set_cons_zero, List.set_cons_succ]
    refine k_in (v := .pointer (some ⟨bR, 0, none⟩)) rfl (fun w' hw' => x_val _ (.inl rfl) rfl) ?_; try simp only [Act.put, List.setIfInBounds_toArray, List.set_cons_zero, List.set_cons_succ]
    refine k_in (v := .agg (av T)) rfl (fun w' hw' => x_ld _ rfl rfl (F2 _ hw'.1) addr_tyY rfl (by rw [arrV_size]; exact addr_sizeY)) ?_; try simp only [Act.put, List.setIfInBounds_toArray, List.set_cons_zero, List.set_cons_succ]
    refine k_callC (v := .agg (dC T (balL L3 T))) (args := #[.pointer (some ⟨bR, 0, none⟩), .agg (av T)]) rfl rfl (by simp only [List.map_toArray, List.map_cons, List.map_nil]; rfl) Try.call12 (fun w' h => (h.2.get T hT).mono fun e u ⟨he, hT⟩ => ⟨he, h.1.trans (below_of_tch hT h.1.size), h.2.call hT⟩) ?_; try simp only [Act.put, List.setIfInBounds_toArray, List.set_cons_zero, List.set_cons_succ]
    refine k_in (v := .agg (wcells (balL L3 T))) rfl (fun w' hw' => x_fld _ _ rfl rfl (fld_d2 _ _ _)) ?_; try simp only [Act.put, List.setIfInBounds_toArray, List.set_cons_zero, List.set_cons_succ]
    refine k_in (v := .bool true) rfl (fun w' hw' => x_eqWc (Two.ok hw'.2 T hT) (Two.ok hw'.2 T hT) (decide_eq_true rfl) _ _ _ rfl rfl rfl) ?_; try simp only [Act.put, List.setIfInBounds_toArray, List.set_cons_zero, List.set_cons_succ]
    refine k_in (v := .bool true) rfl (fun w' hw' => x_pickS (c := true) rfl _ _ _ rfl rfl rfl rfl) ?_; try simp only [Act.put, List.setIfInBounds_toArray, List.set_cons_zero, List.set_cons_succ]
    refine k_in (v := .bool true) rfl (fun w' hw' => x_val _ (.inr rfl) rfl) ?_; try simp only [Act.put, List.setIfInBounds_toArray, List.set_cons_zero, List.set_cons_succ]
    refine k_end ?_
    intro w' hC
    go_wp2
    go_ret
    exact ⟨rfl, hW5.trans (tch_of_below hC.1)⟩
  · have hd : decide (A = T) = false := decide_eq_false he
    clear he
    refine st_x (v := .bool true) rfl (x_neAv hA hT hd _ _ _ rfl rfl rfl) ?_; try simp only [Act.put, List.setIfInBounds_toArray, List.set_cons_zero, List.set_cons_succ]
    refine st_end14 ?_
    clear hd
    go_upto_region 7 with (fail)
    try simp only [Act.put, List.setIfInBounds_toArray, List.set_cons_zero, List.set_cons_succ]
    refine wp_region_lit ?_
    refine st_x (v := .pointer (some ⟨bS, 0, none⟩)) rfl (x_val _ (.inl rfl) rfl) ?_; try simp only [Act.put, List.setIfInBounds_toArray, List.set_cons_zero, List.set_cons_succ]
    refine st_x (v := .agg (av T)) rfl (x_ld _ rfl rfl (F2 _ B10) addr_tyY rfl (by rw [arrV_size]; exact addr_sizeY)) ?_; try simp only [Act.put, List.setIfInBounds_toArray, List.set_cons_zero, List.set_cons_succ]
    refine st_x (v := .agg (wcells y)) rfl (x_ld _ rfl rfl (F4 _ B10) wordN_type rfl (by rw [wc_size]; exact wordN_size)) ?_; try simp only [Act.put, List.setIfInBounds_toArray, List.set_cons_zero, List.set_cons_succ]
    refine st_callS (args := #[.pointer (some ⟨bS, 0, none⟩), .agg (av T), .agg (wcells y)]) rfl rfl (by simp only [List.map_toArray, List.map_cons, List.map_nil]; rfl) Try.call7 (T10.setS T y hT (by decide) hy) ?_
    rintro e w11 ⟨rfl, T11, hb11⟩
    refine ⟨_, rfl, ?_⟩
    try simp only [Act.put, List.setIfInBounds_toArray, List.set_cons_zero, List.set_cons_succ]
    refine st_end14 ?_
    have B11 := B10.trans hb11
    go_upto_region 8 with (fail)
    try simp only [Act.put, List.setIfInBounds_toArray, List.set_cons_zero, List.set_cons_succ]
    refine wp_region_lit ?_
    refine st_x (v := .pointer (some ⟨bR, 0, none⟩)) rfl (x_val _ (.inl rfl) rfl) ?_; try simp only [Act.put, List.setIfInBounds_toArray, List.set_cons_zero, List.set_cons_succ]
    refine st_x (v := .agg (av T)) rfl (x_ld _ rfl rfl (F2 _ B11) addr_tyY rfl (by rw [arrV_size]; exact addr_sizeY)) ?_; try simp only [Act.put, List.setIfInBounds_toArray, List.set_cons_zero, List.set_cons_succ]
    refine st_x (v := .agg (wcells y)) rfl (x_ld _ rfl rfl (F4 _ B11) wordN_type rfl (by rw [wc_size]; exact wordN_size)) ?_; try simp only [Act.put, List.setIfInBounds_toArray, List.set_cons_zero, List.set_cons_succ]
    refine st_callS (args := #[.pointer (some ⟨bR, 0, none⟩), .agg (av T), .agg (wcells y)]) rfl rfl (by simp only [List.map_toArray, List.map_cons, List.map_nil]; rfl) Try.call8 (T11.setD T y hT (by have : ([] : AL).length = 0 := rfl; omega) hy) ?_
    rintro e w12 ⟨rfl, L2, ⟨T12, hb12⟩, hl2, hn2⟩
    refine ⟨_, rfl, ?_⟩
    try simp only [Act.put, List.setIfInBounds_toArray, List.set_cons_zero, List.set_cons_succ]
    refine st_end14 ?_
    have B12 := B11.trans hb12
    rw [upE_EL hl2] at T12
    go_upto_region 9 with (fail)
    try simp only [Act.put, List.setIfInBounds_toArray, List.set_cons_zero, List.set_cons_succ]
    refine wp_region_lit ?_
    refine st_x (v := .pointer (some ⟨bS, 0, none⟩)) rfl (x_val _ (.inl rfl) rfl) ?_; try simp only [Act.put, List.setIfInBounds_toArray, List.set_cons_zero, List.set_cons_succ]
    refine st_x (v := .agg (av A)) rfl (x_ld _ rfl rfl (F1 _ B12) addr_tyY rfl (by rw [arrV_size]; exact addr_sizeY)) ?_; try simp only [Act.put, List.setIfInBounds_toArray, List.set_cons_zero, List.set_cons_succ]
    refine st_x (v := .agg (av T)) rfl (x_ld _ rfl rfl (F2 _ B12) addr_tyY rfl (by rw [arrV_size]; exact addr_sizeY)) ?_; try simp only [Act.put, List.setIfInBounds_toArray, List.set_cons_zero, List.set_cons_succ]
    refine st_x (v := .agg (wcells z)) rfl (x_ld _ rfl rfl (F5 _ B12) wordN_type rfl (by rw [wc_size]; exact wordN_size)) ?_; try simp only [Act.put, List.setIfInBounds_toArray, List.set_cons_zero, List.set_cons_succ]
    refine st_callS (args := #[.pointer (some ⟨bS, 0, none⟩), .agg (av A), .agg (av T), .agg (wcells z)]) rfl rfl (by simp only [List.map_toArray, List.map_cons, List.map_nil]; rfl) Try.call9 (T12.moveS A T z hA hT (by decide) hz) ?_
    rintro e v1 ⟨rfl, Ta, hba⟩
    refine ⟨_, rfl, ?_⟩
    try simp only [Act.put, List.setIfInBounds_toArray, List.set_cons_zero, List.set_cons_succ]
    refine st_x (v := .bool (mvOK (EL L2) A T z)) rfl (x_val _ (.inr rfl) rfl) ?_; try simp only [Act.put, List.setIfInBounds_toArray, List.set_cons_zero, List.set_cons_succ]
    refine st_end14 ?_
    have Ba := B12.trans hba
    go_upto_region 10 with (fail)
    try simp only [Act.put, List.setIfInBounds_toArray, List.set_cons_zero, List.set_cons_succ]
    refine wp_region_lit ?_
    refine st_x (v := .pointer (some ⟨bR, 0, none⟩)) rfl (x_val _ (.inl rfl) rfl) ?_; try simp only [Act.put, List.setIfInBounds_toArray, List.set_cons_zero, List.set_cons_succ]
    refine st_x (v := .agg (av A)) rfl (x_ld _ rfl rfl (F1 _ Ba) addr_tyY rfl (by rw [arrV_size]; exact addr_sizeY)) ?_; try simp only [Act.put, List.setIfInBounds_toArray, List.set_cons_zero, List.set_cons_succ]
    refine st_x (v := .agg (av T)) rfl (x_ld _ rfl rfl (F2 _ Ba) addr_tyY rfl (by rw [arrV_size]; exact addr_sizeY)) ?_; try simp only [Act.put, List.setIfInBounds_toArray, List.set_cons_zero, List.set_cons_succ]
    refine st_x (v := .agg (wcells z)) rfl (x_ld _ rfl rfl (F5 _ Ba) wordN_type rfl (by rw [wc_size]; exact wordN_size)) ?_; try simp only [Act.put, List.setIfInBounds_toArray, List.set_cons_zero, List.set_cons_succ]
    refine st_callS (args := #[.pointer (some ⟨bR, 0, none⟩), .agg (av A), .agg (av T), .agg (wcells z)]) rfl rfl (by simp only [List.map_toArray, List.map_cons, List.map_nil]; rfl) Try.call10 (Ta.moveD A T z hA hT (by have : ([] : AL).length = 0 := rfl; omega) hz) ?_
    rintro e v2 ⟨rfl, L3, ⟨Tb, hbb⟩, hl3, hn3⟩
    refine ⟨_, rfl, ?_⟩
    try simp only [Act.put, List.setIfInBounds_toArray, List.set_cons_zero, List.set_cons_succ]
    refine st_x (v := .bool (mvOK (EL L2) A T z)) rfl (x_val _ (.inr rfl) rfl) ?_; try simp only [Act.put, List.setIfInBounds_toArray, List.set_cons_zero, List.set_cons_succ]
    refine st_end14 ?_
    have Bb := Ba.trans hbb
    rw [mvR_EL hl3] at Tb
    generalize mvOK (EL L2) A T z = m
    go_upto_region 11 with (fail)
    try simp only [Act.put, List.setIfInBounds_toArray, List.set_cons_zero, List.set_cons_succ]
    refine k_region (C := fun w' => Below w5.heap.size w5 w' ∧ Two w5.heap.size ((0 + 1 + 1) + 2) w' bS bR (EL L3) L3) (by kernel_rfl) (by kernel_rfl) ⟨Bb.trans (below_of_tch ((Tch.refl [] v2).drew) Bb.size), Tb.call ((Tch.refl [] v2).drew)⟩ ?_
    refine k_in (v := .bool true) rfl (fun w' hw' => x_val _ (.inl rfl) rfl) ?_; try simp only [Act.put, List.setIfInBounds_toArray, List.set_cons_zero, List.set_cons_succ]
    refine k_in (v := .bool true) rfl (fun w' hw' => x_val _ (.inl rfl) rfl) ?_; try simp only [Act.put, List.setIfInBounds_toArray, List.set_cons_zero, List.set_cons_succ]
    refine k_in (v := .bool m) rfl (fun w' hw' => x_val _ (.inl rfl) rfl) ?_; try simp only [Act.put, List.setIfInBounds_toArray, List.set_cons_zero, List.set_cons_succ]
    refine k_in (v := .bool m) rfl (fun w' hw' => x_val _ (.inl rfl) rfl) ?_; try simp only [Act.put, List.setIfInBounds_toArray, List.set_cons_zero, List.set_cons_succ]
    refine k_in (v := .bool true) rfl (fun w' hw' => x_bin _ _ _ _ rfl rfl rfl rfl (eqBool_self _ _)) ?_; try simp only [Act.put, List.setIfInBounds_toArray, List.set_cons_zero, List.set_cons_succ]
    refine k_in (v := .bool true) rfl (fun w' hw' => x_pickS (c := true) rfl _ _ _ rfl rfl rfl rfl) ?_; try simp only [Act.put, List.setIfInBounds_toArray, List.set_cons_zero, List.set_cons_succ]
    refine k_in (v := .bool true) rfl (fun w' hw' => x_val _ (.inl rfl) rfl) ?_; try simp only [Act.put, List.setIfInBounds_toArray, List.set_cons_zero, List.set_cons_succ]
    refine k_in (v := .pointer (some ⟨bS, 0, none⟩)) rfl (fun w' hw' => x_val _ (.inl rfl) rfl) ?_; try simp only [Act.put, List.setIfInBounds_toArray, List.set_cons_zero, List.set_cons_succ]
    refine k_in (v := .agg (av A)) rfl (fun w' hw' => x_ld _ rfl rfl (F1 _ hw'.1) addr_tyY rfl (by rw [arrV_size]; exact addr_sizeY)) ?_; try simp only [Act.put, List.setIfInBounds_toArray, List.set_cons_zero, List.set_cons_succ]
    refine k_callC (v := .agg (wcells (balL L3 A))) (args := #[.pointer (some ⟨bS, 0, none⟩), .agg (av A)]) rfl rfl (by simp only [List.map_toArray, List.map_cons, List.map_nil]; rfl) Try.call11 (fun w' h => (h.2.bal A hA).mono fun e u ⟨he, hT⟩ => ⟨he, h.1.trans (below_of_tch hT h.1.size), h.2.call hT⟩) ?_; try simp only [Act.put, List.setIfInBounds_toArray, List.set_cons_zero, List.set_cons_succ]
    refine k_in (v := .pointer (some ⟨bR, 0, none⟩)) rfl (fun w' hw' => x_val _ (.inl rfl) rfl) ?_; try simp only [Act.put, List.setIfInBounds_toArray, List.set_cons_zero, List.set_cons_succ]
    refine k_in (v := .agg (av A)) rfl (fun w' hw' => x_ld _ rfl rfl (F1 _ hw'.1) addr_tyY rfl (by rw [arrV_size]; exact addr_sizeY)) ?_; try simp only [Act.put, List.setIfInBounds_toArray, List.set_cons_zero, List.set_cons_succ]
    refine k_callC (v := .agg (dC A (balL L3 A))) (args := #[.pointer (some ⟨bR, 0, none⟩), .agg (av A)]) rfl rfl (by simp only [List.map_toArray, List.map_cons, List.map_nil]; rfl) Try.call12 (fun w' h => (h.2.get A hA).mono fun e u ⟨he, hT⟩ => ⟨he, h.1.trans (below_of_tch hT h.1.size), h.2.call hT⟩) ?_; try simp only [Act.put, List.setIfInBounds_toArray, List.set_cons_zero, List.set_cons_succ]
    refine k_in (v := .agg (wcells (balL L3 A))) rfl (fun w' hw' => x_fld _ _ rfl rfl (fld_d2 _ _ _)) ?_; try simp only [Act.put, List.setIfInBounds_toArray, List.set_cons_zero, List.set_cons_succ]
    refine k_in (v := .bool true) rfl (fun w' hw' => x_eqWc (Two.ok hw'.2 A hA) (Two.ok hw'.2 A hA) (decide_eq_true rfl) _ _ _ rfl rfl rfl) ?_; try simp only [Act.put, List.setIfInBounds_toArray, List.set_cons_zero, List.set_cons_succ]
    refine k_in (v := .bool true) rfl (fun w' hw' => x_pickS (c := true) rfl _ _ _ rfl rfl rfl rfl) ?_; try simp only [Act.put, List.setIfInBounds_toArray, List.set_cons_zero, List.set_cons_succ]
    refine k_in (v := .bool true) rfl (fun w' hw' => x_val _ (.inl rfl) rfl) ?_; try simp only [Act.put, List.setIfInBounds_toArray, List.set_cons_zero, List.set_cons_succ]
    refine k_in (v := .pointer (some ⟨bS, 0, none⟩)) rfl (fun w' hw' => x_val _ (.inl rfl) rfl) ?_; try simp only [Act.put, List.setIfInBounds_toArray, List.set_cons_zero, List.set_cons_succ]
    refine k_in (v := .agg (av T)) rfl (fun w' hw' => x_ld _ rfl rfl (F2 _ hw'.1) addr_tyY rfl (by rw [arrV_size]; exact addr_sizeY)) ?_; try simp only [Act.put, List.setIfInBounds_toArray, List.set_cons_zero, List.set_cons_succ]
    refine k_callC (v := .agg (wcells (balL L3 T))) (args := #[.pointer (some ⟨bS, 0, none⟩), .agg (av T)]) rfl rfl (by simp only [List.map_toArray, List.map_cons, List.map_nil]; rfl) Try.call11 (fun w' h => (h.2.bal T hT).mono fun e u ⟨he, hT⟩ => ⟨he, h.1.trans (below_of_tch hT h.1.size), h.2.call hT⟩) ?_; try simp only [Act.put, List.setIfInBounds_toArray, List.set_cons_zero, List.set_cons_succ]
    refine k_in (v := .pointer (some ⟨bR, 0, none⟩)) rfl (fun w' hw' => x_val _ (.inl rfl) rfl) ?_; try simp only [Act.put, List.setIfInBounds_toArray, List.set_cons_zero, List.set_cons_succ]
    refine k_in (v := .agg (av T)) rfl (fun w' hw' => x_ld _ rfl rfl (F2 _ hw'.1) addr_tyY rfl (by rw [arrV_size]; exact addr_sizeY)) ?_; try simp only [Act.put, List.setIfInBounds_toArray, List.set_cons_zero, List.set_cons_succ]
    refine k_callC (v := .agg (dC T (balL L3 T))) (args := #[.pointer (some ⟨bR, 0, none⟩), .agg (av T)]) rfl rfl (by simp only [List.map_toArray, List.map_cons, List.map_nil]; rfl) Try.call12 (fun w' h => (h.2.get T hT).mono fun e u ⟨he, hT⟩ => ⟨he, h.1.trans (below_of_tch hT h.1.size), h.2.call hT⟩) ?_; try simp only [Act.put, List.setIfInBounds_toArray, List.set_cons_zero, List.set_cons_succ]
    refine k_in (v := .agg (wcells (balL L3 T))) rfl (fun w' hw' => x_fld _ _ rfl rfl (fld_d2 _ _ _)) ?_; try simp only [Act.put, List.setIfInBounds_toArray, List.set_cons_zero, List.set_cons_succ]
    refine k_in (v := .bool true) rfl (fun w' hw' => x_eqWc (Two.ok hw'.2 T hT) (Two.ok hw'.2 T hT) (decide_eq_true rfl) _ _ _ rfl rfl rfl) ?_; try simp only [Act.put, List.setIfInBounds_toArray, List.set_cons_zero, List.set_cons_succ]
    refine k_in (v := .bool true) rfl (fun w' hw' => x_pickS (c := true) rfl _ _ _ rfl rfl rfl rfl) ?_; try simp only [Act.put, List.setIfInBounds_toArray, List.set_cons_zero, List.set_cons_succ]
    refine k_in (v := .bool true) rfl (fun w' hw' => x_val _ (.inr rfl) rfl) ?_; try simp only [Act.put, List.setIfInBounds_toArray, List.set_cons_zero, List.set_cons_succ]
    refine k_end ?_
    intro w' hC
    go_wp2
    go_ret
    exact ⟨rfl, hW5.trans (tch_of_below hC.1)⟩
end Go.Proofs.Ytklpcppdjcedpaa
