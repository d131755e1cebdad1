/- Whole states: put of a code, of a balance. -/
import Derived.Test.YtopfmaoeebgjmaaGreatDoorM01
import Derived.Test.YtopfmaoeebgjmaaGreatDoorM26
import Derived.Test.YtopfmaoeebgjmaaGreatDoorM29
set_option linter.unusedVariables false
set_option linter.unusedSimpArgs false
namespace Go.Proofs.YtopfmaoeebgjmaaGreatDoor
section
open Go.RowKit Go.WideMaps Go.ChangeMaps Go.MapKept
set_option maxRecDepth 100000
set_option maxHeartbeats 2000000
theorem put_codeG (B N : Nat) (w : World) (bS : Nat) (mv rv : Value) (k : Int) (F : List Nat → Option (Nat × Value)) (E : List Nat → Ac) (A : List Nat) (y : List Nat) (h : GsP B N w bS mv rv k F E) (hA : Ad A) (hN : N < 1000000000) (hy : ∀ x ∈ y, x < 256) :
    Calls Tryz.prog 33 #[.pointer (some ⟨bS, 0, none⟩), .iface 66 (.agg (codC A y))] w fun e w' => e = .returned (.iface 66 (.agg (codC A (E A).c))) ∧ StepG B (N + 1) bS mv F rv k (upQ E A ⟨(E A).n, (E A).x, y, (E A).S⟩) w w' := by
  have hqo := h.ok A hA
  go_enter Tryz.func33, Tryz.ntmps33
  go_upto_region 1 with (fail)
  try simp only [Act.put, ppA, ppB, ppC]
  refine wp_region_lit ?_
  refine st_x (v := .iface 66 (.agg (codC A y))) rfl (x_val _ (.inl rfl) rfl) ?_; try simp only [Act.put, ppA, ppB, ppC]
  refine st_end14 ?_
  go_upto_region 2 with (fail)
  try simp only [Act.put, ppA, ppB, ppC]
  refine wp_region_lit ?_
  refine st_x (v := .tuple #[.agg (nonC [] 0), .bool false]) rfl (x_ta _ _ _ rfl rfl (taCN _ _)) ?_; try simp only [Act.put, ppA, ppB, ppC]
  refine st_x (v := .bool false) rfl (x_ext _ _ rfl rfl rfl) ?_; try simp only [Act.put, ppA, ppB, ppC]
  refine st_x (v := .agg (nonC [] 0)) rfl (x_ext _ _ rfl rfl rfl) ?_; try simp only [Act.put, ppA, ppB, ppC]
  refine st_end14 ?_
  go_upto_region 8 with (fail)
  try simp only [Act.put, ppA, ppB, ppC]
  refine wp_region_lit ?_
  refine st_x (v := .tuple #[.agg (balC [] 0), .bool false]) rfl (x_ta _ _ _ rfl rfl (taCB _ _)) ?_; try simp only [Act.put, ppA, ppB, ppC]
  refine st_x (v := .bool false) rfl (x_ext _ _ rfl rfl rfl) ?_; try simp only [Act.put, ppA, ppB, ppC]
  refine st_x (v := .agg (balC [] 0)) rfl (x_ext _ _ rfl rfl rfl) ?_; try simp only [Act.put, ppA, ppB, ppC]
  refine st_end14 ?_
  go_upto_region 14 with (fail)
  try simp only [Act.put, ppA, ppB, ppC]
  refine wp_region_lit ?_
  refine st_x (v := .tuple #[.agg (codC A y), .bool true]) rfl (x_ta _ _ _ rfl rfl (taCC _ _)) ?_; try simp only [Act.put, ppA, ppB, ppC]
  refine st_x (v := .bool true) rfl (x_ext _ _ rfl rfl rfl) ?_; try simp only [Act.put, ppA, ppB, ppC]
  refine st_x (v := .agg (codC A y)) rfl (x_ext _ _ rfl rfl rfl) ?_; try simp only [Act.put, ppA, ppB, ppC]
  refine st_end14 ?_
  go_upto_region 15 with (fail)
  try simp only [Act.put, ppA, ppB, ppC]
  refine wp_region_lit ?_
  have hS := St.start w
  refine st_new hS rfl 66 rfl cod_zero ?_; clear hS; intro w1 b7 hS; try simp only [Act.put, ppA, ppB, ppC]
  refine st_store (b := b7) (c' := codC A y) hS rfl 66 _ _ rfl rfl rfl .head cod_size (codC_size _ _) (codC_size _ _) (codC_one _ _) ?_; clear hS; intro w2 hS; try simp only [Act.put, ppA, ppB, ppC]
  refine st_end14 ?_
  have hT2 := hS.frame
  have hO7 : w.heap.size ≤ b7 := hS.le .head
  have hB7 := hS.get .head
  have h2 := h.call hT2
  clear hS
  go_upto_region 16 with (fail)
  try simp only [Act.put, ppA, ppB, ppC]
  refine wp_region_lit ?_
  refine st_x (v := .pointer (some ⟨bS, 0, none⟩)) rfl (x_val _ (.inl rfl) rfl) ?_; try simp only [Act.put, ppA, ppB, ppC]
  refine st_x (v := .pointer (some ⟨b7, 0, none⟩)) rfl (x_fa _ _ _ rfl rfl (fa_c0 _ _)) ?_; try simp only [Act.put, ppA, ppB, ppC]
  refine st_x (v := .agg (av A)) rfl (x_ldIn (n := 20) _ rfl rfl hB7 (arrV_size _ _) (fun j hj => codC_a A _ j hj) addr_tyY rfl addr_sizeY) ?_; try simp only [Act.put, ppA, ppB, ppC]
  refine st_callS (args := #[.pointer (some ⟨bS, 0, none⟩), .agg (av A)]) rfl rfl (by simp only [List.map_toArray, List.map_cons, List.map_nil]; rfl) Tryz.call53 (openG B N w2 bS mv rv k F E A h2 hA) ?_
  rintro e w3 ⟨b, mo, rfl, hT3, hh, hF⟩
  refine ⟨_, rfl, ?_⟩
  try simp only [Act.put, ppA, ppB, ppC]
  refine st_x (v := .pointer (some ⟨b, 0, none⟩)) rfl (x_val _ (.inr rfl) rfl) ?_; try simp only [Act.put, ppA, ppB, ppC]
  refine st_end14 ?_
  have hB73 := hT3.blk hB7 (by simp)
  have hT03 := hT2.trans hT3
  have hF0 : F A = some (b, mo) ∨ F A = none ∧ mo = .map none ∧ w.heap.size ≤ b := hF.imp id (fun ⟨g1, g2, g3⟩ => ⟨g1, g2, Nat.le_trans hT2.size g3⟩)
  have hb7 : b ≠ b7 := fun e => by
    have := (e ▸ hB73 : Blk w3 b 66 _).ty hh.one
    revert this
    decide
  generalize hEA : E A = qa at *
  obtain ⟨n, x, c, S⟩ := qa
  try simp only at hqo hh
  obtain ⟨o, ho⟩ : ∃ o, o = c := ⟨_, rfl⟩
  subst ho
  have HEA := hQz hEA
  clear hEA
  go_upto_region 17 with (fail)
  try simp only [Act.put, ppA, ppB, ppC]
  refine wp_region_held_drew (S := fun _ => True) (by kernel_rfl) trivial (fun hC => ?_)
  have hTu : Tch [] w3 w3.drew := (Tch.refl [] w3).drew
  have hhu := hh.call hTu
  have hBu := hTu.blk hB73 (by simp)
  generalize World.drew w3 = u0 at hTu hhu hBu ⊢
  refine held_in (v := .pointer (some ⟨b, 0, none⟩)) 0 rfl (by kernel_rfl) (by kernel_rfl) (by kernel_rfl) (fun _ _ _ h => h) hC rfl (fun w' hw' => x_val _ (.inl rfl) rfl) ?_; try simp only [Act.put, ppA, ppB, ppC]
  refine held_in (v := .pointer (some ⟨b, 0, none⟩)) 1 rfl (by kernel_rfl) (by kernel_rfl) (by kernel_rfl) (fun _ _ _ h => h) hC rfl (fun w' hw' => x_val _ (.inl rfl) rfl) ?_; try simp only [Act.put, ppA, ppB, ppC]
  refine held_in (v := .pointer (some ⟨b, 0, none⟩)) 2 rfl (by kernel_rfl) (by kernel_rfl) (by kernel_rfl) (fun _ _ _ h => h) hC rfl (fun w' hw' => x_nilck _ rfl rfl) ?_; try simp only [Act.put, ppA, ppB, ppC]
  refine held_in (v := .pointer (some ⟨b, 33, none⟩)) 3 rfl (by kernel_rfl) (by kernel_rfl) (by kernel_rfl) (fun _ _ _ h => h) hC rfl (fun w' hw' => x_fa _ _ _ rfl rfl (fa_a2 _ _)) ?_; try simp only [Act.put, ppA, ppB, ppC]
  refine held_in (v := .pointer (some ⟨b7, 20, none⟩)) 5 rfl (by kernel_rfl) (by kernel_rfl) (by kernel_rfl) (fun _ _ _ h => h) hC rfl (fun w' hw' => x_fa _ _ _ rfl rfl (fa_c1 _ _)) ?_; try simp only [Act.put, ppA, ppB, ppC]
  refine held_two 4 6 (by kernel_rfl) ?_ ?_
  · refine held_x (v := .string (strB o)) rfl rfl (x_cell _ _ rfl rfl (hhu.one.cell (acG_c _ _ _ _)) str_aggS) ⟨trivial, ?_⟩
    try simp only [Act.put, ppA, ppB, ppC]
    refine held_one 6 (by kernel_rfl) ?_
    refine held_x (v := .string (strB y)) rfl rfl (x_cell _ _ rfl rfl (hBu.cell (codC_c _ _)) str_aggS) ⟨trivial, ?_⟩
    try simp only [Act.put, ppA, ppB, ppC]
    refine held_in (v := .pointer (some ⟨b7, 20, none⟩)) 7 rfl (by kernel_rfl) (by kernel_rfl) (by kernel_rfl) (fun _ _ _ h => h) trivial rfl (fun w' hw' => x_fa _ _ _ rfl rfl (fa_c1 _ _)) ?_; try simp only [Act.put, ppA, ppB, ppC]
    refine held_one 8 (by kernel_rfl) ?_
    obtain ⟨u1, hu1⟩ : ∃ u1, u1 = World.setCell u0 ⟨b7, 20, none⟩ (.string (strB o)) := ⟨_, rfl⟩
    refine held_skip (w' := u1) rfl rfl (by rw [hu1]; exact r_store1 _ _ rfl rfl rfl hBu one_str (by rw [codC_size]; decide) rfl) ?_
    have hO1 : Only b7 u0 u1 := by rw [hu1]; exact Only.setCell u0 ⟨b7, 20, none⟩ _
    have hB1 : Blk u1 b7 66 (codC A o) := by rw [hu1, ← codC_set A y o]; exact hBu.set 20 _
    clear hu1
    have hP1 : PT (fun j => j = b7) u0 u1 := ⟨hO1.os, hO1.tape, hO1.output, Nat.le_of_eq hO1.size.symm, fun j _ hj => hO1.block j hj⟩
    have hh1 := hhu.off hBu (by decide) (by decide) hP1
    have hb1 := hh1.one
    refine ⟨trivial, ?_⟩
    try simp only [Act.put, ppA, ppB, ppC]
    refine held_in (v := .pointer (some ⟨b, 0, none⟩)) 9 rfl (by kernel_rfl) (by kernel_rfl) (by kernel_rfl) (fun _ _ _ h => h) trivial rfl (fun w' hw' => x_nilck _ rfl rfl) ?_; try simp only [Act.put, ppA, ppB, ppC]
    refine held_in (v := .pointer (some ⟨b, 33, none⟩)) 10 rfl (by kernel_rfl) (by kernel_rfl) (by kernel_rfl) (fun _ _ _ h => h) trivial rfl (fun w' hw' => x_fa _ _ _ rfl rfl (fa_a2 _ _)) ?_; try simp only [Act.put, ppA, ppB, ppC]
    refine held_one 11 (by kernel_rfl) ?_
    obtain ⟨u2, hu2⟩ : ∃ u2, u2 = World.setCell u1 ⟨b, 33, none⟩ (.string (strB y)) := ⟨_, rfl⟩
    refine held_skip (w' := u2) rfl rfl (by rw [hu2]; exact r_store1 _ _ rfl rfl rfl hb1 one_str (by rw [acG_size]; decide) rfl) ?_
    have hO2 : Only b u1 u2 := by rw [hu2]; exact Only.setCell u1 ⟨b, 33, none⟩ _
    have hb2 : Blk u2 b 79 (acG n x y mo) := by rw [hu2, ← acG_setc n x o y mo]; exact hb1.set 33 _
    clear hu2
    have hP2 : PT (fun j => j = b ∨ mo = .map (some j)) u1 u2 := ⟨hO2.os, hO2.tape, hO2.output, Nat.le_of_eq hO2.size.symm, fun j _ hj => hO2.block j (fun e => hj (.inl e))⟩
    have hh2 := hh1.set (q' := ⟨n, x, y, S⟩) (Nat.le_refl _) hP2 hb2 (hh1.sl.far (fun r hr => hO2.block r (fun e => hh1.sl.ne hb1 (by rw [hr, e])))) ⟨hqo.1, hqo.2.1, hy, hqo.2.2.2⟩ (fun r hr => .inl hr)
    have hB2 : Blk u2 b7 66 (codC A o) := hO2.blk (fun e => hb7 e.symm) hB1
    refine ⟨trivial, ?_⟩
    try simp only [Act.put, ppA, ppB, ppC]
    refine wpAnyH_done (by kernel_rfl) ?_ _
    have hPP : PT (fun j => j = b ∨ j = b7 ∨ mo = .map (some j)) w3 u2 := ((PT.nil hTu).trans (hP1.mono (fun j _ hj => .inr (.inl hj)))).trans (hP2.mono (fun j _ hj => hj.elim .inl (fun g => .inr (.inr g))))
    clear hh hhu hh1 hb1 hB1 hBu hP1 hP2 hO1 hO2 hTu
    go_upto_region 18 with (fail)
    try simp only [Act.put, ppA, ppB, ppC]
    refine wp_region_lit ?_
    refine st_x (v := .pointer (some ⟨bS, 0, none⟩)) rfl (x_val _ (.inl rfl) rfl) ?_; try simp only [Act.put, ppA, ppB, ppC]
    refine st_x (v := .pointer (some ⟨b7, 0, none⟩)) rfl (x_fa _ _ _ rfl rfl (fa_c0 _ _)) ?_; try simp only [Act.put, ppA, ppB, ppC]
    refine st_x (v := .agg (av A)) rfl (x_ldIn (n := 20) _ rfl rfl hB2 (arrV_size _ _) (fun j hj => codC_a A _ j hj) addr_tyY rfl addr_sizeY) ?_; try simp only [Act.put, ppA, ppB, ppC]
    refine st_x (v := .pointer (some ⟨b, 0, none⟩)) rfl (x_val _ (.inl rfl) rfl) ?_; try simp only [Act.put, ppA, ppB, ppC]
    refine st_callS (args := #[.pointer (some ⟨bS, 0, none⟩), .agg (av A), .pointer (some ⟨b, 0, none⟩)]) rfl rfl (by simp only [List.map_toArray, List.map_cons, List.map_nil]; rfl) Tryz.call18 (keepG B N u2 bS mv rv k F E A b mo _ hh2 hA hN) ?_
    rintro e w5 ⟨rfl, hk⟩
    refine ⟨_, rfl, ?_⟩
    try simp only [Act.put, ppA, ppB, ppC]
    refine st_end14 ?_
    have hstep := stepG_of (N := N) hA hT03 hF0 hPP hO7 (fun r hr => .inl hr) hk
    have hB5 : Blk w5 b7 66 (codC A o) := by
      obtain ⟨_, _, g2, _⟩ := hk
      exact g2.blk hB2 (fun e => e.elim (fun e => by
        have := (e ▸ hB2 : Blk u2 bS 66 _).ty hh2.blk
        revert this
        decide) (fun e => hh2.map.ne hB2 e))
    clear hk
    go_upto_region 19 with (fail)
    try simp only [Act.put, ppA, ppB, ppC]
    refine wp_region_lit ?_
    refine st_x (v := .agg (codC A o)) rfl (x_ld _ rfl rfl hB5 cod_ty rfl (by rw [codC_size]; exact cod_size)) ?_; try simp only [Act.put, ppA, ppB, ppC]
    refine st_x (v := .iface 66 (.agg (codC A o))) rfl (x_mkI _ _ rfl rfl (mkC _ _)) ?_; try simp only [Act.put, ppA, ppB, ppC]
    refine st_x (v := .iface 66 (.agg (codC A o))) rfl (x_val _ (.inr rfl) rfl) ?_; try simp only [Act.put, ppA, ppB, ppC]
    refine st_end14 ?_
    go_wp2
    go_ret
    rw [HEA.out]
    exact ⟨rfl, hstep⟩
  · refine held_x (v := .string (strB y)) rfl rfl (x_cell _ _ rfl rfl (hBu.cell (codC_c _ _)) str_aggS) ⟨trivial, ?_⟩
    try simp only [Act.put, ppA, ppB, ppC]
    refine held_one 4 (by kernel_rfl) ?_
    refine held_x (v := .string (strB o)) rfl rfl (x_cell _ _ rfl rfl (hhu.one.cell (acG_c _ _ _ _)) str_aggS) ⟨trivial, ?_⟩
    try simp only [Act.put, ppA, ppB, ppC]
    refine held_in (v := .pointer (some ⟨b7, 20, none⟩)) 7 rfl (by kernel_rfl) (by kernel_rfl) (by kernel_rfl) (fun _ _ _ h => h) trivial rfl (fun w' hw' => x_fa _ _ _ rfl rfl (fa_c1 _ _)) ?_; try simp only [Act.put, ppA, ppB, ppC]
    refine held_one 8 (by kernel_rfl) ?_
    obtain ⟨u1, hu1⟩ : ∃ u1, u1 = World.setCell u0 ⟨b7, 20, none⟩ (.string (strB o)) := ⟨_, rfl⟩
    refine held_skip (w' := u1) rfl rfl (by rw [hu1]; exact r_store1 _ _ rfl rfl rfl hBu one_str (by rw [codC_size]; decide) rfl) ?_
    have hO1 : Only b7 u0 u1 := by rw [hu1]; exact Only.setCell u0 ⟨b7, 20, none⟩ _
    have hB1 : Blk u1 b7 66 (codC A o) := by rw [hu1, ← codC_set A y o]; exact hBu.set 20 _
    clear hu1
    have hP1 : PT (fun j => j = b7) u0 u1 := ⟨hO1.os, hO1.tape, hO1.output, Nat.le_of_eq hO1.size.symm, fun j _ hj => hO1.block j hj⟩
    have hh1 := hhu.off hBu (by decide) (by decide) hP1
    have hb1 := hh1.one
    refine ⟨trivial, ?_⟩
    try simp only [Act.put, ppA, ppB, ppC]
    refine held_in (v := .pointer (some ⟨b, 0, none⟩)) 9 rfl (by kernel_rfl) (by kernel_rfl) (by kernel_rfl) (fun _ _ _ h => h) trivial rfl (fun w' hw' => x_nilck _ rfl rfl) ?_; try simp only [Act.put, ppA, ppB, ppC]
    refine held_in (v := .pointer (some ⟨b, 33, none⟩)) 10 rfl (by kernel_rfl) (by kernel_rfl) (by kernel_rfl) (fun _ _ _ h => h) trivial rfl (fun w' hw' => x_fa _ _ _ rfl rfl (fa_a2 _ _)) ?_; try simp only [Act.put, ppA, ppB, ppC]
    refine held_one 11 (by kernel_rfl) ?_
    obtain ⟨u2, hu2⟩ : ∃ u2, u2 = World.setCell u1 ⟨b, 33, none⟩ (.string (strB y)) := ⟨_, rfl⟩
    refine held_skip (w' := u2) rfl rfl (by rw [hu2]; exact r_store1 _ _ rfl rfl rfl hb1 one_str (by rw [acG_size]; decide) rfl) ?_
    have hO2 : Only b u1 u2 := by rw [hu2]; exact Only.setCell u1 ⟨b, 33, none⟩ _
    have hb2 : Blk u2 b 79 (acG n x y mo) := by rw [hu2, ← acG_setc n x o y mo]; exact hb1.set 33 _
    clear hu2
    have hP2 : PT (fun j => j = b ∨ mo = .map (some j)) u1 u2 := ⟨hO2.os, hO2.tape, hO2.output, Nat.le_of_eq hO2.size.symm, fun j _ hj => hO2.block j (fun e => hj (.inl e))⟩
    have hh2 := hh1.set (q' := ⟨n, x, y, S⟩) (Nat.le_refl _) hP2 hb2 (hh1.sl.far (fun r hr => hO2.block r (fun e => hh1.sl.ne hb1 (by rw [hr, e])))) ⟨hqo.1, hqo.2.1, hy, hqo.2.2.2⟩ (fun r hr => .inl hr)
    have hB2 : Blk u2 b7 66 (codC A o) := hO2.blk (fun e => hb7 e.symm) hB1
    refine ⟨trivial, ?_⟩
    try simp only [Act.put, ppA, ppB, ppC]
    refine wpAnyH_done (by kernel_rfl) ?_ _
    have hPP : PT (fun j => j = b ∨ j = b7 ∨ mo = .map (some j)) w3 u2 := ((PT.nil hTu).trans (hP1.mono (fun j _ hj => .inr (.inl hj)))).trans (hP2.mono (fun j _ hj => hj.elim .inl (fun g => .inr (.inr g))))
    clear hh hhu hh1 hb1 hB1 hBu hP1 hP2 hO1 hO2 hTu
    go_upto_region 18 with (fail)
    try simp only [Act.put, ppA, ppB, ppC]
    refine wp_region_lit ?_
    refine st_x (v := .pointer (some ⟨bS, 0, none⟩)) rfl (x_val _ (.inl rfl) rfl) ?_; try simp only [Act.put, ppA, ppB, ppC]
    refine st_x (v := .pointer (some ⟨b7, 0, none⟩)) rfl (x_fa _ _ _ rfl rfl (fa_c0 _ _)) ?_; try simp only [Act.put, ppA, ppB, ppC]
    refine st_x (v := .agg (av A)) rfl (x_ldIn (n := 20) _ rfl rfl hB2 (arrV_size _ _) (fun j hj => codC_a A _ j hj) addr_tyY rfl addr_sizeY) ?_; try simp only [Act.put, ppA, ppB, ppC]
    refine st_x (v := .pointer (some ⟨b, 0, none⟩)) rfl (x_val _ (.inl rfl) rfl) ?_; try simp only [Act.put, ppA, ppB, ppC]
    refine st_callS (args := #[.pointer (some ⟨bS, 0, none⟩), .agg (av A), .pointer (some ⟨b, 0, none⟩)]) rfl rfl (by simp only [List.map_toArray, List.map_cons, List.map_nil]; rfl) Tryz.call18 (keepG B N u2 bS mv rv k F E A b mo _ hh2 hA hN) ?_
    rintro e w5 ⟨rfl, hk⟩
    refine ⟨_, rfl, ?_⟩
    try simp only [Act.put, ppA, ppB, ppC]
    refine st_end14 ?_
    have hstep := stepG_of (N := N) hA hT03 hF0 hPP hO7 (fun r hr => .inl hr) hk
    have hB5 : Blk w5 b7 66 (codC A o) := by
      obtain ⟨_, _, g2, _⟩ := hk
      exact g2.blk hB2 (fun e => e.elim (fun e => by
        have := (e ▸ hB2 : Blk u2 bS 66 _).ty hh2.blk
        revert this
        decide) (fun e => hh2.map.ne hB2 e))
    clear hk
    go_upto_region 19 with (fail)
    try simp only [Act.put, ppA, ppB, ppC]
    refine wp_region_lit ?_
    refine st_x (v := .agg (codC A o)) rfl (x_ld _ rfl rfl hB5 cod_ty rfl (by rw [codC_size]; exact cod_size)) ?_; try simp only [Act.put, ppA, ppB, ppC]
    refine st_x (v := .iface 66 (.agg (codC A o))) rfl (x_mkI _ _ rfl rfl (mkC _ _)) ?_; try simp only [Act.put, ppA, ppB, ppC]
    refine st_x (v := .iface 66 (.agg (codC A o))) rfl (x_val _ (.inr rfl) rfl) ?_; try simp only [Act.put, ppA, ppB, ppC]
    refine st_end14 ?_
    go_wp2
    go_ret
    rw [HEA.out]
    exact ⟨rfl, hstep⟩
theorem put_balanceG (B N : Nat) (w : World) (bS : Nat) (mv rv : Value) (k : Int) (F : List Nat → Option (Nat × Value)) (E : List Nat → Ac) (A : List Nat) (y : Nat) (h : GsP B N w bS mv rv k F E) (hA : Ad A) (hN : N < 1000000000) (hy : y < M256) :
    Calls Tryz.prog 33 #[.pointer (some ⟨bS, 0, none⟩), .iface 62 (.agg (balC A y))] w fun e w' => e = .returned (.iface 62 (.agg (balC A (E A).x))) ∧ StepG B (N + 1) bS mv F rv k (upQ E A ⟨(E A).n, y, (E A).c, (E A).S⟩) w w' := by
  have hqo := h.ok A hA
  go_enter Tryz.func33, Tryz.ntmps33
  go_upto_region 1 with (fail)
  try simp only [Act.put, ppA, ppB, ppC]
  refine wp_region_lit ?_
  refine st_x (v := .iface 62 (.agg (balC A y))) rfl (x_val _ (.inl rfl) rfl) ?_; try simp only [Act.put, ppA, ppB, ppC]
  refine st_end14 ?_
  go_upto_region 2 with (fail)
  try simp only [Act.put, ppA, ppB, ppC]
  refine wp_region_lit ?_
  refine st_x (v := .tuple #[.agg (nonC [] 0), .bool false]) rfl (x_ta _ _ _ rfl rfl (taBN _ _)) ?_; try simp only [Act.put, ppA, ppB, ppC]
  refine st_x (v := .bool false) rfl (x_ext _ _ rfl rfl rfl) ?_; try simp only [Act.put, ppA, ppB, ppC]
  refine st_x (v := .agg (nonC [] 0)) rfl (x_ext _ _ rfl rfl rfl) ?_; try simp only [Act.put, ppA, ppB, ppC]
  refine st_end14 ?_
  go_upto_region 8 with (fail)
  try simp only [Act.put, ppA, ppB, ppC]
  refine wp_region_lit ?_
  refine st_x (v := .tuple #[.agg (balC A y), .bool true]) rfl (x_ta _ _ _ rfl rfl (taBB _ _)) ?_; try simp only [Act.put, ppA, ppB, ppC]
  refine st_x (v := .bool true) rfl (x_ext _ _ rfl rfl rfl) ?_; try simp only [Act.put, ppA, ppB, ppC]
  refine st_x (v := .agg (balC A y)) rfl (x_ext _ _ rfl rfl rfl) ?_; try simp only [Act.put, ppA, ppB, ppC]
  refine st_end14 ?_
  go_upto_region 9 with (fail)
  try simp only [Act.put, ppA, ppB, ppC]
  refine wp_region_lit ?_
  have hS := St.start w
  refine st_new hS rfl 62 rfl bal_zero ?_; clear hS; intro w1 b7 hS; try simp only [Act.put, ppA, ppB, ppC]
  refine st_store (b := b7) (c' := balC A y) hS rfl 62 _ _ rfl rfl rfl .head bal_size (balC_size _ _) (balC_size _ _) (balC_one _ _) ?_; clear hS; intro w2 hS; try simp only [Act.put, ppA, ppB, ppC]
  refine st_end14 ?_
  have hT2 := hS.frame
  have hO7 : w.heap.size ≤ b7 := hS.le .head
  have hB7 := hS.get .head
  have h2 := h.call hT2
  clear hS
  go_upto_region 10 with (fail)
  try simp only [Act.put, ppA, ppB, ppC]
  refine wp_region_lit ?_
  refine st_x (v := .pointer (some ⟨bS, 0, none⟩)) rfl (x_val _ (.inl rfl) rfl) ?_; try simp only [Act.put, ppA, ppB, ppC]
  refine st_x (v := .pointer (some ⟨b7, 0, none⟩)) rfl (x_fa _ _ _ rfl rfl (fa_b0 _ _)) ?_; try simp only [Act.put, ppA, ppB, ppC]
  refine st_x (v := .agg (av A)) rfl (x_ldIn (n := 20) _ rfl rfl hB7 (arrV_size _ _) (fun j hj => balC_a A _ j hj) addr_tyY rfl addr_sizeY) ?_; try simp only [Act.put, ppA, ppB, ppC]
  refine st_callS (args := #[.pointer (some ⟨bS, 0, none⟩), .agg (av A)]) rfl rfl (by simp only [List.map_toArray, List.map_cons, List.map_nil]; rfl) Tryz.call53 (openG B N w2 bS mv rv k F E A h2 hA) ?_
  rintro e w3 ⟨b, mo, rfl, hT3, hh, hF⟩
  refine ⟨_, rfl, ?_⟩
  try simp only [Act.put, ppA, ppB, ppC]
  refine st_x (v := .pointer (some ⟨b, 0, none⟩)) rfl (x_val _ (.inr rfl) rfl) ?_; try simp only [Act.put, ppA, ppB, ppC]
  refine st_end14 ?_
  have hB73 := hT3.blk hB7 (by simp)
  have hT03 := hT2.trans hT3
  have hF0 : F A = some (b, mo) ∨ F A = none ∧ mo = .map none ∧ w.heap.size ≤ b := hF.imp id (fun ⟨g1, g2, g3⟩ => ⟨g1, g2, Nat.le_trans hT2.size g3⟩)
  have hb7 : b ≠ b7 := fun e => by
    have := (e ▸ hB73 : Blk w3 b 62 _).ty hh.one
    revert this
    decide
  generalize hEA : E A = qa at *
  obtain ⟨n, x, c, S⟩ := qa
  try simp only at hqo hh
  obtain ⟨o, ho⟩ : ∃ o, o = x := ⟨_, rfl⟩
  subst ho
  have HEA := hQz hEA
  clear hEA
  go_upto_region 11 with (fail)
  try simp only [Act.put, ppA, ppB, ppC]
  refine wp_region_held_drew (S := fun _ => True) (by kernel_rfl) trivial (fun hC => ?_)
  have hTu : Tch [] w3 w3.drew := (Tch.refl [] w3).drew
  have hhu := hh.call hTu
  have hBu := hTu.blk hB73 (by simp)
  generalize World.drew w3 = u0 at hTu hhu hBu ⊢
  refine held_in (v := .pointer (some ⟨b, 0, none⟩)) 0 rfl (by kernel_rfl) (by kernel_rfl) (by kernel_rfl) (fun _ _ _ h => h) hC rfl (fun w' hw' => x_val _ (.inl rfl) rfl) ?_; try simp only [Act.put, ppA, ppB, ppC]
  refine held_in (v := .pointer (some ⟨b, 0, none⟩)) 1 rfl (by kernel_rfl) (by kernel_rfl) (by kernel_rfl) (fun _ _ _ h => h) hC rfl (fun w' hw' => x_val _ (.inl rfl) rfl) ?_; try simp only [Act.put, ppA, ppB, ppC]
  refine held_in (v := .pointer (some ⟨b, 0, none⟩)) 2 rfl (by kernel_rfl) (by kernel_rfl) (by kernel_rfl) (fun _ _ _ h => h) hC rfl (fun w' hw' => x_nilck _ rfl rfl) ?_; try simp only [Act.put, ppA, ppB, ppC]
  refine held_in (v := .pointer (some ⟨b, 1, none⟩)) 3 rfl (by kernel_rfl) (by kernel_rfl) (by kernel_rfl) (fun _ _ _ h => h) hC rfl (fun w' hw' => x_fa _ _ _ rfl rfl (fa_a1 _ _)) ?_; try simp only [Act.put, ppA, ppB, ppC]
  refine held_in (v := .pointer (some ⟨b7, 20, none⟩)) 5 rfl (by kernel_rfl) (by kernel_rfl) (by kernel_rfl) (fun _ _ _ h => h) hC rfl (fun w' hw' => x_fa _ _ _ rfl rfl (fa_b1 _ _)) ?_; try simp only [Act.put, ppA, ppB, ppC]
  refine held_two 4 6 (by kernel_rfl) ?_ ?_
  · refine held_x (v := .agg (wcells o)) rfl rfl (x_ldIn (n := 32) _ rfl rfl hhu.one (wc_size _) (fun j hj => acG_x _ _ j _ _ hj) wordN_type rfl wordN_size) ⟨trivial, ?_⟩
    try simp only [Act.put, ppA, ppB, ppC]
    refine held_one 6 (by kernel_rfl) ?_
    refine held_x (v := .agg (wcells y)) rfl rfl (x_ldIn (n := 32) _ rfl rfl hBu (wc_size _) (fun j hj => balC_w A y j hj) wordN_type rfl wordN_size) ⟨trivial, ?_⟩
    try simp only [Act.put, ppA, ppB, ppC]
    refine held_in (v := .pointer (some ⟨b7, 20, none⟩)) 7 rfl (by kernel_rfl) (by kernel_rfl) (by kernel_rfl) (fun _ _ _ h => h) trivial rfl (fun w' hw' => x_fa _ _ _ rfl rfl (fa_b1 _ _)) ?_; try simp only [Act.put, ppA, ppB, ppC]
    refine held_one 8 (by kernel_rfl) ?_
    obtain ⟨u1, hu1⟩ : ∃ u1, u1 = u0.setRow b7 (splS (balC A y) 20 (wcells o)) := ⟨_, rfl⟩
    refine held_skip (w' := u1) rfl rfl (by rw [hu1]; exact r_store _ _ rfl rfl rfl hBu wordN_size (wc_size _) (by rw [wc_size, balC_size]; decide) (wc_one _)) ?_
    have hO1 : Only b7 u0 u1 := by rw [hu1]; exact Only.setRow _ _ _
    have hB1 : Blk u1 b7 62 (balC A o) := by rw [hu1]; have := hBu.row (splS (balC A y) 20 (wcells o)); rwa [balC_set] at this
    clear hu1
    have hP1 : PT (fun j => j = b7) u0 u1 := ⟨hO1.os, hO1.tape, hO1.output, Nat.le_of_eq hO1.size.symm, fun j _ hj => hO1.block j hj⟩
    have hh1 := hhu.off hBu (by decide) (by decide) hP1
    have hb1 := hh1.one
    refine ⟨trivial, ?_⟩
    try simp only [Act.put, ppA, ppB, ppC]
    refine held_in (v := .pointer (some ⟨b, 0, none⟩)) 9 rfl (by kernel_rfl) (by kernel_rfl) (by kernel_rfl) (fun _ _ _ h => h) trivial rfl (fun w' hw' => x_nilck _ rfl rfl) ?_; try simp only [Act.put, ppA, ppB, ppC]
    refine held_in (v := .pointer (some ⟨b, 1, none⟩)) 10 rfl (by kernel_rfl) (by kernel_rfl) (by kernel_rfl) (fun _ _ _ h => h) trivial rfl (fun w' hw' => x_fa _ _ _ rfl rfl (fa_a1 _ _)) ?_; try simp only [Act.put, ppA, ppB, ppC]
    refine held_one 11 (by kernel_rfl) ?_
    obtain ⟨u2, hu2⟩ : ∃ u2, u2 = u1.setRow b (splS (acG n o c mo) 1 (wcells y)) := ⟨_, rfl⟩
    refine held_skip (w' := u2) rfl rfl (by rw [hu2]; exact r_store _ _ rfl rfl rfl hb1 wordN_size (wc_size _) (by rw [wc_size, acG_size]; decide) (wc_one _)) ?_
    have hO2 : Only b u1 u2 := by rw [hu2]; exact Only.setRow _ _ _
    have hb2 : Blk u2 b 79 (acG n y c mo) := by rw [hu2]; have := hb1.row (splS (acG n o c mo) 1 (wcells y)); rwa [acG_setx] at this
    clear hu2
    have hP2 : PT (fun j => j = b ∨ mo = .map (some j)) u1 u2 := ⟨hO2.os, hO2.tape, hO2.output, Nat.le_of_eq hO2.size.symm, fun j _ hj => hO2.block j (fun e => hj (.inl e))⟩
    have hh2 := hh1.set (q' := ⟨n, y, c, S⟩) (Nat.le_refl _) hP2 hb2 (hh1.sl.far (fun r hr => hO2.block r (fun e => hh1.sl.ne hb1 (by rw [hr, e])))) ⟨hqo.1, hy, hqo.2.2⟩ (fun r hr => .inl hr)
    have hB2 : Blk u2 b7 62 (balC A o) := hO2.blk (fun e => hb7 e.symm) hB1
    refine ⟨trivial, ?_⟩
    try simp only [Act.put, ppA, ppB, ppC]
    refine wpAnyH_done (by kernel_rfl) ?_ _
    have hPP : PT (fun j => j = b ∨ j = b7 ∨ mo = .map (some j)) w3 u2 := ((PT.nil hTu).trans (hP1.mono (fun j _ hj => .inr (.inl hj)))).trans (hP2.mono (fun j _ hj => hj.elim .inl (fun g => .inr (.inr g))))
    clear hh hhu hh1 hb1 hB1 hBu hP1 hP2 hO1 hO2 hTu
    go_upto_region 12 with (fail)
    try simp only [Act.put, ppA, ppB, ppC]
    refine wp_region_lit ?_
    refine st_x (v := .pointer (some ⟨bS, 0, none⟩)) rfl (x_val _ (.inl rfl) rfl) ?_; try simp only [Act.put, ppA, ppB, ppC]
    refine st_x (v := .pointer (some ⟨b7, 0, none⟩)) rfl (x_fa _ _ _ rfl rfl (fa_b0 _ _)) ?_; try simp only [Act.put, ppA, ppB, ppC]
    refine st_x (v := .agg (av A)) rfl (x_ldIn (n := 20) _ rfl rfl hB2 (arrV_size _ _) (fun j hj => balC_a A _ j hj) addr_tyY rfl addr_sizeY) ?_; try simp only [Act.put, ppA, ppB, ppC]
    refine st_x (v := .pointer (some ⟨b, 0, none⟩)) rfl (x_val _ (.inl rfl) rfl) ?_; try simp only [Act.put, ppA, ppB, ppC]
    refine st_callS (args := #[.pointer (some ⟨bS, 0, none⟩), .agg (av A), .pointer (some ⟨b, 0, none⟩)]) rfl rfl (by simp only [List.map_toArray, List.map_cons, List.map_nil]; rfl) Tryz.call18 (keepG B N u2 bS mv rv k F E A b mo _ hh2 hA hN) ?_
    rintro e w5 ⟨rfl, hk⟩
    refine ⟨_, rfl, ?_⟩
    try simp only [Act.put, ppA, ppB, ppC]
    refine st_end14 ?_
    have hstep := stepG_of (N := N) hA hT03 hF0 hPP hO7 (fun r hr => .inl hr) hk
    have hB5 : Blk w5 b7 62 (balC A o) := by
      obtain ⟨_, _, g2, _⟩ := hk
      exact g2.blk hB2 (fun e => e.elim (fun e => by
        have := (e ▸ hB2 : Blk u2 bS 62 _).ty hh2.blk
        revert this
        decide) (fun e => hh2.map.ne hB2 e))
    clear hk
    go_upto_region 13 with (fail)
    try simp only [Act.put, ppA, ppB, ppC]
    refine wp_region_lit ?_
    refine st_x (v := .agg (balC A o)) rfl (x_ld _ rfl rfl hB5 bal_ty rfl (by rw [balC_size]; exact bal_size)) ?_; try simp only [Act.put, ppA, ppB, ppC]
    refine st_x (v := .iface 62 (.agg (balC A o))) rfl (x_mkI _ _ rfl rfl (mkB _ _)) ?_; try simp only [Act.put, ppA, ppB, ppC]
    refine st_x (v := .iface 62 (.agg (balC A o))) rfl (x_val _ (.inr rfl) rfl) ?_; try simp only [Act.put, ppA, ppB, ppC]
    refine st_end14 ?_
    go_wp2
    go_ret
    rw [HEA.out]
    exact ⟨rfl, hstep⟩
  · refine held_x (v := .agg (wcells y)) rfl rfl (x_ldIn (n := 32) _ rfl rfl hBu (wc_size _) (fun j hj => balC_w A y j hj) wordN_type rfl wordN_size) ⟨trivial, ?_⟩
    try simp only [Act.put, ppA, ppB, ppC]
    refine held_one 4 (by kernel_rfl) ?_
    refine held_x (v := .agg (wcells o)) rfl rfl (x_ldIn (n := 32) _ rfl rfl hhu.one (wc_size _) (fun j hj => acG_x _ _ j _ _ hj) wordN_type rfl wordN_size) ⟨trivial, ?_⟩
    try simp only [Act.put, ppA, ppB, ppC]
    refine held_in (v := .pointer (some ⟨b7, 20, none⟩)) 7 rfl (by kernel_rfl) (by kernel_rfl) (by kernel_rfl) (fun _ _ _ h => h) trivial rfl (fun w' hw' => x_fa _ _ _ rfl rfl (fa_b1 _ _)) ?_; try simp only [Act.put, ppA, ppB, ppC]
    refine held_one 8 (by kernel_rfl) ?_
    obtain ⟨u1, hu1⟩ : ∃ u1, u1 = u0.setRow b7 (splS (balC A y) 20 (wcells o)) := ⟨_, rfl⟩
    refine held_skip (w' := u1) rfl rfl (by rw [hu1]; exact r_store _ _ rfl rfl rfl hBu wordN_size (wc_size _) (by rw [wc_size, balC_size]; decide) (wc_one _)) ?_
    have hO1 : Only b7 u0 u1 := by rw [hu1]; exact Only.setRow _ _ _
    have hB1 : Blk u1 b7 62 (balC A o) := by rw [hu1]; have := hBu.row (splS (balC A y) 20 (wcells o)); rwa [balC_set] at this
    clear hu1
    have hP1 : PT (fun j => j = b7) u0 u1 := ⟨hO1.os, hO1.tape, hO1.output, Nat.le_of_eq hO1.size.symm, fun j _ hj => hO1.block j hj⟩
    have hh1 := hhu.off hBu (by decide) (by decide) hP1
    have hb1 := hh1.one
    refine ⟨trivial, ?_⟩
    try simp only [Act.put, ppA, ppB, ppC]
    refine held_in (v := .pointer (some ⟨b, 0, none⟩)) 9 rfl (by kernel_rfl) (by kernel_rfl) (by kernel_rfl) (fun _ _ _ h => h) trivial rfl (fun w' hw' => x_nilck _ rfl rfl) ?_; try simp only [Act.put, ppA, ppB, ppC]
    refine held_in (v := .pointer (some ⟨b, 1, none⟩)) 10 rfl (by kernel_rfl) (by kernel_rfl) (by kernel_rfl) (fun _ _ _ h => h) trivial rfl (fun w' hw' => x_fa _ _ _ rfl rfl (fa_a1 _ _)) ?_; try simp only [Act.put, ppA, ppB, ppC]
    refine held_one 11 (by kernel_rfl) ?_
    obtain ⟨u2, hu2⟩ : ∃ u2, u2 = u1.setRow b (splS (acG n o c mo) 1 (wcells y)) := ⟨_, rfl⟩
    refine held_skip (w' := u2) rfl rfl (by rw [hu2]; exact r_store _ _ rfl rfl rfl hb1 wordN_size (wc_size _) (by rw [wc_size, acG_size]; decide) (wc_one _)) ?_
    have hO2 : Only b u1 u2 := by rw [hu2]; exact Only.setRow _ _ _
    have hb2 : Blk u2 b 79 (acG n y c mo) := by rw [hu2]; have := hb1.row (splS (acG n o c mo) 1 (wcells y)); rwa [acG_setx] at this
    clear hu2
    have hP2 : PT (fun j => j = b ∨ mo = .map (some j)) u1 u2 := ⟨hO2.os, hO2.tape, hO2.output, Nat.le_of_eq hO2.size.symm, fun j _ hj => hO2.block j (fun e => hj (.inl e))⟩
    have hh2 := hh1.set (q' := ⟨n, y, c, S⟩) (Nat.le_refl _) hP2 hb2 (hh1.sl.far (fun r hr => hO2.block r (fun e => hh1.sl.ne hb1 (by rw [hr, e])))) ⟨hqo.1, hy, hqo.2.2⟩ (fun r hr => .inl hr)
    have hB2 : Blk u2 b7 62 (balC A o) := hO2.blk (fun e => hb7 e.symm) hB1
    refine ⟨trivial, ?_⟩
    try simp only [Act.put, ppA, ppB, ppC]
    refine wpAnyH_done (by kernel_rfl) ?_ _
    have hPP : PT (fun j => j = b ∨ j = b7 ∨ mo = .map (some j)) w3 u2 := ((PT.nil hTu).trans (hP1.mono (fun j _ hj => .inr (.inl hj)))).trans (hP2.mono (fun j _ hj => hj.elim .inl (fun g => .inr (.inr g))))
    clear hh hhu hh1 hb1 hB1 hBu hP1 hP2 hO1 hO2 hTu
    go_upto_region 12 with (fail)
    try simp only [Act.put, ppA, ppB, ppC]
    refine wp_region_lit ?_
    refine st_x (v := .pointer (some ⟨bS, 0, none⟩)) rfl (x_val _ (.inl rfl) rfl) ?_; try simp only [Act.put, ppA, ppB, ppC]
    refine st_x (v := .pointer (some ⟨b7, 0, none⟩)) rfl (x_fa _ _ _ rfl rfl (fa_b0 _ _)) ?_; try simp only [Act.put, ppA, ppB, ppC]
    refine st_x (v := .agg (av A)) rfl (x_ldIn (n := 20) _ rfl rfl hB2 (arrV_size _ _) (fun j hj => balC_a A _ j hj) addr_tyY rfl addr_sizeY) ?_; try simp only [Act.put, ppA, ppB, ppC]
    refine st_x (v := .pointer (some ⟨b, 0, none⟩)) rfl (x_val _ (.inl rfl) rfl) ?_; try simp only [Act.put, ppA, ppB, ppC]
    refine st_callS (args := #[.pointer (some ⟨bS, 0, none⟩), .agg (av A), .pointer (some ⟨b, 0, none⟩)]) rfl rfl (by simp only [List.map_toArray, List.map_cons, List.map_nil]; rfl) Tryz.call18 (keepG B N u2 bS mv rv k F E A b mo _ hh2 hA hN) ?_
    rintro e w5 ⟨rfl, hk⟩
    refine ⟨_, rfl, ?_⟩
    try simp only [Act.put, ppA, ppB, ppC]
    refine st_end14 ?_
    have hstep := stepG_of (N := N) hA hT03 hF0 hPP hO7 (fun r hr => .inl hr) hk
    have hB5 : Blk w5 b7 62 (balC A o) := by
      obtain ⟨_, _, g2, _⟩ := hk
      exact g2.blk hB2 (fun e => e.elim (fun e => by
        have := (e ▸ hB2 : Blk u2 bS 62 _).ty hh2.blk
        revert this
        decide) (fun e => hh2.map.ne hB2 e))
    clear hk
    go_upto_region 13 with (fail)
    try simp only [Act.put, ppA, ppB, ppC]
    refine wp_region_lit ?_
    refine st_x (v := .agg (balC A o)) rfl (x_ld _ rfl rfl hB5 bal_ty rfl (by rw [balC_size]; exact bal_size)) ?_; try simp only [Act.put, ppA, ppB, ppC]
    refine st_x (v := .iface 62 (.agg (balC A o))) rfl (x_mkI _ _ rfl rfl (mkB _ _)) ?_; try simp only [Act.put, ppA, ppB, ppC]
    refine st_x (v := .iface 62 (.agg (balC A o))) rfl (x_val _ (.inr rfl) rfl) ?_; try simp only [Act.put, ppA, ppB, ppC]
    refine st_end14 ?_
    go_wp2
    go_ret
    rw [HEA.out]
    exact ⟨rfl, hstep⟩
end
section
open Go.RowKit Go.WideMaps Go.ChangeMaps Go.MapKept
set_option maxRecDepth 100000
set_option maxHeartbeats 2000000
def sloC (A : List Nat) (k v : Nat) : Array Value := ((av A).toList ++ ((wcells k).toList ++ (wcells v).toList)).toArray
theorem sloC_size (A : List Nat) (k v : Nat) : (sloC A k v).size = 84 := by simp [sloC, arrV_size, wc_size]
theorem sloC_a (A : List Nat) (k v j : Nat) (h : j < 20) : (sloC A k v)[0 + j]? = (av A)[j]? := by
  simp only [sloC, List.getElem?_toArray]
  rw [Nat.zero_add, List.getElem?_append_left (by rw [avL]; exact h), Array.getElem?_toList]
theorem sloC_k (A : List Nat) (k v j : Nat) (h : j < 32) : (sloC A k v)[20 + j]? = (wcells k)[j]? := by
  simp only [sloC, List.getElem?_toArray]
  rw [List.getElem?_append_right (by rw [avL]; omega), avL, show 20 + j - 20 = j by omega, List.getElem?_append_left (by rw [wcL]; exact h), Array.getElem?_toList]
theorem sloC_v (A : List Nat) (k v j : Nat) (h : j < 32) : (sloC A k v)[52 + j]? = (wcells v)[j]? := by
  simp only [sloC, List.getElem?_toArray]
  rw [List.getElem?_append_right (by rw [avL]; omega), avL, List.getElem?_append_right (by rw [wcL]; omega), wcL, show 52 + j - 20 - 32 = j by omega, Array.getElem?_toList]
theorem sloC_one (A : List Nat) (k v : Nat) : (sloC A k v).all (·.oneCell') = true := one_app (all_list (av_one A)) (fun u hu => by
  rcases List.mem_append.1 hu with h | h
  · exact all_list (wc_one k) u h
  · exact all_list (wc_one v) u h)
theorem sloC_set (A : List Nat) (k v u : Nat) : splS (sloC A k v) 52 (wcells u) = sloC A k u := by
  unfold splS sloC
  rw [wcL]
  simp only [List.toList_toArray]
  rw [← List.append_assoc, ← List.append_assoc]
  have hl : ((av A).toList ++ (wcells k).toList).length = 52 := by rw [List.length_append, avL, wcL]
  rw [List.take_left' hl, List.drop_eq_nil_of_le (by rw [List.length_append, hl, wcL]; exact Nat.le_refl _), List.append_nil]
theorem slo_ty : Tryz.prog.underlying 64 = some (.struct (Tryz.prog.fieldsOf 64)) := by kernel_rfl
theorem slo_size : (Tryz.prog.info? 64).map (·.size) = some 84 := by kernel_rfl
theorem slo_zero : (Tryz.prog.info? 64).bind (·.zero) = some (.agg (sloC [] 0 0)) := by kernel_rfl
theorem fa_l0 (b : Nat) (w : World) : (Instr.fieldAt 64 (.pointer (some ⟨b, 0, none⟩)) 0).run Tryz.prog w = .ok (.pointer (some ⟨b, 0, none⟩)) w := by kernel_rfl
theorem fa_l1 (b : Nat) (w : World) : (Instr.fieldAt 64 (.pointer (some ⟨b, 0, none⟩)) 1).run Tryz.prog w = .ok (.pointer (some ⟨b, 20, none⟩)) w := by kernel_rfl
theorem fa_l2 (b : Nat) (w : World) : (Instr.fieldAt 64 (.pointer (some ⟨b, 0, none⟩)) 2).run Tryz.prog w = .ok (.pointer (some ⟨b, 52, none⟩)) w := by kernel_rfl
theorem mkSl (v : Value) (w : World) : (Instr.makeInterface 64 v).run Tryz.prog w = .ok (.iface 64 v) w := by kernel_rfl
theorem taLN (v : Value) (w : World) : (Instr.typeAssert (.iface 64 v) 92 60 true).run Tryz.prog w = .ok (.tuple #[.agg (nonC [] 0), .bool false]) w := by kernel_rfl
theorem taLB (v : Value) (w : World) : (Instr.typeAssert (.iface 64 v) 92 62 true).run Tryz.prog w = .ok (.tuple #[.agg (balC [] 0), .bool false]) w := by kernel_rfl
theorem taLC (v : Value) (w : World) : (Instr.typeAssert (.iface 64 v) 92 66 true).run Tryz.prog w = .ok (.tuple #[.agg (codC [] []), .bool false]) w := by kernel_rfl
theorem taSlSl (v : Value) (w : World) : (Instr.typeAssert (.iface 64 v) 92 64 true).run Tryz.prog w = .ok (.tuple #[v, .bool true]) w := by kernel_rfl
theorem upS_ok {S : Nat → Nat} {k v : Nat} (h1 : ∀ j, M256 ≤ j → S j = 0) (h2 : ∀ j, j < M256 → S j < M256) (hk : k < M256) (hv : v < M256) : (∀ j, M256 ≤ j → upS S k v j = 0) ∧ ∀ j, j < M256 → upS S k v j < M256 := by
  unfold upS
  refine ⟨fun j hj => ?_, fun j hj => ?_⟩
  · rw [if_neg (by omega)]; exact h1 j hj
  · split
    · exact hv
    · exact h2 j hj
theorem GsP.off {B N : Nat} {w w' : World} {bS b7 : Nat} {mv rv : Value} {k : Int} {F : List Nat → Option (Nat × Value)} {E : List Nat → Ac} {t : TypeId} {c : Array Value} (h : GsP B N w bS mv rv k F E) (hB : Blk w b7 t c) (ht1 : t ≠ 46) (ht2 : t ≠ 79) (hT : PT (fun j => j = b7) w w') : GsP B N w' bS mv rv k F E :=
  h.same fun j hj => hT.block j (h.lt hj).2 (fun e => by
    subst e
    rcases hj with e | e | ⟨X, b', m, hX, hf, e | e⟩
    · exact ht1 ((e ▸ hB : Blk w bS t c).ty h.blk)
    · exact h.map.ne hB e
    · exact ht2 ((e ▸ hB : Blk w b' t c).ty (h.acc X b' m hX hf).1)
    · exact (h.acc X b' m hX hf).2.1.ne hB e)
theorem StepG.off {B M : Nat} {bS b7 : Nat} {mv rv : Value} {F : List Nat → Option (Nat × Value)} {k : Int} {E : List Nat → Ac} {w w' w'' : World} {t : TypeId} {c : Array Value} (h : StepG B M bS mv F rv k E w w') (hB : Blk w' b7 t c) (ht1 : t ≠ 46) (ht2 : t ≠ 79) (hT : PT (fun j => j = b7) w' w'') (h7 : w.heap.size ≤ b7) : StepG B M bS mv F rv k E w w'' := by
  obtain ⟨mv', F', h1, h2, h3, h4⟩ := h
  exact ⟨mv', F', h1.off hB ht1 ht2 hT, ⟨hT.os.trans h2.os, hT.tape.trans h2.tape, hT.output.trans h2.output, Nat.le_trans h2.size hT.size, fun j hj hn => (hT.block j (Nat.lt_of_lt_of_le hj h2.size) (by omega)).trans (h2.block j hj hn)⟩, h3, h4⟩
theorem put_slotG (B N : Nat) (w : World) (bS : Nat) (mv rv : Value) (k : Int) (F : List Nat → Option (Nat × Value)) (E : List Nat → Ac) (A : List Nat) (kk v : Nat) (h : GsP B N w bS mv rv k F E) (hA : Ad A) (hN : N < 100000000) (hk : kk < M256) (hv : v < M256) :
    Calls Tryz.prog 33 #[.pointer (some ⟨bS, 0, none⟩), .iface 64 (.agg (sloC A kk v))] w fun e w' => e = .returned (.iface 64 (.agg (sloC A kk ((E A).S kk)))) ∧ StepG B (N + 2) bS mv F rv k (upQ E A ⟨(E A).n, (E A).x, (E A).c, upS (E A).S kk v⟩) w w' := by
  have hqo := h.ok A hA
  go_enter Tryz.func33, Tryz.ntmps33
  go_upto_region 1 with (fail)
  try simp only [Act.put, ppA, ppB, ppC]
  refine wp_region_lit ?_
  refine st_x (v := .iface 64 (.agg (sloC A kk v))) rfl (x_val _ (.inl rfl) rfl) ?_; try simp only [Act.put, ppA, ppB, ppC]
  refine st_end14 ?_
  go_upto_region 2 with (fail)
  try simp only [Act.put, ppA, ppB, ppC]
  refine wp_region_lit ?_
  refine st_x (v := .tuple #[.agg (nonC [] 0), .bool false]) rfl (x_ta _ _ _ rfl rfl (taLN _ _)) ?_; try simp only [Act.put, ppA, ppB, ppC]
  refine st_x (v := .bool false) rfl (x_ext _ _ rfl rfl rfl) ?_; try simp only [Act.put, ppA, ppB, ppC]
  refine st_x (v := .agg (nonC [] 0)) rfl (x_ext _ _ rfl rfl rfl) ?_; try simp only [Act.put, ppA, ppB, ppC]
  refine st_end14 ?_
  go_upto_region 8 with (fail)
  try simp only [Act.put, ppA, ppB, ppC]
  refine wp_region_lit ?_
  refine st_x (v := .tuple #[.agg (balC [] 0), .bool false]) rfl (x_ta _ _ _ rfl rfl (taLB _ _)) ?_; try simp only [Act.put, ppA, ppB, ppC]
  refine st_x (v := .bool false) rfl (x_ext _ _ rfl rfl rfl) ?_; try simp only [Act.put, ppA, ppB, ppC]
  refine st_x (v := .agg (balC [] 0)) rfl (x_ext _ _ rfl rfl rfl) ?_; try simp only [Act.put, ppA, ppB, ppC]
  refine st_end14 ?_
  go_upto_region 14 with (fail)
  try simp only [Act.put, ppA, ppB, ppC]
  refine wp_region_lit ?_
  refine st_x (v := .tuple #[.agg (codC [] []), .bool false]) rfl (x_ta _ _ _ rfl rfl (taLC _ _)) ?_; try simp only [Act.put, ppA, ppB, ppC]
  refine st_x (v := .bool false) rfl (x_ext _ _ rfl rfl rfl) ?_; try simp only [Act.put, ppA, ppB, ppC]
  refine st_x (v := .agg (codC [] [])) rfl (x_ext _ _ rfl rfl rfl) ?_; try simp only [Act.put, ppA, ppB, ppC]
  refine st_end14 ?_
  go_upto_region 20 with (fail)
  try simp only [Act.put, ppA, ppB, ppC]
  refine wp_region_lit ?_
  refine st_x (v := .tuple #[.agg (sloC A kk v), .bool true]) rfl (x_ta _ _ _ rfl rfl (taSlSl _ _)) ?_; try simp only [Act.put, ppA, ppB, ppC]
  refine st_x (v := .bool true) rfl (x_ext _ _ rfl rfl rfl) ?_; try simp only [Act.put, ppA, ppB, ppC]
  refine st_x (v := .agg (sloC A kk v)) rfl (x_ext _ _ rfl rfl rfl) ?_; try simp only [Act.put, ppA, ppB, ppC]
  refine st_end14 ?_
  go_upto_region 21 with (fail)
  try simp only [Act.put, ppA, ppB, ppC]
  refine wp_region_lit ?_
  have hS := St.start w
  refine st_new hS rfl 64 rfl slo_zero ?_; clear hS; intro w1 b7 hS; try simp only [Act.put, ppA, ppB, ppC]
  refine st_store (b := b7) (c' := (sloC A kk v)) hS rfl 64 _ _ rfl rfl rfl .head slo_size (sloC_size _ _ _) (sloC_size _ _ _) (sloC_one _ _ _) ?_; clear hS; intro w2 hS; try simp only [Act.put, ppA, ppB, ppC]
  refine st_end14 ?_
  have hT2 := hS.frame
  have hO7 : w.heap.size ≤ b7 := hS.le .head
  have hB7 := hS.get .head
  have h2 := h.call hT2
  clear hS
  go_upto_region 22 with (fail)
  try simp only [Act.put, ppA, ppB, ppC]
  refine wp_region_lit ?_
  refine st_x (v := .pointer (some ⟨bS, 0, none⟩)) rfl (x_val _ (.inl rfl) rfl) ?_; try simp only [Act.put, ppA, ppB, ppC]
  refine st_x (v := .pointer (some ⟨b7, 0, none⟩)) rfl (x_fa _ _ _ rfl rfl (fa_l0 _ _)) ?_; try simp only [Act.put, ppA, ppB, ppC]
  refine st_x (v := .agg (av A)) rfl (x_ldIn (n := 20) _ rfl rfl hB7 (arrV_size _ _) (fun j hj => sloC_a A _ _ j hj) addr_tyY rfl addr_sizeY) ?_; try simp only [Act.put, ppA, ppB, ppC]
  refine st_callS (args := #[.pointer (some ⟨bS, 0, none⟩), .agg (av A)]) rfl rfl (by simp only [List.map_toArray, List.map_cons, List.map_nil]; rfl) Tryz.call53 (openG B N w2 bS mv rv k F E A h2 hA) ?_
  rintro e w3 ⟨b, mo, rfl, hT3, hh, hF⟩
  refine ⟨_, rfl, ?_⟩
  try simp only [Act.put, ppA, ppB, ppC]
  refine st_x (v := .pointer (some ⟨b, 0, none⟩)) rfl (x_val _ (.inr rfl) rfl) ?_; try simp only [Act.put, ppA, ppB, ppC]
  refine st_end14 ?_
  have hB73 := hT3.blk hB7 (by simp)
  have hT03 := hT2.trans hT3
  have hF0 : F A = some (b, mo) ∨ F A = none ∧ mo = .map none ∧ w.heap.size ≤ b := hF.imp id (fun ⟨g1, g2, g3⟩ => ⟨g1, g2, Nat.le_trans hT2.size g3⟩)
  have hb7 : b ≠ b7 := fun e => by
    have := (e ▸ hB73 : Blk w3 b 64 _).ty hh.one
    revert this
    decide
  generalize hEA : E A = qa at *
  obtain ⟨n, x, c, S⟩ := qa
  try simp only at hqo hh
  have HEA := hQz hEA
  clear hEA
  go_upto_region 23 with (fail)
  try simp only [Act.put, ppA, ppB, ppC]
  refine wp_region_held_drew (S := fun w' => Tch [] w3 w') (by kernel_rfl) ((Tch.refl _ _).drew) (fun hC => ?_)
  generalize World.drew w3 = u0 at hC ⊢
  refine held_in (v := .pointer (some ⟨b, 0, none⟩)) 0 rfl (by kernel_rfl) (by kernel_rfl) (by kernel_rfl) (fun _ _ _ h => h) hC rfl (fun w' hw' => x_val _ (.inl rfl) rfl) ?_; try simp only [Act.put, ppA, ppB, ppC]
  refine held_in (v := .pointer (some ⟨b, 0, none⟩)) 1 rfl (by kernel_rfl) (by kernel_rfl) (by kernel_rfl) (fun _ _ _ h => h) hC rfl (fun w' hw' => x_nilck _ rfl rfl) ?_; try simp only [Act.put, ppA, ppB, ppC]
  refine held_in (v := .pointer (some ⟨b, 34, none⟩)) 2 rfl (by kernel_rfl) (by kernel_rfl) (by kernel_rfl) (fun _ _ _ h => h) hC rfl (fun w' hw' => x_fa _ _ _ rfl rfl (fa_a3 _ _)) ?_; try simp only [Act.put, ppA, ppB, ppC]
  refine held_in (v := mo) 3 rfl (by kernel_rfl) (by kernel_rfl) (by kernel_rfl) (fun _ _ _ h => h) hC rfl (fun w' hw' => x_cell _ _ rfl rfl ((hh.call hw').one.cell (acG_s _ _ _ _)) slm_aggS) ?_; try simp only [Act.put, ppA, ppB, ppC]
  refine held_in (v := .pointer (some ⟨b7, 20, none⟩)) 4 rfl (by kernel_rfl) (by kernel_rfl) (by kernel_rfl) (fun _ _ _ h => h) hC rfl (fun w' hw' => x_fa _ _ _ rfl rfl (fa_l1 _ _)) ?_; try simp only [Act.put, ppA, ppB, ppC]
  refine held_in (v := .agg (wcells kk)) 5 rfl (by kernel_rfl) (by kernel_rfl) (by kernel_rfl) (fun _ _ _ h => h) hC rfl (fun w' hw' => x_ldIn (n := 32) _ rfl rfl (hw'.blk hB73 (by simp)) (wc_size _) (fun j hj => sloC_k A _ _ j hj) wordN_type rfl wordN_size) ?_; try simp only [Act.put, ppA, ppB, ppC]
  refine held_in (v := .agg (wcells (S kk))) 6 rfl (by kernel_rfl) (by kernel_rfl) (by kernel_rfl) (fun _ _ _ h => h) hC rfl (fun w' hw' => x_lookS (hh.call hw').sl hk _ _ rfl rfl rfl) ?_; try simp only [Act.put, ppA, ppB, ppC]
  refine held_one 7 (by kernel_rfl) ?_
  refine held_alloc 25 rfl rfl rfl word_zeroS ?_
  intro u1 bt hTa hbt hbte
  refine ⟨hC.trans hTa, ?_⟩
  try simp only [Act.put, ppA, ppB, ppC]
  refine held_one 8 (by kernel_rfl) ?_
  obtain ⟨u2, hu2⟩ : ∃ u2, u2 = u1.setRow bt (splS (wcells 0) 0 (wcells (S kk))) := ⟨_, rfl⟩
  refine held_skip (w' := u2) rfl rfl (by rw [hu2]; exact r_store _ _ rfl rfl rfl hbt wordN_size (wc_size _) (by rw [wc_size, wc_size]; decide) (wc_one _)) ?_
  have hO2 : Only bt u1 u2 := by rw [hu2]; exact Only.setRow _ _ _
  have hbt2 : Blk u2 bt 25 (wcells (S kk)) := by rw [hu2]; have := hbt.row (splS (wcells 0) 0 (wcells (S kk))); rwa [splS_all (by rw [wc_size, wc_size])] at this
  clear hu2
  have hT32 : Tch [] w3 u2 := (hC.trans hTa).only hO2 (.inl (by rw [hbte]; exact hC.size))
  refine ⟨hT32, ?_⟩
  try simp only [Act.put, ppA, ppB, ppC]
  refine wpAnyH_done (by kernel_rfl) ?_ _
  have hh2 := hh.call hT32
  have hB72 := hT32.blk hB73 (by simp)
  have hBw : B ≤ u2.heap.size := Nat.le_trans hh2.base (Nat.le_of_lt hh2.blk.lt)
  clear hC hTa hbt hO2 hbte hB73 hh
  go_upto_region 24 with (fail)
  try simp only [Act.put, ppA, ppB, ppC]
  refine wp_region_lit ?_
  refine st_x (v := .pointer (some ⟨b, 0, none⟩)) rfl (x_val _ (.inl rfl) rfl) ?_; try simp only [Act.put, ppA, ppB, ppC]
  refine st_x (v := .pointer (some ⟨b7, 20, none⟩)) rfl (x_fa _ _ _ rfl rfl (fa_l1 _ _)) ?_; try simp only [Act.put, ppA, ppB, ppC]
  refine st_x (v := .agg (wcells kk)) rfl (x_ldIn (n := 32) _ rfl rfl hB72 (wc_size _) (fun j hj => sloC_k A _ _ j hj) wordN_type rfl wordN_size) ?_; try simp only [Act.put, ppA, ppB, ppC]
  refine st_x (v := .pointer (some ⟨b7, 52, none⟩)) rfl (x_fa _ _ _ rfl rfl (fa_l2 _ _)) ?_; try simp only [Act.put, ppA, ppB, ppC]
  refine st_x (v := .agg (wcells v)) rfl (x_ldIn (n := 32) _ rfl rfl hB72 (wc_size _) (fun j hj => sloC_v A _ _ j hj) wordN_type rfl wordN_size) ?_; try simp only [Act.put, ppA, ppB, ppC]
  refine st_callS (args := #[.pointer (some ⟨b, 0, none⟩), .agg (wcells kk), .agg (wcells v)]) rfl rfl (by simp only [List.map_toArray, List.map_cons, List.map_nil]; rfl) Tryz.call36 (setG B N b n x c mo S kk v u2 hh2.one hh2.sl hk hv (by omega) hBw) ?_
  rintro e w4 ⟨rfl, mo4, hb4, hs4, hP4, hm4⟩
  refine ⟨_, rfl, ?_⟩
  try simp only [Act.put, ppA, ppB, ppC]
  refine st_end14 ?_
  have hh4 := hh2.set (q' := ⟨n, x, c, upS S kk v⟩) (Nat.le_succ N) hP4 hb4 hs4 ⟨hqo.1, hqo.2.1, hqo.2.2.1, upS_ok hqo.2.2.2.1 hqo.2.2.2.2 hk hv⟩ hm4
  have hB74 := hP4.blk hB72 (fun e => e.elim (fun e => hb7 e.symm) (fun e => hh2.sl.ne hB72 e))
  have hbtb : bt ≠ b := fun e => by
    have := (e ▸ hbt2 : Blk u2 b 25 _).ty hh2.one
    revert this
    decide
  have hbt4 := hP4.blk hbt2 (fun e => e.elim hbtb (fun e => hh2.sl.ne hbt2 e))
  have hPP : PT (fun j => j = b ∨ j = b7 ∨ mo = .map (some j)) w3 w4 := (PT.nil hT32).trans (hP4.mono (fun j _ hj => hj.elim .inl (fun g => .inr (.inr g))))
  have hm : ∀ r, mo4 = .map (some r) → mo = .map (some r) ∨ w3.heap.size ≤ r := fun r hr => (hm4 r hr).imp id (fun g => Nat.le_trans hT32.size g)
  clear hh2 hB72 hbt2 hP4 hm4 hb4 hs4
  go_upto_region 25 with (fail)
  try simp only [Act.put, ppA, ppB, ppC]
  refine wp_region_lit ?_
  refine st_x (v := .pointer (some ⟨bS, 0, none⟩)) rfl (x_val _ (.inl rfl) rfl) ?_; try simp only [Act.put, ppA, ppB, ppC]
  refine st_x (v := .pointer (some ⟨b7, 0, none⟩)) rfl (x_fa _ _ _ rfl rfl (fa_l0 _ _)) ?_; try simp only [Act.put, ppA, ppB, ppC]
  refine st_x (v := .agg (av A)) rfl (x_ldIn (n := 20) _ rfl rfl hB74 (arrV_size _ _) (fun j hj => sloC_a A _ _ j hj) addr_tyY rfl addr_sizeY) ?_; try simp only [Act.put, ppA, ppB, ppC]
  refine st_x (v := .pointer (some ⟨b, 0, none⟩)) rfl (x_val _ (.inl rfl) rfl) ?_; try simp only [Act.put, ppA, ppB, ppC]
  refine st_callS (args := #[.pointer (some ⟨bS, 0, none⟩), .agg (av A), .pointer (some ⟨b, 0, none⟩)]) rfl rfl (by simp only [List.map_toArray, List.map_cons, List.map_nil]; rfl) Tryz.call18 (keepG B (N + 1) w4 bS mv rv k F E A b mo4 _ hh4 hA (by omega)) ?_
  rintro e w5 ⟨rfl, hkp⟩
  refine ⟨_, rfl, ?_⟩
  try simp only [Act.put, ppA, ppB, ppC]
  refine st_end14 ?_
  have hstep := stepG_of (N := N) hA hT03 hF0 hPP hO7 hm hkp
  obtain ⟨hB75, hbt5⟩ : Blk w5 b7 64 (sloC A kk v) ∧ Blk w5 bt 25 (wcells (S kk)) := by
    obtain ⟨_, _, g2, _⟩ := hkp
    refine ⟨g2.blk hB74 (fun e => e.elim (fun e => ?_) (fun e => hh4.map.ne hB74 e)), g2.blk hbt4 (fun e => e.elim (fun e => ?_) (fun e => hh4.map.ne hbt4 e))⟩
    · have := (e ▸ hB74 : Blk w4 bS 64 _).ty hh4.blk
      revert this
      decide
    · have := (e ▸ hbt4 : Blk w4 bS 25 _).ty hh4.blk
      revert this
      decide
  clear hkp hB74 hbt4 hh4 hPP hm
  go_upto_region 26 with (fail)
  try simp only [Act.put, ppA, ppB, ppC]
  refine wp_region_lit ?_
  refine st_x (v := .agg (wcells (S kk))) rfl (x_ld _ rfl rfl hbt5 wordN_type rfl (by rw [wc_size]; exact wordN_size)) ?_; try simp only [Act.put, ppA, ppB, ppC]
  refine st_x (v := .pointer (some ⟨b7, 52, none⟩)) rfl (x_fa _ _ _ rfl rfl (fa_l2 _ _)) ?_; try simp only [Act.put, ppA, ppB, ppC]
  obtain ⟨w6, hw6⟩ : ∃ w6, w6 = w5.setRow b7 (splS (sloC A kk v) 52 (wcells (S kk))) := ⟨_, rfl⟩
  refine st_skip (w' := w6) rfl (by rw [hw6]; exact r_store _ _ rfl rfl rfl hB75 wordN_size (wc_size _) (by rw [wc_size, sloC_size]; decide) (wc_one _)) ?_
  try simp only [Act.put, ppA, ppB, ppC]
  have hO6 : Only b7 w5 w6 := by rw [hw6]; exact Only.setRow _ _ _
  have hB76 : Blk w6 b7 64 (sloC A kk (S kk)) := by rw [hw6]; have := hB75.row (splS (sloC A kk v) 52 (wcells (S kk))); rwa [sloC_set] at this
  clear hw6
  have hst := hstep.off hB75 (by decide) (by decide) ⟨hO6.os, hO6.tape, hO6.output, Nat.le_of_eq hO6.size.symm, fun j _ hj => hO6.block j hj⟩ hO7
  refine st_end14 ?_
  go_upto_region 27 with (fail)
  try simp only [Act.put, ppA, ppB, ppC]
  refine wp_region_lit ?_
  refine st_x (v := .agg (sloC A kk (S kk))) rfl (x_ld _ rfl rfl hB76 slo_ty rfl (by rw [sloC_size]; exact slo_size)) ?_; try simp only [Act.put, ppA, ppB, ppC]
  refine st_x (v := .iface 64 (.agg (sloC A kk (S kk)))) rfl (x_mkI _ _ rfl rfl (mkSl _ _)) ?_; try simp only [Act.put, ppA, ppB, ppC]
  refine st_x (v := .iface 64 (.agg (sloC A kk (S kk)))) rfl (x_val _ (.inr rfl) rfl) ?_; try simp only [Act.put, ppA, ppB, ppC]
  refine st_end14 ?_
  go_wp2
  go_ret
  rw [HEA.out]
  exact ⟨rfl, hst⟩
end
section
open Go.RowKit Go.WideMaps Go.ChangeMaps Go.MapKept
set_option maxRecDepth 100000
set_option maxHeartbeats 2000000
theorem GsP.strike {B N : Nat} {w w' : World} {bS : Nat} {mv rv : Value} {k : Int} {F : List Nat → Option (Nat × Value)} {E : List Nat → Ac} {A : List Nat} (h : GsP B N w bS mv rv k F E) (hA : Ad A) (hT : PT (fun j => mv = .map (some j)) w w') (hmap : MapP B N w' mv (upF (fun X => (F X).map (·.1)) A none)) :
    GsP B N w' bS mv rv k (upG F A none) (upQ E A Ac.nil) := by
  rw [show (none : Option Nat) = (none : Option (Nat × Value)).map (·.1) from rfl, upF_upG] at hmap
  have up : ∀ X p, upG F A none X = some p → X ≠ A ∧ F X = some p := fun X p hf => by
    unfold upG at hf
    by_cases e : X = A
    · rw [if_pos e] at hf; cases hf
    · rw [if_neg e] at hf; exact ⟨e, hf⟩
  refine ⟨hT.blk h.blk (h.map.ne h.blk), h.base, hmap, fun X b mo hX hf => ?_, fun X hX => ?_, fun X Y b mo mo' hX hY h1 h2 => h.inj X Y b mo mo' hX hY (up X _ h1).2 (up Y _ h2).2, fun X Y b b' r hX hY h1 h2 => h.injm X Y b b' r hX hY (up X _ h1).2 (up Y _ h2).2, fun X b r hX hf => h.apm X b r hX (up X _ hf).2, fun X hX => ?_⟩
  · obtain ⟨hne, hf⟩ := up X _ hf
    obtain ⟨g1, g2, g3⟩ := h.acc X b mo hX hf
    unfold upQ
    rw [if_neg hne]
    exact ⟨hT.blk g1 (h.map.ne g1), g2.far (fun r hr => hT.block r (by rw [hr] at g2; exact g2.lt.1) (fun e => h.apm X b r hX (by rw [← hr]; exact hf) e)), g3⟩
  · unfold upG upQ
    by_cases e : X = A
    · rw [if_pos e, if_pos e]; exact ⟨fun _ => rfl, fun _ => rfl⟩
    · rw [if_neg e, if_neg e]; exact h.non X hX
  · unfold upQ
    by_cases e : X = A
    · rw [if_pos e]; exact Ac.ok_nil
    · rw [if_neg e]; exact h.ok X hX
theorem eqA_none (w : World) : (binOp .eql 51 (.pointer none) (.pointer none)).run Tryz.prog w = .ok (.bool true) w := by kernel_rfl
theorem keepNil (B N : Nat) (w : World) (bS : Nat) (mv rv : Value) (k : Int) (F : List Nat → Option (Nat × Value)) (E : List Nat → Ac) (A : List Nat) (h : GsP B N w bS mv rv k F E) (hA : Ad A) :
    Calls Tryz.prog 18 #[.pointer (some ⟨bS, 0, none⟩), .agg (av A), .pointer none] w fun e w' => e = .returned (.tuple #[]) ∧ GsP B N w' bS mv rv k (upG F A none) (upQ E A Ac.nil) ∧ PT (fun j => mv = .map (some j)) w w' := by
  have hS0 := St.start w
  go_enter Tryz.func18, Tryz.ntmps18
  go_upto_region 0 with (fail)
  try simp only [Act.put, ppA, ppB, ppC]
  refine wp_region_lit ?_
  refine st_box hS0 rfl 23 _ rfl rfl ?_; clear hS0; intro w1 b1 hS0; try simp only [Act.put, ppA, ppB, ppC]
  refine st_end14 ?_
  have hT1 := hS0.frame
  have g1 := hS0.get .head
  have h1 := h.call hT1
  clear hS0
  go_upto_region 1 with (fail)
  try simp only [Act.put, ppA, ppB, ppC]
  refine k_seq (C := fun w' => w' = w1) rfl ?_
  refine k_in (v := .pointer none) rfl (fun w' hw' => x_val _ (.inl rfl) rfl) ?_; try simp only [Act.put, ppA, ppB, ppC]
  refine k_in (v := .bool true) rfl (fun w' hw' => x_bin _ _ _ _ rfl rfl rfl rfl (eqA_none _)) ?_; try simp only [Act.put, ppA, ppB, ppC]
  refine k_in (v := .bool true) rfl (fun w' hw' => x_val _ (.inl rfl) rfl) ?_; try simp only [Act.put, ppA, ppB, ppC]
  refine k_skip (j := 2) (b := true) rfl rfl rfl rfl rfl ?_; try simp only [Act.put, ppA, ppB, ppC]
  refine k_skip (j := 2) (b := true) rfl rfl rfl rfl rfl ?_; try simp only [Act.put, ppA, ppB, ppC]
  refine k_in (v := .bool true) rfl (fun w' hw' => x_pickS (c := true) rfl _ _ _ rfl rfl rfl rfl) ?_; try simp only [Act.put, ppA, ppB, ppC]
  refine k_end ?_
  intro w2 hw2
  subst hw2
  go_upto_region 2 with (fail)
  try simp only [Act.put, ppA, ppB, ppC]
  have hmu := h1.map.ne h1.blk
  have hma := h1.map.ne g1
  refine wp_region_held_drew (S := fun w' => PT (fun j => (mv : Value) = .map (some j)) w2 w') (by kernel_rfl) (PT.nil ((Tch.refl _ _).drew)) (fun hC => ?_)
  have hD0 : Tch [] w2 w2.drew := (Tch.refl [] w2).drew
  have hM := (h1.call hD0).map
  generalize World.drew w2 = u at hC hD0 hM ⊢
  refine held_in (v := .pointer (some ⟨bS, 0, none⟩)) 0 rfl (by kernel_rfl) (by kernel_rfl) (by kernel_rfl) (fun _ _ _ h => h) hC rfl (fun w' hw' => x_val _ (.inl rfl) rfl) ?_; try simp only [Act.put, ppA, ppB, ppC]
  refine held_in (v := .pointer (some ⟨bS, 0, none⟩)) 1 rfl (by kernel_rfl) (by kernel_rfl) (by kernel_rfl) (fun _ _ _ h => h) hC rfl (fun w' hw' => x_nilck _ rfl rfl) ?_; try simp only [Act.put, ppA, ppB, ppC]
  refine held_in (v := .pointer (some ⟨bS, 0, none⟩)) 2 rfl (by kernel_rfl) (by kernel_rfl) (by kernel_rfl) (fun _ _ _ h => h) hC rfl (fun w' hw' => x_fa _ _ _ rfl rfl (fa_s0 _ _)) ?_; try simp only [Act.put, ppA, ppB, ppC]
  refine held_in (v := mv) 3 rfl (by kernel_rfl) (by kernel_rfl) (by kernel_rfl) (fun _ _ _ h => h) hC rfl (fun w' hw' => x_cell _ _ rfl rfl ((hw'.blk h1.blk hmu).cell rfl) map_agg) ?_; try simp only [Act.put, ppA, ppB, ppC]
  refine held_in (v := .agg (av A)) 4 rfl (by kernel_rfl) (by kernel_rfl) (by kernel_rfl) (fun _ _ _ h => h) hC rfl (fun w' hw' => x_ld _ rfl rfl (hw'.blk g1 hma) addr_tyY rfl (by rw [arrV_size]; exact addr_sizeY)) ?_; try simp only [Act.put, ppA, ppB, ppC]
  refine held_one 5 (by kernel_rfl) ?_
  refine held_del hM hA rfl rfl rfl rfl rfl ?_
  intro u3 q1 q2
  have hP := hC.trans q2
  refine ⟨hP, ?_⟩
  try simp only [Act.put, ppA, ppB, ppC]
  refine wpAnyH_done (by kernel_rfl) ?_ _
  go_wp2
  refine bodyPost_ret (results_none rfl _ _ _) rfl ?_
  exact ⟨rfl, h1.strike hA hP q1, (PT.nil hT1).trans hP⟩
def whoC (A : List Nat) (p : Value) : Array Value := ((av A).toList ++ [p]).toArray
theorem whoC_size (A : List Nat) (p : Value) : (whoC A p).size = 21 := by simp [whoC, arrV_size]
theorem whoC_a (A : List Nat) (p : Value) (j : Nat) (h : j < 20) : (whoC A p)[0 + j]? = (av A)[j]? := by
  simp only [whoC, List.getElem?_toArray]
  rw [Nat.zero_add, List.getElem?_append_left (by rw [avL]; exact h), Array.getElem?_toList]
theorem whoC_p (A : List Nat) (p : Value) : (whoC A p)[20]? = some p := by
  simp only [whoC, List.getElem?_toArray]
  rw [List.getElem?_append_right (by rw [avL]; exact Nat.le_refl _), avL]; rfl
theorem whoC_one (A : List Nat) {p : Value} (hp : p.oneCell' = true) : (whoC A p).all (·.oneCell') = true := one_app (all_list (av_one A)) (fun v hv => by rcases List.mem_singleton.1 hv with rfl; exact hp)
theorem whoC_set (A : List Nat) (p q : Value) : (whoC A p).setIfInBounds 20 q = whoC A q := by
  have h := avL A
  unfold whoC
  rw [List.setIfInBounds_toArray]
  congr 1
theorem who_ty : Tryz.prog.underlying 68 = some (.struct (Tryz.prog.fieldsOf 68)) := by kernel_rfl
theorem who_size : (Tryz.prog.info? 68).map (·.size) = some 21 := by kernel_rfl
theorem who_zero : (Tryz.prog.info? 68).bind (·.zero) = some (.agg (whoC [] (.pointer none))) := by kernel_rfl
theorem fa_w0 (b : Nat) (w : World) : (Instr.fieldAt 68 (.pointer (some ⟨b, 0, none⟩)) 0).run Tryz.prog w = .ok (.pointer (some ⟨b, 0, none⟩)) w := by kernel_rfl
theorem fa_w1 (b : Nat) (w : World) : (Instr.fieldAt 68 (.pointer (some ⟨b, 0, none⟩)) 1).run Tryz.prog w = .ok (.pointer (some ⟨b, 20, none⟩)) w := by kernel_rfl
theorem mkW (v : Value) (w : World) : (Instr.makeInterface 68 v).run Tryz.prog w = .ok (.iface 68 v) w := by kernel_rfl
theorem taWN (v : Value) (w : World) : (Instr.typeAssert (.iface 68 v) 92 60 true).run Tryz.prog w = .ok (.tuple #[.agg (nonC [] 0), .bool false]) w := by kernel_rfl
theorem taWB (v : Value) (w : World) : (Instr.typeAssert (.iface 68 v) 92 62 true).run Tryz.prog w = .ok (.tuple #[.agg (balC [] 0), .bool false]) w := by kernel_rfl
theorem taWC (v : Value) (w : World) : (Instr.typeAssert (.iface 68 v) 92 66 true).run Tryz.prog w = .ok (.tuple #[.agg (codC [] []), .bool false]) w := by kernel_rfl
theorem taWL (v : Value) (w : World) : (Instr.typeAssert (.iface 68 v) 92 64 true).run Tryz.prog w = .ok (.tuple #[.agg (sloC [] 0 0), .bool false]) w := by kernel_rfl
theorem taWW (v : Value) (w : World) : (Instr.typeAssert (.iface 68 v) 92 68 true).run Tryz.prog w = .ok (.tuple #[v, .bool true]) w := by kernel_rfl
theorem acp_agg (w : World) : (isAgg 51).run Tryz.prog w = .ok false w := by kernel_rfl
theorem one_acp : (Tryz.prog.info? 51).map (·.size) = some 1 := by kernel_rfl
theorem ptrV_one (o : Option Nat) : (ptrV o).oneCell' = true := by cases o <;> rfl
theorem killG (B N : Nat) (w : World) (bS : Nat) (mv rv : Value) (k : Int) (F : List Nat → Option (Nat × Value)) (E : List Nat → Ac) (A : List Nat) (h : GsP B N w bS mv rv k F E) (hA : Ad A) :
    Calls Tryz.prog 33 #[.pointer (some ⟨bS, 0, none⟩), .iface 68 (.agg (whoC A (.pointer none)))] w fun e w' => e = .returned (.iface 68 (.agg (whoC A (ptrV ((F A).map (·.1)))))) ∧ GsP B N w' bS mv rv k (upG F A none) (upQ E A Ac.nil) ∧ PT (fun j => mv = .map (some j)) w w' := by
  go_enter Tryz.func33, Tryz.ntmps33
  go_upto_region 1 with (fail)
  try simp only [Act.put, ppA, ppB, ppC]
  refine wp_region_lit ?_
  refine st_x (v := .iface 68 (.agg (whoC A (.pointer none)))) rfl (x_val _ (.inl rfl) rfl) ?_; try simp only [Act.put, ppA, ppB, ppC]
  refine st_end14 ?_
  go_upto_region 2 with (fail)
  try simp only [Act.put, ppA, ppB, ppC]
  refine wp_region_lit ?_
  refine st_x (v := .tuple #[.agg (nonC [] 0), .bool false]) rfl (x_ta _ _ _ rfl rfl (taWN _ _)) ?_; try simp only [Act.put, ppA, ppB, ppC]
  refine st_x (v := .bool false) rfl (x_ext _ _ rfl rfl rfl) ?_; try simp only [Act.put, ppA, ppB, ppC]
  refine st_x (v := .agg (nonC [] 0)) rfl (x_ext _ _ rfl rfl rfl) ?_; try simp only [Act.put, ppA, ppB, ppC]
  refine st_end14 ?_
  go_upto_region 8 with (fail)
  try simp only [Act.put, ppA, ppB, ppC]
  refine wp_region_lit ?_
  refine st_x (v := .tuple #[.agg (balC [] 0), .bool false]) rfl (x_ta _ _ _ rfl rfl (taWB _ _)) ?_; try simp only [Act.put, ppA, ppB, ppC]
  refine st_x (v := .bool false) rfl (x_ext _ _ rfl rfl rfl) ?_; try simp only [Act.put, ppA, ppB, ppC]
  refine st_x (v := .agg (balC [] 0)) rfl (x_ext _ _ rfl rfl rfl) ?_; try simp only [Act.put, ppA, ppB, ppC]
  refine st_end14 ?_
  go_upto_region 14 with (fail)
  try simp only [Act.put, ppA, ppB, ppC]
  refine wp_region_lit ?_
  refine st_x (v := .tuple #[.agg (codC [] []), .bool false]) rfl (x_ta _ _ _ rfl rfl (taWC _ _)) ?_; try simp only [Act.put, ppA, ppB, ppC]
  refine st_x (v := .bool false) rfl (x_ext _ _ rfl rfl rfl) ?_; try simp only [Act.put, ppA, ppB, ppC]
  refine st_x (v := .agg (codC [] [])) rfl (x_ext _ _ rfl rfl rfl) ?_; try simp only [Act.put, ppA, ppB, ppC]
  refine st_end14 ?_
  go_upto_region 20 with (fail)
  try simp only [Act.put, ppA, ppB, ppC]
  refine wp_region_lit ?_
  refine st_x (v := .tuple #[.agg (sloC [] 0 0), .bool false]) rfl (x_ta _ _ _ rfl rfl (taWL _ _)) ?_; try simp only [Act.put, ppA, ppB, ppC]
  refine st_x (v := .bool false) rfl (x_ext _ _ rfl rfl rfl) ?_; try simp only [Act.put, ppA, ppB, ppC]
  refine st_x (v := .agg (sloC [] 0 0)) rfl (x_ext _ _ rfl rfl rfl) ?_; try simp only [Act.put, ppA, ppB, ppC]
  refine st_end14 ?_
  go_upto_region 28 with (fail)
  try simp only [Act.put, ppA, ppB, ppC]
  refine wp_region_lit ?_
  refine st_x (v := .tuple #[.agg (whoC A (.pointer none)), .bool true]) rfl (x_ta _ _ _ rfl rfl (taWW _ _)) ?_; try simp only [Act.put, ppA, ppB, ppC]
  refine st_x (v := .bool true) rfl (x_ext _ _ rfl rfl rfl) ?_; try simp only [Act.put, ppA, ppB, ppC]
  refine st_x (v := .agg (whoC A (.pointer none))) rfl (x_ext _ _ rfl rfl rfl) ?_; try simp only [Act.put, ppA, ppB, ppC]
  refine st_end14 ?_
  go_upto_region 29 with (fail)
  try simp only [Act.put, ppA, ppB, ppC]
  refine wp_region_lit ?_
  have hS := St.start w
  refine st_new hS rfl 68 rfl who_zero ?_; clear hS; intro w1 b7 hS; try simp only [Act.put, ppA, ppB, ppC]
  refine st_store (b := b7) (c' := (whoC A (.pointer none))) hS rfl 68 _ _ rfl rfl rfl .head who_size (whoC_size _ _) (whoC_size _ _) (whoC_one _ rfl) ?_; clear hS; intro w2 hS; try simp only [Act.put, ppA, ppB, ppC]
  refine st_end14 ?_
  have hT2 := hS.frame
  have hO7 : w.heap.size ≤ b7 := hS.le .head
  have hB7 := hS.get .head
  have h2 := h.call hT2
  clear hS
  go_upto_region 30 with (fail)
  try simp only [Act.put, ppA, ppB, ppC]
  refine wp_region_held_drew (S := fun w' => Tch [] w2 w') (by kernel_rfl) ((Tch.refl _ _).drew) (fun hC => ?_)
  generalize World.drew w2 = u0 at hC ⊢
  refine held_in (v := .pointer (some ⟨bS, 0, none⟩)) 0 rfl (by kernel_rfl) (by kernel_rfl) (by kernel_rfl) (fun _ _ _ h => h) hC rfl (fun w' hw' => x_val _ (.inl rfl) rfl) ?_; try simp only [Act.put, ppA, ppB, ppC]
  refine held_in (v := .pointer (some ⟨bS, 0, none⟩)) 1 rfl (by kernel_rfl) (by kernel_rfl) (by kernel_rfl) (fun _ _ _ h => h) hC rfl (fun w' hw' => x_nilck _ rfl rfl) ?_; try simp only [Act.put, ppA, ppB, ppC]
  refine held_in (v := .pointer (some ⟨bS, 0, none⟩)) 2 rfl (by kernel_rfl) (by kernel_rfl) (by kernel_rfl) (fun _ _ _ h => h) hC rfl (fun w' hw' => x_fa _ _ _ rfl rfl (fa_s0 _ _)) ?_; try simp only [Act.put, ppA, ppB, ppC]
  refine held_in (v := mv) 3 rfl (by kernel_rfl) (by kernel_rfl) (by kernel_rfl) (fun _ _ _ h => h) hC rfl (fun w' hw' => x_cell _ _ rfl rfl ((h2.call hw').blk.cell rfl) map_agg) ?_; try simp only [Act.put, ppA, ppB, ppC]
  refine held_in (v := .pointer (some ⟨b7, 0, none⟩)) 4 rfl (by kernel_rfl) (by kernel_rfl) (by kernel_rfl) (fun _ _ _ h => h) hC rfl (fun w' hw' => x_fa _ _ _ rfl rfl (fa_w0 _ _)) ?_; try simp only [Act.put, ppA, ppB, ppC]
  refine held_in (v := .agg (av A)) 5 rfl (by kernel_rfl) (by kernel_rfl) (by kernel_rfl) (fun _ _ _ h => h) hC rfl (fun w' hw' => x_ldIn (n := 20) _ rfl rfl (hw'.blk hB7 (by simp)) (arrV_size _ _) (fun j hj => whoC_a A _ j hj) addr_tyY rfl addr_sizeY) ?_; try simp only [Act.put, ppA, ppB, ppC]
  refine held_in (v := ptrV ((F A).map (·.1))) 6 rfl (by kernel_rfl) (by kernel_rfl) (by kernel_rfl) (fun _ _ _ h => h) hC rfl (fun w' hw' => x_look (h2.call hw').map hA _ _ rfl rfl rfl) ?_; try simp only [Act.put, ppA, ppB, ppC]
  refine held_in (v := ptrV ((F A).map (·.1))) 7 rfl (by kernel_rfl) (by kernel_rfl) (by kernel_rfl) (fun _ _ _ h => h) hC rfl (fun w' hw' => x_val _ (.inr rfl) rfl) ?_; try simp only [Act.put, ppA, ppB, ppC]
  refine wpAnyH_done (by kernel_rfl) ?_ _
  have h3 := h2.call hC
  have hB73 := hC.blk hB7 (by simp)
  go_upto_region 31 with (fail)
  try simp only [Act.put, ppA, ppB, ppC]
  refine wp_region_lit ?_
  refine st_x (v := .pointer (some ⟨bS, 0, none⟩)) rfl (x_val _ (.inl rfl) rfl) ?_; try simp only [Act.put, ppA, ppB, ppC]
  refine st_x (v := .pointer (some ⟨b7, 0, none⟩)) rfl (x_fa _ _ _ rfl rfl (fa_w0 _ _)) ?_; try simp only [Act.put, ppA, ppB, ppC]
  refine st_x (v := .agg (av A)) rfl (x_ldIn (n := 20) _ rfl rfl hB73 (arrV_size _ _) (fun j hj => whoC_a A _ j hj) addr_tyY rfl addr_sizeY) ?_; try simp only [Act.put, ppA, ppB, ppC]
  refine st_x (v := .pointer (some ⟨b7, 20, none⟩)) rfl (x_fa _ _ _ rfl rfl (fa_w1 _ _)) ?_; try simp only [Act.put, ppA, ppB, ppC]
  refine st_x (v := .pointer none) rfl (x_cell _ _ rfl rfl (hB73.cell (whoC_p _ _)) acp_agg) ?_; try simp only [Act.put, ppA, ppB, ppC]
  refine st_callS (args := #[.pointer (some ⟨bS, 0, none⟩), .agg (av A), .pointer none]) rfl rfl (by simp only [List.map_toArray, List.map_cons, List.map_nil]; rfl) Tryz.call18 (keepNil B N u0 bS mv rv k F E A h3 hA) ?_
  rintro e w5 ⟨rfl, h5, hP5⟩
  refine ⟨_, rfl, ?_⟩
  try simp only [Act.put, ppA, ppB, ppC]
  refine st_end14 ?_
  have hB75 := hP5.blk hB73 (h3.map.ne hB73)
  go_upto_region 32 with (fail)
  try simp only [Act.put, ppA, ppB, ppC]
  refine wp_region_lit ?_
  refine st_x (v := ptrV ((F A).map (·.1))) rfl (x_val _ (.inl rfl) rfl) ?_; try simp only [Act.put, ppA, ppB, ppC]
  refine st_x (v := .pointer (some ⟨b7, 20, none⟩)) rfl (x_fa _ _ _ rfl rfl (fa_w1 _ _)) ?_; try simp only [Act.put, ppA, ppB, ppC]
  obtain ⟨w6, hw6⟩ : ∃ w6, w6 = World.setCell w5 ⟨b7, 20, none⟩ (ptrV ((F A).map (·.1))) := ⟨_, rfl⟩
  refine st_skip (w' := w6) rfl (by rw [hw6]; exact r_store1 _ _ rfl rfl rfl hB75 one_acp (by rw [whoC_size]; decide) (ptrV_one _)) ?_
  try simp only [Act.put, ppA, ppB, ppC]
  have hO6 : Only b7 w5 w6 := by rw [hw6]; exact Only.setCell w5 ⟨b7, 20, none⟩ _
  have hB76 : Blk w6 b7 68 (whoC A (ptrV ((F A).map (·.1)))) := by rw [hw6, ← whoC_set A (.pointer none) (ptrV ((F A).map (·.1)))]; exact hB75.set 20 _
  clear hw6
  have hP6 : PT (fun j => j = b7) w5 w6 := ⟨hO6.os, hO6.tape, hO6.output, Nat.le_of_eq hO6.size.symm, fun j _ hj => hO6.block j hj⟩
  have h6 := h5.off hB75 (by decide) (by decide) hP6
  have hT0 := hT2.trans hC
  refine st_end14 ?_
  go_upto_region 33 with (fail)
  try simp only [Act.put, ppA, ppB, ppC]
  refine wp_region_lit ?_
  refine st_x (v := .agg (whoC A (ptrV ((F A).map (·.1))))) rfl (x_ld _ rfl rfl hB76 who_ty rfl (by rw [whoC_size]; exact who_size)) ?_; try simp only [Act.put, ppA, ppB, ppC]
  refine st_x (v := .iface 68 (.agg (whoC A (ptrV ((F A).map (·.1)))))) rfl (x_mkI _ _ rfl rfl (mkW _ _)) ?_; try simp only [Act.put, ppA, ppB, ppC]
  refine st_x (v := .iface 68 (.agg (whoC A (ptrV ((F A).map (·.1)))))) rfl (x_val _ (.inr rfl) rfl) ?_; try simp only [Act.put, ppA, ppB, ppC]
  refine st_end14 ?_
  go_wp2
  go_ret
  exact ⟨rfl, h6, hP6.os.trans (hP5.os.trans hT0.os), hP6.tape.trans (hP5.tape.trans hT0.tape), hP6.output.trans (hP5.output.trans hT0.output), Nat.le_trans hT0.size (Nat.le_trans hP5.size hP6.size), fun j hj hn => (hP6.block j (by have := hT0.size; have := hP5.size; omega) (by omega)).trans ((hP5.block j (by have := hT0.size; omega) hn).trans (hT0.block j hj (by simp)))⟩
end
end Go.Proofs.YtopfmaoeebgjmaaGreatDoor
