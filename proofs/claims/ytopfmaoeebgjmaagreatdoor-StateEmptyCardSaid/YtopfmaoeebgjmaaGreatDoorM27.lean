/- The document's states: at, SetBalance. -/
import Derived.Test.YtopfmaoeebgjmaaGreatDoorM01
import Derived.Test.YtopfmaoeebgjmaaGreatDoorM26
import Derived.Maps.AppendAt
set_option linter.unusedVariables false
set_option linter.unusedSimpArgs false
namespace Go.Proofs.YtopfmaoeebgjmaaGreatDoor
section
open Go.RowKit Go.WideMaps Go.ChangeMaps Go.MapKept
set_option maxRecDepth 100000
set_option maxHeartbeats 2000000
theorem own_mono {w : World} {B B' e sz n : Nat} {v : Value} {xs : List Value} (h : w.ownsRow B e sz v n xs) (hB : B' ≤ B) : w.ownsRow B' e sz v n xs := by
  obtain ⟨h1, h2⟩ := h
  refine ⟨h1, h2.imp id ?_⟩
  rintro ⟨g, cap, cur, rfl, hg, h3⟩
  exact ⟨g, cap, cur, rfl, Nat.le_trans hB hg, h3⟩
theorem own_call {w w' : World} {B e sz n : Nat} {v : Value} {xs : List Value} {bs : List Nat} (h : w.ownsRow B e sz v n xs) (hT : Tch bs w w') (hb : ∀ g, v.ownBlock = some g → g ∉ bs) : w'.ownsRow B e sz v n xs := own_far h hT hb
section
variable {a : Act} {w : World} {o : Oper} {Q : Exit → Act → World → Prop} {l0 : List Oper}
end
end
section
open Go.RowKit Go.WideMaps Go.ChangeMaps Go.MapKept
set_option maxRecDepth 100000
set_option maxHeartbeats 1000000
theorem bld_state (w : World) : (Instr.build 46 #[]).run Tryz.prog w = .ok (.agg #[.map none, .slice none 0 0, .int .i64 0]) w := by kernel_rfl
theorem StP.none (B N : Nat) (w : World) (bS : Nat) (k : Int) (hB : B ≤ bS) (h : Blk w bS 46 #[.map none, .slice none 0 0, .int .i64 k]) : StP B N w bS (.map none) (.slice none 0 0) k (fun _ => none) (fun _ => (0, 0)) :=
  ⟨h, hB, .inl ⟨rfl, fun _ => rfl⟩, fun _ _ _ h => (by cases h), fun _ _ _ => rfl, fun _ _ _ _ _ h => (by cases h), fun _ _ => ⟨by decide, M256_pos⟩⟩
theorem new_nil (w : World) : Calls Tryz.prog 5 #[.slice none 0 0] w fun e w' => ∃ b, e = .returned (.pointer (some ⟨b, 0, none⟩)) ∧ w.heap.size ≤ b ∧ Tch [] w w' ∧ Blk w' b 46 #[.map none, .slice none 0 0, .int .i64 0] := by
  have hS := St.start w
  go_enter Tryz.func5, Tryz.ntmps5
  go_upto_region 1 with (fail)
  try simp only [Act.put, ppA, ppB, ppC]
  refine wp_region_lit ?_
  refine st_x (v := .agg #[.map none, .slice none 0 0, .int .i64 0]) rfl (x_bld (vals := #[]) rfl (by simp only [List.map_toArray, List.map_nil]) (bld_state _)) ?_; try simp only [Act.put, ppA, ppB, ppC]
  refine st_box hS rfl 46 _ rfl rfl ?_; clear hS; intro w1 b hS; try simp only [Act.put, ppA, ppB, ppC]
  refine st_x (v := .pointer (some ⟨b, 0, none⟩)) rfl (x_val _ (.inr rfl) rfl) ?_; try simp only [Act.put, ppA, ppB, ppC]
  refine st_end14 ?_
  go_upto_region 2 with (fail)
  try simp only [Act.put, ppA, ppB, ppC]
  refine wp_region_lit ?_
  refine st_x (v := .slice none 0 0) rfl (x_val _ (.inl rfl) rfl) ?_; try simp only [Act.put, ppA, ppB, ppC]
  refine st_x (v := .int .i64 0) rfl (x_lenA (p := none) (n := 0) (c := 0) _ rfl rfl) ?_; try simp only [Act.put, ppA, ppB, ppC]
  refine st_x (v := .int .i64 0) rfl (x_val _ (.inl rfl) rfl) ?_; try simp only [Act.put, ppA, ppB, ppC]
  refine st_end14 ?_
  go_wp2
  go_loopw [10] (fun i wr => i = .int .i64 0 ∧ wr = w1) (fun _ _ => 0)
  case atStart => exact ⟨rfl, rfl⟩
  case round =>
    obtain ⟨rfl, rfl⟩ := hrel
    go_wp2
    go_ret
    exact ⟨b, rfl, hS.le .head, hS.frame, hS.get .head⟩
end
section
open Go.RowKit Go.WideMaps Go.ChangeMaps Go.MapKept
set_option maxRecDepth 100000
set_option maxHeartbeats 1000000
theorem recs_ty : Tryz.prog.underlying 44 = some (.slice 76) := by kernel_rfl
theorem rec_infos : (Tryz.prog.info? 76).map (fun i => (i.zero, i.size, i.bytes)) = some (some (.agg #[.int .i64 0, .slice none 0 0, .map none]), 3, 40) := by kernel_rfl
theorem rec_ty : Tryz.prog.underlying 76 = some (.struct (Tryz.prog.fieldsOf 76)) := by kernel_rfl
theorem rec_size : (Tryz.prog.info? 76).map (·.size) = some 3 := by kernel_rfl
theorem bld_rec (n : Int) (w : World) : (Instr.build 76 #[(0, .int .i64 n)]).run Tryz.prog w = .ok (.agg #[.int .i64 n, .slice none 0 0, .map none]) w := by kernel_rfl
theorem bld_rec1 (n : Int) (w : World) : (Instr.buildSlice 44 1 #[(0, .agg #[.int .i64 n, .slice none 0 0, .map none])]).run Tryz.prog w = .ok (.slice (some ⟨w.heap.size, 0, none⟩) 1 1) (w.alloc (.cells #[.int .i64 n, .slice none 0 0, .map none] 76)) := by kernel_rfl
theorem one_size_recs : (Tryz.prog.info? 44).map (·.size) = some 1 := by kernel_rfl
section
variable {a : Act} {w : World} {o : Oper} {Q : Exit → Act → World → Prop} {l0 : List Oper}
theorem held_bldR {n : Nat} {K : Act → World → Prop} {m : Int} {x1 : Operand} (ho : l0[n]? = some o) (hw : Region.wanted o (yielded l0.toArray a.tmps) = true) (hop : o.op = .buildSlice 44 1 #[(0, x1)]) (h1 : a.eval x1 = .agg #[.int .i64 m, .slice none 0 0, .map none])
    (h : ∀ w' b, Tch [] w w' → Blk w' b 76 #[.int .i64 m, .slice none 0 0, .map none] → b = w.heap.size → K (a.put o.dst (.slice (some ⟨b, 0, none⟩) 1 1)) w') : wpOp Tryz.prog l0.toArray Q n K a w := by
  have hr : (execOp a.eval o).run Tryz.prog w = .ok (.value (.slice (some ⟨w.heap.size, 0, none⟩) 1 1)) (w.alloc (.cells #[.int .i64 m, .slice none 0 0, .map none] 76)) := by
    have := bld_rec1 m w
    unfold execOp
    simp only [hop, List.map_toArray, List.map_cons, List.map_nil, h1, Sem.run_bind, this, Result.andThen_ok, Sem.run_pure]
  exact held_run ho hw hr (h _ _ ((Tch.refl _ _).alloc _) (heap_alloc_new w _) rfl)
theorem held_appR {n b : Nat} {K : Act → World → Prop} {m : Int} {s x : Operand} (ho' : l0[n]? = some o) (hw : Region.wanted o (yielded l0.toArray a.tmps) = true)
    (ho : o.op = .call { callee := .builtin .append, args := #[s, x], argTypes := #[44, 44] }) (hs : a.eval s = .slice none 0 0) (hx : a.eval x = .slice (some ⟨b, 0, none⟩) 1 1) (hB : Blk w b 76 #[.int .i64 m, .slice none 0 0, .map none])
    (h : ∀ g cap w', w'.ownsRow w.heap.size 76 3 (.slice (some ⟨g, 0, none⟩) 1 cap) 1 [.int .i64 m, .slice none 0 0, .map none] → Tch [] w w' → K (a.put o.dst (.slice (some ⟨g, 0, none⟩) 1 cap)) w') : wpOp Tryz.prog l0.toArray Q n K a w := by
  obtain ⟨i0, hi, hz0, hz1, hz2⟩ := info_parts rec_infos
  obtain ⟨v', w', hr, h2, hgrow, _, h3⟩ := run_append_own_at (P := Tryz.prog) w w.heap.size 44 o.type 76 i0 _ 3 40 recs_ty hi hz0 hz1 hz2 rfl (by decide) (.slice none 0 0) 0 [] (World.ownsRow_nil _ _ _ _) ⟨b, 0, none⟩ 1 1 [.int .i64 m, .slice none 0 0, .map none] rfl (fun j u hu => by
    have hadd : (⟨b, 0, none⟩ : Addr).add j = ⟨b, j, none⟩ := by unfold Addr.add; split <;> simp_all
    rw [hadd]
    exact hB.cell (by rw [← Array.getElem?_toList]; exact hu)) (by intro u hu; simp at hu; rcases hu with rfl | rfl | rfl <;> rfl) (by unfold maxLen; omega) (by omega) (Nat.le_refl _)
  rw [List.nil_append, Nat.zero_add] at h2
  obtain ⟨g, cap, rfl, hg, hgl⟩ := h2.form (by decide)
  refine held_run ho' hw ?_ (h g cap w' h2 (tch_grow hgrow))
  unfold execOp
  simp only [ho, resolve, invoke, builtin, Sem.run_bind, Sem.run_pure, Result.andThen_ok, List.map_toArray, List.map_cons, List.map_nil, hs, hx, hr]
end
theorem mark_any (B N : Nat) (w : World) (bS : Nat) (mv : Value) (F : List Nat → Option Nat) (E : List Nat → Nat × Nat) (h : StP B N w bS mv (.slice none 0 0) 0 F E) :
    Calls Tryz.prog 15 #[.pointer (some ⟨bS, 0, none⟩)] w fun e w' => e = .returned (.int .i64 1) ∧ ∃ g cap, StP B N w' bS mv (.slice (some ⟨g, 0, none⟩) 1 cap) 1 F E ∧
      w'.ownsRow w.heap.size 76 3 (.slice (some ⟨g, 0, none⟩) 1 cap) 1 [.int .i64 1, .slice none 0 0, .map none] ∧ PT (fun j => j = bS) w w' := by
  have H := hQz h
  have hB0 := h.blk
  clear h
  go_enter Tryz.func15, Tryz.ntmps15
  go_upto_region 1 with (fail)
  try simp only [Act.put, ppA, ppB, ppC]
  refine wp_region_lit ?_
  refine st_x (v := .pointer (some ⟨bS, 0, none⟩)) rfl (x_val _ (.inl rfl) rfl) ?_; try simp only [Act.put, ppA, ppB, ppC]
  refine st_x (v := .pointer (some ⟨bS, 0, none⟩)) rfl (x_nilck _ rfl rfl) ?_; try simp only [Act.put, ppA, ppB, ppC]
  refine st_x (v := .pointer (some ⟨bS, 2, none⟩)) rfl (x_fa _ _ _ rfl rfl (fa_s2 _ _)) ?_; try simp only [Act.put, ppA, ppB, ppC]
  refine st_x (v := .int .i64 0) rfl (x_cell _ _ rfl rfl (hB0.cell rfl) int_aggS) ?_; try simp only [Act.put, ppA, ppB, ppC]
  refine st_x (v := .int .i64 1) rfl (x_addI rfl _ _ _ _ rfl rfl rfl) ?_; try simp only [Act.put, ppA, ppB, ppC]
  refine st_x (v := .pointer (some ⟨bS, 0, none⟩)) rfl (x_nilck _ rfl rfl) ?_; try simp only [Act.put, ppA, ppB, ppC]
  refine st_x (v := .pointer (some ⟨bS, 2, none⟩)) rfl (x_fa _ _ _ rfl rfl (fa_s2 _ _)) ?_; try simp only [Act.put, ppA, ppB, ppC]
  obtain ⟨w1, hw1⟩ : ∃ w1, w1 = World.setCell w ⟨bS, 2, none⟩ (.int .i64 1) := ⟨_, rfl⟩
  refine st_skip (w' := w1) rfl (by rw [hw1]; exact r_store1 _ _ rfl rfl rfl hB0 size_one_int (by show 2 < 3; decide) rfl) ?_; try simp only [Act.put, ppA, ppB, ppC]
  have hO1 : Only bS w w1 := by rw [hw1]; exact Only.setCell w ⟨bS, 2, none⟩ _
  have hB1 : Blk w1 bS 46 #[mv, .slice none 0 0, .int .i64 1] := by rw [hw1]; exact hB0.set 2 _
  clear hw1
  refine st_end14 ?_
  have hne : mv ≠ .map (some bS) := H.out.mapne
  have hM1 : StP B N w1 bS mv (.slice none 0 0) 1 F E := ⟨hB1, H.out.base, H.out.map.far (fun r hr => hO1.block r (fun e => hne (by rw [hr, e]))), fun A b hA hF => ⟨hO1.blk (H.out.acc A b hA hF).2.2 (H.out.acc A b hA hF).1, (H.out.acc A b hA hF).2⟩, H.out.non, H.out.inj, H.out.ok⟩
  have H1 := hQz hM1
  have hP1 : PT (fun j => j = bS) w w1 := ⟨hO1.os, hO1.tape, hO1.output, Nat.le_of_eq hO1.size.symm, fun j _ hj => hO1.block j hj⟩
  clear hM1
  go_upto_region 2 with (fail)
  try simp only [Act.put, ppA, ppB, ppC]
  refine wp_region_held_drew (S := fun w' => PT (fun j => j = bS) w1 w') (by kernel_rfl) (PT.nil ((Tch.refl _ _).drew)) (fun hC => ?_)
  have hTu : Tch [] w1 w1.drew := (Tch.refl [] w1).drew
  generalize World.drew w1 = u at hC hTu ⊢
  refine held_in (v := .pointer (some ⟨bS, 0, none⟩)) 0 rfl (by kernel_rfl) (by kernel_rfl) (by kernel_rfl) (fun _ _ _ h => h) hC rfl (fun w' hw' => x_val _ (.inl rfl) rfl) ?_; try simp only [Act.put, ppA, ppB, ppC]
  refine held_in (v := .pointer (some ⟨bS, 0, none⟩)) 1 rfl (by kernel_rfl) (by kernel_rfl) (by kernel_rfl) (fun _ _ _ h => h) hC rfl (fun w' hw' => x_val _ (.inl rfl) rfl) ?_; try simp only [Act.put, ppA, ppB, ppC]
  refine held_in (v := .pointer (some ⟨bS, 0, none⟩)) 2 rfl (by kernel_rfl) (by kernel_rfl) (by kernel_rfl) (fun _ _ _ h => h) hC rfl (fun w' hw' => x_nilck _ rfl rfl) ?_; try simp only [Act.put, ppA, ppB, ppC]
  refine held_in (v := .pointer (some ⟨bS, 1, none⟩)) 3 rfl (by kernel_rfl) (by kernel_rfl) (by kernel_rfl) (fun _ _ _ h => h) hC rfl (fun w' hw' => x_fa _ _ _ rfl rfl (fa_s1 _ _)) ?_; try simp only [Act.put, ppA, ppB, ppC]
  refine held_in (v := .pointer (some ⟨bS, 0, none⟩)) 5 rfl (by kernel_rfl) (by kernel_rfl) (by kernel_rfl) (fun _ _ _ h => h) hC rfl (fun w' hw' => x_val _ (.inl rfl) rfl) ?_; try simp only [Act.put, ppA, ppB, ppC]
  refine held_in (v := .pointer (some ⟨bS, 0, none⟩)) 6 rfl (by kernel_rfl) (by kernel_rfl) (by kernel_rfl) (fun _ _ _ h => h) hC rfl (fun w' hw' => x_nilck _ rfl rfl) ?_; try simp only [Act.put, ppA, ppB, ppC]
  refine held_in (v := .pointer (some ⟨bS, 2, none⟩)) 7 rfl (by kernel_rfl) (by kernel_rfl) (by kernel_rfl) (fun _ _ _ h => h) hC rfl (fun w' hw' => x_fa _ _ _ rfl rfl (fa_s2 _ _)) ?_; try simp only [Act.put, ppA, ppB, ppC]
  refine held_two 4 8 (by kernel_rfl) ?_ ?_
  · refine held_x (v := .slice none 0 0) rfl rfl (x_cell _ _ rfl rfl ((hTu.blk hB1 (by simp)).cell rfl) recs_agg) ⟨PT.nil hTu, ?_⟩
    try simp only [Act.put, ppA, ppB, ppC]
    refine held_one 8 (by kernel_rfl) ?_
    refine held_x (v := .int .i64 1) rfl rfl (x_cell _ _ rfl rfl ((hTu.blk hB1 (by simp)).cell rfl) int_aggS) ⟨PT.nil hTu, ?_⟩
    try simp only [Act.put, ppA, ppB, ppC]
    refine held_in (v := .agg #[.int .i64 1, .slice none 0 0, .map none]) 9 rfl (by kernel_rfl) (by kernel_rfl) (by kernel_rfl) (fun _ _ _ h => h) (PT.nil hTu) rfl (fun w' hw' => x_bld (vals := #[(0, .int .i64 1)]) rfl (by simp only [List.map_toArray, List.map_cons, List.map_nil]; rfl) (bld_rec _ _)) ?_; try simp only [Act.put, ppA, ppB, ppC]
    refine held_one 10 (by kernel_rfl) ?_
    refine held_bldR (m := 1) rfl rfl rfl rfl ?_
    intro ub b10 hTq hb10 hbn
    have hTub := hTu.trans hTq
    refine ⟨PT.nil hTub, ?_⟩
    try simp only [Act.put, ppA, ppB, ppC]
    refine held_one 11 (by kernel_rfl) ?_
    refine held_appR (b := b10) (m := 1) rfl rfl rfl rfl rfl hb10 ?_
    intro g cap y1 hown hTa
    have hTy := hTub.trans hTa
    refine ⟨PT.nil hTy, ?_⟩
    try simp only [Act.put, ppA, ppB, ppC]
    refine held_in (v := .pointer (some ⟨bS, 0, none⟩)) 12 rfl (by kernel_rfl) (by kernel_rfl) (by kernel_rfl) (fun _ _ _ h => h) (PT.nil hTy) rfl (fun w' hw' => x_nilck _ rfl rfl) ?_; try simp only [Act.put, ppA, ppB, ppC]
    refine held_in (v := .pointer (some ⟨bS, 1, none⟩)) 13 rfl (by kernel_rfl) (by kernel_rfl) (by kernel_rfl) (fun _ _ _ h => h) (PT.nil hTy) rfl (fun w' hw' => x_fa _ _ _ rfl rfl (fa_s1 _ _)) ?_; try simp only [Act.put, ppA, ppB, ppC]
    have hBy := hTy.blk hB1 (by simp)
    obtain ⟨w5, hw5⟩ : ∃ w5, w5 = World.setCell y1 ⟨bS, 1, none⟩ (.slice (some ⟨g, 0, none⟩) 1 cap) := ⟨_, rfl⟩
    refine held_one 14 (by kernel_rfl) ?_
    refine held_skip (w' := w5) rfl rfl (by rw [hw5]; exact r_store1 _ _ rfl rfl rfl hBy one_size_recs (by show 1 < 3; decide) rfl) ?_
    have hO5 : Only bS y1 w5 := by rw [hw5]; exact Only.setCell y1 ⟨bS, 1, none⟩ _
    have hB5 : Blk w5 bS 46 #[mv, .slice (some ⟨g, 0, none⟩) 1 cap, .int .i64 1] := by rw [hw5]; exact hBy.set 1 _
    clear hw5
    have hP5 : PT (fun j => j = bS) w1 w5 := ⟨hO5.os.trans hTy.os, hO5.tape.trans hTy.tape, hO5.output.trans hTy.output, Nat.le_trans hTy.size (Nat.le_of_eq hO5.size.symm), fun j hj hn => (hO5.block j hn).trans (hTy.block j hj (by simp))⟩
    refine ⟨hP5, ?_⟩
    try simp only [Act.put, ppA, ppB, ppC]
    refine wpAnyH_done (by kernel_rfl) ?_ _
    have hgl := hown.lt g rfl
    have hgb : g ≠ bS := by have h1 := hBy.lt; have h2 := H1.out.blk.lt; have h3 := hTub.size; omega
    have hown5 : w5.ownsRow w.heap.size 76 3 (.slice (some ⟨g, 0, none⟩) 1 cap) 1 [.int .i64 1, .slice none 0 0, .map none] := own_mono (own_call hown (bs := [bS]) ⟨hO5.os, hO5.tape, hO5.output, Nat.le_of_eq hO5.size.symm, fun j _ hj => hO5.block j (fun e => hj (by rw [e]; simp))⟩ (fun g' e hm => by cases e; rw [List.mem_singleton] at hm; exact hgb hm)) (Nat.le_trans (Nat.le_of_eq hO1.size.symm) hTub.size)
    have hM5 : StP B N w5 bS mv (.slice (some ⟨g, 0, none⟩) 1 cap) 1 F E := ⟨hB5, H1.out.base, H1.out.map.far (fun r hr => hP5.block r (by have := H1.out.map; rw [hr] at this; exact this.lt.1) (fun e => hne (by rw [hr, e]))), fun A b hA hF => ⟨hP5.blk (H1.out.acc A b hA hF).1 (H1.out.acc A b hA hF).2.2, (H1.out.acc A b hA hF).2⟩, H1.out.non, H1.out.inj, H1.out.ok⟩
    go_upto_region 3 with (fail)
    try simp only [Act.put, ppA, ppB, ppC]
    refine wp_region_lit ?_
    refine st_x (v := .pointer (some ⟨bS, 0, none⟩)) rfl (x_val _ (.inl rfl) rfl) ?_; try simp only [Act.put, ppA, ppB, ppC]
    refine st_x (v := .pointer (some ⟨bS, 0, none⟩)) rfl (x_nilck _ rfl rfl) ?_; try simp only [Act.put, ppA, ppB, ppC]
    refine st_x (v := .pointer (some ⟨bS, 2, none⟩)) rfl (x_fa _ _ _ rfl rfl (fa_s2 _ _)) ?_; try simp only [Act.put, ppA, ppB, ppC]
    refine st_x (v := .int .i64 1) rfl (x_cell _ _ rfl rfl (hB5.cell rfl) int_aggS) ?_; try simp only [Act.put, ppA, ppB, ppC]
    refine st_x (v := .int .i64 1) rfl (x_val _ (.inr rfl) rfl) ?_; try simp only [Act.put, ppA, ppB, ppC]
    refine st_end14 ?_
    go_wp2
    go_ret
    exact ⟨rfl, g, cap, hM5, hown5, hP1.trans (hP5.mono fun j _ h => h)⟩
  · refine held_x (v := .int .i64 1) rfl rfl (x_cell _ _ rfl rfl ((hTu.blk hB1 (by simp)).cell rfl) int_aggS) ⟨PT.nil hTu, ?_⟩
    try simp only [Act.put, ppA, ppB, ppC]
    refine held_in (v := .agg #[.int .i64 1, .slice none 0 0, .map none]) 9 rfl (by kernel_rfl) (by kernel_rfl) (by kernel_rfl) (fun _ _ _ h => h) (PT.nil hTu) rfl (fun w' hw' => x_bld (vals := #[(0, .int .i64 1)]) rfl (by simp only [List.map_toArray, List.map_cons, List.map_nil]; rfl) (bld_rec _ _)) ?_; try simp only [Act.put, ppA, ppB, ppC]
    refine held_two 4 10 (by kernel_rfl) ?_ ?_
    · refine held_x (v := .slice none 0 0) rfl rfl (x_cell _ _ rfl rfl ((hTu.blk hB1 (by simp)).cell rfl) recs_agg) ⟨PT.nil hTu, ?_⟩
      try simp only [Act.put, ppA, ppB, ppC]
      refine held_one 10 (by kernel_rfl) ?_
      refine held_bldR (m := 1) rfl rfl rfl rfl ?_
      intro ub b10 hTq hb10 hbn
      have hTub := hTu.trans hTq
      refine ⟨PT.nil hTub, ?_⟩
      try simp only [Act.put, ppA, ppB, ppC]
      refine held_one 11 (by kernel_rfl) ?_
      refine held_appR (b := b10) (m := 1) rfl rfl rfl rfl rfl hb10 ?_
      intro g cap y1 hown hTa
      have hTy := hTub.trans hTa
      refine ⟨PT.nil hTy, ?_⟩
      try simp only [Act.put, ppA, ppB, ppC]
      refine held_in (v := .pointer (some ⟨bS, 0, none⟩)) 12 rfl (by kernel_rfl) (by kernel_rfl) (by kernel_rfl) (fun _ _ _ h => h) (PT.nil hTy) rfl (fun w' hw' => x_nilck _ rfl rfl) ?_; try simp only [Act.put, ppA, ppB, ppC]
      refine held_in (v := .pointer (some ⟨bS, 1, none⟩)) 13 rfl (by kernel_rfl) (by kernel_rfl) (by kernel_rfl) (fun _ _ _ h => h) (PT.nil hTy) rfl (fun w' hw' => x_fa _ _ _ rfl rfl (fa_s1 _ _)) ?_; try simp only [Act.put, ppA, ppB, ppC]
      have hBy := hTy.blk hB1 (by simp)
      obtain ⟨w5, hw5⟩ : ∃ w5, w5 = World.setCell y1 ⟨bS, 1, none⟩ (.slice (some ⟨g, 0, none⟩) 1 cap) := ⟨_, rfl⟩
      refine held_one 14 (by kernel_rfl) ?_
      refine held_skip (w' := w5) rfl rfl (by rw [hw5]; exact r_store1 _ _ rfl rfl rfl hBy one_size_recs (by show 1 < 3; decide) rfl) ?_
      have hO5 : Only bS y1 w5 := by rw [hw5]; exact Only.setCell y1 ⟨bS, 1, none⟩ _
      have hB5 : Blk w5 bS 46 #[mv, .slice (some ⟨g, 0, none⟩) 1 cap, .int .i64 1] := by rw [hw5]; exact hBy.set 1 _
      clear hw5
      have hP5 : PT (fun j => j = bS) w1 w5 := ⟨hO5.os.trans hTy.os, hO5.tape.trans hTy.tape, hO5.output.trans hTy.output, Nat.le_trans hTy.size (Nat.le_of_eq hO5.size.symm), fun j hj hn => (hO5.block j hn).trans (hTy.block j hj (by simp))⟩
      refine ⟨hP5, ?_⟩
      try simp only [Act.put, ppA, ppB, ppC]
      refine wpAnyH_done (by kernel_rfl) ?_ _
      have hgl := hown.lt g rfl
      have hgb : g ≠ bS := by have h1 := hBy.lt; have h2 := H1.out.blk.lt; have h3 := hTub.size; omega
      have hown5 : w5.ownsRow w.heap.size 76 3 (.slice (some ⟨g, 0, none⟩) 1 cap) 1 [.int .i64 1, .slice none 0 0, .map none] := own_mono (own_call hown (bs := [bS]) ⟨hO5.os, hO5.tape, hO5.output, Nat.le_of_eq hO5.size.symm, fun j _ hj => hO5.block j (fun e => hj (by rw [e]; simp))⟩ (fun g' e hm => by cases e; rw [List.mem_singleton] at hm; exact hgb hm)) (Nat.le_trans (Nat.le_of_eq hO1.size.symm) hTub.size)
      have hM5 : StP B N w5 bS mv (.slice (some ⟨g, 0, none⟩) 1 cap) 1 F E := ⟨hB5, H1.out.base, H1.out.map.far (fun r hr => hP5.block r (by have := H1.out.map; rw [hr] at this; exact this.lt.1) (fun e => hne (by rw [hr, e]))), fun A b hA hF => ⟨hP5.blk (H1.out.acc A b hA hF).1 (H1.out.acc A b hA hF).2.2, (H1.out.acc A b hA hF).2⟩, H1.out.non, H1.out.inj, H1.out.ok⟩
      go_upto_region 3 with (fail)
      try simp only [Act.put, ppA, ppB, ppC]
      refine wp_region_lit ?_
      refine st_x (v := .pointer (some ⟨bS, 0, none⟩)) rfl (x_val _ (.inl rfl) rfl) ?_; try simp only [Act.put, ppA, ppB, ppC]
      refine st_x (v := .pointer (some ⟨bS, 0, none⟩)) rfl (x_nilck _ rfl rfl) ?_; try simp only [Act.put, ppA, ppB, ppC]
      refine st_x (v := .pointer (some ⟨bS, 2, none⟩)) rfl (x_fa _ _ _ rfl rfl (fa_s2 _ _)) ?_; try simp only [Act.put, ppA, ppB, ppC]
      refine st_x (v := .int .i64 1) rfl (x_cell _ _ rfl rfl (hB5.cell rfl) int_aggS) ?_; try simp only [Act.put, ppA, ppB, ppC]
      refine st_x (v := .int .i64 1) rfl (x_val _ (.inr rfl) rfl) ?_; try simp only [Act.put, ppA, ppB, ppC]
      refine st_end14 ?_
      go_wp2
      go_ret
      exact ⟨rfl, g, cap, hM5, hown5, hP1.trans (hP5.mono fun j _ h => h)⟩
    · refine held_bldR (m := 1) rfl rfl rfl rfl ?_
      intro ub b10 hTq hb10 hbn
      have hTub := hTu.trans hTq
      refine ⟨PT.nil hTub, ?_⟩
      try simp only [Act.put, ppA, ppB, ppC]
      refine held_one 4 (by kernel_rfl) ?_
      refine held_x (v := .slice none 0 0) rfl rfl (x_cell _ _ rfl rfl ((hTub.blk hB1 (by simp)).cell rfl) recs_agg) ⟨PT.nil hTub, ?_⟩
      try simp only [Act.put, ppA, ppB, ppC]
      refine held_one 11 (by kernel_rfl) ?_
      refine held_appR (b := b10) (m := 1) rfl rfl rfl rfl rfl hb10 ?_
      intro g cap y1 hown hTa
      have hTy := hTub.trans hTa
      refine ⟨PT.nil hTy, ?_⟩
      try simp only [Act.put, ppA, ppB, ppC]
      refine held_in (v := .pointer (some ⟨bS, 0, none⟩)) 12 rfl (by kernel_rfl) (by kernel_rfl) (by kernel_rfl) (fun _ _ _ h => h) (PT.nil hTy) rfl (fun w' hw' => x_nilck _ rfl rfl) ?_; try simp only [Act.put, ppA, ppB, ppC]
      refine held_in (v := .pointer (some ⟨bS, 1, none⟩)) 13 rfl (by kernel_rfl) (by kernel_rfl) (by kernel_rfl) (fun _ _ _ h => h) (PT.nil hTy) rfl (fun w' hw' => x_fa _ _ _ rfl rfl (fa_s1 _ _)) ?_; try simp only [Act.put, ppA, ppB, ppC]
      have hBy := hTy.blk hB1 (by simp)
      obtain ⟨w5, hw5⟩ : ∃ w5, w5 = World.setCell y1 ⟨bS, 1, none⟩ (.slice (some ⟨g, 0, none⟩) 1 cap) := ⟨_, rfl⟩
      refine held_one 14 (by kernel_rfl) ?_
      refine held_skip (w' := w5) rfl rfl (by rw [hw5]; exact r_store1 _ _ rfl rfl rfl hBy one_size_recs (by show 1 < 3; decide) rfl) ?_
      have hO5 : Only bS y1 w5 := by rw [hw5]; exact Only.setCell y1 ⟨bS, 1, none⟩ _
      have hB5 : Blk w5 bS 46 #[mv, .slice (some ⟨g, 0, none⟩) 1 cap, .int .i64 1] := by rw [hw5]; exact hBy.set 1 _
      clear hw5
      have hP5 : PT (fun j => j = bS) w1 w5 := ⟨hO5.os.trans hTy.os, hO5.tape.trans hTy.tape, hO5.output.trans hTy.output, Nat.le_trans hTy.size (Nat.le_of_eq hO5.size.symm), fun j hj hn => (hO5.block j hn).trans (hTy.block j hj (by simp))⟩
      refine ⟨hP5, ?_⟩
      try simp only [Act.put, ppA, ppB, ppC]
      refine wpAnyH_done (by kernel_rfl) ?_ _
      have hgl := hown.lt g rfl
      have hgb : g ≠ bS := by have h1 := hBy.lt; have h2 := H1.out.blk.lt; have h3 := hTub.size; omega
      have hown5 : w5.ownsRow w.heap.size 76 3 (.slice (some ⟨g, 0, none⟩) 1 cap) 1 [.int .i64 1, .slice none 0 0, .map none] := own_mono (own_call hown (bs := [bS]) ⟨hO5.os, hO5.tape, hO5.output, Nat.le_of_eq hO5.size.symm, fun j _ hj => hO5.block j (fun e => hj (by rw [e]; simp))⟩ (fun g' e hm => by cases e; rw [List.mem_singleton] at hm; exact hgb hm)) (Nat.le_trans (Nat.le_of_eq hO1.size.symm) hTub.size)
      have hM5 : StP B N w5 bS mv (.slice (some ⟨g, 0, none⟩) 1 cap) 1 F E := ⟨hB5, H1.out.base, H1.out.map.far (fun r hr => hP5.block r (by have := H1.out.map; rw [hr] at this; exact this.lt.1) (fun e => hne (by rw [hr, e]))), fun A b hA hF => ⟨hP5.blk (H1.out.acc A b hA hF).1 (H1.out.acc A b hA hF).2.2, (H1.out.acc A b hA hF).2⟩, H1.out.non, H1.out.inj, H1.out.ok⟩
      go_upto_region 3 with (fail)
      try simp only [Act.put, ppA, ppB, ppC]
      refine wp_region_lit ?_
      refine st_x (v := .pointer (some ⟨bS, 0, none⟩)) rfl (x_val _ (.inl rfl) rfl) ?_; try simp only [Act.put, ppA, ppB, ppC]
      refine st_x (v := .pointer (some ⟨bS, 0, none⟩)) rfl (x_nilck _ rfl rfl) ?_; try simp only [Act.put, ppA, ppB, ppC]
      refine st_x (v := .pointer (some ⟨bS, 2, none⟩)) rfl (x_fa _ _ _ rfl rfl (fa_s2 _ _)) ?_; try simp only [Act.put, ppA, ppB, ppC]
      refine st_x (v := .int .i64 1) rfl (x_cell _ _ rfl rfl (hB5.cell rfl) int_aggS) ?_; try simp only [Act.put, ppA, ppB, ppC]
      refine st_x (v := .int .i64 1) rfl (x_val _ (.inr rfl) rfl) ?_; try simp only [Act.put, ppA, ppB, ppC]
      refine st_end14 ?_
      go_wp2
      go_ret
      exact ⟨rfl, g, cap, hM5, hown5, hP1.trans (hP5.mono fun j _ h => h)⟩
end
end Go.Proofs.YtopfmaoeebgjmaaGreatDoor
