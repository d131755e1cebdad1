/- Whole states: keep. -/
import Derived.Test.YtopfmaoeebgjmaaGreatDoorM01
import Derived.Test.YtopfmaoeebgjmaaGreatDoorM25
import Derived.Test.YtopfmaoeebgjmaaGreatDoorM28
set_option linter.unusedVariables false
set_option linter.unusedSimpArgs false
namespace Go.Proofs.YtopfmaoeebgjmaaGreatDoor
section
open Go.RowKit Go.WideMaps Go.ChangeMaps Go.MapKept
set_option maxRecDepth 100000
set_option maxHeartbeats 2000000
open Classical in
noncomputable def keepO (b : Nat) (mo : Value) (q : Ac) : Option (Nat × Value) := if q = Ac.nil then none else some (b, mo)
theorem keepO_nil {b : Nat} {mo : Value} {q : Ac} (h : q = Ac.nil) : keepO b mo q = none := if_pos h
theorem keepO_one {b : Nat} {mo : Value} {q : Ac} (h : q ≠ Ac.nil) : keepO b mo q = some (b, mo) := if_neg h
def KeepP (B N : Nat) (w : World) (bS : Nat) (mv rv : Value) (k : Int) (F : List Nat → Option (Nat × Value)) (E : List Nat → Ac) (A : List Nat) (b : Nat) (mo : Value) (q : Ac) (w' : World) : Prop :=
  ∃ mv', GsP B (N + 1) w' bS mv' rv k (upG F A (keepO b mo q)) (upQ E A q) ∧ PT (fun j => j = bS ∨ mv = .map (some j)) w w' ∧ (∀ r, mv' = .map (some r) → mv = .map (some r) ∨ w.heap.size ≤ r) ∧ (mv ≠ .map none → mv' = mv)
theorem HalfP.made {B N : Nat} {w w' : World} {bS b r : Nat} {rv mo : Value} {k : Int} {F : List Nat → Option (Nat × Value)} {E : List Nat → Ac} {A : List Nat} {q : Ac} (h : HalfP B N w bS (.map none) rv k F E A b mo q) (hT : PT (fun j => j = bS) w w') (hblk : Blk w' bS 46 #[.map (some r), rv, .int .i64 k])
    (hmap : MapP B N w' (.map (some r)) (fun A => (F A).map (·.1))) (hr : w.heap.size ≤ r) : HalfP B N w' bS (.map (some r)) rv k F E A b mo q := by
  have hno : ∀ X, Ad X → F X = none := fun X hX => by
    rcases h.map with ⟨_, g⟩ | ⟨r, n, D, e, _⟩
    · have g1 : (F X).map (·.1) = none := g X
      cases hf : F X with
      | none => rfl
      | some p => rw [hf] at g1; cases g1
    · cases e
  refine ⟨hblk, h.base, hmap, fun X b' mo' hX hne hf => (by rw [hno X hX] at hf; cases hf), h.non, fun X Y b' mo' mo'' hX hY _ _ hf => (by rw [hno X hX] at hf; cases hf), fun X Y b' b'' r hX hY _ _ hf => (by rw [hno X hX] at hf; cases hf), fun X b' r hX _ hf => (by rw [hno X hX] at hf; cases hf), h.ok,
    hT.blk h.one (fun e => h.bne e.symm), h.sl.far (fun r' hr' => hT.block r' (by have := h.sl; rw [hr'] at this; exact this.lt.1) (fun e => h.sl.ne h.blk (by rw [hr', e]))), h.bb, h.qok, fun X b' mo' hX hne hf => (by rw [hno X hX] at hf; cases hf), fun r' hr' e => ?_⟩
  cases e
  have := h.sl
  rw [hr'] at this
  have := this.lt.1
  omega
theorem keepG (B N : Nat) (w : World) (bS : Nat) (mv rv : Value) (k : Int) (F : List Nat → Option (Nat × Value)) (E : List Nat → Ac) (A : List Nat) (b : Nat) (mo : Value) (q : Ac) (h : HalfP B N w bS mv rv k F E A b mo q) (hA : Ad A) (hN : N < 1000000000) :
    Calls Tryz.prog 18 #[.pointer (some ⟨bS, 0, none⟩), .agg (av A), .pointer (some ⟨b, 0, none⟩)] w fun e w' => e = .returned (.tuple #[]) ∧ KeepP B N w bS mv rv k F E A b mo q w' := by
  have hS0 := St.start w
  go_enter Tryz.func18, Tryz.ntmps18
  go_upto_region 0 with (fail)
  try simp only [Act.put, ppA, ppB, ppC]
  refine wp_region_lit ?_
  refine st_box hS0 rfl 23 _ rfl rfl ?_; clear hS0; intro w1 b1 hS0; try simp only [Act.put, ppA, ppB, ppC]
  refine st_end14 ?_
  have hT1 := hS0.frame
  have g1 := hS0.get .head
  have h1 := h.call hT1
  clear hS0
  go_upto_region 1 with (fail)
  try simp only [Act.put, ppA, ppB, ppC]
  refine wp_region_lit ?_
  refine st_x (v := .pointer (some ⟨b, 0, none⟩)) rfl (x_val _ (.inl rfl) rfl) ?_; try simp only [Act.put, ppA, ppB, ppC]
  refine st_x (v := .bool false) rfl (x_bin _ _ _ _ rfl rfl rfl rfl (eqA_some _ _)) ?_; try simp only [Act.put, ppA, ppB, ppC]
  refine st_x (v := .bool false) rfl (x_val _ (.inl rfl) rfl) ?_; try simp only [Act.put, ppA, ppB, ppC]
  refine st_xw (v := .pointer (some ⟨b, 0, none⟩)) rfl (x_val _ (.inl rfl) rfl) ?_; try simp only [Act.put, ppA, ppB, ppC]
  refine st_callVw (args := #[.pointer (some ⟨b, 0, none⟩)]) rfl rfl rfl (by simp only [List.map_toArray, List.map_cons, List.map_nil]; rfl) Tryz.call35 (emptyG B N b q mo w1 h1.one h1.sl h1.qok) ?_
  rintro e w2 ⟨rr, rfl, hrr, hw⟩
  subst hw
  refine ⟨_, rfl, ?_⟩
  try simp only [Act.put, ppA, ppB, ppC]
  refine st_x (v := .bool rr) rfl (x_pickS (c := false) rfl _ _ _ rfl rfl rfl rfl) ?_; try simp only [Act.put, ppA, ppB, ppC]
  refine st_end14 ?_
  cases rr with
  | true =>
    have hq : q = Ac.nil := hrr.1 rfl
    go_upto_region 2 with (fail)
    try simp only [Act.put, ppA, ppB, ppC]
    have hmu := h1.map.ne h1.blk
    have hma := h1.map.ne g1
    refine wp_region_held_drew (S := fun w' => PT (fun j => (mv : Value) = .map (some j)) w2 w') (by kernel_rfl) (PT.nil ((Tch.refl _ _).drew)) (fun hC => ?_)
    have hD0 : Tch [] w2 w2.drew := (Tch.refl [] w2).drew
    have hM := (h1.call hD0).map
    generalize World.drew w2 = u at hC hD0 hM ⊢
    refine held_in (v := .pointer (some ⟨bS, 0, none⟩)) 0 rfl (by kernel_rfl) (by kernel_rfl) (by kernel_rfl) (fun _ _ _ h => h) hC rfl (fun w' hw' => x_val _ (.inl rfl) rfl) ?_; try simp only [Act.put, ppA, ppB, ppC]
    refine held_in (v := .pointer (some ⟨bS, 0, none⟩)) 1 rfl (by kernel_rfl) (by kernel_rfl) (by kernel_rfl) (fun _ _ _ h => h) hC rfl (fun w' hw' => x_nilck _ rfl rfl) ?_; try simp only [Act.put, ppA, ppB, ppC]
    refine held_in (v := .pointer (some ⟨bS, 0, none⟩)) 2 rfl (by kernel_rfl) (by kernel_rfl) (by kernel_rfl) (fun _ _ _ h => h) hC rfl (fun w' hw' => x_fa _ _ _ rfl rfl (fa_s0 _ _)) ?_; try simp only [Act.put, ppA, ppB, ppC]
    refine held_in (v := mv) 3 rfl (by kernel_rfl) (by kernel_rfl) (by kernel_rfl) (fun _ _ _ h => h) hC rfl (fun w' hw' => x_cell _ _ rfl rfl ((hw'.blk h1.blk hmu).cell rfl) map_agg) ?_; try simp only [Act.put, ppA, ppB, ppC]
    refine held_in (v := .agg (av A)) 4 rfl (by kernel_rfl) (by kernel_rfl) (by kernel_rfl) (fun _ _ _ h => h) hC rfl (fun w' hw' => x_ld _ rfl rfl (hw'.blk g1 hma) addr_tyY rfl (by rw [arrV_size]; exact addr_sizeY)) ?_; try simp only [Act.put, ppA, ppB, ppC]
    refine held_one 5 (by kernel_rfl) ?_
    refine held_del hM hA rfl rfl rfl rfl rfl ?_
    intro u3 q1 q2
    have hP := hC.trans q2
    refine ⟨hP, ?_⟩
    try simp only [Act.put, ppA, ppB, ppC]
    refine wpAnyH_done (by kernel_rfl) ?_ _
    go_wp2
    refine bodyPost_ret (results_none rfl _ _ _) rfl ?_
    subst hq
    refine ⟨rfl, mv, ?_, ((PT.nil hT1).trans hP).mono (fun j _ hj => .inr hj), fun r hr => .inl hr, fun _ => rfl⟩
    rw [keepO_nil rfl]
    exact h1.close (o := none) hA (Nat.le_succ _) (hP.mono (fun j _ hj => .inr hj)) (hP.blk h1.blk hmu) (.inr ⟨rfl, rfl⟩) (q1.more (Nat.le_succ _)) (fun r hr => .inl hr)
  | false =>
    have hform : mv = .map none ∨ ∃ r, mv = .map (some r) := by
      rcases h1.map with ⟨e, _⟩ | ⟨r, _, _, e, _⟩
      · exact .inl e
      · exact .inr ⟨r, e⟩
    go_upto_region 3 with (fail)
    try simp only [Act.put, ppA, ppB, ppC]
    refine wp_region_lit ?_
    refine st_x (v := .pointer (some ⟨bS, 0, none⟩)) rfl (x_val _ (.inl rfl) rfl) ?_; try simp only [Act.put, ppA, ppB, ppC]
    refine st_x (v := .pointer (some ⟨bS, 0, none⟩)) rfl (x_nilck _ rfl rfl) ?_; try simp only [Act.put, ppA, ppB, ppC]
    refine st_x (v := .pointer (some ⟨bS, 0, none⟩)) rfl (x_fa _ _ _ rfl rfl (fa_s0 _ _)) ?_; try simp only [Act.put, ppA, ppB, ppC]
    refine st_x (v := mv) rfl (x_cell _ _ rfl rfl (h1.blk.cell rfl) map_agg) ?_; try simp only [Act.put, ppA, ppB, ppC]
    rcases hform with rfl | ⟨r, rfl⟩
    · refine st_x (v := .bool true) rfl (x_bin _ _ _ _ rfl rfl rfl rfl (eqM_none _)) ?_; try simp only [Act.put, ppA, ppB, ppC]
      refine st_end14 ?_
      go_upto_region 4 with (fail)
      try simp only [Act.put, ppA, ppB, ppC]
      refine wp_region_lit ?_
      refine st_x (v := .pointer (some ⟨bS, 0, none⟩)) rfl (x_val _ (.inl rfl) rfl) ?_; try simp only [Act.put, ppA, ppB, ppC]
      obtain ⟨w3, hw3⟩ : ∃ w3, w3 = World.alloc w2 (.map #[] 0) := ⟨_, rfl⟩
      obtain ⟨r, hr⟩ : ∃ r, r = w2.heap.size := ⟨_, rfl⟩
      have hT3 : Tch [] w2 w3 := by rw [hw3]; exact (Tch.refl _ _).alloc _
      have hno : ∀ X, Ad X → (fun A => (F A).map (·.1)) X = none := fun X hX => by
        rcases h1.map with ⟨_, g⟩ | ⟨_, _, _, e, _⟩
        · exact g X
        · cases e
      have hm3 : MapP B N w3 (.map (some r)) (fun A => (F A).map (·.1)) := by rw [hw3, hr]; exact MapP.made B N w2 (Nat.le_trans h1.base (Nat.le_of_lt h1.blk.lt)) _ hno
      refine st_run (w' := w3) (v := .map (some r)) rfl (by rw [hw3, hr]; exact r_mkMap rfl) ?_
      try simp only [Act.put, ppA, ppB, ppC]
      clear hw3
      refine st_x (v := .pointer (some ⟨bS, 0, none⟩)) rfl (x_nilck _ rfl rfl) ?_; try simp only [Act.put, ppA, ppB, ppC]
      refine st_x (v := .pointer (some ⟨bS, 0, none⟩)) rfl (x_fa _ _ _ rfl rfl (fa_s0 _ _)) ?_; try simp only [Act.put, ppA, ppB, ppC]
      have hb3 := hT3.blk h1.blk (by simp)
      obtain ⟨w4, hw4⟩ : ∃ w4, w4 = World.setCell w3 ⟨bS, 0, none⟩ (.map (some r)) := ⟨_, rfl⟩
      refine st_skip (w' := w4) rfl (by rw [hw4]; exact r_store1 _ _ rfl rfl rfl hb3 one_size_map (by show 0 < 3; decide) rfl) ?_
      try simp only [Act.put, ppA, ppB, ppC]
      have hO4 : Only bS w3 w4 := by rw [hw4]; exact Only.setCell w3 ⟨bS, 0, none⟩ _
      have hb4 : Blk w4 bS 46 #[.map (some r), rv, .int .i64 k] := by rw [hw4]; exact hb3.set 0 _
      clear hw4
      refine st_end14 ?_
      have hP4 : PT (fun j => j = bS) w2 w4 := (PT.nil hT3).trans ⟨hO4.os, hO4.tape, hO4.output, Nat.le_of_eq hO4.size.symm, fun j _ hj => hO4.block j hj⟩
      have hm4 : MapP B N w4 (.map (some r)) (fun A => (F A).map (·.1)) := hm3.far (fun r' hr' => hO4.block r' (fun e => hm3.ne hb3 (by rw [hr', e])))
      have h4 := h1.made hP4 hb4 hm4 (by omega)
      have hb1S : b1 ≠ bS := fun e => by
        have := (e ▸ g1 : Blk w2 bS 23 (av A)).ty h1.blk
        revert this
        decide
      have g14 := hP4.blk g1 hb1S
      have hrS : w2.heap.size ≤ r := by omega
      have hT1s := hT1.size
      clear hb3 hm3 hno hT3 hO4 hm4
      go_upto_region 5 with (fail)
      try simp only [Act.put, ppA, ppB, ppC]
      have hmu := h4.map.ne h4.blk
      have hma := h4.map.ne g14
      refine wp_region_held_drew (S := fun w' => PT (fun j => (.map (some r) : Value) = .map (some j)) w4 w') (by kernel_rfl) (PT.nil ((Tch.refl _ _).drew)) (fun hC => ?_)
      have hD0 : Tch [] w4 w4.drew := (Tch.refl [] w4).drew
      have hM := (h4.call hD0).map
      generalize World.drew w4 = u at hC hD0 hM ⊢
      refine held_in (v := .pointer (some ⟨bS, 0, none⟩)) 0 rfl (by kernel_rfl) (by kernel_rfl) (by kernel_rfl) (fun _ _ _ h => h) hC rfl (fun w' hw' => x_val _ (.inl rfl) rfl) ?_; try simp only [Act.put, ppA, ppB, ppC]
      refine held_in (v := .pointer (some ⟨bS, 0, none⟩)) 1 rfl (by kernel_rfl) (by kernel_rfl) (by kernel_rfl) (fun _ _ _ h => h) hC rfl (fun w' hw' => x_nilck _ rfl rfl) ?_; try simp only [Act.put, ppA, ppB, ppC]
      refine held_in (v := .pointer (some ⟨bS, 0, none⟩)) 2 rfl (by kernel_rfl) (by kernel_rfl) (by kernel_rfl) (fun _ _ _ h => h) hC rfl (fun w' hw' => x_fa _ _ _ rfl rfl (fa_s0 _ _)) ?_; try simp only [Act.put, ppA, ppB, ppC]
      refine held_in (v := .map (some r)) 3 rfl (by kernel_rfl) (by kernel_rfl) (by kernel_rfl) (fun _ _ _ h => h) hC rfl (fun w' hw' => x_cell _ _ rfl rfl ((hw'.blk h4.blk hmu).cell rfl) map_agg) ?_; try simp only [Act.put, ppA, ppB, ppC]
      refine held_in (v := .agg (av A)) 4 rfl (by kernel_rfl) (by kernel_rfl) (by kernel_rfl) (fun _ _ _ h => h) hC rfl (fun w' hw' => x_ld _ rfl rfl (hw'.blk g14 hma) addr_tyY rfl (by rw [arrV_size]; exact addr_sizeY)) ?_; try simp only [Act.put, ppA, ppB, ppC]
      refine held_in (v := .pointer (some ⟨b, 0, none⟩)) 5 rfl (by kernel_rfl) (by kernel_rfl) (by kernel_rfl) (fun _ _ _ h => h) hC rfl (fun w' hw' => x_val _ (.inl rfl) rfl) ?_; try simp only [Act.put, ppA, ppB, ppC]
      refine held_one 6 (by kernel_rfl) ?_
      refine held_put hM (by unfold maxLen; omega) hA rfl rfl rfl rfl rfl rfl ?_
      intro u3 q1 q2
      have hP := hC.trans q2
      refine ⟨hP, ?_⟩
      try simp only [Act.put, ppA, ppB, ppC]
      refine wpAnyH_done (by kernel_rfl) ?_ _
      go_wp2
      go_end0
      have hqn : q ≠ Ac.nil := fun e => absurd (hrr.2 e) (by simp)
      have hs4 := hP4.size
      have hPP : PT (fun j => j = bS) w u3 := ⟨hP.os.trans (hP4.os.trans hT1.os), hP.tape.trans (hP4.tape.trans hT1.tape), hP.output.trans (hP4.output.trans hT1.output), Nat.le_trans hT1s (Nat.le_trans hs4 hP.size), fun j hj hn => (hP.block j (by omega) (fun e => by cases e; omega)).trans ((hP4.block j (by omega) hn).trans (hT1.block j hj (by simp)))⟩
      refine ⟨rfl, .map (some r), ?_, hPP.mono (fun j _ hj => .inl hj), fun r' e => by cases e; right; omega, fun hh => absurd rfl hh⟩
      rw [keepO_one hqn]
      exact h4.close (o := some (b, mo)) hA (Nat.le_succ _) (hP.mono (fun j _ hj => .inr hj)) (hP.blk h4.blk hmu) (.inl ⟨rfl, hqn⟩) q1 (fun r' e => .inl e)
    · refine st_x (v := .bool false) rfl (x_bin _ _ _ _ rfl rfl rfl rfl (eqM_some _ _)) ?_; try simp only [Act.put, ppA, ppB, ppC]
      refine st_end14 ?_
      go_upto_region 5 with (fail)
      try simp only [Act.put, ppA, ppB, ppC]
      have hmu := h1.map.ne h1.blk
      have hma := h1.map.ne g1
      refine wp_region_held_drew (S := fun w' => PT (fun j => (.map (some r) : Value) = .map (some j)) w2 w') (by kernel_rfl) (PT.nil ((Tch.refl _ _).drew)) (fun hC => ?_)
      have hD0 : Tch [] w2 w2.drew := (Tch.refl [] w2).drew
      have hM := (h1.call hD0).map
      generalize World.drew w2 = u at hC hD0 hM ⊢
      refine held_in (v := .pointer (some ⟨bS, 0, none⟩)) 0 rfl (by kernel_rfl) (by kernel_rfl) (by kernel_rfl) (fun _ _ _ h => h) hC rfl (fun w' hw' => x_val _ (.inl rfl) rfl) ?_; try simp only [Act.put, ppA, ppB, ppC]
      refine held_in (v := .pointer (some ⟨bS, 0, none⟩)) 1 rfl (by kernel_rfl) (by kernel_rfl) (by kernel_rfl) (fun _ _ _ h => h) hC rfl (fun w' hw' => x_nilck _ rfl rfl) ?_; try simp only [Act.put, ppA, ppB, ppC]
      refine held_in (v := .pointer (some ⟨bS, 0, none⟩)) 2 rfl (by kernel_rfl) (by kernel_rfl) (by kernel_rfl) (fun _ _ _ h => h) hC rfl (fun w' hw' => x_fa _ _ _ rfl rfl (fa_s0 _ _)) ?_; try simp only [Act.put, ppA, ppB, ppC]
      refine held_in (v := .map (some r)) 3 rfl (by kernel_rfl) (by kernel_rfl) (by kernel_rfl) (fun _ _ _ h => h) hC rfl (fun w' hw' => x_cell _ _ rfl rfl ((hw'.blk h1.blk hmu).cell rfl) map_agg) ?_; try simp only [Act.put, ppA, ppB, ppC]
      refine held_in (v := .agg (av A)) 4 rfl (by kernel_rfl) (by kernel_rfl) (by kernel_rfl) (fun _ _ _ h => h) hC rfl (fun w' hw' => x_ld _ rfl rfl (hw'.blk g1 hma) addr_tyY rfl (by rw [arrV_size]; exact addr_sizeY)) ?_; try simp only [Act.put, ppA, ppB, ppC]
      refine held_in (v := .pointer (some ⟨b, 0, none⟩)) 5 rfl (by kernel_rfl) (by kernel_rfl) (by kernel_rfl) (fun _ _ _ h => h) hC rfl (fun w' hw' => x_val _ (.inl rfl) rfl) ?_; try simp only [Act.put, ppA, ppB, ppC]
      refine held_one 6 (by kernel_rfl) ?_
      refine held_put hM (by unfold maxLen; omega) hA rfl rfl rfl rfl rfl rfl ?_
      intro u3 q1 q2
      have hP := hC.trans q2
      refine ⟨hP, ?_⟩
      try simp only [Act.put, ppA, ppB, ppC]
      refine wpAnyH_done (by kernel_rfl) ?_ _
      go_wp2
      go_end0
      have hqn : q ≠ Ac.nil := fun e => absurd (hrr.2 e) (by simp)
      refine ⟨rfl, .map (some r), ?_, ((PT.nil hT1).trans hP).mono (fun j _ hj => .inr hj), fun r' e => .inl e, fun _ => rfl⟩
      rw [keepO_one hqn]
      exact h1.close (o := some (b, mo)) hA (Nat.le_succ _) (hP.mono (fun j _ hj => .inr hj)) (hP.blk h1.blk hmu) (.inl ⟨rfl, hqn⟩) q1 (fun r' e => .inl e)
end
section
open Go.RowKit Go.WideMaps Go.ChangeMaps Go.MapKept
set_option maxRecDepth 100000
def StepG (B M : Nat) (bS : Nat) (mv : Value) (F : List Nat → Option (Nat × Value)) (rv : Value) (k : Int) (E : List Nat → Ac) (w w' : World) : Prop :=
  ∃ mv' F', GsP B M w' bS mv' rv k F' E ∧ PT (gfoot bS mv F) w w' ∧ (∀ j, gfoot bS mv' F' j → gfoot bS mv F j ∨ w.heap.size ≤ j) ∧ (mv ≠ .map none → mv' = mv)
theorem StepG.of {B M : Nat} {bS : Nat} {mv rv : Value} {F : List Nat → Option (Nat × Value)} {k : Int} {E : List Nat → Ac} {w u w' u' : World} (hT : Tch [] w u) (h : StepG B M bS mv F rv k E u w') (hT' : Tch [] w' u') : StepG B M bS mv F rv k E w u' := by
  obtain ⟨mv', F', h1, h2, h3, h4⟩ := h
  exact ⟨mv', F', h1.call hT', ((PT.nil hT).trans h2).trans (PT.nil hT'), fun j hj => (h3 j hj).imp id (fun g => Nat.le_trans hT.size g), h4⟩
theorem StepG.trans {B M M' : Nat} {bS : Nat} {mv rv : Value} {F : List Nat → Option (Nat × Value)} {k : Int} {E E' : List Nat → Ac} {w w1 w2 : World} (h : StepG B M bS mv F rv k E w w1) (h' : ∀ mv1 F1, GsP B M w1 bS mv1 rv k F1 E → StepG B M' bS mv1 F1 rv k E' w1 w2) : StepG B M' bS mv F rv k E' w w2 := by
  obtain ⟨mv1, F1, h1, h2, h3, h4⟩ := h
  obtain ⟨mv2, F2, g1, g2, g3, g4⟩ := h' mv1 F1 h1
  refine ⟨mv2, F2, g1, ⟨g2.os.trans h2.os, g2.tape.trans h2.tape, g2.output.trans h2.output, Nat.le_trans h2.size g2.size, fun j hj hn => (g2.block j (Nat.lt_of_lt_of_le hj h2.size) (fun hf => ?_)).trans (h2.block j hj hn)⟩, fun j hj => ?_, fun hm => ?_⟩
  · rcases h3 j hf with g | g
    · exact hn g
    · omega
  · rcases g3 j hj with g | g
    · exact h3 j g
    · exact .inr (Nat.le_trans h2.size g)
  · have := h4 hm
    subst this
    exact g4 hm
theorem stepG_of {B N M : Nat} {bS b b7 : Nat} {mv rv mo mo' : Value} {F : List Nat → Option (Nat × Value)} {k : Int} {E : List Nat → Ac} {A : List Nat} {q' : Ac} {w w1 w2 w3 : World} (hA : Ad A) (hT1 : Tch [] w w1) (hF : F A = some (b, mo) ∨ F A = none ∧ mo = .map none ∧ w.heap.size ≤ b)
    (hP : PT (fun j => j = b ∨ j = b7 ∨ mo = .map (some j)) w1 w2) (h7 : w.heap.size ≤ b7) (hm : ∀ r, mo' = .map (some r) → mo = .map (some r) ∨ w1.heap.size ≤ r) (hk : KeepP B M w2 bS mv rv k F E A b mo' q' w3) : StepG B (M + 1) bS mv F rv k (upQ E A q') w w3 := by
  obtain ⟨mv', g1, g2, g3, g4⟩ := hk
  have hs1 := hT1.size
  have hs2 := hP.size
  have hfb : ∀ j, j < w.heap.size → ¬ gfoot bS mv F j → j ≠ b := fun j hj hn e => by
    subst e
    rcases hF with hF | ⟨_, _, hl⟩
    · exact hn (.inr (.inr ⟨A, _, _, hA, hF, .inl rfl⟩))
    · omega
  refine ⟨mv', _, g1, ⟨g2.os.trans (hP.os.trans hT1.os), g2.tape.trans (hP.tape.trans hT1.tape), g2.output.trans (hP.output.trans hT1.output), Nat.le_trans hs1 (Nat.le_trans hs2 g2.size), fun j hj hn => ?_⟩, fun j hj => ?_, g4⟩
  · refine (g2.block j (by omega) (fun e => e.elim (fun e => hn (.inl e)) (fun e => hn (.inr (.inl e))))).trans ((hP.block j (by omega) (fun e => ?_)).trans (hT1.block j hj (by simp)))
    rcases e with e | e | e
    · exact hfb j hj hn e
    · omega
    · rcases hF with hF | ⟨_, hF, _⟩
      · exact hn (.inr (.inr ⟨A, b, mo, hA, hF, .inr e⟩))
      · rw [hF] at e; cases e
  · rcases hj with rfl | hj | ⟨X, b', m, hX, hf, hj⟩
    · exact .inl (.inl rfl)
    · rcases g3 j hj with g | g
      · exact .inl (.inr (.inl g))
      · exact .inr (by omega)
    · unfold upG at hf
      by_cases e : X = A
      · rw [if_pos e] at hf
        unfold keepO at hf
        split at hf
        · cases hf
        · cases hf
          rcases hj with rfl | hj
          · rcases hF with hF | ⟨_, _, hl⟩
            · exact .inl (.inr (.inr ⟨A, _, _, hA, hF, .inl rfl⟩))
            · exact .inr hl
          · rcases hm j hj with g | g
            · rcases hF with hF | ⟨_, hF, _⟩
              · exact .inl (.inr (.inr ⟨A, b, mo, hA, hF, .inr g⟩))
              · rw [hF] at g; cases g
            · exact .inr (by omega)
      · rw [if_neg e] at hf
        exact .inl (.inr (.inr ⟨X, b', m, hX, hf, hj⟩))
end
section
open Go.RowKit Go.WideMaps Go.ChangeMaps Go.MapKept
set_option maxRecDepth 100000
set_option maxHeartbeats 2000000
theorem HalfP.off {B N : Nat} {w w' : World} {bS b b7 : Nat} {mv rv mo : Value} {k : Int} {F : List Nat → Option (Nat × Value)} {E : List Nat → Ac} {A : List Nat} {q : Ac} {t : TypeId} {c : Array Value} (h : HalfP B N w bS mv rv k F E A b mo q) (hB : Blk w b7 t c) (ht1 : t ≠ 46) (ht2 : t ≠ 79) (hT : PT (fun j => j = b7) w w') : HalfP B N w' bS mv rv k F E A b mo q := by
  have hs : ∀ {j : Nat} {c' : Array Value}, Blk w j 46 c' → Blk w' j 46 c' := fun {j c'} hj => hT.blk hj (fun e => ht1 ((e ▸ hB : Blk w j t c).ty hj))
  have ha : ∀ {j : Nat} {c' : Array Value}, Blk w j 79 c' → Blk w' j 79 c' := fun {j c'} hj => hT.blk hj (fun e => ht2 ((e ▸ hB : Blk w j t c).ty hj))
  have hl : ∀ {m : Value} {S : Nat → Nat}, SlP B N w m S → SlP B N w' m S := fun {m S} hm => hm.far (fun r hr => hT.block r (by rw [hr] at hm; exact hm.lt.1) (fun e => hm.ne hB (by rw [hr, e])))
  exact ⟨hs h.blk, h.base, h.map.far (fun r hr => hT.block r (by have := h.map; rw [hr] at this; exact this.lt.1) (fun e => h.map.ne hB (by rw [hr, e]))), fun X b' mo' hX hne hf => ⟨ha (h.acc X b' mo' hX hne hf).1, hl (h.acc X b' mo' hX hne hf).2.1, (h.acc X b' mo' hX hne hf).2.2⟩, h.non, h.inj, h.injm, h.apm, h.ok, ha h.one, hl h.sl, h.bb, h.qok, h.apart, h.apm1⟩
def codC (A : List Nat) (c : List Nat) : Array Value := ((av A).toList ++ [Value.string (strB c)]).toArray
theorem codC_size (A c : List Nat) : (codC A c).size = 21 := by simp [codC, arrV_size]
theorem codC_a (A c : List Nat) (j : Nat) (h : j < 20) : (codC A c)[0 + j]? = (av A)[j]? := by
  simp only [codC, List.getElem?_toArray]
  rw [Nat.zero_add, List.getElem?_append_left (by rw [avL]; exact h), Array.getElem?_toList]
theorem codC_c (A c : List Nat) : (codC A c)[20]? = some (.string (strB c)) := by
  simp only [codC, List.getElem?_toArray]
  rw [List.getElem?_append_right (by rw [avL]; exact Nat.le_refl _), avL]; rfl
theorem codC_one (A c : List Nat) : (codC A c).all (·.oneCell') = true := one_app (all_list (av_one A)) (fun v hv => by rcases List.mem_singleton.1 hv with rfl; rfl)
theorem codC_set (A c d : List Nat) : (codC A c).setIfInBounds 20 (.string (strB d)) = codC A d := by
  have h := avL A
  unfold codC
  rw [List.setIfInBounds_toArray]
  congr 1
theorem cod_ty : Tryz.prog.underlying 66 = some (.struct (Tryz.prog.fieldsOf 66)) := by kernel_rfl
theorem cod_size : (Tryz.prog.info? 66).map (·.size) = some 21 := by kernel_rfl
theorem cod_zero : (Tryz.prog.info? 66).bind (·.zero) = some (.agg (codC [] [])) := by kernel_rfl
theorem fa_c0 (b : Nat) (w : World) : (Instr.fieldAt 66 (.pointer (some ⟨b, 0, none⟩)) 0).run Tryz.prog w = .ok (.pointer (some ⟨b, 0, none⟩)) w := by kernel_rfl
theorem fa_c1 (b : Nat) (w : World) : (Instr.fieldAt 66 (.pointer (some ⟨b, 0, none⟩)) 1).run Tryz.prog w = .ok (.pointer (some ⟨b, 20, none⟩)) w := by kernel_rfl
theorem mkC (v : Value) (w : World) : (Instr.makeInterface 66 v).run Tryz.prog w = .ok (.iface 66 v) w := by kernel_rfl
theorem taCN (v : Value) (w : World) : (Instr.typeAssert (.iface 66 v) 92 60 true).run Tryz.prog w = .ok (.tuple #[.agg (nonC [] 0), .bool false]) w := by kernel_rfl
theorem taCB (v : Value) (w : World) : (Instr.typeAssert (.iface 66 v) 92 62 true).run Tryz.prog w = .ok (.tuple #[.agg (balC [] 0), .bool false]) w := by kernel_rfl
theorem taCC (v : Value) (w : World) : (Instr.typeAssert (.iface 66 v) 92 66 true).run Tryz.prog w = .ok (.tuple #[v, .bool true]) w := by kernel_rfl
theorem one_int : (Tryz.prog.info? 3).map (·.size) = some 1 := by kernel_rfl
theorem one_str : (Tryz.prog.info? 9).map (·.size) = some 1 := by kernel_rfl
theorem put_nonceG (B N : Nat) (w : World) (bS : Nat) (mv rv : Value) (k : Int) (F : List Nat → Option (Nat × Value)) (E : List Nat → Ac) (A : List Nat) (y : Nat) (h : GsP B N w bS mv rv k F E) (hA : Ad A) (hN : N < 1000000000) (hy : y < 9223372036854775808) :
    Calls Tryz.prog 33 #[.pointer (some ⟨bS, 0, none⟩), .iface 60 (.agg (nonC A y))] w fun e w' => e = .returned (.iface 60 (.agg (nonC A (E A).n))) ∧ StepG B (N + 1) bS mv F rv k (upQ E A ⟨y, (E A).x, (E A).c, (E A).S⟩) w w' := by
  have hqo := h.ok A hA
  go_enter Tryz.func33, Tryz.ntmps33
  go_upto_region 1 with (fail)
  try simp only [Act.put, ppA, ppB, ppC]
  refine wp_region_lit ?_
  refine st_x (v := .iface 60 (.agg (nonC A y))) rfl (x_val _ (.inl rfl) rfl) ?_; try simp only [Act.put, ppA, ppB, ppC]
  refine st_end14 ?_
  go_upto_region 2 with (fail)
  try simp only [Act.put, ppA, ppB, ppC]
  refine wp_region_lit ?_
  refine st_x (v := .tuple #[.agg (nonC A y), .bool true]) rfl (x_ta _ _ _ rfl rfl (taNN _ _)) ?_; try simp only [Act.put, ppA, ppB, ppC]
  refine st_x (v := .bool true) rfl (x_ext _ _ rfl rfl rfl) ?_; try simp only [Act.put, ppA, ppB, ppC]
  refine st_x (v := .agg (nonC A y)) rfl (x_ext _ _ rfl rfl rfl) ?_; try simp only [Act.put, ppA, ppB, ppC]
  refine st_end14 ?_
  go_upto_region 3 with (fail)
  try simp only [Act.put, ppA, ppB, ppC]
  refine wp_region_lit ?_
  have hS := St.start w
  refine st_new hS rfl 60 rfl non_zero ?_; clear hS; intro w1 b7 hS; try simp only [Act.put, ppA, ppB, ppC]
  refine st_store (b := b7) (c' := nonC A y) hS rfl 60 _ _ rfl rfl rfl .head non_size (nonC_size _ _) (nonC_size _ _) (nonC_one _ _) ?_; clear hS; intro w2 hS; try simp only [Act.put, ppA, ppB, ppC]
  refine st_end14 ?_
  have hT2 := hS.frame
  have hO7 : w.heap.size ≤ b7 := hS.le .head
  have hB7 := hS.get .head
  have h2 := h.call hT2
  clear hS
  go_upto_region 4 with (fail)
  try simp only [Act.put, ppA, ppB, ppC]
  refine wp_region_lit ?_
  refine st_x (v := .pointer (some ⟨bS, 0, none⟩)) rfl (x_val _ (.inl rfl) rfl) ?_; try simp only [Act.put, ppA, ppB, ppC]
  refine st_x (v := .pointer (some ⟨b7, 0, none⟩)) rfl (x_fa _ _ _ rfl rfl (fa_n0 _ _)) ?_; try simp only [Act.put, ppA, ppB, ppC]
  refine st_x (v := .agg (av A)) rfl (x_ldIn (n := 20) _ rfl rfl hB7 (arrV_size _ _) (fun j hj => nonC_a A _ j hj) addr_tyY rfl addr_sizeY) ?_; try simp only [Act.put, ppA, ppB, ppC]
  refine st_callS (args := #[.pointer (some ⟨bS, 0, none⟩), .agg (av A)]) rfl rfl (by simp only [List.map_toArray, List.map_cons, List.map_nil]; rfl) Tryz.call53 (openG B N w2 bS mv rv k F E A h2 hA) ?_
  rintro e w3 ⟨b, mo, rfl, hT3, hh, hF⟩
  refine ⟨_, rfl, ?_⟩
  try simp only [Act.put, ppA, ppB, ppC]
  refine st_x (v := .pointer (some ⟨b, 0, none⟩)) rfl (x_val _ (.inr rfl) rfl) ?_; try simp only [Act.put, ppA, ppB, ppC]
  refine st_end14 ?_
  have hB73 := hT3.blk hB7 (by simp)
  have hT03 := hT2.trans hT3
  have hF0 : F A = some (b, mo) ∨ F A = none ∧ mo = .map none ∧ w.heap.size ≤ b := hF.imp id (fun ⟨g1, g2, g3⟩ => ⟨g1, g2, Nat.le_trans hT2.size g3⟩)
  have hb7 : b ≠ b7 := fun e => by
    have := (e ▸ hB73 : Blk w3 b 60 _).ty hh.one
    revert this
    decide
  generalize hEA : E A = qa at *
  obtain ⟨n, x, c, S⟩ := qa
  try simp only at hqo hh
  obtain ⟨o, ho⟩ : ∃ o, o = n := ⟨_, rfl⟩
  subst ho
  have HEA := hQz hEA
  clear hEA
  go_upto_region 5 with (fail)
  try simp only [Act.put, ppA, ppB, ppC]
  refine wp_region_held_drew (S := fun _ => True) (by kernel_rfl) trivial (fun hC => ?_)
  have hTu : Tch [] w3 w3.drew := (Tch.refl [] w3).drew
  have hhu := hh.call hTu
  have hBu := hTu.blk hB73 (by simp)
  generalize World.drew w3 = u0 at hTu hhu hBu ⊢
  refine held_in (v := .pointer (some ⟨b, 0, none⟩)) 0 rfl (by kernel_rfl) (by kernel_rfl) (by kernel_rfl) (fun _ _ _ h => h) hC rfl (fun w' hw' => x_val _ (.inl rfl) rfl) ?_; try simp only [Act.put, ppA, ppB, ppC]
  refine held_in (v := .pointer (some ⟨b, 0, none⟩)) 1 rfl (by kernel_rfl) (by kernel_rfl) (by kernel_rfl) (fun _ _ _ h => h) hC rfl (fun w' hw' => x_val _ (.inl rfl) rfl) ?_; try simp only [Act.put, ppA, ppB, ppC]
  refine held_in (v := .pointer (some ⟨b, 0, none⟩)) 2 rfl (by kernel_rfl) (by kernel_rfl) (by kernel_rfl) (fun _ _ _ h => h) hC rfl (fun w' hw' => x_nilck _ rfl rfl) ?_; try simp only [Act.put, ppA, ppB, ppC]
  refine held_in (v := .pointer (some ⟨b, 0, none⟩)) 3 rfl (by kernel_rfl) (by kernel_rfl) (by kernel_rfl) (fun _ _ _ h => h) hC rfl (fun w' hw' => x_fa _ _ _ rfl rfl (fa_a0 _ _)) ?_; try simp only [Act.put, ppA, ppB, ppC]
  refine held_in (v := .pointer (some ⟨b7, 20, none⟩)) 5 rfl (by kernel_rfl) (by kernel_rfl) (by kernel_rfl) (fun _ _ _ h => h) hC rfl (fun w' hw' => x_fa _ _ _ rfl rfl (fa_n1 _ _)) ?_; try simp only [Act.put, ppA, ppB, ppC]
  refine held_two 4 6 (by kernel_rfl) ?_ ?_
  · refine held_x (v := .int .i64 (o : Int)) rfl rfl (x_cell _ _ rfl rfl (hhu.one.cell (acG_n _ _ _ _)) int_aggS) ⟨trivial, ?_⟩
    try simp only [Act.put, ppA, ppB, ppC]
    refine held_one 6 (by kernel_rfl) ?_
    refine held_x (v := .int .i64 (y : Int)) rfl rfl (x_cell _ _ rfl rfl (hBu.cell (nonC_n _ _)) int_aggS) ⟨trivial, ?_⟩
    try simp only [Act.put, ppA, ppB, ppC]
    refine held_in (v := .pointer (some ⟨b7, 20, none⟩)) 7 rfl (by kernel_rfl) (by kernel_rfl) (by kernel_rfl) (fun _ _ _ h => h) trivial rfl (fun w' hw' => x_fa _ _ _ rfl rfl (fa_n1 _ _)) ?_; try simp only [Act.put, ppA, ppB, ppC]
    refine held_one 8 (by kernel_rfl) ?_
    obtain ⟨u1, hu1⟩ : ∃ u1, u1 = World.setCell u0 ⟨b7, 20, none⟩ (.int .i64 (o : Int)) := ⟨_, rfl⟩
    refine held_skip (w' := u1) rfl rfl (by rw [hu1]; exact r_store1 _ _ rfl rfl rfl hBu one_int (by rw [nonC_size]; decide) rfl) ?_
    have hO1 : Only b7 u0 u1 := by rw [hu1]; exact Only.setCell u0 ⟨b7, 20, none⟩ _
    have hB1 : Blk u1 b7 60 (nonC A o) := by rw [hu1, ← nonC_set A y o]; exact hBu.set 20 _
    clear hu1
    have hP1 : PT (fun j => j = b7) u0 u1 := ⟨hO1.os, hO1.tape, hO1.output, Nat.le_of_eq hO1.size.symm, fun j _ hj => hO1.block j hj⟩
    have hh1 := hhu.off hBu (by decide) (by decide) hP1
    have hb1 := hh1.one
    refine ⟨trivial, ?_⟩
    try simp only [Act.put, ppA, ppB, ppC]
    refine held_in (v := .pointer (some ⟨b, 0, none⟩)) 9 rfl (by kernel_rfl) (by kernel_rfl) (by kernel_rfl) (fun _ _ _ h => h) trivial rfl (fun w' hw' => x_nilck _ rfl rfl) ?_; try simp only [Act.put, ppA, ppB, ppC]
    refine held_in (v := .pointer (some ⟨b, 0, none⟩)) 10 rfl (by kernel_rfl) (by kernel_rfl) (by kernel_rfl) (fun _ _ _ h => h) trivial rfl (fun w' hw' => x_fa _ _ _ rfl rfl (fa_a0 _ _)) ?_; try simp only [Act.put, ppA, ppB, ppC]
    refine held_one 11 (by kernel_rfl) ?_
    obtain ⟨u2, hu2⟩ : ∃ u2, u2 = World.setCell u1 ⟨b, 0, none⟩ (.int .i64 (y : Int)) := ⟨_, rfl⟩
    refine held_skip (w' := u2) rfl rfl (by rw [hu2]; exact r_store1 _ _ rfl rfl rfl hb1 one_int (by rw [acG_size]; decide) rfl) ?_
    have hO2 : Only b u1 u2 := by rw [hu2]; exact Only.setCell u1 ⟨b, 0, none⟩ _
    have hb2 : Blk u2 b 79 (acG y x c mo) := by rw [hu2, ← acG_setn o y x c mo]; exact hb1.set 0 _
    clear hu2
    have hP2 : PT (fun j => j = b ∨ mo = .map (some j)) u1 u2 := ⟨hO2.os, hO2.tape, hO2.output, Nat.le_of_eq hO2.size.symm, fun j _ hj => hO2.block j (fun e => hj (.inl e))⟩
    have hh2 := hh1.set (q' := ⟨y, x, c, S⟩) (Nat.le_refl _) hP2 hb2 (hh1.sl.far (fun r hr => hO2.block r (fun e => hh1.sl.ne hb1 (by rw [hr, e])))) ⟨hy, hqo.2⟩ (fun r hr => .inl hr)
    have hB2 : Blk u2 b7 60 (nonC A o) := hO2.blk (fun e => hb7 e.symm) hB1
    refine ⟨trivial, ?_⟩
    try simp only [Act.put, ppA, ppB, ppC]
    refine wpAnyH_done (by kernel_rfl) ?_ _
    have hPP : PT (fun j => j = b ∨ j = b7 ∨ mo = .map (some j)) w3 u2 := ((PT.nil hTu).trans (hP1.mono (fun j _ hj => .inr (.inl hj)))).trans (hP2.mono (fun j _ hj => hj.elim .inl (fun g => .inr (.inr g))))
    clear hh hhu hh1 hb1 hB1 hBu hP1 hP2 hO1 hO2 hTu
    go_upto_region 6 with (fail)
    try simp only [Act.put, ppA, ppB, ppC]
    refine wp_region_lit ?_
    refine st_x (v := .pointer (some ⟨bS, 0, none⟩)) rfl (x_val _ (.inl rfl) rfl) ?_; try simp only [Act.put, ppA, ppB, ppC]
    refine st_x (v := .pointer (some ⟨b7, 0, none⟩)) rfl (x_fa _ _ _ rfl rfl (fa_n0 _ _)) ?_; try simp only [Act.put, ppA, ppB, ppC]
    refine st_x (v := .agg (av A)) rfl (x_ldIn (n := 20) _ rfl rfl hB2 (arrV_size _ _) (fun j hj => nonC_a A _ j hj) addr_tyY rfl addr_sizeY) ?_; try simp only [Act.put, ppA, ppB, ppC]
    refine st_x (v := .pointer (some ⟨b, 0, none⟩)) rfl (x_val _ (.inl rfl) rfl) ?_; try simp only [Act.put, ppA, ppB, ppC]
    refine st_callS (args := #[.pointer (some ⟨bS, 0, none⟩), .agg (av A), .pointer (some ⟨b, 0, none⟩)]) rfl rfl (by simp only [List.map_toArray, List.map_cons, List.map_nil]; rfl) Tryz.call18 (keepG B N u2 bS mv rv k F E A b mo _ hh2 hA hN) ?_
    rintro e w5 ⟨rfl, hk⟩
    refine ⟨_, rfl, ?_⟩
    try simp only [Act.put, ppA, ppB, ppC]
    refine st_end14 ?_
    have hstep := stepG_of (N := N) hA hT03 hF0 hPP hO7 (fun r hr => .inl hr) hk
    have hB5 : Blk w5 b7 60 (nonC A o) := by
      obtain ⟨_, _, g2, _⟩ := hk
      exact g2.blk hB2 (fun e => e.elim (fun e => by
        have := (e ▸ hB2 : Blk u2 bS 60 _).ty hh2.blk
        revert this
        decide) (fun e => hh2.map.ne hB2 e))
    clear hk
    go_upto_region 7 with (fail)
    try simp only [Act.put, ppA, ppB, ppC]
    refine wp_region_lit ?_
    refine st_x (v := .agg (nonC A o)) rfl (x_ld _ rfl rfl hB5 non_ty rfl (by rw [nonC_size]; exact non_size)) ?_; try simp only [Act.put, ppA, ppB, ppC]
    refine st_x (v := .iface 60 (.agg (nonC A o))) rfl (x_mkI _ _ rfl rfl (mkN _ _)) ?_; try simp only [Act.put, ppA, ppB, ppC]
    refine st_x (v := .iface 60 (.agg (nonC A o))) rfl (x_val _ (.inr rfl) rfl) ?_; try simp only [Act.put, ppA, ppB, ppC]
    refine st_end14 ?_
    go_wp2
    go_ret
    rw [HEA.out]
    exact ⟨rfl, hstep⟩
  · refine held_x (v := .int .i64 (y : Int)) rfl rfl (x_cell _ _ rfl rfl (hBu.cell (nonC_n _ _)) int_aggS) ⟨trivial, ?_⟩
    try simp only [Act.put, ppA, ppB, ppC]
    refine held_one 4 (by kernel_rfl) ?_
    refine held_x (v := .int .i64 (o : Int)) rfl rfl (x_cell _ _ rfl rfl (hhu.one.cell (acG_n _ _ _ _)) int_aggS) ⟨trivial, ?_⟩
    try simp only [Act.put, ppA, ppB, ppC]
    refine held_in (v := .pointer (some ⟨b7, 20, none⟩)) 7 rfl (by kernel_rfl) (by kernel_rfl) (by kernel_rfl) (fun _ _ _ h => h) trivial rfl (fun w' hw' => x_fa _ _ _ rfl rfl (fa_n1 _ _)) ?_; try simp only [Act.put, ppA, ppB, ppC]
    refine held_one 8 (by kernel_rfl) ?_
    obtain ⟨u1, hu1⟩ : ∃ u1, u1 = World.setCell u0 ⟨b7, 20, none⟩ (.int .i64 (o : Int)) := ⟨_, rfl⟩
    refine held_skip (w' := u1) rfl rfl (by rw [hu1]; exact r_store1 _ _ rfl rfl rfl hBu one_int (by rw [nonC_size]; decide) rfl) ?_
    have hO1 : Only b7 u0 u1 := by rw [hu1]; exact Only.setCell u0 ⟨b7, 20, none⟩ _
    have hB1 : Blk u1 b7 60 (nonC A o) := by rw [hu1, ← nonC_set A y o]; exact hBu.set 20 _
    clear hu1
    have hP1 : PT (fun j => j = b7) u0 u1 := ⟨hO1.os, hO1.tape, hO1.output, Nat.le_of_eq hO1.size.symm, fun j _ hj => hO1.block j hj⟩
    have hh1 := hhu.off hBu (by decide) (by decide) hP1
    have hb1 := hh1.one
    refine ⟨trivial, ?_⟩
    try simp only [Act.put, ppA, ppB, ppC]
    refine held_in (v := .pointer (some ⟨b, 0, none⟩)) 9 rfl (by kernel_rfl) (by kernel_rfl) (by kernel_rfl) (fun _ _ _ h => h) trivial rfl (fun w' hw' => x_nilck _ rfl rfl) ?_; try simp only [Act.put, ppA, ppB, ppC]
    refine held_in (v := .pointer (some ⟨b, 0, none⟩)) 10 rfl (by kernel_rfl) (by kernel_rfl) (by kernel_rfl) (fun _ _ _ h => h) trivial rfl (fun w' hw' => x_fa _ _ _ rfl rfl (fa_a0 _ _)) ?_; try simp only [Act.put, ppA, ppB, ppC]
    refine held_one 11 (by kernel_rfl) ?_
    obtain ⟨u2, hu2⟩ : ∃ u2, u2 = World.setCell u1 ⟨b, 0, none⟩ (.int .i64 (y : Int)) := ⟨_, rfl⟩
    refine held_skip (w' := u2) rfl rfl (by rw [hu2]; exact r_store1 _ _ rfl rfl rfl hb1 one_int (by rw [acG_size]; decide) rfl) ?_
    have hO2 : Only b u1 u2 := by rw [hu2]; exact Only.setCell u1 ⟨b, 0, none⟩ _
    have hb2 : Blk u2 b 79 (acG y x c mo) := by rw [hu2, ← acG_setn o y x c mo]; exact hb1.set 0 _
    clear hu2
    have hP2 : PT (fun j => j = b ∨ mo = .map (some j)) u1 u2 := ⟨hO2.os, hO2.tape, hO2.output, Nat.le_of_eq hO2.size.symm, fun j _ hj => hO2.block j (fun e => hj (.inl e))⟩
    have hh2 := hh1.set (q' := ⟨y, x, c, S⟩) (Nat.le_refl _) hP2 hb2 (hh1.sl.far (fun r hr => hO2.block r (fun e => hh1.sl.ne hb1 (by rw [hr, e])))) ⟨hy, hqo.2⟩ (fun r hr => .inl hr)
    have hB2 : Blk u2 b7 60 (nonC A o) := hO2.blk (fun e => hb7 e.symm) hB1
    refine ⟨trivial, ?_⟩
    try simp only [Act.put, ppA, ppB, ppC]
    refine wpAnyH_done (by kernel_rfl) ?_ _
    have hPP : PT (fun j => j = b ∨ j = b7 ∨ mo = .map (some j)) w3 u2 := ((PT.nil hTu).trans (hP1.mono (fun j _ hj => .inr (.inl hj)))).trans (hP2.mono (fun j _ hj => hj.elim .inl (fun g => .inr (.inr g))))
    clear hh hhu hh1 hb1 hB1 hBu hP1 hP2 hO1 hO2 hTu
    go_upto_region 6 with (fail)
    try simp only [Act.put, ppA, ppB, ppC]
    refine wp_region_lit ?_
    refine st_x (v := .pointer (some ⟨bS, 0, none⟩)) rfl (x_val _ (.inl rfl) rfl) ?_; try simp only [Act.put, ppA, ppB, ppC]
    refine st_x (v := .pointer (some ⟨b7, 0, none⟩)) rfl (x_fa _ _ _ rfl rfl (fa_n0 _ _)) ?_; try simp only [Act.put, ppA, ppB, ppC]
    refine st_x (v := .agg (av A)) rfl (x_ldIn (n := 20) _ rfl rfl hB2 (arrV_size _ _) (fun j hj => nonC_a A _ j hj) addr_tyY rfl addr_sizeY) ?_; try simp only [Act.put, ppA, ppB, ppC]
    refine st_x (v := .pointer (some ⟨b, 0, none⟩)) rfl (x_val _ (.inl rfl) rfl) ?_; try simp only [Act.put, ppA, ppB, ppC]
    refine st_callS (args := #[.pointer (some ⟨bS, 0, none⟩), .agg (av A), .pointer (some ⟨b, 0, none⟩)]) rfl rfl (by simp only [List.map_toArray, List.map_cons, List.map_nil]; rfl) Tryz.call18 (keepG B N u2 bS mv rv k F E A b mo _ hh2 hA hN) ?_
    rintro e w5 ⟨rfl, hk⟩
    refine ⟨_, rfl, ?_⟩
    try simp only [Act.put, ppA, ppB, ppC]
    refine st_end14 ?_
    have hstep := stepG_of (N := N) hA hT03 hF0 hPP hO7 (fun r hr => .inl hr) hk
    have hB5 : Blk w5 b7 60 (nonC A o) := by
      obtain ⟨_, _, g2, _⟩ := hk
      exact g2.blk hB2 (fun e => e.elim (fun e => by
        have := (e ▸ hB2 : Blk u2 bS 60 _).ty hh2.blk
        revert this
        decide) (fun e => hh2.map.ne hB2 e))
    clear hk
    go_upto_region 7 with (fail)
    try simp only [Act.put, ppA, ppB, ppC]
    refine wp_region_lit ?_
    refine st_x (v := .agg (nonC A o)) rfl (x_ld _ rfl rfl hB5 non_ty rfl (by rw [nonC_size]; exact non_size)) ?_; try simp only [Act.put, ppA, ppB, ppC]
    refine st_x (v := .iface 60 (.agg (nonC A o))) rfl (x_mkI _ _ rfl rfl (mkN _ _)) ?_; try simp only [Act.put, ppA, ppB, ppC]
    refine st_x (v := .iface 60 (.agg (nonC A o))) rfl (x_val _ (.inr rfl) rfl) ?_; try simp only [Act.put, ppA, ppB, ppC]
    refine st_end14 ?_
    go_wp2
    go_ret
    rw [HEA.out]
    exact ⟨rfl, hstep⟩
end
end Go.Proofs.YtopfmaoeebgjmaaGreatDoor
