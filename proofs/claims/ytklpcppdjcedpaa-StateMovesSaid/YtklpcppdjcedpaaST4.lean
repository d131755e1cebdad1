/- States: keep. -/
import Derived.Test.YtklpcppdjcedpaaST3
namespace Go.Proofs.Ytklpcppdjcedpaa
open Go.RowKit Go.WideMaps Go.ChangeMaps Go.MapKept
set_option linter.unusedVariables false
set_option linter.unusedSimpArgs false
set_option maxRecDepth 100000

section
variable {B N M : Nat} {w w' : World} {bS : Nat} {mv mv' rv : Value} {k : Int} {F : List Nat → Option Nat} {E : List Nat → Nat × Nat} {A : List Nat}
theorem StP.mapne (h : StP B N w bS mv rv k F E) : mv ≠ .map (some bS) := fun e => by
  subst e
  rcases h.map with ⟨e, _⟩ | ⟨r, n, D, e, _, _, ⟨es, clock, hb, _⟩, _⟩
  · cases e
  · cases e
    have := h.blk
    unfold Blk at this
    rw [this] at hb
    cases hb
theorem StP.accne (h : StP B N w bS mv rv k F E) {b : Nat} {t : TypeId} {c : Array Value} (hB : Blk w b t c) : mv ≠ .map (some b) := fun e => by
  subst e
  rcases h.map with ⟨e, _⟩ | ⟨r, n, D, e, _, _, ⟨es, clock, hb, _⟩, _⟩
  · cases e
  · cases e
    unfold Blk at hB
    rw [hB] at hb
    cases hb
theorem StP.change (h : StP B N w bS mv rv k F E) (hA : Ad A) {o : Option Nat} {n x : Nat} {rv' : Value} {k' : Int} (hblk : Blk w' bS 48 #[mv', rv', .int .i64 k']) (hmap : MapP B M w' mv' (upF F A o))
    (hoth : ∀ X b', Ad X → X ≠ A → F X = some b' → w'.heap[b']? = w.heap[b']?)
    (ho : (o = none ∧ n = 0 ∧ x = 0) ∨ ∃ b, o = some b ∧ Blk w' b 69 (acA n x) ∧ B ≤ b ∧ b ≠ bS ∧ ∀ X, Ad X → X ≠ A → F X ≠ some b) (hok : n < 9223372036854775808 ∧ x < M256) : StP B M w' bS mv' rv' k' (upF F A o) (upE E A (n, x)) := by
  refine ⟨hblk, h.base, hmap, fun X b hX hF => ?_, fun X hX hF => ?_, fun X Y b hX hY h1 h2 => ?_, fun X hX => ?_⟩
  · unfold upF at hF
    unfold upE
    by_cases e : X = A
    · rw [if_pos e] at hF ⊢
      rcases ho with ⟨h1, _⟩ | ⟨b', h1, h2, h3, h4, h5⟩
      · rw [h1] at hF; cases hF
      · rw [h1] at hF; cases hF
        exact ⟨h2, h3, h4⟩
    · rw [if_neg e] at hF ⊢
      have := h.acc X b hX hF
      exact ⟨(hoth X b hX e hF).trans this.1, this.2⟩
  · unfold upF at hF
    unfold upE
    by_cases e : X = A
    · rw [if_pos e] at hF ⊢
      rcases ho with ⟨h1, h2, h3⟩ | ⟨b', h1, _⟩
      · rw [h2, h3]
      · rw [h1] at hF; cases hF
    · rw [if_neg e] at hF ⊢
      exact h.non X hX hF
  · unfold upF at h1 h2
    by_cases e1 : X = A
    · rw [if_pos e1] at h1
      by_cases e2 : Y = A
      · rw [e1, e2]
      · rw [if_neg e2] at h2
        rcases ho with ⟨h3, _⟩ | ⟨b', h3, _, _, _, h5⟩
        · rw [h3] at h1; cases h1
        · rw [h3] at h1; cases h1
          exact absurd h2 (h5 Y hY e2)
    · rw [if_neg e1] at h1
      by_cases e2 : Y = A
      · rw [if_pos e2] at h2
        rcases ho with ⟨h3, _⟩ | ⟨b', h3, _, _, _, h5⟩
        · rw [h3] at h2; cases h2
        · rw [h3] at h2; cases h2
          exact absurd h1 (h5 X hX e1)
      · rw [if_neg e2] at h2
        exact h.inj X Y b hX hY h1 h2
  · unfold upE
    by_cases e : X = A
    · rw [if_pos e]; exact hok
    · rw [if_neg e]; exact h.ok X hX
end
/-- What is left of a state behind a step. -/
def StepP (B M : Nat) (bS : Nat) (mv : Value) (F : List Nat → Option Nat) (rv : Value) (k : Int) (E : List Nat → Nat × Nat) (w w' : World) : Prop :=
  ∃ mv' F', StP B M w' bS mv' rv k F' E ∧ PT (foot bS mv F) w w' ∧ ∀ j, foot bS mv' F' j → foot bS mv F j ∨ w.heap.size ≤ j
set_option maxHeartbeats 1000000
/-- An account is kept, or struck where it has nothing. -/
theorem keep_any (B N : Nat) (w : World) (bS : Nat) (mv rv : Value) (k : Int) (F : List Nat → Option Nat) (E : List Nat → Nat × Nat) (A : List Nat) (b n x : Nat) (h : StP B N w bS mv rv k F E) (hA : Ad A) (hb : Blk w b 69 (acA n x)) (hB : B ≤ b) (hbs : b ≠ bS)
    (hok : n < 9223372036854775808 ∧ x < M256) (hN : N < 1000000000) (hF : (F A = some b) ∨ (F A = none ∧ ∀ X, Ad X → F X ≠ some b)) :
    Calls Try.prog 17 #[.pointer (some ⟨bS, 0, none⟩), .agg (av A), .pointer (some ⟨b, 0, none⟩)] w fun e w' => e = .returned (.tuple #[]) ∧
      ∃ mv' F', StP B (N + 1) w' bS mv' rv k F' (upE E A (n, x)) ∧ PT (foot bS mv F) w w' ∧ ∀ j, foot bS mv' F' j → foot bS mv F j ∨ j = b ∨ w.heap.size ≤ j := by
  have H := Lib.hid h
  have HA := Lib.hid hA
  have HK := Lib.hid hok
  have HN := Lib.hid hN
  have HF := Lib.hid hF
  have HBb := Lib.hid (And.intro hB hbs)
  have hBS := h.blk
  have hfb : ∀ X, Ad X → X ≠ A → F X ≠ some b := by
    intro X hX hne e
    rcases hF with h1 | ⟨_, h1⟩
    · exact hne (h.inj X A b hX hA e h1)
    · exact h1 X hX e
  have HX := Lib.hid hfb
  have hE := fun w' (hB : Blk w' b 69 (acA n x)) => empty_any b n x w' hB hok.2
  have hbv := hb
  have hS := St.start w
  clear h hA hok hN hF hB hbs hfb
  go_enter Try.func17, Try.ntmps17
  go_upto_region 1 with (refine st_box hS rfl 23 _ rfl rfl ?_; clear hS; intro w1 b1 hS)
  try simp only [Act.put, List.setIfInBounds_toArray, List.set_cons_zero, List.set_cons_succ]
  have hT1 := hS.frame
  have hB1 := hS.get .head
  have hO1 : w.heap.size ≤ b1 := (hS.own .head).elim id (fun h => by simp at h)
  clear hS
  have H1 := Lib.hid (H.out.call hT1)
  have hb1 := hT1.blk hb (by simp)
  clear hb
  generalize hcv : (#[mv, rv, .int .i64 k] : Array Value) = cv at hBS
  refine k_seq (C := fun w' => w' = w1) rfl ?_
  refine k_in (v := .pointer (some ⟨b, 0, none⟩)) rfl (fun w' hw' => x_val _ (.inl rfl) rfl) ?_; try simp only [Act.put, List.setIfInBounds_toArray, List.set_cons_zero, List.set_cons_succ]
  refine k_in (v := .bool false) rfl (fun w' hw' => x_bin _ _ _ _ rfl rfl rfl rfl (eqA_some _ _)) ?_; try simp only [Act.put, List.setIfInBounds_toArray, List.set_cons_zero, List.set_cons_succ]
  refine k_in (v := .bool false) rfl (fun w' hw' => x_val _ (.inl rfl) rfl) ?_; try simp only [Act.put, List.setIfInBounds_toArray, List.set_cons_zero, List.set_cons_succ]
  refine k_in (v := .pointer (some ⟨b, 0, none⟩)) rfl (fun w' hw' => x_val _ (.inl rfl) rfl) ?_; try simp only [Act.put, List.setIfInBounds_toArray, List.set_cons_zero, List.set_cons_succ]
  refine k_callC1 (v := .bool (decide (n = 0 ∧ x = 0))) rfl rfl rfl Try.call39 (fun w' hw' => (hE w' (by subst hw'; exact hb1)).mono fun e w2 ⟨g1, g2⟩ => ⟨g1, g2.trans hw'⟩) ?_; try simp only [Act.put, List.setIfInBounds_toArray, List.set_cons_zero, List.set_cons_succ]
  refine k_in (v := .bool (decide (n = 0 ∧ x = 0))) rfl (fun w' hw' => x_pickS (c := false) rfl _ _ _ rfl rfl rfl rfl) ?_; try simp only [Act.put, List.setIfInBounds_toArray, List.set_cons_zero, List.set_cons_succ]
  refine k_end ?_
  intro w2 hw2
  subst hw2
  clear hE
  by_cases h0 : n = 0 ∧ x = 0
  · rw [decide_eq_true h0]
    have H0 := Lib.hid h0
    clear h0
    go_upto_region 2 with (fail)
    try simp only [Act.put, List.setIfInBounds_toArray, List.set_cons_zero, List.set_cons_succ]
    have hmu := H1.out.mapne
    have hma := H1.out.accne hB1
    have hBu := H1.out.blk
    have hBa := hB1
    obtain ⟨u1, hu1⟩ : ∃ u1, u1 = w2 := ⟨_, rfl⟩
    rw [← hu1] at hBu hBa H1 ⊢
    refine wp_region_held_drew (S := fun w' => PT (fun j => (mv : Value) = .map (some j)) u1 w') (by kernel_rfl) (PT.nil ((Tch.refl _ _).drew)) (fun hC => ?_)
    have hD0 : Tch [] u1 u1.drew := (Tch.refl [] u1).drew
    generalize World.drew u1 = u2 at hC hD0 ⊢
    refine held_in (v := .pointer (some ⟨bS, 0, none⟩)) 0 rfl (by kernel_rfl) (by kernel_rfl) (by kernel_rfl) (fun _ _ _ h => h) hC rfl (fun w' hw' => x_val _ (.inl rfl) rfl) ?_; try simp only [Act.put, List.setIfInBounds_toArray, List.set_cons_zero, List.set_cons_succ]
    refine held_in (v := .pointer (some ⟨bS, 0, none⟩)) 1 rfl (by kernel_rfl) (by kernel_rfl) (by kernel_rfl) (fun _ _ _ h => h) hC rfl (fun w' hw' => x_nilck _ rfl rfl) ?_; try simp only [Act.put, List.setIfInBounds_toArray, List.set_cons_zero, List.set_cons_succ]
    refine held_in (v := .pointer (some ⟨bS, 0, none⟩)) 2 rfl (by kernel_rfl) (by kernel_rfl) (by kernel_rfl) (fun _ _ _ h => h) hC rfl (fun w' hw' => x_fa _ _ _ rfl rfl (fa_s0 _ _)) ?_; try simp only [Act.put, List.setIfInBounds_toArray, List.set_cons_zero, List.set_cons_succ]
    refine held_in (v := mv) 3 rfl (by kernel_rfl) (by kernel_rfl) (by kernel_rfl) (fun _ _ _ h => h) hC rfl (fun w' hw' => x_cell _ _ rfl rfl ((hw'.blk hBu hmu).cell rfl) map_agg) ?_; try simp only [Act.put, List.setIfInBounds_toArray, List.set_cons_zero, List.set_cons_succ]
    refine held_in (v := .agg (av A)) 4 rfl (by kernel_rfl) (by kernel_rfl) (by kernel_rfl) (fun _ _ _ h => h) hC rfl (fun w' hw' => x_ld _ rfl rfl (hw'.blk hBa hma) addr_tyY rfl (by rw [arrV_size]; exact addr_sizeY)) ?_; try simp only [Act.put, List.setIfInBounds_toArray, List.set_cons_zero, List.set_cons_succ]
    have hM := (H1.out.call hD0).map
    refine held_one 5 (by kernel_rfl) ?_
    refine held_del hM HA.out rfl rfl rfl rfl rfl ?_
    intro w3 g1 g2
    refine ⟨hC.trans g2, ?_⟩
    try simp only [Act.put, List.setIfInBounds_toArray, List.set_cons_zero, List.set_cons_succ]
    refine wpAnyH_done (by kernel_rfl) ?_ _
    go_wp2
    refine bodyPost_ret (results_none rfl _ _ _) rfl ?_
    have hP := hC.trans g2
    have hnf : ∀ X b', Ad X → X ≠ A → F X = some b' → ¬ mv = .map (some b') := fun X b' hX _ hf => H1.out.accne (H1.out.acc X b' hX hf).1
    refine ⟨rfl, mv, upF F A none, ((H1.out.change HA.out (hP.blk H1.out.blk hmu) g1 (fun X b' hX hne hf => hP.block b' (H1.out.acc X b' hX hf).1.lt (hnf X b' hX hne hf)) (.inl ⟨rfl, H0.out.1, H0.out.2⟩) HK.out)).more (Nat.le_succ _), ?_, ?_⟩
    · have hP2 : PT (fun j => mv = .map (some j)) w w3 := (PT.nil (by rw [hu1]; exact hT1)).trans hP
      exact hP2.mono fun j _ hj => .inr (.inl hj)
    · rintro j (rfl | hj | ⟨X, hX, hf⟩)
      · exact .inl (.inl rfl)
      · exact .inl (.inr (.inl hj))
      · unfold upF at hf
        split at hf
        · cases hf
        · exact .inl (.inr (.inr ⟨X, hX, hf⟩))
  · rw [decide_eq_false h0]
    clear h0
    cases hmv : mv with
    | map p =>
      subst hmv
      cases p with
      | some r =>
        go_upto_region 3 with (fail)
        try simp only [Act.put, List.setIfInBounds_toArray, List.set_cons_zero, List.set_cons_succ]
        refine k_seq (C := fun w' => w' = w2) rfl ?_
        refine k_in (v := .pointer (some ⟨bS, 0, none⟩)) rfl (fun w' hw' => x_val _ (.inl rfl) rfl) ?_; try simp only [Act.put, List.setIfInBounds_toArray, List.set_cons_zero, List.set_cons_succ]
        refine k_in (v := .pointer (some ⟨bS, 0, none⟩)) rfl (fun w' hw' => x_nilck _ rfl rfl) ?_; try simp only [Act.put, List.setIfInBounds_toArray, List.set_cons_zero, List.set_cons_succ]
        refine k_in (v := .pointer (some ⟨bS, 0, none⟩)) rfl (fun w' hw' => x_fa _ _ _ rfl rfl (fa_s0 _ _)) ?_; try simp only [Act.put, List.setIfInBounds_toArray, List.set_cons_zero, List.set_cons_succ]
        refine k_in (v := .map (some r)) rfl (fun w' hw' => x_cell _ _ rfl rfl (by subst hw'; exact H1.out.blk.cell rfl) map_agg) ?_; try simp only [Act.put, List.setIfInBounds_toArray, List.set_cons_zero, List.set_cons_succ]
        refine k_in (v := .bool false) rfl (fun w' hw' => x_bin _ _ _ _ rfl rfl rfl rfl (eqM_some _ _)) ?_; try simp only [Act.put, List.setIfInBounds_toArray, List.set_cons_zero, List.set_cons_succ]
        refine k_end ?_
        intro u1 hu1
        have hBa := hB1
        rw [← hu1] at hBa H1 hb1
        go_upto_region 5 with (fail)
        try simp only [Act.put, List.setIfInBounds_toArray, List.set_cons_zero, List.set_cons_succ]
        have hmu := H1.out.mapne
        have hma := H1.out.accne hBa
        have hBu := H1.out.blk
        refine wp_region_held_drew (S := fun w' => PT (fun j => (.map (some r) : Value) = .map (some j)) u1 w') (by kernel_rfl) (PT.nil ((Tch.refl _ _).drew)) (fun hC => ?_)
        have hD0 : Tch [] u1 u1.drew := (Tch.refl [] u1).drew
        generalize World.drew u1 = u2 at hC hD0 ⊢
        refine held_in (v := .pointer (some ⟨bS, 0, none⟩)) 0 rfl (by kernel_rfl) (by kernel_rfl) (by kernel_rfl) (fun _ _ _ h => h) hC rfl (fun w' hw' => x_val _ (.inl rfl) rfl) ?_; try simp only [Act.put, List.setIfInBounds_toArray, List.set_cons_zero, List.set_cons_succ]
        refine held_in (v := .pointer (some ⟨bS, 0, none⟩)) 1 rfl (by kernel_rfl) (by kernel_rfl) (by kernel_rfl) (fun _ _ _ h => h) hC rfl (fun w' hw' => x_nilck _ rfl rfl) ?_; try simp only [Act.put, List.setIfInBounds_toArray, List.set_cons_zero, List.set_cons_succ]
        refine held_in (v := .pointer (some ⟨bS, 0, none⟩)) 2 rfl (by kernel_rfl) (by kernel_rfl) (by kernel_rfl) (fun _ _ _ h => h) hC rfl (fun w' hw' => x_fa _ _ _ rfl rfl (fa_s0 _ _)) ?_; try simp only [Act.put, List.setIfInBounds_toArray, List.set_cons_zero, List.set_cons_succ]
        refine held_in (v := .map (some r)) 3 rfl (by kernel_rfl) (by kernel_rfl) (by kernel_rfl) (fun _ _ _ h => h) hC rfl (fun w' hw' => x_cell _ _ rfl rfl ((hw'.blk hBu hmu).cell rfl) map_agg) ?_; try simp only [Act.put, List.setIfInBounds_toArray, List.set_cons_zero, List.set_cons_succ]
        refine held_in (v := .agg (av A)) 4 rfl (by kernel_rfl) (by kernel_rfl) (by kernel_rfl) (fun _ _ _ h => h) hC rfl (fun w' hw' => x_ld _ rfl rfl (hw'.blk hBa hma) addr_tyY rfl (by rw [arrV_size]; exact addr_sizeY)) ?_; try simp only [Act.put, List.setIfInBounds_toArray, List.set_cons_zero, List.set_cons_succ]
        refine held_in (v := .pointer (some ⟨b, 0, none⟩)) 5 rfl (by kernel_rfl) (by kernel_rfl) (by kernel_rfl) (fun _ _ _ h => h) hC rfl (fun w' hw' => x_val _ (.inl rfl) rfl) ?_; try simp only [Act.put, List.setIfInBounds_toArray, List.set_cons_zero, List.set_cons_succ]
        have hM := (H1.out.call hD0).map
        refine held_one 6 (by kernel_rfl) ?_
        refine held_put hM (by have := HN.out; unfold maxLen; omega) HA.out rfl rfl rfl rfl rfl rfl ?_
        intro w3 g1 g2
        refine ⟨hC.trans g2, ?_⟩
        try simp only [Act.put, List.setIfInBounds_toArray, List.set_cons_zero, List.set_cons_succ]
        refine wpAnyH_done (by kernel_rfl) ?_ _
        go_wp2
        go_end0
        have hP := hC.trans g2
        have hnf : ∀ X b', Ad X → X ≠ A → F X = some b' → ¬ (.map (some r) : Value) = .map (some b') := fun X b' hX _ hf => H1.out.accne (H1.out.acc X b' hX hf).1
        refine ⟨rfl, .map (some r), upF F A (some b), H1.out.change HA.out (hP.blk H1.out.blk hmu) g1 (fun X b' hX hne hf => hP.block b' (H1.out.acc X b' hX hf).1.lt (hnf X b' hX hne hf)) (.inr ⟨b, rfl, hP.blk hb1 (H1.out.accne hb1), HBb.out.1, HBb.out.2, HX.out⟩) HK.out, ?_, ?_⟩
        · have hP2 : PT (fun j => (Value.map (some r)) = .map (some j)) w w3 := (PT.nil (by rw [hu1]; exact hT1)).trans hP
          exact hP2.mono fun j _ hj => .inr (.inl hj)
        · rintro j (rfl | hj | ⟨X, hX, hf⟩)
          · exact .inl (.inl rfl)
          · exact .inl (.inr (.inl hj))
          · unfold upF at hf
            split at hf
            · cases hf; exact .inr (.inl rfl)
            · exact .inl (.inr (.inr ⟨X, hX, hf⟩))
      | none =>
        go_upto_region 3 with (fail)
        try simp only [Act.put, List.setIfInBounds_toArray, List.set_cons_zero, List.set_cons_succ]
        refine k_seq (C := fun w' => w' = w2) rfl ?_
        refine k_in (v := .pointer (some ⟨bS, 0, none⟩)) rfl (fun w' hw' => x_val _ (.inl rfl) rfl) ?_; try simp only [Act.put, List.setIfInBounds_toArray, List.set_cons_zero, List.set_cons_succ]
        refine k_in (v := .pointer (some ⟨bS, 0, none⟩)) rfl (fun w' hw' => x_nilck _ rfl rfl) ?_; try simp only [Act.put, List.setIfInBounds_toArray, List.set_cons_zero, List.set_cons_succ]
        refine k_in (v := .pointer (some ⟨bS, 0, none⟩)) rfl (fun w' hw' => x_fa _ _ _ rfl rfl (fa_s0 _ _)) ?_; try simp only [Act.put, List.setIfInBounds_toArray, List.set_cons_zero, List.set_cons_succ]
        refine k_in (v := .map none) rfl (fun w' hw' => x_cell _ _ rfl rfl (by subst hw'; exact H1.out.blk.cell rfl) map_agg) ?_; try simp only [Act.put, List.setIfInBounds_toArray, List.set_cons_zero, List.set_cons_succ]
        refine k_in (v := .bool true) rfl (fun w' hw' => x_bin _ _ _ _ rfl rfl rfl rfl (eqM_none _)) ?_; try simp only [Act.put, List.setIfInBounds_toArray, List.set_cons_zero, List.set_cons_succ]
        refine k_end ?_
        intro u0 hu0
        have hBa := hB1
        rw [← hu0] at hBa H1 hb1
        go_upto_region 4 with (fail)
        try simp only [Act.put, List.setIfInBounds_toArray, List.set_cons_zero, List.set_cons_succ]
        refine wp_region_lit ?_
        refine st_x (v := .pointer (some ⟨bS, 0, none⟩)) rfl (x_val _ (.inl rfl) rfl) ?_; try simp only [Act.put, List.setIfInBounds_toArray, List.set_cons_zero, List.set_cons_succ]
        refine st_run (v := .map (some u0.heap.size)) rfl (r_mkMap rfl) ?_; try simp only [Act.put, List.setIfInBounds_toArray, List.set_cons_zero, List.set_cons_succ]
        have hF0 : ∀ X, Ad X → F X = none := fun X hX => by
          rcases H1.out.map with ⟨_, g⟩ | ⟨r, n, D, e, _⟩
          · exact g X
          · cases e
        obtain ⟨r, hr⟩ : ∃ r, r = u0.heap.size := ⟨_, rfl⟩
        have hbase : B ≤ r := by rw [hr]; exact Nat.le_of_lt (Nat.lt_of_le_of_lt H1.out.base H1.out.blk.lt)
        have hmm := MapP.made B N u0 (by rw [← hr]; exact hbase) F hF0
        have hTa : Tch [] u0 (u0.alloc (.map #[] 0)) := (Tch.refl [] u0).alloc _
        rw [← hr] at hmm ⊢
        generalize u0.alloc (.map #[] 0) = u4 at hmm hTa ⊢
        have hBS4 := hTa.blk H1.out.blk (by simp)
        have hBa4 := hTa.blk hBa (by simp)
        have hb4 := hTa.blk hb1 (by simp)
        refine st_x (v := .pointer (some ⟨bS, 0, none⟩)) rfl (x_nilck _ rfl rfl) ?_; try simp only [Act.put, List.setIfInBounds_toArray, List.set_cons_zero, List.set_cons_succ]
        refine st_x (v := .pointer (some ⟨bS, 0, none⟩)) rfl (x_fa _ _ _ rfl rfl (fa_s0 _ _)) ?_; try simp only [Act.put, List.setIfInBounds_toArray, List.set_cons_zero, List.set_cons_succ]
        obtain ⟨u1, hu1⟩ : ∃ u1, u1 = World.setCell u4 ⟨bS, 0, none⟩ (.map (some r)) := ⟨_, rfl⟩
        refine st_skip (w' := u1) rfl (by rw [hu1]; exact r_store1 _ _ rfl rfl rfl hBS4 one_size_map (by show 0 < 3; decide) rfl) ?_; try simp only [Act.put, List.setIfInBounds_toArray, List.set_cons_zero, List.set_cons_succ]
        refine st_end14 ?_
        have hO := Only.setCell u4 ⟨bS, 0, none⟩ (.map (some r))
        have hB5 := hBS4.set 0 (.map (some r))
        rw [show (#[(.map none : Value), rv, .int .i64 k] : Array Value).setIfInBounds 0 (.map (some r)) = #[.map (some r), rv, .int .i64 k] from rfl] at hB5
        rw [← hu1] at hO hB5
        clear hu1
        have hne : r ≠ bS := by have := H1.out.blk.lt; omega
        have hx1 : ∀ j, j ≠ bS → u1.heap[j]? = u4.heap[j]? := fun j hj => hO.block j hj
        have H1 := Lib.hid (show StP B N u1 bS (.map (some r)) rv k F E from ⟨hB5, H1.out.base, hmm.far (fun r' e => by cases e; exact hx1 r hne), fun X b' hX hf => (by rw [hF0 X hX] at hf; cases hf), H1.out.non, H1.out.inj, H1.out.ok⟩)
        replace hBa := hO.blk (by have h1 := H.out.blk.lt; intro e; have : b1 = bS := e; omega) hBa4
        replace hb1 := hO.blk HBb.out.2 hb4
        go_upto_region 5 with (fail)
        try simp only [Act.put, List.setIfInBounds_toArray, List.set_cons_zero, List.set_cons_succ]
        have hmu := H1.out.mapne
        have hma := H1.out.accne hBa
        have hBu := H1.out.blk
        refine wp_region_held_drew (S := fun w' => PT (fun j => (.map (some r) : Value) = .map (some j)) u1 w') (by kernel_rfl) (PT.nil ((Tch.refl _ _).drew)) (fun hC => ?_)
        have hD0 : Tch [] u1 u1.drew := (Tch.refl [] u1).drew
        generalize World.drew u1 = u2 at hC hD0 ⊢
        refine held_in (v := .pointer (some ⟨bS, 0, none⟩)) 0 rfl (by kernel_rfl) (by kernel_rfl) (by kernel_rfl) (fun _ _ _ h => h) hC rfl (fun w' hw' => x_val _ (.inl rfl) rfl) ?_; try simp only [Act.put, List.setIfInBounds_toArray, List.set_cons_zero, List.set_cons_succ]
        refine held_in (v := .pointer (some ⟨bS, 0, none⟩)) 1 rfl (by kernel_rfl) (by kernel_rfl) (by kernel_rfl) (fun _ _ _ h => h) hC rfl (fun w' hw' => x_nilck _ rfl rfl) ?_; try simp only [Act.put, List.setIfInBounds_toArray, List.set_cons_zero, List.set_cons_succ]
        refine held_in (v := .pointer (some ⟨bS, 0, none⟩)) 2 rfl (by kernel_rfl) (by kernel_rfl) (by kernel_rfl) (fun _ _ _ h => h) hC rfl (fun w' hw' => x_fa _ _ _ rfl rfl (fa_s0 _ _)) ?_; try simp only [Act.put, List.setIfInBounds_toArray, List.set_cons_zero, List.set_cons_succ]
        refine held_in (v := .map (some r)) 3 rfl (by kernel_rfl) (by kernel_rfl) (by kernel_rfl) (fun _ _ _ h => h) hC rfl (fun w' hw' => x_cell _ _ rfl rfl ((hw'.blk hBu hmu).cell rfl) map_agg) ?_; try simp only [Act.put, List.setIfInBounds_toArray, List.set_cons_zero, List.set_cons_succ]
        refine held_in (v := .agg (av A)) 4 rfl (by kernel_rfl) (by kernel_rfl) (by kernel_rfl) (fun _ _ _ h => h) hC rfl (fun w' hw' => x_ld _ rfl rfl (hw'.blk hBa hma) addr_tyY rfl (by rw [arrV_size]; exact addr_sizeY)) ?_; try simp only [Act.put, List.setIfInBounds_toArray, List.set_cons_zero, List.set_cons_succ]
        refine held_in (v := .pointer (some ⟨b, 0, none⟩)) 5 rfl (by kernel_rfl) (by kernel_rfl) (by kernel_rfl) (fun _ _ _ h => h) hC rfl (fun w' hw' => x_val _ (.inl rfl) rfl) ?_; try simp only [Act.put, List.setIfInBounds_toArray, List.set_cons_zero, List.set_cons_succ]
        have hM := (H1.out.call hD0).map
        refine held_one 6 (by kernel_rfl) ?_
        refine held_put hM (by have := HN.out; unfold maxLen; omega) HA.out rfl rfl rfl rfl rfl rfl ?_
        intro w3 g1 g2
        refine ⟨hC.trans g2, ?_⟩
        try simp only [Act.put, List.setIfInBounds_toArray, List.set_cons_zero, List.set_cons_succ]
        refine wpAnyH_done (by kernel_rfl) ?_ _
        go_wp2
        go_end0
        have hP := hC.trans g2
        have hnf : ∀ X b', Ad X → X ≠ A → F X = some b' → ¬ (.map (some r) : Value) = .map (some b') := fun X b' hX _ hf => H1.out.accne (H1.out.acc X b' hX hf).1
        refine ⟨rfl, .map (some r), upF F A (some b), H1.out.change HA.out (hP.blk H1.out.blk hmu) g1 (fun X b' hX hne hf => hP.block b' (H1.out.acc X b' hX hf).1.lt (hnf X b' hX hne hf)) (.inr ⟨b, rfl, hP.blk hb1 (H1.out.accne hb1), HBb.out.1, HBb.out.2, HX.out⟩) HK.out, ?_, ?_⟩
        · have hP2 : PT (fun j => j = bS ∨ (Value.map (some r)) = .map (some j)) w w3 := (((PT.nil (by rw [hu0]; exact hT1)).trans (PT.nil hTa)).trans ⟨hO.os, hO.tape, hO.output, Nat.le_of_eq hO.size.symm, fun j _ hj => hO.block j (fun e => hj (.inl e))⟩).trans (hP.mono fun j _ hj => .inr hj)
          refine hP2.mono fun j hj hs => ?_
          rcases hs with rfl | e
          · exact .inl rfl
          · cases e; have := hT1.size; rw [← hu0] at this; omega
        · rintro j (rfl | hj | ⟨X, hX, hf⟩)
          · exact .inl (.inl rfl)
          · cases hj; exact .inr (.inr (by have := hT1.size; rw [← hu0] at this; omega))
          · unfold upF at hf
            split at hf
            · cases hf; exact .inr (.inl rfl)
            · exact .inl (.inr (.inr ⟨X, hX, hf⟩))
    | _ => rcases H1.out.map with ⟨e, _⟩ | ⟨r, n, D, e, _⟩ <;> rw [hmv] at e <;> cases e
end Go.Proofs.Ytklpcppdjcedpaa
