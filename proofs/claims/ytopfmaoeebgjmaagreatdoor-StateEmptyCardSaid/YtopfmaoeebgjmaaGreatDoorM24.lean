/- States: keep. -/
import Derived.Test.YtopfmaoeebgjmaaGreatDoorM01
import Derived.Test.YtopfmaoeebgjmaaGreatDoorM23
set_option linter.unusedVariables false
set_option linter.unusedSimpArgs false
namespace Go.Proofs.YtopfmaoeebgjmaaGreatDoor
section
open Go.RowKit Go.WideMaps Go.ChangeMaps Go.MapKept
set_option maxRecDepth 100000
section
variable {B N M : Nat} {w w' : World} {bS : Nat} {mv mv' rv : Value} {k : Int} {F : List Nat → Option Nat} {E : List Nat → Nat × Nat} {A : List Nat}
theorem StP.mapne (h : StP B N w bS mv rv k F E) : mv ≠ .map (some bS) := fun e => by
  subst e
  rcases h.map with ⟨e, _⟩ | ⟨r, n, D, e, _, _, ⟨es, clock, hb, _⟩, _⟩
  · cases e
  · cases e
    have := h.blk
    unfold Blk at this
    rw [this] at hb
    cases hb
theorem StP.accne (h : StP B N w bS mv rv k F E) {b : Nat} {t : TypeId} {c : Array Value} (hB : Blk w b t c) : mv ≠ .map (some b) := fun e => by
  subst e
  rcases h.map with ⟨e, _⟩ | ⟨r, n, D, e, _, _, ⟨es, clock, hb, _⟩, _⟩
  · cases e
  · cases e
    unfold Blk at hB
    rw [hB] at hb
    cases hb
theorem StP.change (h : StP B N w bS mv rv k F E) (hA : Ad A) {o : Option Nat} {n x : Nat} {rv' : Value} {k' : Int} (hblk : Blk w' bS 46 #[mv', rv', .int .i64 k']) (hmap : MapP B M w' mv' (upF F A o))
    (hoth : ∀ X b', Ad X → X ≠ A → F X = some b' → w'.heap[b']? = w.heap[b']?)
    (ho : (o = none ∧ n = 0 ∧ x = 0) ∨ ∃ b, o = some b ∧ Blk w' b 79 (acA n x) ∧ B ≤ b ∧ b ≠ bS ∧ ∀ X, Ad X → X ≠ A → F X ≠ some b) (hok : n < 9223372036854775808 ∧ x < M256) : StP B M w' bS mv' rv' k' (upF F A o) (upE E A (n, x)) := by
  refine ⟨hblk, h.base, hmap, fun X b hX hF => ?_, fun X hX hF => ?_, fun X Y b hX hY h1 h2 => ?_, fun X hX => ?_⟩
  · unfold upF at hF
    unfold upE
    by_cases e : X = A
    · rw [if_pos e] at hF ⊢
      rcases ho with ⟨h1, _⟩ | ⟨b', h1, h2, h3, h4, h5⟩
      · rw [h1] at hF; cases hF
      · rw [h1] at hF; cases hF
        exact ⟨h2, h3, h4⟩
    · rw [if_neg e] at hF ⊢
      have := h.acc X b hX hF
      exact ⟨(hoth X b hX e hF).trans this.1, this.2⟩
  · unfold upF at hF
    unfold upE
    by_cases e : X = A
    · rw [if_pos e] at hF ⊢
      rcases ho with ⟨h1, h2, h3⟩ | ⟨b', h1, _⟩
      · rw [h2, h3]
      · rw [h1] at hF; cases hF
    · rw [if_neg e] at hF ⊢
      exact h.non X hX hF
  · unfold upF at h1 h2
    by_cases e1 : X = A
    · rw [if_pos e1] at h1
      by_cases e2 : Y = A
      · rw [e1, e2]
      · rw [if_neg e2] at h2
        rcases ho with ⟨h3, _⟩ | ⟨b', h3, _, _, _, h5⟩
        · rw [h3] at h1; cases h1
        · rw [h3] at h1; cases h1
          exact absurd h2 (h5 Y hY e2)
    · rw [if_neg e1] at h1
      by_cases e2 : Y = A
      · rw [if_pos e2] at h2
        rcases ho with ⟨h3, _⟩ | ⟨b', h3, _, _, _, h5⟩
        · rw [h3] at h2; cases h2
        · rw [h3] at h2; cases h2
          exact absurd h1 (h5 X hX e1)
      · rw [if_neg e2] at h2
        exact h.inj X Y b hX hY h1 h2
  · unfold upE
    by_cases e : X = A
    · rw [if_pos e]; exact hok
    · rw [if_neg e]; exact h.ok X hX
end
def StepP (B M : Nat) (bS : Nat) (mv : Value) (F : List Nat → Option Nat) (rv : Value) (k : Int) (E : List Nat → Nat × Nat) (w w' : World) : Prop :=
  ∃ mv' F', StP B M w' bS mv' rv k F' E ∧ PT (foot bS mv F) w w' ∧ ∀ j, foot bS mv' F' j → foot bS mv F j ∨ w.heap.size ≤ j
set_option maxHeartbeats 1000000
theorem keep_any (B N : Nat) (w : World) (bS : Nat) (mv rv : Value) (k : Int) (F : List Nat → Option Nat) (E : List Nat → Nat × Nat) (A : List Nat) (b n x : Nat) (h : StP B N w bS mv rv k F E) (hA : Ad A) (hb : Blk w b 79 (acA n x)) (hB : B ≤ b) (hbs : b ≠ bS)
    (hok : n < 9223372036854775808 ∧ x < M256) (hN : N < 1000000000) (hF : (F A = some b) ∨ (F A = none ∧ ∀ X, Ad X → F X ≠ some b)) :
    Calls Tryz.prog 18 #[.pointer (some ⟨bS, 0, none⟩), .agg (av A), .pointer (some ⟨b, 0, none⟩)] w fun e w' => e = .returned (.tuple #[]) ∧
      ∃ mv' F', StP B (N + 1) w' bS mv' rv k F' (upE E A (n, x)) ∧ PT (foot bS mv F) w w' ∧ ∀ j, foot bS mv' F' j → foot bS mv F j ∨ j = b ∨ w.heap.size ≤ j := by
  have H := hQz h
  have HA := hQz hA
  have HK := hQz hok
  have HN := hQz hN
  have HF := hQz hF
  have HBb := hQz (And.intro hB hbs)
  have hBS := h.blk
  have hfb : ∀ X, Ad X → X ≠ A → F X ≠ some b := by
    intro X hX hne e
    rcases hF with h1 | ⟨_, h1⟩
    · exact hne (h.inj X A b hX hA e h1)
    · exact h1 X hX e
  have HX := hQz hfb
  have hE := fun w' (hB : Blk w' b 79 (acA n x)) => empty_any b n x w' hB hok.2
  have hbv := hb
  have hS := St.start w
  clear h hA hok hN hF hB hbs hfb
  go_enter Tryz.func18, Tryz.ntmps18
  go_upto_region 1 with (refine st_box hS rfl 23 _ rfl rfl ?_; clear hS; intro w1 b1 hS)
  try simp only [Act.put, ppA, ppB, ppC]
  have hT1 := hS.frame
  have hB1 := hS.get .head
  have hO1 : w.heap.size ≤ b1 := (hS.own .head).elim id (fun h => by simp at h)
  clear hS
  have H1 := hQz (H.out.call hT1)
  have hb1 := hT1.blk hb (by simp)
  clear hb
  generalize hcv : (#[mv, rv, .int .i64 k] : Array Value) = cv at hBS
  refine k_seq (C := fun w' => w' = w1) rfl ?_
  refine k_in (v := .pointer (some ⟨b, 0, none⟩)) rfl (fun w' hw' => x_val _ (.inl rfl) rfl) ?_; try simp only [Act.put, ppA, ppB, ppC]
  refine k_in (v := .bool false) rfl (fun w' hw' => x_bin _ _ _ _ rfl rfl rfl rfl (eqA_some _ _)) ?_; try simp only [Act.put, ppA, ppB, ppC]
  refine k_in (v := .bool false) rfl (fun w' hw' => x_val _ (.inl rfl) rfl) ?_; try simp only [Act.put, ppA, ppB, ppC]
  refine k_in (v := .pointer (some ⟨b, 0, none⟩)) rfl (fun w' hw' => x_val _ (.inl rfl) rfl) ?_; try simp only [Act.put, ppA, ppB, ppC]
  refine k_callC1 (v := .bool (decide (n = 0 ∧ x = 0))) rfl rfl rfl Tryz.call35 (fun w' hw' => (hE w' (by subst hw'; exact hb1)).mono fun e w2 ⟨g1, g2⟩ => ⟨g1, g2.trans hw'⟩) ?_; try simp only [Act.put, ppA, ppB, ppC]
  refine k_in (v := .bool (decide (n = 0 ∧ x = 0))) rfl (fun w' hw' => x_pickS (c := false) rfl _ _ _ rfl rfl rfl rfl) ?_; try simp only [Act.put, ppA, ppB, ppC]
  refine k_end ?_
  intro w2 hw2
  subst hw2
  clear hE
  by_cases h0 : n = 0 ∧ x = 0
  · rw [decide_eq_true h0]
    have H0 := hQz h0
    clear h0
    go_upto_region 2 with (fail)
    try simp only [Act.put, ppA, ppB, ppC]
    have hmu := H1.out.mapne
    have hma := H1.out.accne hB1
    have hBu := H1.out.blk
    have hBa := hB1
    obtain ⟨u1, hu1⟩ : ∃ u1, u1 = w2 := ⟨_, rfl⟩
    rw [← hu1] at hBu hBa H1 ⊢
    refine wp_region_held_drew (S := fun w' => PT (fun j => (mv : Value) = .map (some j)) u1 w') (by kernel_rfl) (PT.nil ((Tch.refl _ _).drew)) (fun hC => ?_)
    have hD0 : Tch [] u1 u1.drew := (Tch.refl [] u1).drew
    generalize World.drew u1 = u2 at hC hD0 ⊢
    refine held_in (v := .pointer (some ⟨bS, 0, none⟩)) 0 rfl (by kernel_rfl) (by kernel_rfl) (by kernel_rfl) (fun _ _ _ h => h) hC rfl (fun w' hw' => x_val _ (.inl rfl) rfl) ?_; try simp only [Act.put, ppA, ppB, ppC]
    refine held_in (v := .pointer (some ⟨bS, 0, none⟩)) 1 rfl (by kernel_rfl) (by kernel_rfl) (by kernel_rfl) (fun _ _ _ h => h) hC rfl (fun w' hw' => x_nilck _ rfl rfl) ?_; try simp only [Act.put, ppA, ppB, ppC]
    refine held_in (v := .pointer (some ⟨bS, 0, none⟩)) 2 rfl (by kernel_rfl) (by kernel_rfl) (by kernel_rfl) (fun _ _ _ h => h) hC rfl (fun w' hw' => x_fa _ _ _ rfl rfl (fa_s0 _ _)) ?_; try simp only [Act.put, ppA, ppB, ppC]
    refine held_in (v := mv) 3 rfl (by kernel_rfl) (by kernel_rfl) (by kernel_rfl) (fun _ _ _ h => h) hC rfl (fun w' hw' => x_cell _ _ rfl rfl ((hw'.blk hBu hmu).cell rfl) map_agg) ?_; try simp only [Act.put, ppA, ppB, ppC]
    refine held_in (v := .agg (av A)) 4 rfl (by kernel_rfl) (by kernel_rfl) (by kernel_rfl) (fun _ _ _ h => h) hC rfl (fun w' hw' => x_ld _ rfl rfl (hw'.blk hBa hma) addr_tyY rfl (by rw [arrV_size]; exact addr_sizeY)) ?_; try simp only [Act.put, ppA, ppB, ppC]
    have hM := (H1.out.call hD0).map
    refine held_one 5 (by kernel_rfl) ?_
    refine held_del hM HA.out rfl rfl rfl rfl rfl ?_
    intro w3 g1 g2
    refine ⟨hC.trans g2, ?_⟩
    try simp only [Act.put, ppA, ppB, ppC]
    refine wpAnyH_done (by kernel_rfl) ?_ _
    go_wp2
    refine bodyPost_ret (results_none rfl _ _ _) rfl ?_
    have hP := hC.trans g2
    have hnf : ∀ X b', Ad X → X ≠ A → F X = some b' → ¬ mv = .map (some b') := fun X b' hX _ hf => H1.out.accne (H1.out.acc X b' hX hf).1
    refine ⟨rfl, mv, upF F A none, ((H1.out.change HA.out (hP.blk H1.out.blk hmu) g1 (fun X b' hX hne hf => hP.block b' (H1.out.acc X b' hX hf).1.lt (hnf X b' hX hne hf)) (.inl ⟨rfl, H0.out.1, H0.out.2⟩) HK.out)).more (Nat.le_succ _), ?_, ?_⟩
    · have hP2 : PT (fun j => mv = .map (some j)) w w3 := (PT.nil (by rw [hu1]; exact hT1)).trans hP
      exact hP2.mono fun j _ hj => .inr (.inl hj)
    · rintro j (rfl | hj | ⟨X, hX, hf⟩)
      · exact .inl (.inl rfl)
      · exact .inl (.inr (.inl hj))
      · unfold upF at hf
        split at hf
        · cases hf
        · exact .inl (.inr (.inr ⟨X, hX, hf⟩))
  · rw [decide_eq_false h0]
    clear h0
    cases hmv : mv with
    | map p =>
      subst hmv
      cases p with
      | some r =>
        go_upto_region 3 with (fail)
        try simp only [Act.put, ppA, ppB, ppC]
        refine k_seq (C := fun w' => w' = w2) rfl ?_
        refine k_in (v := .pointer (some ⟨bS, 0, none⟩)) rfl (fun w' hw' => x_val _ (.inl rfl) rfl) ?_; try simp only [Act.put, ppA, ppB, ppC]
        refine k_in (v := .pointer (some ⟨bS, 0, none⟩)) rfl (fun w' hw' => x_nilck _ rfl rfl) ?_; try simp only [Act.put, ppA, ppB, ppC]
        refine k_in (v := .pointer (some ⟨bS, 0, none⟩)) rfl (fun w' hw' => x_fa _ _ _ rfl rfl (fa_s0 _ _)) ?_; try simp only [Act.put, ppA, ppB, ppC]
        refine k_in (v := .map (some r)) rfl (fun w' hw' => x_cell _ _ rfl rfl (by subst hw'; exact H1.out.blk.cell rfl) map_agg) ?_; try simp only [Act.put, ppA, ppB, ppC]
        refine k_in (v := .bool false) rfl (fun w' hw' => x_bin _ _ _ _ rfl rfl rfl rfl (eqM_some _ _)) ?_; try simp only [Act.put, ppA, ppB, ppC]
        refine k_end ?_
        intro u1 hu1
        have hBa := hB1
        rw [← hu1] at hBa H1 hb1
        go_upto_region 5 with (fail)
        try simp only [Act.put, ppA, ppB, ppC]
        have hmu := H1.out.mapne
        have hma := H1.out.accne hBa
        have hBu := H1.out.blk
        refine wp_region_held_drew (S := fun w' => PT (fun j => (.map (some r) : Value) = .map (some j)) u1 w') (by kernel_rfl) (PT.nil ((Tch.refl _ _).drew)) (fun hC => ?_)
        have hD0 : Tch [] u1 u1.drew := (Tch.refl [] u1).drew
        generalize World.drew u1 = u2 at hC hD0 ⊢
        refine held_in (v := .pointer (some ⟨bS, 0, none⟩)) 0 rfl (by kernel_rfl) (by kernel_rfl) (by kernel_rfl) (fun _ _ _ h => h) hC rfl (fun w' hw' => x_val _ (.inl rfl) rfl) ?_; try simp only [Act.put, ppA, ppB, ppC]
        refine held_in (v := .pointer (some ⟨bS, 0, none⟩)) 1 rfl (by kernel_rfl) (by kernel_rfl) (by kernel_rfl) (fun _ _ _ h => h) hC rfl (fun w' hw' => x_nilck _ rfl rfl) ?_; try simp only [Act.put, ppA, ppB, ppC]
        refine held_in (v := .pointer (some ⟨bS, 0, none⟩)) 2 rfl (by kernel_rfl) (by kernel_rfl) (by kernel_rfl) (fun _ _ _ h => h) hC rfl (fun w' hw' => x_fa _ _ _ rfl rfl (fa_s0 _ _)) ?_; try simp only [Act.put, ppA, ppB, ppC]
        refine held_in (v := .map (some r)) 3 rfl (by kernel_rfl) (by kernel_rfl) (by kernel_rfl) (fun _ _ _ h => h) hC rfl (fun w' hw' => x_cell _ _ rfl rfl ((hw'.blk hBu hmu).cell rfl) map_agg) ?_; try simp only [Act.put, ppA, ppB, ppC]
        refine held_in (v := .agg (av A)) 4 rfl (by kernel_rfl) (by kernel_rfl) (by kernel_rfl) (fun _ _ _ h => h) hC rfl (fun w' hw' => x_ld _ rfl rfl (hw'.blk hBa hma) addr_tyY rfl (by rw [arrV_size]; exact addr_sizeY)) ?_; try simp only [Act.put, ppA, ppB, ppC]
        refine held_in (v := .pointer (some ⟨b, 0, none⟩)) 5 rfl (by kernel_rfl) (by kernel_rfl) (by kernel_rfl) (fun _ _ _ h => h) hC rfl (fun w' hw' => x_val _ (.inl rfl) rfl) ?_; try simp only [Act.put, ppA, ppB, ppC]
        have hM := (H1.out.call hD0).map
        refine held_one 6 (by kernel_rfl) ?_
        refine held_put hM (by have := HN.out; unfold maxLen; omega) HA.out rfl rfl rfl rfl rfl rfl ?_
        intro w3 g1 g2
        refine ⟨hC.trans g2, ?_⟩
        try simp only [Act.put, ppA, ppB, ppC]
        refine wpAnyH_done (by kernel_rfl) ?_ _
        go_wp2
        go_end0
        have hP := hC.trans g2
        have hnf : ∀ X b', Ad X → X ≠ A → F X = some b' → ¬ (.map (some r) : Value) = .map (some b') := fun X b' hX _ hf => H1.out.accne (H1.out.acc X b' hX hf).1
        refine ⟨rfl, .map (some r), upF F A (some b), H1.out.change HA.out (hP.blk H1.out.blk hmu) g1 (fun X b' hX hne hf => hP.block b' (H1.out.acc X b' hX hf).1.lt (hnf X b' hX hne hf)) (.inr ⟨b, rfl, hP.blk hb1 (H1.out.accne hb1), HBb.out.1, HBb.out.2, HX.out⟩) HK.out, ?_, ?_⟩
        · have hP2 : PT (fun j => (Value.map (some r)) = .map (some j)) w w3 := (PT.nil (by rw [hu1]; exact hT1)).trans hP
          exact hP2.mono fun j _ hj => .inr (.inl hj)
        · rintro j (rfl | hj | ⟨X, hX, hf⟩)
          · exact .inl (.inl rfl)
          · exact .inl (.inr (.inl hj))
          · unfold upF at hf
            split at hf
            · cases hf; exact .inr (.inl rfl)
            · exact .inl (.inr (.inr ⟨X, hX, hf⟩))
      | none =>
        go_upto_region 3 with (fail)
        try simp only [Act.put, ppA, ppB, ppC]
        refine k_seq (C := fun w' => w' = w2) rfl ?_
        refine k_in (v := .pointer (some ⟨bS, 0, none⟩)) rfl (fun w' hw' => x_val _ (.inl rfl) rfl) ?_; try simp only [Act.put, ppA, ppB, ppC]
        refine k_in (v := .pointer (some ⟨bS, 0, none⟩)) rfl (fun w' hw' => x_nilck _ rfl rfl) ?_; try simp only [Act.put, ppA, ppB, ppC]
        refine k_in (v := .pointer (some ⟨bS, 0, none⟩)) rfl (fun w' hw' => x_fa _ _ _ rfl rfl (fa_s0 _ _)) ?_; try simp only [Act.put, ppA, ppB, ppC]
        refine k_in (v := .map none) rfl (fun w' hw' => x_cell _ _ rfl rfl (by subst hw'; exact H1.out.blk.cell rfl) map_agg) ?_; try simp only [Act.put, ppA, ppB, ppC]
        refine k_in (v := .bool true) rfl (fun w' hw' => x_bin _ _ _ _ rfl rfl rfl rfl (eqM_none _)) ?_; try simp only [Act.put, ppA, ppB, ppC]
        refine k_end ?_
        intro u0 hu0
        have hBa := hB1
        rw [← hu0] at hBa H1 hb1
        go_upto_region 4 with (fail)
        try simp only [Act.put, ppA, ppB, ppC]
        refine wp_region_lit ?_
        refine st_x (v := .pointer (some ⟨bS, 0, none⟩)) rfl (x_val _ (.inl rfl) rfl) ?_; try simp only [Act.put, ppA, ppB, ppC]
        refine st_run (v := .map (some u0.heap.size)) rfl (r_mkMap rfl) ?_; try simp only [Act.put, ppA, ppB, ppC]
        have hF0 : ∀ X, Ad X → F X = none := fun X hX => by
          rcases H1.out.map with ⟨_, g⟩ | ⟨r, n, D, e, _⟩
          · exact g X
          · cases e
        obtain ⟨r, hr⟩ : ∃ r, r = u0.heap.size := ⟨_, rfl⟩
        have hbase : B ≤ r := by rw [hr]; exact Nat.le_of_lt (Nat.lt_of_le_of_lt H1.out.base H1.out.blk.lt)
        have hmm := MapP.made B N u0 (by rw [← hr]; exact hbase) F hF0
        have hTa : Tch [] u0 (u0.alloc (.map #[] 0)) := (Tch.refl [] u0).alloc _
        rw [← hr] at hmm ⊢
        generalize u0.alloc (.map #[] 0) = u4 at hmm hTa ⊢
        have hBS4 := hTa.blk H1.out.blk (by simp)
        have hBa4 := hTa.blk hBa (by simp)
        have hb4 := hTa.blk hb1 (by simp)
        refine st_x (v := .pointer (some ⟨bS, 0, none⟩)) rfl (x_nilck _ rfl rfl) ?_; try simp only [Act.put, ppA, ppB, ppC]
        refine st_x (v := .pointer (some ⟨bS, 0, none⟩)) rfl (x_fa _ _ _ rfl rfl (fa_s0 _ _)) ?_; try simp only [Act.put, ppA, ppB, ppC]
        obtain ⟨u1, hu1⟩ : ∃ u1, u1 = World.setCell u4 ⟨bS, 0, none⟩ (.map (some r)) := ⟨_, rfl⟩
        refine st_skip (w' := u1) rfl (by rw [hu1]; exact r_store1 _ _ rfl rfl rfl hBS4 one_size_map (by show 0 < 3; decide) rfl) ?_; try simp only [Act.put, ppA, ppB, ppC]
        refine st_end14 ?_
        have hO := Only.setCell u4 ⟨bS, 0, none⟩ (.map (some r))
        have hB5 := hBS4.set 0 (.map (some r))
        rw [show (#[(.map none : Value), rv, .int .i64 k] : Array Value).setIfInBounds 0 (.map (some r)) = #[.map (some r), rv, .int .i64 k] from rfl] at hB5
        rw [← hu1] at hO hB5
        clear hu1
        have hne : r ≠ bS := by have := H1.out.blk.lt; omega
        have hx1 : ∀ j, j ≠ bS → u1.heap[j]? = u4.heap[j]? := fun j hj => hO.block j hj
        have H1 := hQz (show StP B N u1 bS (.map (some r)) rv k F E from ⟨hB5, H1.out.base, hmm.far (fun r' e => by cases e; exact hx1 r hne), fun X b' hX hf => (by rw [hF0 X hX] at hf; cases hf), H1.out.non, H1.out.inj, H1.out.ok⟩)
        replace hBa := hO.blk (by have h1 := H.out.blk.lt; intro e; have : b1 = bS := e; omega) hBa4
        replace hb1 := hO.blk HBb.out.2 hb4
        go_upto_region 5 with (fail)
        try simp only [Act.put, ppA, ppB, ppC]
        have hmu := H1.out.mapne
        have hma := H1.out.accne hBa
        have hBu := H1.out.blk
        refine wp_region_held_drew (S := fun w' => PT (fun j => (.map (some r) : Value) = .map (some j)) u1 w') (by kernel_rfl) (PT.nil ((Tch.refl _ _).drew)) (fun hC => ?_)
        have hD0 : Tch [] u1 u1.drew := (Tch.refl [] u1).drew
        generalize World.drew u1 = u2 at hC hD0 ⊢
        refine held_in (v := .pointer (some ⟨bS, 0, none⟩)) 0 rfl (by kernel_rfl) (by kernel_rfl) (by kernel_rfl) (fun _ _ _ h => h) hC rfl (fun w' hw' => x_val _ (.inl rfl) rfl) ?_; try simp only [Act.put, ppA, ppB, ppC]
        refine held_in (v := .pointer (some ⟨bS, 0, none⟩)) 1 rfl (by kernel_rfl) (by kernel_rfl) (by kernel_rfl) (fun _ _ _ h => h) hC rfl (fun w' hw' => x_nilck _ rfl rfl) ?_; try simp only [Act.put, ppA, ppB, ppC]
        refine held_in (v := .pointer (some ⟨bS, 0, none⟩)) 2 rfl (by kernel_rfl) (by kernel_rfl) (by kernel_rfl) (fun _ _ _ h => h) hC rfl (fun w' hw' => x_fa _ _ _ rfl rfl (fa_s0 _ _)) ?_; try simp only [Act.put, ppA, ppB, ppC]
        refine held_in (v := .map (some r)) 3 rfl (by kernel_rfl) (by kernel_rfl) (by kernel_rfl) (fun _ _ _ h => h) hC rfl (fun w' hw' => x_cell _ _ rfl rfl ((hw'.blk hBu hmu).cell rfl) map_agg) ?_; try simp only [Act.put, ppA, ppB, ppC]
        refine held_in (v := .agg (av A)) 4 rfl (by kernel_rfl) (by kernel_rfl) (by kernel_rfl) (fun _ _ _ h => h) hC rfl (fun w' hw' => x_ld _ rfl rfl (hw'.blk hBa hma) addr_tyY rfl (by rw [arrV_size]; exact addr_sizeY)) ?_; try simp only [Act.put, ppA, ppB, ppC]
        refine held_in (v := .pointer (some ⟨b, 0, none⟩)) 5 rfl (by kernel_rfl) (by kernel_rfl) (by kernel_rfl) (fun _ _ _ h => h) hC rfl (fun w' hw' => x_val _ (.inl rfl) rfl) ?_; try simp only [Act.put, ppA, ppB, ppC]
        have hM := (H1.out.call hD0).map
        refine held_one 6 (by kernel_rfl) ?_
        refine held_put hM (by have := HN.out; unfold maxLen; omega) HA.out rfl rfl rfl rfl rfl rfl ?_
        intro w3 g1 g2
        refine ⟨hC.trans g2, ?_⟩
        try simp only [Act.put, ppA, ppB, ppC]
        refine wpAnyH_done (by kernel_rfl) ?_ _
        go_wp2
        go_end0
        have hP := hC.trans g2
        have hnf : ∀ X b', Ad X → X ≠ A → F X = some b' → ¬ (.map (some r) : Value) = .map (some b') := fun X b' hX _ hf => H1.out.accne (H1.out.acc X b' hX hf).1
        refine ⟨rfl, .map (some r), upF F A (some b), H1.out.change HA.out (hP.blk H1.out.blk hmu) g1 (fun X b' hX hne hf => hP.block b' (H1.out.acc X b' hX hf).1.lt (hnf X b' hX hne hf)) (.inr ⟨b, rfl, hP.blk hb1 (H1.out.accne hb1), HBb.out.1, HBb.out.2, HX.out⟩) HK.out, ?_, ?_⟩
        · have hP2 : PT (fun j => j = bS ∨ (Value.map (some r)) = .map (some j)) w w3 := (((PT.nil (by rw [hu0]; exact hT1)).trans (PT.nil hTa)).trans ⟨hO.os, hO.tape, hO.output, Nat.le_of_eq hO.size.symm, fun j _ hj => hO.block j (fun e => hj (.inl e))⟩).trans (hP.mono fun j _ hj => .inr hj)
          refine hP2.mono fun j hj hs => ?_
          rcases hs with rfl | e
          · exact .inl rfl
          · cases e; have := hT1.size; rw [← hu0] at this; omega
        · rintro j (rfl | hj | ⟨X, hX, hf⟩)
          · exact .inl (.inl rfl)
          · cases hj; exact .inr (.inr (by have := hT1.size; rw [← hu0] at this; omega))
          · unfold upF at hf
            split at hf
            · cases hf; exact .inr (.inl rfl)
            · exact .inl (.inr (.inr ⟨X, hX, hf⟩))
    | _ => rcases H1.out.map with ⟨e, _⟩ | ⟨r, n, D, e, _⟩ <;> rw [hmv] at e <;> cases e
end
section
open Go.RowKit Go.WideMaps Go.ChangeMaps Go.MapKept
set_option maxRecDepth 100000
set_option maxHeartbeats 2000000
theorem eqSl_some (b : Nat) (w : World) : (binOp .eql 77 (.map (some b)) (.map none)).run Tryz.prog w = .ok (.bool false) w := by kernel_rfl
theorem eqSl_none (w : World) : (binOp .eql 77 (.map none) (.map none)).run Tryz.prog w = .ok (.bool true) w := by kernel_rfl
theorem one_size_slm : (Tryz.prog.info? 77).map (·.size) = some 1 := by kernel_rfl
theorem SlP.ne {B N : Nat} {w : World} {mo : Value} {S : Nat → Nat} (h : SlP B N w mo S) {b : Nat} {t : TypeId} {c : Array Value} (hB : Blk w b t c) : mo ≠ .map (some b) := fun e => by
  obtain ⟨_, ⟨h, _⟩ | ⟨r, n, D, ks, h1, _, _, h3, _⟩⟩ := h
  · rw [h] at e; cases e
  · rw [h1] at e
    cases e
    obtain ⟨es, clock, hb, _⟩ := h3
    rw [show w.heap[b]? = _ from hB] at hb
    cases hb
section
variable {B N : Nat} {w : World} {mv : Value} {S : Nat → Nat} {k v : Nat} {o : Oper} {a : Act} {Q : Exit → Act → World → Prop} {l0 : List Oper} {n : Nat} {K : Act → World → Prop}
theorem held_delS (hM : SlP B N w mv S) (hk : k < M256) {mo xo : Operand} (ho' : l0[n]? = some o) (hw : Region.wanted o (yielded l0.toArray a.tmps) = true) (ho : o.op = .call { callee := .builtin .delete, args := #[mo, xo], argTypes := #[77, 25] }) (hm : a.eval mo = mv) (hx : a.eval xo = .agg (wcells k))
    (h : ∀ w', SlP B N w' mv (upS S k 0) → PT (fun j => mv = .map (some j)) w w' → K (a.put o.dst (.tuple #[])) w') : wpOp Tryz.prog l0.toArray Q n K a w := by
  obtain ⟨w', hr, g1, g2, g3⟩ := r_slDel hM hk mo xo ho hm hx
  refine held_run ho' hw hr (h w' g1 ?_)
  obtain ⟨_, ⟨rfl, _⟩ | ⟨r, _, _, _, rfl, _⟩⟩ := hM
  · rw [g3 rfl]; exact PT.refl _ _
  · exact PT.of_tch (g2 r rfl) (fun k hk => by rw [List.mem_singleton.1 hk]; exact .inl rfl)
theorem held_putS {r : Nat} (hM : SlP B N w (.map (some r)) S) (hN : N < maxLen) (hk : k < M256) (hv : v < M256) (hv0 : v ≠ 0) {mo xo vo : Operand} (ho' : l0[n]? = some o) (hw : Region.wanted o (yielded l0.toArray a.tmps) = true) (ho : o.op = .mapUpdate 77 mo xo vo) (hm : a.eval mo = .map (some r)) (hx : a.eval xo = .agg (wcells k)) (hy : a.eval vo = .agg (wcells v))
    (h : ∀ w', SlP B (N + 1) w' (.map (some r)) (upS S k v) → PT (fun j => (.map (some r) : Value) = .map (some j)) w w' → K (a.put o.dst undef) w') : wpOp Tryz.prog l0.toArray Q n K a w := by
  obtain ⟨w', hr, g1, g2⟩ := r_slPut hM hN hk hv hv0 mo xo vo ho hm hx hy
  exact held_skip ho' hw hr (h w' g1 (PT.of_tch g2 (fun k hk => by rw [List.mem_singleton.1 hk]; exact .inl rfl)))
end
def SetP (B N : Nat) (w : World) (b n x : Nat) (c : List Nat) (mo : Value) (S : Nat → Nat) (w' : World) : Prop :=
  ∃ mo', Blk w' b 79 (acG n x c mo') ∧ SlP B N w' mo' S ∧ PT (fun j => j = b ∨ mo = .map (some j)) w w' ∧ ∀ r, mo' = .map (some r) → mo = .map (some r) ∨ w.heap.size ≤ r
theorem setG (B N b n x : Nat) (c : List Nat) (mo : Value) (S : Nat → Nat) (k v : Nat) (w : World) (hB : Blk w b 79 (acG n x c mo)) (hS : SlP B N w mo S) (hk : k < M256) (hv : v < M256) (hN : N < 1000000000) (hBw : B ≤ w.heap.size) :
    Calls Tryz.prog 36 #[.pointer (some ⟨b, 0, none⟩), .agg (wcells k), .agg (wcells v)] w fun e w' => e = .returned (.tuple #[]) ∧ SetP B (N + 1) w b n x c mo (upS S k v) w' := by
  have hS0 := St.start w
  go_enter Tryz.func36, Tryz.ntmps36
  go_upto_region 0 with (fail)
  try simp only [Act.put, ppA, ppB, ppC]
  refine wp_region_lit ?_
  refine st_box hS0 rfl 25 _ rfl rfl ?_; clear hS0; intro w1 b1 hS0; try simp only [Act.put, ppA, ppB, ppC]
  refine st_box hS0 rfl 25 _ rfl rfl ?_; clear hS0; intro w2 b2 hS0; try simp only [Act.put, ppA, ppB, ppC]
  refine st_end14 ?_
  have g1 := hS0.get (.tail .head)
  have g2 := hS0.get .head
  have hT := hS0.frame
  have hb : Blk w2 b 79 (acG n x c mo) := hT.blk hB (by simp)
  have hs : SlP B N w2 mo S := hS.far (fun r hr => hT.block r (by rw [hr] at hS; exact hS.lt.1) (by simp))
  have n0 : mo ≠ .map (some b) := hs.ne hb
  have n1 : mo ≠ .map (some b1) := hs.ne g1
  have n2 : mo ≠ .map (some b2) := hs.ne g2
  have M0 : 0 < M256 := M256_pos
  clear hS0 hS hB
  by_cases hv0 : v = 0
  · have hvd : decide (v = 0) = true := decide_eq_true hv0
    subst hv0
    go_upto_region 1 with (fail)
    try simp only [Act.put, ppA, ppB, ppC]
    refine wp_region_lit ?_
    refine st_x (v := .agg (wcells 0)) rfl (x_ld _ rfl rfl (g2) wordN_type rfl (by rw [wc_size]; exact wordN_size)) ?_; try simp only [Act.put, ppA, ppB, ppC]
    refine st_x (v := .agg (wcells 0)) rfl (x_bldW0 rfl) ?_; try simp only [Act.put, ppA, ppB, ppC]
    refine st_x (v := .bool true) rfl (x_eqWc M0 M0 hvd _ _ _ rfl rfl rfl) ?_; try simp only [Act.put, ppA, ppB, ppC]
    refine st_end14 ?_
    go_upto_region 2 with (fail)
    try simp only [Act.put, ppA, ppB, ppC]
    refine wp_region_held_drew (S := fun w' => PT (fun j => mo = .map (some j)) w2 w') (by kernel_rfl) (PT.nil ((Tch.refl _ _).drew)) (fun hC => ?_)
    have hTu : Tch [] w2 w2.drew := (Tch.refl [] w2).drew
    have hsu := hs.far (fun r hr => hTu.block r (by rw [hr] at hs; exact hs.lt.1) (by simp))
    generalize World.drew w2 = u at hC hTu hsu ⊢
    refine held_in (v := .pointer (some ⟨b, 0, none⟩)) 0 rfl (by kernel_rfl) (by kernel_rfl) (by kernel_rfl) (fun _ _ _ h => h) hC rfl (fun w' hw' => x_val _ (.inl rfl) rfl) ?_; try simp only [Act.put, ppA, ppB, ppC]
    refine held_in (v := .pointer (some ⟨b, 0, none⟩)) 1 rfl (by kernel_rfl) (by kernel_rfl) (by kernel_rfl) (fun _ _ _ h => h) hC rfl (fun w' hw' => x_nilck _ rfl rfl) ?_; try simp only [Act.put, ppA, ppB, ppC]
    refine held_in (v := .pointer (some ⟨b, 34, none⟩)) 2 rfl (by kernel_rfl) (by kernel_rfl) (by kernel_rfl) (fun _ _ _ h => h) hC rfl (fun w' hw' => x_fa _ _ _ rfl rfl (fa_a3 _ _)) ?_; try simp only [Act.put, ppA, ppB, ppC]
    refine held_in (v := mo) 3 rfl (by kernel_rfl) (by kernel_rfl) (by kernel_rfl) (fun _ _ _ h => h) hC rfl (fun w' hw' => x_cell _ _ rfl rfl ((hw'.blk hb n0).cell (acG_s n x c _)) slm_aggS) ?_; try simp only [Act.put, ppA, ppB, ppC]
    refine held_in (v := .agg (wcells k)) 4 rfl (by kernel_rfl) (by kernel_rfl) (by kernel_rfl) (fun _ _ _ h => h) hC rfl (fun w' hw' => x_ld _ rfl rfl (hw'.blk g1 n1) wordN_type rfl (by rw [wc_size]; exact wordN_size)) ?_; try simp only [Act.put, ppA, ppB, ppC]
    refine held_one 5 (by kernel_rfl) ?_
    refine held_delS hsu hk rfl rfl rfl rfl rfl ?_
    intro u2 q1 q2
    have hP := hC.trans q2
    refine ⟨hP, ?_⟩
    try simp only [Act.put, ppA, ppB, ppC]
    refine wpAnyH_done (by kernel_rfl) ?_ _
    go_wp2
    refine bodyPost_ret (results_none rfl _ _ _) rfl ?_
    refine ⟨rfl, mo, hP.blk hb n0, q1.more (Nat.le_succ _), ((PT.nil hT).trans hP).mono (fun j _ hj => .inr hj), fun r hr => .inl hr⟩
  · have hvd : decide (v = 0) = false := decide_eq_false hv0
    have hform : mo = .map none ∨ ∃ r, mo = .map (some r) := by
      obtain ⟨_, ⟨h, _⟩ | ⟨r, _, _, _, h, _⟩⟩ := hs
      · exact .inl h
      · exact .inr ⟨r, h⟩
    go_upto_region 1 with (fail)
    try simp only [Act.put, ppA, ppB, ppC]
    refine wp_region_lit ?_
    refine st_x (v := .agg (wcells v)) rfl (x_ld _ rfl rfl (g2) wordN_type rfl (by rw [wc_size]; exact wordN_size)) ?_; try simp only [Act.put, ppA, ppB, ppC]
    refine st_x (v := .agg (wcells 0)) rfl (x_bldW0 rfl) ?_; try simp only [Act.put, ppA, ppB, ppC]
    refine st_x (v := .bool false) rfl (x_eqWc hv M0 hvd _ _ _ rfl rfl rfl) ?_; try simp only [Act.put, ppA, ppB, ppC]
    refine st_end14 ?_
    go_upto_region 3 with (fail)
    try simp only [Act.put, ppA, ppB, ppC]
    refine wp_region_lit ?_
    refine st_x (v := .pointer (some ⟨b, 0, none⟩)) rfl (x_val _ (.inl rfl) rfl) ?_; try simp only [Act.put, ppA, ppB, ppC]
    refine st_x (v := .pointer (some ⟨b, 0, none⟩)) rfl (x_nilck _ rfl rfl) ?_; try simp only [Act.put, ppA, ppB, ppC]
    refine st_x (v := .pointer (some ⟨b, 34, none⟩)) rfl (x_fa _ _ _ rfl rfl (fa_a3 _ _)) ?_; try simp only [Act.put, ppA, ppB, ppC]
    refine st_x (v := mo) rfl (x_cell _ _ rfl rfl ((hb).cell (acG_s n x c _)) slm_aggS) ?_; try simp only [Act.put, ppA, ppB, ppC]
    rcases hform with rfl | ⟨r, rfl⟩
    · clear hvd
      refine st_x (v := .bool true) rfl (x_bin _ _ _ _ rfl rfl rfl rfl (eqSl_none _)) ?_; try simp only [Act.put, ppA, ppB, ppC]
      refine st_end14 ?_
      go_upto_region 4 with (fail)
      try simp only [Act.put, ppA, ppB, ppC]
      refine wp_region_lit ?_
      refine st_x (v := .pointer (some ⟨b, 0, none⟩)) rfl (x_val _ (.inl rfl) rfl) ?_; try simp only [Act.put, ppA, ppB, ppC]
      have hz : ∀ j, j < M256 → S j = 0 := by
        obtain ⟨_, ⟨_, h⟩ | ⟨_, _, _, _, h, _⟩⟩ := hs
        · exact h
        · cases h
      obtain ⟨w3, hw3⟩ : ∃ w3, w3 = World.alloc w2 (.map #[] 0) := ⟨_, rfl⟩
      obtain ⟨r, hrr⟩ : ∃ r, r = w2.heap.size := ⟨_, rfl⟩
      have hT3 : Tch [] w2 w3 := by rw [hw3]; exact (Tch.refl _ _).alloc _
      have hs3 : SlP B N w3 (.map (some r)) S := by rw [hw3, hrr]; exact SlP.made B N w2 (Nat.le_trans hBw hT.size) S hz
      refine st_run (w' := w3) (v := .map (some r)) rfl (by rw [hw3, hrr]; exact r_mkMapS rfl) ?_
      try simp only [Act.put, ppA, ppB, ppC]
      clear hw3
      refine st_x (v := .pointer (some ⟨b, 0, none⟩)) rfl (x_nilck _ rfl rfl) ?_; try simp only [Act.put, ppA, ppB, ppC]
      refine st_x (v := .pointer (some ⟨b, 34, none⟩)) rfl (x_fa _ _ _ rfl rfl (fa_a3 _ _)) ?_; try simp only [Act.put, ppA, ppB, ppC]
      have hb3 := hT3.blk hb (by simp)
      obtain ⟨w4, hw4⟩ : ∃ w4, w4 = World.setCell w3 ⟨b, 34, none⟩ (.map (some r)) := ⟨_, rfl⟩
      refine st_skip (w' := w4) rfl (by rw [hw4]; exact r_store1 _ _ rfl rfl rfl hb3 one_size_slm (by rw [acG_size]; decide) rfl) ?_
      try simp only [Act.put, ppA, ppB, ppC]
      have hO4 : Only b w3 w4 := by rw [hw4]; exact Only.setCell w3 ⟨b, 34, none⟩ _
      have hb4 : Blk w4 b 79 (acG n x c (.map (some r))) := by rw [hw4, ← acG_sets n x c (.map none) (.map (some r))]; exact hb3.set 34 _
      clear hw4
      refine st_end14 ?_
      have hbs : b < w2.heap.size := hb.lt
      have hs4 : SlP B N w4 (.map (some r)) S := hs3.far (fun r' hr' => hO4.block r' (fun e => by rw [e] at hr'; exact hs3.ne hb3 hr'))
      have hOt : Tch [b] w3 w4 := ⟨hO4.os, hO4.tape, hO4.output, Nat.le_of_eq hO4.size.symm, fun j _ hj => hO4.block j (fun e => hj (by rw [e]; simp))⟩
      have hb1b : b1 ≠ b := fun e => by rw [e] at g1; rw [show Blk w2 b _ _ = (w2.heap[b]? = _) from rfl, show w2.heap[b]? = _ from hb] at g1; injection g1 with g1; injection g1 with _ hty; revert hty; decide
      have hb2b : b2 ≠ b := fun e => by rw [e] at g2; rw [show Blk w2 b _ _ = (w2.heap[b]? = _) from rfl, show w2.heap[b]? = _ from hb] at g2; injection g2 with g2; injection g2 with _ hty; revert hty; decide
      have g14 := hO4.blk hb1b (hT3.blk g1 (by simp))
      have g24 := hO4.blk hb2b (hT3.blk g2 (by simp))
      have k0 : (.map (some r) : Value) ≠ .map (some b) := hs4.ne hb4
      have k1 : (.map (some r) : Value) ≠ .map (some b1) := hs4.ne g14
      have k2 : (.map (some r) : Value) ≠ .map (some b2) := hs4.ne g24
      have hP4 : PT (fun j => j = b) w w4 := ((PT.nil hT).trans (PT.nil hT3)).trans ⟨hO4.os, hO4.tape, hO4.output, Nat.le_of_eq hO4.size.symm, fun j _ hj => hO4.block j hj⟩
      go_upto_region 5 with (fail)
      try simp only [Act.put, ppA, ppB, ppC]
      refine wp_region_held_drew (S := fun w' => PT (fun j => (.map (some r) : Value) = .map (some j)) w4 w') (by kernel_rfl) (PT.nil ((Tch.refl _ _).drew)) (fun hC => ?_)
      have hTu : Tch [] w4 w4.drew := (Tch.refl [] w4).drew
      have hsu := hs4.far (fun r hr => hTu.block r (by have := hs4; rw [hr] at this; exact this.lt.1) (by simp))
      generalize World.drew w4 = u at hC hTu hsu ⊢
      refine held_in (v := .pointer (some ⟨b, 0, none⟩)) 0 rfl (by kernel_rfl) (by kernel_rfl) (by kernel_rfl) (fun _ _ _ h => h) hC rfl (fun w' hw' => x_val _ (.inl rfl) rfl) ?_; try simp only [Act.put, ppA, ppB, ppC]
      refine held_in (v := .pointer (some ⟨b, 0, none⟩)) 1 rfl (by kernel_rfl) (by kernel_rfl) (by kernel_rfl) (fun _ _ _ h => h) hC rfl (fun w' hw' => x_nilck _ rfl rfl) ?_; try simp only [Act.put, ppA, ppB, ppC]
      refine held_in (v := .pointer (some ⟨b, 34, none⟩)) 2 rfl (by kernel_rfl) (by kernel_rfl) (by kernel_rfl) (fun _ _ _ h => h) hC rfl (fun w' hw' => x_fa _ _ _ rfl rfl (fa_a3 _ _)) ?_; try simp only [Act.put, ppA, ppB, ppC]
      refine held_in (v := .map (some r)) 3 rfl (by kernel_rfl) (by kernel_rfl) (by kernel_rfl) (fun _ _ _ h => h) hC rfl (fun w' hw' => x_cell _ _ rfl rfl ((hw'.blk hb4 k0).cell (acG_s n x c _)) slm_aggS) ?_; try simp only [Act.put, ppA, ppB, ppC]
      refine held_in (v := .agg (wcells k)) 4 rfl (by kernel_rfl) (by kernel_rfl) (by kernel_rfl) (fun _ _ _ h => h) hC rfl (fun w' hw' => x_ld _ rfl rfl (hw'.blk g14 k1) wordN_type rfl (by rw [wc_size]; exact wordN_size)) ?_; try simp only [Act.put, ppA, ppB, ppC]
      refine held_in (v := .agg (wcells v)) 5 rfl (by kernel_rfl) (by kernel_rfl) (by kernel_rfl) (fun _ _ _ h => h) hC rfl (fun w' hw' => x_ld _ rfl rfl (hw'.blk g24 k2) wordN_type rfl (by rw [wc_size]; exact wordN_size)) ?_; try simp only [Act.put, ppA, ppB, ppC]
      refine held_one 6 (by kernel_rfl) ?_
      refine held_putS hsu (by unfold maxLen; omega) hk hv hv0 rfl rfl rfl rfl rfl rfl ?_
      intro u2 q1 q2
      refine ⟨hC.trans q2, ?_⟩
      try simp only [Act.put, ppA, ppB, ppC]
      refine wpAnyH_done (by kernel_rfl) ?_ _
      go_wp2
      go_end0
      have hP5 : PT (fun j => j = b) w u2 := ⟨(hC.trans q2).os.trans hP4.os, (hC.trans q2).tape.trans hP4.tape, (hC.trans q2).output.trans hP4.output, Nat.le_trans hP4.size (hC.trans q2).size, fun j hj hn => ((hC.trans q2).block j (Nat.lt_of_lt_of_le hj hP4.size) (fun e => by cases e; have := hT.size; omega)).trans (hP4.block j hj hn)⟩
      exact ⟨rfl, .map (some r), (hC.trans q2).blk hb4 k0, q1, hP5.mono (fun j _ hj => .inl hj), fun r' e => by cases e; right; have := hT.size; omega⟩
    · clear hvd
      refine st_x (v := .bool false) rfl (x_bin _ _ _ _ rfl rfl rfl rfl (eqSl_some _ _)) ?_; try simp only [Act.put, ppA, ppB, ppC]
      refine st_end14 ?_
      go_upto_region 5 with (fail)
      try simp only [Act.put, ppA, ppB, ppC]
      refine wp_region_held_drew (S := fun w' => PT (fun j => (.map (some r) : Value) = .map (some j)) w2 w') (by kernel_rfl) (PT.nil ((Tch.refl _ _).drew)) (fun hC => ?_)
      have hTu : Tch [] w2 w2.drew := (Tch.refl [] w2).drew
      have hsu := hs.far (fun r hr => hTu.block r (by have := hs; rw [hr] at this; exact this.lt.1) (by simp))
      generalize World.drew w2 = u at hC hTu hsu ⊢
      refine held_in (v := .pointer (some ⟨b, 0, none⟩)) 0 rfl (by kernel_rfl) (by kernel_rfl) (by kernel_rfl) (fun _ _ _ h => h) hC rfl (fun w' hw' => x_val _ (.inl rfl) rfl) ?_; try simp only [Act.put, ppA, ppB, ppC]
      refine held_in (v := .pointer (some ⟨b, 0, none⟩)) 1 rfl (by kernel_rfl) (by kernel_rfl) (by kernel_rfl) (fun _ _ _ h => h) hC rfl (fun w' hw' => x_nilck _ rfl rfl) ?_; try simp only [Act.put, ppA, ppB, ppC]
      refine held_in (v := .pointer (some ⟨b, 34, none⟩)) 2 rfl (by kernel_rfl) (by kernel_rfl) (by kernel_rfl) (fun _ _ _ h => h) hC rfl (fun w' hw' => x_fa _ _ _ rfl rfl (fa_a3 _ _)) ?_; try simp only [Act.put, ppA, ppB, ppC]
      refine held_in (v := .map (some r)) 3 rfl (by kernel_rfl) (by kernel_rfl) (by kernel_rfl) (fun _ _ _ h => h) hC rfl (fun w' hw' => x_cell _ _ rfl rfl ((hw'.blk hb n0).cell (acG_s n x c _)) slm_aggS) ?_; try simp only [Act.put, ppA, ppB, ppC]
      refine held_in (v := .agg (wcells k)) 4 rfl (by kernel_rfl) (by kernel_rfl) (by kernel_rfl) (fun _ _ _ h => h) hC rfl (fun w' hw' => x_ld _ rfl rfl (hw'.blk g1 n1) wordN_type rfl (by rw [wc_size]; exact wordN_size)) ?_; try simp only [Act.put, ppA, ppB, ppC]
      refine held_in (v := .agg (wcells v)) 5 rfl (by kernel_rfl) (by kernel_rfl) (by kernel_rfl) (fun _ _ _ h => h) hC rfl (fun w' hw' => x_ld _ rfl rfl (hw'.blk g2 n2) wordN_type rfl (by rw [wc_size]; exact wordN_size)) ?_; try simp only [Act.put, ppA, ppB, ppC]
      refine held_one 6 (by kernel_rfl) ?_
      refine held_putS hsu (by unfold maxLen; omega) hk hv hv0 rfl rfl rfl rfl rfl rfl ?_
      intro u2 q1 q2
      refine ⟨hC.trans q2, ?_⟩
      try simp only [Act.put, ppA, ppB, ppC]
      refine wpAnyH_done (by kernel_rfl) ?_ _
      go_wp2
      go_end0
      exact ⟨rfl, .map (some r), (hC.trans q2).blk hb n0, q1, ((PT.nil hT).trans (hC.trans q2)).mono (fun j _ hj => .inr hj), fun r' e => .inl e⟩
end
section
open Go.RowKit Go.WideMaps Go.ChangeMaps Go.MapKept
set_option maxRecDepth 100000
structure GsP (B N : Nat) (w : World) (bS : Nat) (mv rv : Value) (k : Int) (F : List Nat → Option (Nat × Value)) (E : List Nat → Ac) : Prop where
  blk : Blk w bS 46 #[mv, rv, .int .i64 k]
  base : B ≤ bS
  map : MapP B N w mv (fun A => (F A).map (·.1))
  acc : ∀ A b mo, Ad A → F A = some (b, mo) → Blk w b 79 (acG (E A).n (E A).x (E A).c mo) ∧ SlP B N w mo (E A).S ∧ B ≤ b
  non : ∀ A, Ad A → (F A = none ↔ E A = Ac.nil)
  inj : ∀ A X b mo mo', Ad A → Ad X → F A = some (b, mo) → F X = some (b, mo') → A = X
  injm : ∀ A X b b' r, Ad A → Ad X → F A = some (b, .map (some r)) → F X = some (b', .map (some r)) → A = X
  apm : ∀ A b r, Ad A → F A = some (b, .map (some r)) → mv ≠ .map (some r)
  ok : ∀ A, Ad A → (E A).ok
def gfoot (bS : Nat) (mv : Value) (F : List Nat → Option (Nat × Value)) (j : Nat) : Prop := j = bS ∨ mv = .map (some j) ∨ ∃ A b mo, Ad A ∧ F A = some (b, mo) ∧ (j = b ∨ mo = .map (some j))
theorem MapP.more {B N M : Nat} {w : World} {mv : Value} {F : List Nat → Option Nat} (h : MapP B N w mv F) (hM : N ≤ M) : MapP B M w mv F :=
  h.imp id (fun ⟨r, n, D, h1, h2, h3, h4⟩ => ⟨r, n, D, h1, h2, Nat.le_trans h3 hM, h4⟩)
theorem MapP.ne {B N : Nat} {w : World} {mv : Value} {F : List Nat → Option Nat} (h : MapP B N w mv F) {b : Nat} {t : TypeId} {c : Array Value} (hB : Blk w b t c) : mv ≠ .map (some b) := fun e => by
  subst e
  rcases h with ⟨e, _⟩ | ⟨r, n, D, e, _, _, ⟨es, clock, hb, _⟩, _⟩
  · cases e
  · cases e
    rw [show w.heap[b]? = _ from hB] at hb
    cases hb
theorem Blk.ty {w : World} {b : Nat} {t t' : TypeId} {c c' : Array Value} (h : Blk w b t c) (h' : Blk w b t' c') : t = t' := by
  have e : w.heap[b]? = some (.cells c t (0, 0)) := h
  have e' : w.heap[b]? = some (.cells c' t' (0, 0)) := h'
  rw [e] at e'
  injection e' with e'
  injection e' with _ e'
section
variable {B N M : Nat} {w w' : World} {bS b : Nat} {mv mv' rv mo : Value} {k : Int} {F : List Nat → Option (Nat × Value)} {E : List Nat → Ac} {A : List Nat} {q : Ac}
theorem GsP.lt (h : GsP B N w bS mv rv k F E) {j : Nat} (hj : gfoot bS mv F j) : B ≤ j ∧ j < w.heap.size := by
  rcases hj with rfl | hj | ⟨A, b, mo, hA, hF, rfl | hm⟩
  · exact ⟨h.base, h.blk.lt⟩
  · have := h.map; rw [hj] at this; exact ⟨this.lt.2, this.lt.1⟩
  · exact ⟨(h.acc A _ mo hA hF).2.2, (h.acc A _ mo hA hF).1.lt⟩
  · have := (h.acc A b mo hA hF).2.1; rw [hm] at this; exact ⟨this.lt.2, this.lt.1⟩
theorem GsP.same (h : GsP B N w bS mv rv k F E) (hs : ∀ j, gfoot bS mv F j → w'.heap[j]? = w.heap[j]?) : GsP B N w' bS mv rv k F E :=
  ⟨(hs bS (.inl rfl)).trans h.blk, h.base, h.map.far (fun r hr => hs r (.inr (.inl hr))),
    fun A b mo hA hF => ⟨(hs b (.inr (.inr ⟨A, b, mo, hA, hF, .inl rfl⟩))).trans (h.acc A b mo hA hF).1, (h.acc A b mo hA hF).2.1.far (fun r hr => hs r (.inr (.inr ⟨A, b, mo, hA, hF, .inr hr⟩))), (h.acc A b mo hA hF).2.2⟩,
    h.non, h.inj, h.injm, h.apm, h.ok⟩
theorem GsP.far {S : Nat → Prop} (h : GsP B N w bS mv rv k F E) (hT : PT S w w') (hS : ∀ j, gfoot bS mv F j → ¬ S j) : GsP B N w' bS mv rv k F E := h.same fun j hj => hT.block j (h.lt hj).2 (hS j hj)
theorem GsP.call (h : GsP B N w bS mv rv k F E) (hT : Tch [] w w') : GsP B N w' bS mv rv k F E := h.same fun j hj => hT.block j (h.lt hj).2 (by simp)
theorem GsP.more (h : GsP B N w bS mv rv k F E) (hM : N ≤ M) : GsP B M w bS mv rv k F E :=
  ⟨h.blk, h.base, h.map.more hM, fun A b mo hA hF => ⟨(h.acc A b mo hA hF).1, (h.acc A b mo hA hF).2.1.more hM, (h.acc A b mo hA hF).2.2⟩, h.non, h.inj, h.injm, h.apm, h.ok⟩
structure HalfP (B N : Nat) (w : World) (bS : Nat) (mv rv : Value) (k : Int) (F : List Nat → Option (Nat × Value)) (E : List Nat → Ac) (A : List Nat) (b : Nat) (mo : Value) (q : Ac) : Prop where
  blk : Blk w bS 46 #[mv, rv, .int .i64 k]
  base : B ≤ bS
  map : MapP B N w mv (fun A => (F A).map (·.1))
  acc : ∀ X b' mo', Ad X → X ≠ A → F X = some (b', mo') → Blk w b' 79 (acG (E X).n (E X).x (E X).c mo') ∧ SlP B N w mo' (E X).S ∧ B ≤ b'
  non : ∀ X, Ad X → X ≠ A → (F X = none ↔ E X = Ac.nil)
  inj : ∀ X Y b' mo' mo'', Ad X → Ad Y → X ≠ A → Y ≠ A → F X = some (b', mo') → F Y = some (b', mo'') → X = Y
  injm : ∀ X Y b' b'' r, Ad X → Ad Y → X ≠ A → Y ≠ A → F X = some (b', .map (some r)) → F Y = some (b'', .map (some r)) → X = Y
  apm : ∀ X b' r, Ad X → X ≠ A → F X = some (b', .map (some r)) → mv ≠ .map (some r)
  ok : ∀ X, Ad X → X ≠ A → (E X).ok
  one : Blk w b 79 (acG q.n q.x q.c mo)
  sl : SlP B N w mo q.S
  bb : B ≤ b
  qok : q.ok
  apart : ∀ X b' mo', Ad X → X ≠ A → F X = some (b', mo') → b' ≠ b ∧ ∀ r, mo' = .map (some r) → mo ≠ .map (some r)
  apm1 : ∀ r, mo = .map (some r) → mv ≠ .map (some r)
theorem GsP.half (h : GsP B N w bS mv rv k F E) (hA : Ad A) (hF : F A = some (b, mo)) : HalfP B N w bS mv rv k F E A b mo (E A) :=
  ⟨h.blk, h.base, h.map, fun X b' mo' hX _ hf => h.acc X b' mo' hX hf, fun X hX _ => h.non X hX, fun X Y b' mo' mo'' hX hY _ _ => h.inj X Y b' mo' mo'' hX hY, fun X Y b' b'' r hX hY _ _ => h.injm X Y b' b'' r hX hY, fun X b' r hX _ => h.apm X b' r hX, fun X hX _ => h.ok X hX,
    (h.acc A b mo hA hF).1, (h.acc A b mo hA hF).2.1, (h.acc A b mo hA hF).2.2, h.ok A hA,
    fun X b' mo' hX hne hf => ⟨fun e => hne (h.inj X A b' mo' mo hX hA hf (by rw [e]; exact hF)), fun r hr hm => hne (h.injm X A b' b r hX hA (by rw [← hr]; exact hf) (by rw [← hm]; exact hF))⟩, fun r hr => h.apm A b r hA (by rw [← hr]; exact hF)⟩
theorem GsP.halfNew (h : GsP B N w bS mv rv k F E) (hA : Ad A) (hF : F A = none) (hb : Blk w b 79 (acG 0 0 [] (.map none))) (hB : B ≤ b) (hn : ¬ gfoot bS mv F b) : HalfP B N w bS mv rv k F E A b (.map none) (E A) := by
  rw [(h.non A hA).1 hF]
  exact ⟨h.blk, h.base, h.map, fun X b' mo' hX _ hf => h.acc X b' mo' hX hf, fun X hX _ => h.non X hX, fun X Y b' mo' mo'' hX hY _ _ => h.inj X Y b' mo' mo'' hX hY, fun X Y b' b'' r hX hY _ _ => h.injm X Y b' b'' r hX hY, fun X b' r hX _ => h.apm X b' r hX, fun X hX _ => h.ok X hX,
    hb, SlP.none B N w (fun _ _ => rfl), hB, Ac.ok_nil,
    fun X b' mo' hX hne hf => ⟨fun e => hn (.inr (.inr ⟨X, b', mo', hX, hf, .inl e.symm⟩)), fun r _ hm => (by cases hm)⟩, fun r hr => (by cases hr)⟩
theorem HalfP.bne (h : HalfP B N w bS mv rv k F E A b mo q) : bS ≠ b := fun e => by
  have := h.blk.ty (e ▸ h.one)
  revert this
  decide
theorem HalfP.same (h : HalfP B N w bS mv rv k F E A b mo q) (hs : ∀ j, j < w.heap.size → w'.heap[j]? = w.heap[j]?) : HalfP B N w' bS mv rv k F E A b mo q :=
  ⟨(hs _ h.blk.lt).trans h.blk, h.base, h.map.far (fun r hr => hs r (by have := h.map; rw [hr] at this; exact this.lt.1)),
    fun X b' mo' hX hne hf => ⟨(hs _ (h.acc X b' mo' hX hne hf).1.lt).trans (h.acc X b' mo' hX hne hf).1, (h.acc X b' mo' hX hne hf).2.1.far (fun r hr => hs r (by have := (h.acc X b' mo' hX hne hf).2.1; rw [hr] at this; exact this.lt.1)), (h.acc X b' mo' hX hne hf).2.2⟩,
    h.non, h.inj, h.injm, h.apm, h.ok, (hs _ h.one.lt).trans h.one, h.sl.far (fun r hr => hs r (by have := h.sl; rw [hr] at this; exact this.lt.1)), h.bb, h.qok, h.apart, h.apm1⟩
theorem HalfP.call (h : HalfP B N w bS mv rv k F E A b mo q) (hT : Tch [] w w') : HalfP B N w' bS mv rv k F E A b mo q := h.same fun j hj => hT.block j hj (by simp)
theorem HalfP.set {mo' : Value} {q' : Ac} (h : HalfP B N w bS mv rv k F E A b mo q) (hNM : N ≤ M) (hT : PT (fun j => j = b ∨ mo = .map (some j)) w w') (h1 : Blk w' b 79 (acG q'.n q'.x q'.c mo')) (h2 : SlP B M w' mo' q'.S) (hq : q'.ok) (hm : ∀ r, mo' = .map (some r) → mo = .map (some r) ∨ w.heap.size ≤ r) :
    HalfP B M w' bS mv rv k F E A b mo' q' := by
  have hsb : ∀ {c : Array Value} {t : TypeId} {j : Nat}, Blk w j t c → j ≠ b → w'.heap[j]? = w.heap[j]? := fun {c t j} hj hne => hT.block j hj.lt (fun e => e.elim hne (fun e => h.sl.ne hj e))
  refine ⟨(hsb h.blk h.bne).trans h.blk, h.base, (h.map.far (fun r hr => hT.block r (by have := h.map; rw [hr] at this; exact this.lt.1) (fun e => e.elim (fun e => h.map.ne h.one (by rw [hr, e])) (fun e => h.apm1 r e hr)))).more hNM, fun X b' mo'' hX hne hf => ?_, h.non, h.inj, h.injm, h.apm, h.ok, h1, h2, h.bb, hq, fun X b' mo'' hX hne hf => ⟨(h.apart X b' mo'' hX hne hf).1, fun r hr e => ?_⟩, fun r hr => ?_⟩
  · obtain ⟨g1, g2, g3⟩ := h.acc X b' mo'' hX hne hf
    refine ⟨(hsb g1 (h.apart X b' mo'' hX hne hf).1).trans g1, (g2.far (fun r hr => hT.block r (by rw [hr] at g2; exact g2.lt.1) (fun e => e.elim (fun e => g2.ne h.one (by rw [hr, e])) (fun e => (h.apart X b' mo'' hX hne hf).2 r hr e)))).more hNM, g3⟩
  · rcases hm r e with e | e
    · exact (h.apart X b' mo'' hX hne hf).2 r hr e
    · have := (h.acc X b' mo'' hX hne hf).2.1
      rw [hr] at this
      have := this.lt.1
      omega
  · rcases hm r hr with e | e
    · exact h.apm1 r e
    · intro e'
      have := h.map
      rw [e'] at this
      have := this.lt.1
      omega
def upG (F : List Nat → Option (Nat × Value)) (A : List Nat) (o : Option (Nat × Value)) : List Nat → Option (Nat × Value) := fun X => if X = A then o else F X
def upQ (E : List Nat → Ac) (A : List Nat) (q : Ac) : List Nat → Ac := fun X => if X = A then q else E X
theorem upF_upG (F : List Nat → Option (Nat × Value)) (A : List Nat) (o : Option (Nat × Value)) : upF (fun X => (F X).map (·.1)) A (o.map (·.1)) = fun X => (upG F A o X).map (·.1) := by
  funext X
  unfold upF upG
  split <;> rfl
theorem HalfP.close {o : Option (Nat × Value)} (h : HalfP B N w bS mv rv k F E A b mo q) (hA : Ad A) (hNM : N ≤ M) (hT : PT (fun j => j = bS ∨ mv = .map (some j)) w w') (hblk : Blk w' bS 46 #[mv', rv, .int .i64 k]) (ho : (o = some (b, mo) ∧ q ≠ Ac.nil) ∨ (o = none ∧ q = Ac.nil))
    (hmap : MapP B M w' mv' (upF (fun X => (F X).map (·.1)) A (o.map (·.1)))) (hmv : ∀ r, mv' = .map (some r) → mv = .map (some r) ∨ w.heap.size ≤ r) : GsP B M w' bS mv' rv k (upG F A o) (upQ E A q) := by
  rw [upF_upG] at hmap
  have hsl : ∀ {m : Value} {S : Nat → Nat}, SlP B N w m S → (∀ r, m = .map (some r) → mv ≠ .map (some r)) → SlP B M w' m S := fun {m S} hs hne => (hs.far (fun r hr => hT.block r (by rw [hr] at hs; exact hs.lt.1) (fun e => e.elim (fun e => hs.ne h.blk (by rw [hr, e])) (fun e => hne r hr e)))).more hNM
  have hbl : ∀ {j : Nat} {c : Array Value}, Blk w j 79 c → Blk w' j 79 c := fun {j c} hj => (hT.block j hj.lt (fun e => e.elim (fun e => by
    subst e
    have := hj.ty h.blk
    revert this
    decide) (fun e => h.map.ne hj e))).trans hj
  refine ⟨hblk, h.base, hmap, fun X b' mo' hX hf => ?_, fun X hX => ?_, fun X Y b' mo' mo'' hX hY h1 h2 => ?_, fun X Y b' b'' r hX hY h1 h2 => ?_, fun X b' r hX hf => ?_, fun X hX => ?_⟩
  · unfold upG at hf
    unfold upQ
    by_cases e : X = A
    · rw [if_pos e] at hf ⊢
      rcases ho with ⟨h1, _⟩ | ⟨h1, _⟩
      · rw [h1] at hf; cases hf
        exact ⟨hbl h.one, hsl h.sl h.apm1, h.bb⟩
      · rw [h1] at hf; cases hf
    · rw [if_neg e] at hf ⊢
      obtain ⟨g1, g2, g3⟩ := h.acc X b' mo' hX e hf
      exact ⟨hbl g1, hsl g2 (fun r hr => h.apm X b' r hX e (by rw [← hr]; exact hf)), g3⟩
  · unfold upG upQ
    by_cases e : X = A
    · rw [if_pos e, if_pos e]
      rcases ho with ⟨h1, h2⟩ | ⟨h1, h2⟩
      · rw [h1]; exact ⟨fun h => (by cases h), fun h => absurd h h2⟩
      · rw [h1]; exact ⟨fun _ => h2, fun _ => rfl⟩
    · rw [if_neg e, if_neg e]; exact h.non X hX e
  · unfold upG at h1 h2
    by_cases e : X = A
    · by_cases e2 : Y = A
      · rw [e, e2]
      · rw [if_pos e] at h1; rw [if_neg e2] at h2
        rcases ho with ⟨h3, _⟩ | ⟨h3, _⟩
        · rw [h3] at h1; cases h1
          exact absurd rfl (h.apart Y b mo'' hY e2 h2).1
        · rw [h3] at h1; cases h1
    · by_cases e2 : Y = A
      · rw [if_neg e] at h1; rw [if_pos e2] at h2
        rcases ho with ⟨h3, _⟩ | ⟨h3, _⟩
        · rw [h3] at h2; cases h2
          exact absurd rfl (h.apart X b mo' hX e h1).1
        · rw [h3] at h2; cases h2
      · rw [if_neg e] at h1; rw [if_neg e2] at h2
        exact h.inj X Y b' mo' mo'' hX hY e e2 h1 h2
  · unfold upG at h1 h2
    by_cases e : X = A
    · by_cases e2 : Y = A
      · rw [e, e2]
      · rw [if_pos e] at h1; rw [if_neg e2] at h2
        rcases ho with ⟨h3, _⟩ | ⟨h3, _⟩
        · rw [h3] at h1; cases h1
          exact absurd rfl ((h.apart Y b'' _ hY e2 h2).2 r rfl)
        · rw [h3] at h1; cases h1
    · by_cases e2 : Y = A
      · rw [if_neg e] at h1; rw [if_pos e2] at h2
        rcases ho with ⟨h3, _⟩ | ⟨h3, _⟩
        · rw [h3] at h2; cases h2
          exact absurd rfl ((h.apart X b' _ hX e h1).2 r rfl)
        · rw [h3] at h2; cases h2
      · rw [if_neg e] at h1; rw [if_neg e2] at h2
        exact h.injm X Y b' b'' r hX hY e e2 h1 h2
  · have key : ∀ {m : Value} {S : Nat → Nat}, m = .map (some r) → SlP B N w m S → (∀ r, m = .map (some r) → mv ≠ .map (some r)) → mv' ≠ .map (some r) := fun {m S} hr hs hne e => by
      rcases hmv r e with e | e
      · exact hne r hr e
      · rw [hr] at hs
        have := hs.lt.1
        omega
    unfold upG at hf
    by_cases e : X = A
    · rw [if_pos e] at hf
      rcases ho with ⟨h3, _⟩ | ⟨h3, _⟩
      · rw [h3] at hf; cases hf
        exact key rfl h.sl h.apm1
      · rw [h3] at hf; cases hf
    · rw [if_neg e] at hf
      exact key rfl (h.acc X b' _ hX e hf).2.1 (fun r' hr' => by cases hr'; exact h.apm X b' r hX e hf)
  · unfold upQ
    by_cases e : X = A
    · rw [if_pos e]; exact h.qok
    · rw [if_neg e]; exact h.ok X hX e
end
end
end Go.Proofs.YtopfmaoeebgjmaaGreatDoor
