/- States: put of a Balance, of a Nonce. -/
import Derived.Test.YtopfmaoeebgjmaaGreatDoorM01
import Derived.Test.YtopfmaoeebgjmaaGreatDoorM24
set_option linter.unusedVariables false
set_option linter.unusedSimpArgs false
namespace Go.Proofs.YtopfmaoeebgjmaaGreatDoor
section
open Go.RowKit Go.WideMaps Go.ChangeMaps Go.MapKept
set_option maxRecDepth 100000
set_option maxHeartbeats 1000000
theorem upE_idem (E : List Nat → Nat × Nat) (A : List Nat) (u v : Nat × Nat) : upE (upE E A u) A v = upE E A v := by
  funext X
  unfold upE
  by_cases h : X = A <;> simp [h]
theorem upF_same {F : List Nat → Option Nat} {A : List Nat} {o : Option Nat} (h : F A = o) : upF F A o = F := by
  funext X
  unfold upF
  by_cases e : X = A
  · rw [if_pos e, e, h]
  · rw [if_neg e]
theorem StP.turn {B N : Nat} {w u : World} {bS b : Nat} {mv rv : Value} {k : Int} {F : List Nat → Option Nat} {E : List Nat → Nat × Nat} {A : List Nat} {n y : Nat} {S : Nat → Prop} (h : StP B N w bS mv rv k F E) (hA : Ad A) (hT : PT S w u) (hS : ∀ j, S j → j = b ∨ w.heap.size ≤ j) (hb : Blk u b 79 (acA n y)) (hbb : B ≤ b ∧ b ≠ bS)
    (hF : F A = some b ∨ F A = none ∧ w.heap.size ≤ b) (hok : n < 9223372036854775808 ∧ y < M256) : ∃ E0, StP B N u bS mv rv k F E0 ∧ upE E0 A (n, y) = upE E A (n, y) := by
  rcases hF with hF | ⟨hF, hn⟩
  · refine ⟨upE E A (n, y), ?_, upE_idem _ _ _ _⟩
    have hS' : ∀ j, j < w.heap.size → j ≠ b → u.heap[j]? = w.heap[j]? := fun j hj hne => hT.block j hj (fun hs => (hS j hs).elim hne (fun g => by omega))
    have := h.change (w' := u) (mv' := mv) (M := N) hA (o := some b) (n := n) (x := y) (rv' := rv) (k' := k) ((hS' bS h.blk.lt (fun e => hbb.2 e.symm)).trans h.blk)
      (by rw [upF_same hF]; exact h.map.far fun r hr => hS' r (by subst hr; exact h.map.lt.1) (fun e => h.accne (h.acc A b hA hF).1 (by rw [hr, e])))
      (fun X b' hX hne hf => hS' b' (h.acc X b' hX hf).1.lt (fun e => hne (h.inj X A b hX hA (by rw [hf, e]) hF))) (.inr ⟨b, rfl, hb, hbb.1, hbb.2, fun X hX hne hf => hne (h.inj X A b hX hA hf hF)⟩) hok
    rwa [upF_same hF] at this
  · refine ⟨E, h.same fun j hj => hT.block j (h.lt hj).2 (fun hs => ?_), rfl⟩
    have h1 := (h.lt hj).2
    rcases hS j hs with rfl | g
    · omega
    · omega
theorem size_one_int : (Tryz.prog.info? 3).map (·.size) = some 1 := by kernel_rfl
theorem put_non (B N : Nat) (w : World) (bS : Nat) (mv rv : Value) (k : Int) (F : List Nat → Option Nat) (E : List Nat → Nat × Nat) (A : List Nat) (y : Nat) (h : StP B N w bS mv rv k F E) (hA : Ad A) (hN : N < 1000000000) (hy : y < 9223372036854775808) :
    Calls Tryz.prog 33 #[.pointer (some ⟨bS, 0, none⟩), .iface 60 (.agg (nonC A y))] w fun e w' => e = .returned (.iface 60 (.agg (nonC A (E A).1))) ∧
      StepP B (N + 1) bS mv F rv k (upE E A (y, (E A).2)) w w' := by
  have H := hQz h
  have HA := hQz hA
  have HN := hQz hN
  have HY := hQz hy
  have HO := hQz (h.ok A hA)
  clear h hA hN hy
  have hS := St.start w
  obtain ⟨n, hn⟩ : ∃ n, n = (E A).1 := ⟨_, rfl⟩
  obtain ⟨x, hx⟩ : ∃ x, x = (E A).2 := ⟨_, rfl⟩
  rw [← hn, ← hx] at HO ⊢
  have HE := hQz (And.intro hn hx)
  clear hn hx
  go_enter Tryz.func33, Tryz.ntmps33
  go_upto_region 2 with (fail)
  try simp only [Act.put, ppA, ppB, ppC]
  refine wp_region_lit ?_
  refine st_x (v := .tuple #[.agg (nonC A y), .bool true]) rfl (x_ta _ _ _ rfl rfl (taNN _ _)) ?_; try simp only [Act.put, ppA, ppB, ppC]
  refine st_x (v := .bool true) rfl (x_ext _ _ rfl rfl rfl) ?_; try simp only [Act.put, ppA, ppB, ppC]
  refine st_x (v := .agg (nonC A y)) rfl (x_ext _ _ rfl rfl rfl) ?_; try simp only [Act.put, ppA, ppB, ppC]
  refine st_end14 ?_
  go_upto_region 3 with (fail)
  try simp only [Act.put, ppA, ppB, ppC]
  refine wp_region_lit ?_
  refine st_new hS rfl 60 rfl non_zero ?_; clear hS; intro w1 b7 hS; try simp only [Act.put, ppA, ppB, ppC]
  refine st_store (b := b7) (c' := nonC A y) hS rfl 60 _ _ rfl rfl rfl .head non_size (nonC_size _ _) (nonC_size _ _) (nonC_one _ _) ?_; clear hS; intro w2 hS; try simp only [Act.put, ppA, ppB, ppC]
  refine st_end14 ?_
  have hT2 := hS.frame
  have hO7 : w.heap.size ≤ b7 := hS.le .head
  have H2 := hQz (H.out.call hT2)
  have hB7 := hS.get .head
  have hlt7 := hB7.lt
  clear hS
  go_upto_region 4 with (fail)
  try simp only [Act.put, ppA, ppB, ppC]
  refine wp_region_lit ?_
  refine st_x (v := .pointer (some ⟨bS, 0, none⟩)) rfl (x_val _ (.inl rfl) rfl) ?_; try simp only [Act.put, ppA, ppB, ppC]
  refine st_x (v := .pointer (some ⟨b7, 0, none⟩)) rfl (x_fa _ _ _ rfl rfl (fa_n0 _ _)) ?_; try simp only [Act.put, ppA, ppB, ppC]
  refine st_x (v := .agg (av A)) rfl (x_ldIn (n := 20) _ rfl rfl hB7 (arrV_size _ _) (fun j hj => nonC_a A y j hj) addr_tyY rfl addr_sizeY) ?_; try simp only [Act.put, ppA, ppB, ppC]
  refine st_callS (args := #[.pointer (some ⟨bS, 0, none⟩), .agg (av A)]) rfl rfl (by simp only [List.map_toArray, List.map_cons, List.map_nil]; rfl) Tryz.call53 (open_any B N w2 bS mv rv k F E A H2.out HA.out) ?_
  rintro e w3 ⟨b, rfl, hT3, hb, hFA⟩
  refine ⟨_, rfl, ?_⟩
  try simp only [Act.put, ppA, ppB, ppC]
  rw [← HE.out.1, ← HE.out.2] at hb
  refine st_x (v := .pointer (some ⟨b, 0, none⟩)) rfl (x_val _ (.inr rfl) rfl) ?_; try simp only [Act.put, ppA, ppB, ppC]
  refine st_end14 ?_
  have H3 := hQz (H2.out.call hT3)
  replace hB7 := hT3.blk hB7 (by simp)
  have hT := hT2.trans hT3
  have h7lt := hB7.lt
  have hO7' : w.heap.size ≤ b7 := hO7
  have hb7 : b ≠ b7 := by
    intro e
    subst e
    have h1 : (b : Nat) < w2.heap.size := hlt7
    rcases hFA with g | ⟨_, g⟩
    · have := (H.out.acc A b HA.out g).1.lt; omega
    · omega
  have hbb : B ≤ b ∧ b ≠ bS := by
    rcases hFA with g | ⟨_, g⟩
    · exact (H.out.acc A b HA.out g).2
    · have h1 := H2.out.blk.lt; have h2 := H.out.base; omega
  have hFF : F A = some b ∨ F A = none ∧ ∀ X, Ad X → F X ≠ some b := by
    rcases hFA with g | ⟨g, g2⟩
    · exact .inl g
    · refine .inr ⟨g, fun X hX e => ?_⟩
      have := (H2.out.acc X b hX e).1.lt
      omega
  have hFn : F A = some b ∨ F A = none ∧ w.heap.size ≤ b := hFA.imp id (fun g => ⟨g.1, Nat.le_trans hT2.size g.2⟩)
  have hb0 : F A = some b ∨ w.heap.size ≤ b := hFA.imp id (fun g => Nat.le_trans hT2.size g.2)
  clear hFA
  go_upto_region 5 with (fail)
  try simp only [Act.put, ppA, ppB, ppC]
  refine wp_region_held_drew (S := fun w' => Tch [b7, b] w3 w') (by kernel_rfl) ((Tch.refl _ _).drew) (fun hC => ?_)
  have hD0 : Tch [] w3 w3.drew := (Tch.refl [] w3).drew
  generalize World.drew w3 = u0 at hC hD0 ⊢
  have hBu := hD0.blk hB7 (by simp)
  have hbu := hD0.blk hb (by simp)
  refine held_in (v := .pointer (some ⟨b, 0, none⟩)) 0 rfl (by kernel_rfl) (by kernel_rfl) (by kernel_rfl) (fun _ _ _ h => h) hC rfl (fun w' hw' => x_val _ (.inl rfl) rfl) ?_; try simp only [Act.put, ppA, ppB, ppC]
  refine held_in (v := .pointer (some ⟨b, 0, none⟩)) 1 rfl (by kernel_rfl) (by kernel_rfl) (by kernel_rfl) (fun _ _ _ h => h) hC rfl (fun w' hw' => x_val _ (.inl rfl) rfl) ?_; try simp only [Act.put, ppA, ppB, ppC]
  refine held_in (v := .pointer (some ⟨b, 0, none⟩)) 2 rfl (by kernel_rfl) (by kernel_rfl) (by kernel_rfl) (fun _ _ _ h => h) hC rfl (fun w' hw' => x_nilck _ rfl rfl) ?_; try simp only [Act.put, ppA, ppB, ppC]
  refine held_in (v := .pointer (some ⟨b, 0, none⟩)) 3 rfl (by kernel_rfl) (by kernel_rfl) (by kernel_rfl) (fun _ _ _ h => h) hC rfl (fun w' hw' => x_fa _ _ _ rfl rfl (fa_a0 _ _)) ?_; try simp only [Act.put, ppA, ppB, ppC]
  refine held_in (v := .pointer (some ⟨b7, 20, none⟩)) 5 rfl (by kernel_rfl) (by kernel_rfl) (by kernel_rfl) (fun _ _ _ h => h) hC rfl (fun w' hw' => x_fa _ _ _ rfl rfl (fa_n1 _ _)) ?_; try simp only [Act.put, ppA, ppB, ppC]
  refine held_two 4 6 (by kernel_rfl) ?_ ?_
  · refine held_x (v := .int .i64 (n : Int)) rfl rfl (x_cell _ _ rfl rfl (hbu.cell (acA_n n x)) int_aggS) ⟨hC, ?_⟩
    try simp only [Act.put, ppA, ppB, ppC]
    refine held_one 6 (by kernel_rfl) ?_
    refine held_x (v := .int .i64 (y : Int)) rfl rfl (x_cell _ _ rfl rfl (hBu.cell (nonC_n A y)) int_aggS) ⟨hC, ?_⟩
    try simp only [Act.put, ppA, ppB, ppC]
    refine held_in (v := .pointer (some ⟨b7, 20, none⟩)) 7 rfl (by kernel_rfl) (by kernel_rfl) (by kernel_rfl) (fun _ _ _ h => h) hC rfl (fun w' hw' => x_fa _ _ _ rfl rfl (fa_n1 _ _)) ?_; try simp only [Act.put, ppA, ppB, ppC]
    refine held_one 8 (by kernel_rfl) ?_
    obtain ⟨u1, hu1⟩ : ∃ u1, u1 = World.setCell u0 ⟨b7, 20, none⟩ (.int .i64 (n : Int)) := ⟨_, rfl⟩
    refine held_skip (w' := u1) rfl rfl (by rw [hu1]; exact r_store1 _ _ rfl rfl rfl hBu size_one_int (by rw [nonC_size]; decide) rfl) ?_
    have hO1 : Only b7 u0 u1 := by rw [hu1]; exact Only.setCell u0 ⟨b7, 20, none⟩ _
    have hB1 : Blk u1 b7 60 (nonC A n) := by rw [hu1]; have := hBu.set 20 (.int .i64 (n : Int)); rwa [nonC_set] at this
    have hb1 : Blk u1 b 79 (acA n x) := hO1.blk hb7 hbu
    clear hu1 hBu hbu
    have hC1 : Tch [b7, b] w3 u1 := hC.only hO1 (.inr (by simp))
    refine ⟨hC1, ?_⟩
    try simp only [Act.put, ppA, ppB, ppC]
    refine held_in (v := .pointer (some ⟨b, 0, none⟩)) 9 rfl (by kernel_rfl) (by kernel_rfl) (by kernel_rfl) (fun _ _ _ h => h) hC1 rfl (fun w' hw' => x_nilck _ rfl rfl) ?_; try simp only [Act.put, ppA, ppB, ppC]
    refine held_in (v := .pointer (some ⟨b, 0, none⟩)) 10 rfl (by kernel_rfl) (by kernel_rfl) (by kernel_rfl) (fun _ _ _ h => h) hC1 rfl (fun w' hw' => x_fa _ _ _ rfl rfl (fa_a0 _ _)) ?_; try simp only [Act.put, ppA, ppB, ppC]
    refine held_one 11 (by kernel_rfl) ?_
    obtain ⟨u2, hu2⟩ : ∃ u2, u2 = World.setCell u1 ⟨b, 0, none⟩ (.int .i64 (y : Int)) := ⟨_, rfl⟩
    refine held_skip (w' := u2) rfl rfl (by rw [hu2]; exact r_store1 _ _ rfl rfl rfl hb1 size_one_int (by rw [acA_size]; decide) rfl) ?_
    have hO2 : Only b u1 u2 := by rw [hu2]; exact Only.setCell u1 ⟨b, 0, none⟩ _
    have hb2 : Blk u2 b 79 (acA y x) := by rw [hu2]; have := hb1.set 0 (.int .i64 (y : Int)); rwa [acA_setn] at this
    have hB2 : Blk u2 b7 60 (nonC A n) := hO2.blk (fun e => hb7 e.symm) hB1
    clear hu2 hB1 hb1
    have hC2 : Tch [b7, b] w3 u2 := hC1.only hO2 (.inr (by simp))
    refine ⟨hC2, ?_⟩
    try simp only [Act.put, ppA, ppB, ppC]
    refine wpAnyH_done (by kernel_rfl) ?_ _
    clear hC hC1 hO1 hO2
    have hP2 : PT (fun j => j = b7 ∨ j = b) w u2 := (PT.nil hT).trans (PT.of_tch hC2 (by intro q hq; rcases List.mem_cons.1 hq with rfl | hq; exact .inl (.inl rfl); rcases List.mem_singleton.1 hq with rfl; exact .inl (.inr rfl)))
    obtain ⟨E0, hE0, hEE⟩ := H.out.turn HA.out hP2 (by rintro j (rfl | rfl); exact .inr hO7'; exact .inl rfl) hb2 hbb hFn ⟨HY.out, HO.out.2⟩
    clear hC2
    go_upto_region 6 with (fail)
    try simp only [Act.put, ppA, ppB, ppC]
    refine wp_region_lit ?_
    refine st_x (v := .pointer (some ⟨bS, 0, none⟩)) rfl (x_val _ (.inl rfl) rfl) ?_; try simp only [Act.put, ppA, ppB, ppC]
    refine st_x (v := .pointer (some ⟨b7, 0, none⟩)) rfl (x_fa _ _ _ rfl rfl (fa_n0 _ _)) ?_; try simp only [Act.put, ppA, ppB, ppC]
    refine st_x (v := .agg (av A)) rfl (x_ldIn (n := 20) _ rfl rfl hB2 (arrV_size _ _) (fun j hj => nonC_a A n j hj) addr_tyY rfl addr_sizeY) ?_; try simp only [Act.put, ppA, ppB, ppC]
    refine st_x (v := .pointer (some ⟨b, 0, none⟩)) rfl (x_val _ (.inl rfl) rfl) ?_; try simp only [Act.put, ppA, ppB, ppC]
    refine st_callS (args := #[.pointer (some ⟨bS, 0, none⟩), .agg (av A), .pointer (some ⟨b, 0, none⟩)]) rfl rfl (by simp only [List.map_toArray, List.map_cons, List.map_nil]; rfl) Tryz.call18 (keep_any B N u2 bS mv rv k F E0 A b y x hE0 HA.out hb2 hbb.1 hbb.2 ⟨HY.out, HO.out.2⟩ HN.out hFF) ?_
    rintro e w5 ⟨rfl, mv5, F5, g1, g2, g3⟩
    refine ⟨_, rfl, ?_⟩
    try simp only [Act.put, ppA, ppB, ppC]
    refine st_end14 ?_
    rw [hEE] at g1
    have hB5 : Blk w5 b7 60 (nonC A n) := g2.blk hB2 (by
      rintro (e | e | ⟨X, hX, e⟩)
      · have := H.out.blk.lt; omega
      · exact hE0.accne hB2 e
      · have := (H.out.acc X b7 hX e).1.lt; omega)
    have hstep : StepP B (N + 1) bS mv F rv k (upE E A (y, x)) w w5 := ⟨mv5, F5, g1, ⟨g2.os.trans hP2.os, g2.tape.trans hP2.tape, g2.output.trans hP2.output, Nat.le_trans hP2.size g2.size, fun j hj hn => (g2.block j (Nat.lt_of_lt_of_le hj hP2.size) hn).trans (hP2.block j hj (fun e => e.elim (fun e => by omega) (fun e => hb0.elim (fun g => hn (.inr (.inr ⟨A, HA.out, by rw [g, e]⟩))) (fun g => by omega))))⟩,
      fun j hj => (g3 j hj).elim .inl (fun g => g.elim (fun e => hb0.elim (fun g => .inl (.inr (.inr ⟨A, HA.out, by rw [g, e]⟩))) (fun g => .inr (by rw [e]; exact g))) (fun g => .inr (Nat.le_trans hP2.size g)))⟩
    clear g1 g2 g3 hB2 hE0 hb2 hP2
    go_upto_region 7 with (fail)
    try simp only [Act.put, ppA, ppB, ppC]
    refine wp_region_lit ?_
    refine st_x (v := .agg (nonC A n)) rfl (x_ld _ rfl rfl hB5 non_ty rfl (by rw [nonC_size]; exact non_size)) ?_; try simp only [Act.put, ppA, ppB, ppC]
    refine st_x (v := .iface 60 (.agg (nonC A n))) rfl (x_mkI _ _ rfl rfl (mkN _ _)) ?_; try simp only [Act.put, ppA, ppB, ppC]
    refine st_x (v := .iface 60 (.agg (nonC A n))) rfl (x_val _ (.inr rfl) rfl) ?_; try simp only [Act.put, ppA, ppB, ppC]
    refine st_end14 ?_
    go_wp2
    go_ret
    exact ⟨rfl, hstep⟩
  · refine held_x (v := .int .i64 (y : Int)) rfl rfl (x_cell _ _ rfl rfl (hBu.cell (nonC_n A y)) int_aggS) ⟨hC, ?_⟩
    try simp only [Act.put, ppA, ppB, ppC]
    refine held_one 4 (by kernel_rfl) ?_
    refine held_x (v := .int .i64 (n : Int)) rfl rfl (x_cell _ _ rfl rfl (hbu.cell (acA_n n x)) int_aggS) ⟨hC, ?_⟩
    try simp only [Act.put, ppA, ppB, ppC]
    refine held_in (v := .pointer (some ⟨b7, 20, none⟩)) 7 rfl (by kernel_rfl) (by kernel_rfl) (by kernel_rfl) (fun _ _ _ h => h) hC rfl (fun w' hw' => x_fa _ _ _ rfl rfl (fa_n1 _ _)) ?_; try simp only [Act.put, ppA, ppB, ppC]
    refine held_one 8 (by kernel_rfl) ?_
    obtain ⟨u1, hu1⟩ : ∃ u1, u1 = World.setCell u0 ⟨b7, 20, none⟩ (.int .i64 (n : Int)) := ⟨_, rfl⟩
    refine held_skip (w' := u1) rfl rfl (by rw [hu1]; exact r_store1 _ _ rfl rfl rfl hBu size_one_int (by rw [nonC_size]; decide) rfl) ?_
    have hO1 : Only b7 u0 u1 := by rw [hu1]; exact Only.setCell u0 ⟨b7, 20, none⟩ _
    have hB1 : Blk u1 b7 60 (nonC A n) := by rw [hu1]; have := hBu.set 20 (.int .i64 (n : Int)); rwa [nonC_set] at this
    have hb1 : Blk u1 b 79 (acA n x) := hO1.blk hb7 hbu
    clear hu1 hBu hbu
    have hC1 : Tch [b7, b] w3 u1 := hC.only hO1 (.inr (by simp))
    refine ⟨hC1, ?_⟩
    try simp only [Act.put, ppA, ppB, ppC]
    refine held_in (v := .pointer (some ⟨b, 0, none⟩)) 9 rfl (by kernel_rfl) (by kernel_rfl) (by kernel_rfl) (fun _ _ _ h => h) hC1 rfl (fun w' hw' => x_nilck _ rfl rfl) ?_; try simp only [Act.put, ppA, ppB, ppC]
    refine held_in (v := .pointer (some ⟨b, 0, none⟩)) 10 rfl (by kernel_rfl) (by kernel_rfl) (by kernel_rfl) (fun _ _ _ h => h) hC1 rfl (fun w' hw' => x_fa _ _ _ rfl rfl (fa_a0 _ _)) ?_; try simp only [Act.put, ppA, ppB, ppC]
    refine held_one 11 (by kernel_rfl) ?_
    obtain ⟨u2, hu2⟩ : ∃ u2, u2 = World.setCell u1 ⟨b, 0, none⟩ (.int .i64 (y : Int)) := ⟨_, rfl⟩
    refine held_skip (w' := u2) rfl rfl (by rw [hu2]; exact r_store1 _ _ rfl rfl rfl hb1 size_one_int (by rw [acA_size]; decide) rfl) ?_
    have hO2 : Only b u1 u2 := by rw [hu2]; exact Only.setCell u1 ⟨b, 0, none⟩ _
    have hb2 : Blk u2 b 79 (acA y x) := by rw [hu2]; have := hb1.set 0 (.int .i64 (y : Int)); rwa [acA_setn] at this
    have hB2 : Blk u2 b7 60 (nonC A n) := hO2.blk (fun e => hb7 e.symm) hB1
    clear hu2 hB1 hb1
    have hC2 : Tch [b7, b] w3 u2 := hC1.only hO2 (.inr (by simp))
    refine ⟨hC2, ?_⟩
    try simp only [Act.put, ppA, ppB, ppC]
    refine wpAnyH_done (by kernel_rfl) ?_ _
    clear hC hC1 hO1 hO2
    have hP2 : PT (fun j => j = b7 ∨ j = b) w u2 := (PT.nil hT).trans (PT.of_tch hC2 (by intro q hq; rcases List.mem_cons.1 hq with rfl | hq; exact .inl (.inl rfl); rcases List.mem_singleton.1 hq with rfl; exact .inl (.inr rfl)))
    obtain ⟨E0, hE0, hEE⟩ := H.out.turn HA.out hP2 (by rintro j (rfl | rfl); exact .inr hO7'; exact .inl rfl) hb2 hbb hFn ⟨HY.out, HO.out.2⟩
    clear hC2
    go_upto_region 6 with (fail)
    try simp only [Act.put, ppA, ppB, ppC]
    refine wp_region_lit ?_
    refine st_x (v := .pointer (some ⟨bS, 0, none⟩)) rfl (x_val _ (.inl rfl) rfl) ?_; try simp only [Act.put, ppA, ppB, ppC]
    refine st_x (v := .pointer (some ⟨b7, 0, none⟩)) rfl (x_fa _ _ _ rfl rfl (fa_n0 _ _)) ?_; try simp only [Act.put, ppA, ppB, ppC]
    refine st_x (v := .agg (av A)) rfl (x_ldIn (n := 20) _ rfl rfl hB2 (arrV_size _ _) (fun j hj => nonC_a A n j hj) addr_tyY rfl addr_sizeY) ?_; try simp only [Act.put, ppA, ppB, ppC]
    refine st_x (v := .pointer (some ⟨b, 0, none⟩)) rfl (x_val _ (.inl rfl) rfl) ?_; try simp only [Act.put, ppA, ppB, ppC]
    refine st_callS (args := #[.pointer (some ⟨bS, 0, none⟩), .agg (av A), .pointer (some ⟨b, 0, none⟩)]) rfl rfl (by simp only [List.map_toArray, List.map_cons, List.map_nil]; rfl) Tryz.call18 (keep_any B N u2 bS mv rv k F E0 A b y x hE0 HA.out hb2 hbb.1 hbb.2 ⟨HY.out, HO.out.2⟩ HN.out hFF) ?_
    rintro e w5 ⟨rfl, mv5, F5, g1, g2, g3⟩
    refine ⟨_, rfl, ?_⟩
    try simp only [Act.put, ppA, ppB, ppC]
    refine st_end14 ?_
    rw [hEE] at g1
    have hB5 : Blk w5 b7 60 (nonC A n) := g2.blk hB2 (by
      rintro (e | e | ⟨X, hX, e⟩)
      · have := H.out.blk.lt; omega
      · exact hE0.accne hB2 e
      · have := (H.out.acc X b7 hX e).1.lt; omega)
    have hstep : StepP B (N + 1) bS mv F rv k (upE E A (y, x)) w w5 := ⟨mv5, F5, g1, ⟨g2.os.trans hP2.os, g2.tape.trans hP2.tape, g2.output.trans hP2.output, Nat.le_trans hP2.size g2.size, fun j hj hn => (g2.block j (Nat.lt_of_lt_of_le hj hP2.size) hn).trans (hP2.block j hj (fun e => e.elim (fun e => by omega) (fun e => hb0.elim (fun g => hn (.inr (.inr ⟨A, HA.out, by rw [g, e]⟩))) (fun g => by omega))))⟩,
      fun j hj => (g3 j hj).elim .inl (fun g => g.elim (fun e => hb0.elim (fun g => .inl (.inr (.inr ⟨A, HA.out, by rw [g, e]⟩))) (fun g => .inr (by rw [e]; exact g))) (fun g => .inr (Nat.le_trans hP2.size g)))⟩
    clear g1 g2 g3 hB2 hE0 hb2 hP2
    go_upto_region 7 with (fail)
    try simp only [Act.put, ppA, ppB, ppC]
    refine wp_region_lit ?_
    refine st_x (v := .agg (nonC A n)) rfl (x_ld _ rfl rfl hB5 non_ty rfl (by rw [nonC_size]; exact non_size)) ?_; try simp only [Act.put, ppA, ppB, ppC]
    refine st_x (v := .iface 60 (.agg (nonC A n))) rfl (x_mkI _ _ rfl rfl (mkN _ _)) ?_; try simp only [Act.put, ppA, ppB, ppC]
    refine st_x (v := .iface 60 (.agg (nonC A n))) rfl (x_val _ (.inr rfl) rfl) ?_; try simp only [Act.put, ppA, ppB, ppC]
    refine st_end14 ?_
    go_wp2
    go_ret
    exact ⟨rfl, hstep⟩
end
section
open Go.RowKit Go.WideMaps Go.ChangeMaps Go.MapKept
set_option maxRecDepth 100000
set_option maxHeartbeats 1000000
theorem bld_bal (A : List Nat) (x : Nat) (w : World) : (Instr.build 62 #[(0, .agg (av A)), (1, .agg (wcells x))]).run Tryz.prog w = .ok (.agg (balC A x)) w := by kernel_rfl
theorem fld_n (n x : Nat) (w : World) : (Instr.field 79 (.agg (acA n x)) 0).run Tryz.prog w = .ok (.int .i64 (n : Int)) w := by kernel_rfl
theorem len_recs0 (ty : TypeId) (w : World) : (Builtin.len_ #[44] ty #[.slice none 0 0]).run Tryz.prog w = .ok (.int .i64 0) w := by kernel_rfl
section
variable {o : Oper} {a : Act} {w w' : World}
theorem x_bld {ty : TypeId} {parts : Array (Nat × Operand)} {vals : Array (Nat × Value)} {v : Value} (ho : o.op = .build ty parts) (hv : (parts.map fun (i, x) => (i, a.eval x)) = vals) (hr : (Instr.build ty vals).run Tryz.prog w = .ok v w) : (execOp a.eval o).run Tryz.prog w = .ok (.value v) w := by
  subst hv
  unfold execOp
  simp only [ho, Sem.run_bind, hr, Result.andThen_ok, Sem.run_pure]
theorem x_fld {ty : TypeId} {u v : Value} (x : Operand) (i : Nat) (ho : o.op = .field ty x i) (hx : a.eval x = u) (hr : (Instr.field ty u i).run Tryz.prog w = .ok v w) : (execOp a.eval o).run Tryz.prog w = .ok (.value v) w := by
  unfold execOp
  simp only [ho, hx, Sem.run_bind, hr, Result.andThen_ok, Sem.run_pure]
theorem x_lenR0 (xo : Operand) (ho : o.op = .call { callee := .builtin .len, args := #[xo], argTypes := #[44] }) (hx : a.eval xo = .slice none 0 0) : (execOp a.eval o).run Tryz.prog w = .ok (.value (.int .i64 0)) w := by
  unfold execOp
  simp [ho, resolve, invoke, builtin, hx, len_recs0]
theorem x_gtrI {m n : Int} {r : Bool} (hr : decide (n < m) = r) (ty yt : TypeId) (xo yo : Operand) (ho : o.op = .binOp .gtr ty xo yo yt) (hxe : a.eval xo = .int .i64 m) (hye : a.eval yo = .int .i64 n) : (execOp a.eval o).run Tryz.prog w = .ok (.value (.bool r)) w := by
  unfold execOp; simp only [ho, hxe, hye]; show Sem.run _ _ w = _; simp [eqGuard, binOp, Op.intCmp, ← hr]
end
theorem StepP.of {B M : Nat} {bS : Nat} {mv rv : Value} {F : List Nat → Option Nat} {k : Int} {E : List Nat → Nat × Nat} {w u w' u' : World} (hT : Tch [] w u) (h : StepP B M bS mv F rv k E u w') (hT' : Tch [] w' u') : StepP B M bS mv F rv k E w u' := by
  obtain ⟨mv', F', h1, h2, h3⟩ := h
  exact ⟨mv', F', h1.call hT', ((PT.nil hT).trans h2).trans (PT.nil hT'), fun j hj => (h3 j hj).imp id (fun g => Nat.le_trans hT.size g)⟩
theorem at_any (B N : Nat) (w : World) (bS : Nat) (mv rv : Value) (k : Int) (F : List Nat → Option Nat) (E : List Nat → Nat × Nat) (A : List Nat) (h : StP B N w bS mv rv k F E) (hA : Ad A) :
    Calls Tryz.prog 27 #[.pointer (some ⟨bS, 0, none⟩), .agg (av A)] w fun e w' => e = .returned (.agg (acA (E A).1 (E A).2)) ∧ Tch [] w w' := by
  have H := hQz h
  have HA := hQz hA
  clear h hA
  have hS := St.start w
  go_enter Tryz.func27, Tryz.ntmps27
  go_upto_region 0 with (fail)
  try simp only [Act.put, ppA, ppB, ppC]
  refine wp_region_lit ?_
  refine st_box hS rfl 23 _ rfl rfl ?_; clear hS; intro w1 b1 hS; try simp only [Act.put, ppA, ppB, ppC]
  refine st_new hS rfl 79 rfl acc_zero ?_; clear hS; intro w2 b4 hS; try simp only [Act.put, ppA, ppB, ppC]
  refine st_end14 ?_
  go_upto_region 1 with (fail)
  try simp only [Act.put, ppA, ppB, ppC]
  have H2 := hQz (fun w' (hT : Tch [] w2 w') => H.out.call (hS.frame.trans hT))
  refine wp_region_held_drew (S := fun w' => St [] w w' [(b4, 79, acA 0 0), (b1, 23, av A)] ∧ Tch [] w2 w') (by kernel_rfl) ⟨hS.drew, (Tch.refl _ _).drew⟩ (fun hC => ?_)
  generalize World.drew w2 = u0 at hC ⊢
  refine held_in (v := .pointer (some ⟨bS, 0, none⟩)) 0 rfl (by kernel_rfl) (by kernel_rfl) (by kernel_rfl) (fun _ _ _ h => h) hC rfl (fun w' hw' => x_val _ (.inl rfl) rfl) ?_; try simp only [Act.put, ppA, ppB, ppC]
  refine held_in (v := .pointer (some ⟨bS, 0, none⟩)) 1 rfl (by kernel_rfl) (by kernel_rfl) (by kernel_rfl) (fun _ _ _ h => h) hC rfl (fun w' hw' => x_nilck _ rfl rfl) ?_; try simp only [Act.put, ppA, ppB, ppC]
  refine held_in (v := .pointer (some ⟨bS, 0, none⟩)) 2 rfl (by kernel_rfl) (by kernel_rfl) (by kernel_rfl) (fun _ _ _ h => h) hC rfl (fun w' hw' => x_fa _ _ _ rfl rfl (fa_s0 _ _)) ?_; try simp only [Act.put, ppA, ppB, ppC]
  refine held_in (v := mv) 3 rfl (by kernel_rfl) (by kernel_rfl) (by kernel_rfl) (fun _ _ _ h => h) hC rfl (fun w' hw' => x_cell _ _ rfl rfl ((H2.out w' hw'.2).blk.cell rfl) map_agg) ?_; try simp only [Act.put, ppA, ppB, ppC]
  refine held_in (v := .agg (av A)) 4 rfl (by kernel_rfl) (by kernel_rfl) (by kernel_rfl) (fun _ _ _ h => h) hC rfl (fun w' hw' => x_ld _ rfl rfl (hw'.1.get (.tail .head)) addr_tyY rfl (by rw [arrV_size]; exact addr_sizeY)) ?_; try simp only [Act.put, ppA, ppB, ppC]
  refine held_in (v := ptrV (F A)) 5 rfl (by kernel_rfl) (by kernel_rfl) (by kernel_rfl) (fun _ _ _ h => h) hC rfl (fun w' hw' => x_look (H2.out w' hw'.2).map HA.out _ _ rfl rfl rfl) ?_; try simp only [Act.put, ppA, ppB, ppC]
  refine held_in (v := ptrV (F A)) 6 rfl (by kernel_rfl) (by kernel_rfl) (by kernel_rfl) (fun _ _ _ h => h) hC rfl (fun w' hw' => x_val _ (.inr rfl) rfl) ?_; try simp only [Act.put, ppA, ppB, ppC]
  refine wpAnyH_done (by kernel_rfl) ?_ _
  clear hS
  have hS := hC.1
  have hSu := H2.out u0 hC.2
  clear hC
  cases hF : F A with
  | some b =>
    have hb := (hSu.acc A b HA.out hF).1
    have hne := Nat.lt_of_lt_of_le ((H.out.acc A b HA.out hF).1.lt) (hS.le .head)
    clear hF
    simp only [ptrV]
    go_upto_region 3 with (refine st_x (v := .bool true) rfl (x_bin _ _ _ _ rfl rfl rfl rfl (neA_some _ _)) ?_)
    try simp only [Act.put, ppA, ppB, ppC]
    refine wp_region_lit ?_
    refine st_x (v := .pointer (some ⟨b, 0, none⟩)) rfl (x_val _ (.inl rfl) rfl) ?_; try simp only [Act.put, ppA, ppB, ppC]
    refine st_x (v := .pointer (some ⟨b, 0, none⟩)) rfl (x_nilck _ rfl rfl) ?_; try simp only [Act.put, ppA, ppB, ppC]
    refine st_x (v := .agg (acA (E A).1 (E A).2)) rfl (x_ld _ rfl rfl hb acc_ty rfl (by rw [acA_size]; exact acc_size)) ?_; try simp only [Act.put, ppA, ppB, ppC]
    refine st_store (b := b4) (c' := acA (E A).1 (E A).2) hS rfl 79 _ _ rfl rfl rfl .head acc_size (acA_size _ _) (acA_size _ _) (acA_one _ _) ?_; clear hS; intro w3 hS; try simp only [Act.put, ppA, ppB, ppC]
    refine st_end14 ?_
    go_wp2
    exact st_post hS 4 79 rfl rfl rfl .head acc_ty rfl acc_size (acA_size _ _) (fun hT => ⟨rfl, hT⟩)
  | none =>
    have hE := hSu.non A HA.out hF
    clear hF
    simp only [ptrV]
    go_upto_region 4 with (refine st_x (v := .bool false) rfl (x_bin _ _ _ _ rfl rfl rfl rfl (neA_none _)) ?_)
    try simp only [Act.put, ppA, ppB, ppC]
    refine wp_region_lit ?_
    refine st_x (v := .agg (acA 0 0)) rfl (x_bldA rfl) ?_; try simp only [Act.put, ppA, ppB, ppC]
    refine st_store (b := b4) (c' := acA 0 0) hS rfl 79 _ _ rfl rfl rfl .head acc_size (acA_size _ _) (acA_size _ _) (acA_one _ _) ?_; clear hS; intro w3 hS; try simp only [Act.put, ppA, ppB, ppC]
    refine st_end14 ?_
    go_wp2
    exact st_post hS 4 79 rfl rfl rfl .head acc_ty rfl acc_size (acA_size _ _) (fun hT => ⟨by rw [hE], hT⟩)
theorem nonce_any (B N : Nat) (w : World) (bS : Nat) (mv rv : Value) (k : Int) (F : List Nat → Option Nat) (E : List Nat → Nat × Nat) (A : List Nat) (h : StP B N w bS mv rv k F E) (hA : Ad A) :
    Calls Tryz.prog 16 #[.pointer (some ⟨bS, 0, none⟩), .agg (av A)] w fun e w' => e = .returned (.int .i64 ((E A).1 : Int)) ∧ Tch [] w w' := by
  have hc := fun w' (hT : Tch [] w w') => at_any B N w' bS mv rv k F E A (h.call hT) hA
  clear h hA
  have hS := St.start w
  go_enter Tryz.func16, Tryz.ntmps16
  go_upto_region 1 with (refine st_box hS rfl 23 _ rfl rfl ?_; clear hS; intro w1 b1 hS)
  try simp only [Act.put, ppA, ppB, ppC]
  refine wp_region_lit ?_
  refine st_x (v := .pointer (some ⟨bS, 0, none⟩)) rfl (x_val _ (.inl rfl) rfl) ?_; try simp only [Act.put, ppA, ppB, ppC]
  refine st_x (v := .agg (av A)) rfl (x_ld _ rfl rfl (hS.get .head) addr_tyY rfl (by rw [arrV_size]; exact addr_sizeY)) ?_; try simp only [Act.put, ppA, ppB, ppC]
  refine st_callS (args := #[.pointer (some ⟨bS, 0, none⟩), .agg (av A)]) rfl rfl (by simp only [List.map_toArray, List.map_cons, List.map_nil]; rfl) Tryz.call27 (hc w1 hS.frame) ?_
  rintro e w3 ⟨rfl, hT3⟩
  refine ⟨_, rfl, ?_⟩
  try simp only [Act.put, ppA, ppB, ppC]
  refine st_x (v := .int .i64 ((E A).1 : Int)) rfl (x_fld _ _ rfl rfl (fld_n _ _ _)) ?_; try simp only [Act.put, ppA, ppB, ppC]
  refine st_x (v := .int .i64 ((E A).1 : Int)) rfl (x_val _ (.inr rfl) rfl) ?_; try simp only [Act.put, ppA, ppB, ppC]
  refine st_end14 ?_
  go_wp2
  go_ret
  exact ⟨rfl, hS.frame.trans hT3⟩
end
section
open Go.RowKit Go.WideMaps Go.ChangeMaps Go.MapKept
set_option maxRecDepth 100000
set_option maxHeartbeats 2000000
theorem bld_acG (w : World) : (Instr.build 79 #[]).run Tryz.prog w = .ok (.agg (acG 0 0 [] (.map none))) w := by kernel_rfl
theorem st_box1A {ops : Array Oper} {rest : List Oper} {o : Oper} {a : Act} {w : World} {Q : Exit → Act → World → Prop} {c : Array Value} (hgd : o.guard = none) (ty : TypeId) (x : Operand) (ho : o.op = .box ty x) (hx : a.eval x = .agg c)
    (h : ∀ w' b, Tch [] w w' → Blk w' b ty c → w.heap.size ≤ b → wpList Tryz.prog ops Q rest (a.put o.dst (.pointer (some ⟨b, 0, none⟩))) w') : wpList Tryz.prog ops Q (o :: rest) a w := by
  have hr : (Instr.box ty (.agg c)).run Tryz.prog w = .ok (.pointer (some ⟨w.heap.size, 0, none⟩)) (w.alloc (.cells c ty)) := rfl
  refine st_run hgd ?_ (h _ _ ((Tch.refl _ _).alloc _) (heap_alloc_new w _) (Nat.le_refl _))
  unfold execOp
  simp only [ho, hx, Sem.run_bind, hr, Result.andThen_ok, Sem.run_pure]
theorem openG (B N : Nat) (w : World) (bS : Nat) (mv rv : Value) (k : Int) (F : List Nat → Option (Nat × Value)) (E : List Nat → Ac) (A : List Nat) (h : GsP B N w bS mv rv k F E) (hA : Ad A) :
    Calls Tryz.prog 53 #[.pointer (some ⟨bS, 0, none⟩), .agg (av A)] w fun e w' =>
      ∃ b mo, e = .returned (.pointer (some ⟨b, 0, none⟩)) ∧ Tch [] w w' ∧ HalfP B N w' bS mv rv k F E A b mo (E A) ∧ (F A = some (b, mo) ∨ F A = none ∧ mo = .map none ∧ w.heap.size ≤ b) := by
  have hS0 := St.start w
  have hsz : B ≤ w.heap.size := Nat.le_trans h.base (Nat.le_of_lt h.blk.lt)
  go_enter Tryz.func53, Tryz.ntmps53
  go_upto_region 0 with (fail)
  try simp only [Act.put, ppA, ppB, ppC]
  refine wp_region_lit ?_
  refine st_box hS0 rfl 23 _ rfl rfl ?_; clear hS0; intro w1 b1 hS0; try simp only [Act.put, ppA, ppB, ppC]
  refine st_x (v := .pointer none) rfl (x_val _ (.inr rfl) rfl) ?_; try simp only [Act.put, ppA, ppB, ppC]
  refine st_end14 ?_
  have hT1 := hS0.frame
  have g1 := hS0.get .head
  have h1 := h.call hT1
  clear hS0
  go_upto_region 1 with (fail)
  try simp only [Act.put, ppA, ppB, ppC]
  refine wp_region_held_drew (S := fun w' => Tch [] w1 w') (by kernel_rfl) ((Tch.refl _ _).drew) (fun hC => ?_)
  generalize World.drew w1 = u0 at hC ⊢
  have hS1 : ∀ w', Tch [] w1 w' → GsP B N w' bS mv rv k F E := fun w' h => h1.call h
  refine held_in (v := .pointer (some ⟨bS, 0, none⟩)) 0 rfl (by kernel_rfl) (by kernel_rfl) (by kernel_rfl) (fun _ _ _ h => h) hC rfl (fun w' hw' => x_val _ (.inl rfl) rfl) ?_; try simp only [Act.put, ppA, ppB, ppC]
  refine held_in (v := .pointer (some ⟨bS, 0, none⟩)) 1 rfl (by kernel_rfl) (by kernel_rfl) (by kernel_rfl) (fun _ _ _ h => h) hC rfl (fun w' hw' => x_nilck _ rfl rfl) ?_; try simp only [Act.put, ppA, ppB, ppC]
  refine held_in (v := .pointer (some ⟨bS, 0, none⟩)) 2 rfl (by kernel_rfl) (by kernel_rfl) (by kernel_rfl) (fun _ _ _ h => h) hC rfl (fun w' hw' => x_fa _ _ _ rfl rfl (fa_s0 _ _)) ?_; try simp only [Act.put, ppA, ppB, ppC]
  refine held_in (v := mv) 3 rfl (by kernel_rfl) (by kernel_rfl) (by kernel_rfl) (fun _ _ _ h => h) hC rfl (fun w' hw' => x_cell _ _ rfl rfl ((hS1 w' hw').blk.cell rfl) map_agg) ?_; try simp only [Act.put, ppA, ppB, ppC]
  refine held_in (v := .agg (av A)) 4 rfl (by kernel_rfl) (by kernel_rfl) (by kernel_rfl) (fun _ _ _ h => h) hC rfl (fun w' hw' => x_ld _ rfl rfl (hw'.blk g1 (by simp)) addr_tyY rfl (by rw [arrV_size]; exact addr_sizeY)) ?_; try simp only [Act.put, ppA, ppB, ppC]
  refine held_in (v := ptrV ((F A).map (·.1))) 5 rfl (by kernel_rfl) (by kernel_rfl) (by kernel_rfl) (fun _ _ _ h => h) hC rfl (fun w' hw' => x_look (hS1 w' hw').map hA _ _ rfl rfl rfl) ?_; try simp only [Act.put, ppA, ppB, ppC]
  refine held_in (v := ptrV ((F A).map (·.1))) 6 rfl (by kernel_rfl) (by kernel_rfl) (by kernel_rfl) (fun _ _ _ h => h) hC rfl (fun w' hw' => x_val _ (.inr rfl) rfl) ?_; try simp only [Act.put, ppA, ppB, ppC]
  refine wpAnyH_done (by kernel_rfl) ?_ _
  have hSu := hS1 u0 hC
  have hTu := hT1.trans hC
  clear hS1 hC g1 h1 hT1
  cases hF : F A with
  | some p =>
    obtain ⟨b, mo⟩ := p
    have hh := hSu.half hA hF
    have HF := hQz hF
    clear hF
    simp only [Option.map_some, ptrV]
    go_upto_region 2 with (fail)
    try simp only [Act.put, ppA, ppB, ppC]
    refine wp_region_lit ?_
    refine st_x (v := .pointer (some ⟨b, 0, none⟩)) rfl (x_val _ (.inl rfl) rfl) ?_; try simp only [Act.put, ppA, ppB, ppC]
    refine st_x (v := .bool true) rfl (x_bin _ _ _ _ rfl rfl rfl rfl (neA_some _ _)) ?_; try simp only [Act.put, ppA, ppB, ppC]
    refine st_end14 ?_
    go_upto_region 3 with (fail)
    try simp only [Act.put, ppA, ppB, ppC]
    refine wp_region_lit ?_
    refine st_x (v := .pointer (some ⟨b, 0, none⟩)) rfl (x_val _ (.inl rfl) rfl) ?_; try simp only [Act.put, ppA, ppB, ppC]
    refine st_x (v := .pointer (some ⟨b, 0, none⟩)) rfl (x_val _ (.inr rfl) rfl) ?_; try simp only [Act.put, ppA, ppB, ppC]
    refine st_end14 ?_
    go_wp2
    go_ret
    exact ⟨b, mo, rfl, hTu, hh, .inl HF.out⟩
  | none =>
    have HF := hQz hF
    clear hF
    simp only [Option.map_none, ptrV]
    go_upto_region 2 with (fail)
    try simp only [Act.put, ppA, ppB, ppC]
    refine wp_region_lit ?_
    refine st_x (v := .pointer none) rfl (x_val _ (.inl rfl) rfl) ?_; try simp only [Act.put, ppA, ppB, ppC]
    refine st_x (v := .bool false) rfl (x_bin _ _ _ _ rfl rfl rfl rfl (neA_none _)) ?_; try simp only [Act.put, ppA, ppB, ppC]
    refine st_end14 ?_
    go_upto_region 4 with (fail)
    try simp only [Act.put, ppA, ppB, ppC]
    refine wp_region_lit ?_
    have hS := (St.start w).call hTu
    have hSo : w.heap.size ≤ u0.heap.size := hTu.size
    refine st_x (v := .agg (acG 0 0 [] (.map none))) rfl (x_bld (vals := #[]) rfl (by simp only [List.map_toArray, List.map_nil]) (bld_acG _)) ?_; try simp only [Act.put, ppA, ppB, ppC]
    refine st_box1A rfl 79 _ rfl rfl ?_
    intro w2 b2 hT2 hb2 hl2
    try simp only [Act.put, ppA, ppB, ppC]
    refine st_x (v := .pointer (some ⟨b2, 0, none⟩)) rfl (x_val _ (.inr rfl) rfl) ?_; try simp only [Act.put, ppA, ppB, ppC]
    refine st_end14 ?_
    go_wp2
    go_ret
    have hs2 := hSu.call hT2
    exact ⟨b2, .map none, rfl, hTu.trans hT2, hs2.halfNew hA HF.out hb2 (Nat.le_trans (Nat.le_trans hsz hSo) hl2) (fun hf => by have := (hSu.lt hf).2; omega), .inr ⟨HF.out, rfl, Nat.le_trans hSo hl2⟩⟩
end
end Go.Proofs.YtopfmaoeebgjmaaGreatDoor
