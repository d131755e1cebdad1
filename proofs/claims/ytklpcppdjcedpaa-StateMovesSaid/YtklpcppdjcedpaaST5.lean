/- States: put of a Balance, of a Nonce. -/
import Derived.Test.YtklpcppdjcedpaaST4
namespace Go.Proofs.Ytklpcppdjcedpaa
open Go.RowKit Go.WideMaps Go.ChangeMaps Go.MapKept
set_option linter.unusedVariables false
set_option linter.unusedSimpArgs false
set_option maxRecDepth 100000
set_option maxHeartbeats 1000000
theorem upE_idem (E : List Nat → Nat × Nat) (A : List Nat) (u v : Nat × Nat) : upE (upE E A u) A v = upE E A v := by
  funext X
  unfold upE
  by_cases h : X = A <;> simp [h]
theorem upF_same {F : List Nat → Option Nat} {A : List Nat} {o : Option Nat} (h : F A = o) : upF F A o = F := by
  funext X
  unfold upF
  by_cases e : X = A
  · rw [if_pos e, e, h]
  · rw [if_neg e]
/-- The account that was opened has turned; nothing else has. -/
theorem StP.turn {B N : Nat} {w u : World} {bS b : Nat} {mv rv : Value} {k : Int} {F : List Nat → Option Nat} {E : List Nat → Nat × Nat} {A : List Nat} {n y : Nat} {S : Nat → Prop} (h : StP B N w bS mv rv k F E) (hA : Ad A) (hT : PT S w u) (hS : ∀ j, S j → j = b ∨ w.heap.size ≤ j) (hb : Blk u b 69 (acA n y)) (hbb : B ≤ b ∧ b ≠ bS)
    (hF : F A = some b ∨ F A = none ∧ w.heap.size ≤ b) (hok : n < 9223372036854775808 ∧ y < M256) : ∃ E0, StP B N u bS mv rv k F E0 ∧ upE E0 A (n, y) = upE E A (n, y) := by
  rcases hF with hF | ⟨hF, hn⟩
  · refine ⟨upE E A (n, y), ?_, upE_idem _ _ _ _⟩
    have hS' : ∀ j, j < w.heap.size → j ≠ b → u.heap[j]? = w.heap[j]? := fun j hj hne => hT.block j hj (fun hs => (hS j hs).elim hne (fun g => by omega))
    have := h.change (w' := u) (mv' := mv) (M := N) hA (o := some b) (n := n) (x := y) (rv' := rv) (k' := k) ((hS' bS h.blk.lt (fun e => hbb.2 e.symm)).trans h.blk)
      (by rw [upF_same hF]; exact h.map.far fun r hr => hS' r (by subst hr; exact h.map.lt.1) (fun e => h.accne (h.acc A b hA hF).1 (by rw [hr, e])))
      (fun X b' hX hne hf => hS' b' (h.acc X b' hX hf).1.lt (fun e => hne (h.inj X A b hX hA (by rw [hf, e]) hF))) (.inr ⟨b, rfl, hb, hbb.1, hbb.2, fun X hX hne hf => hne (h.inj X A b hX hA hf hF)⟩) hok
    rwa [upF_same hF] at this
  · refine ⟨E, h.same fun j hj => hT.block j (h.lt hj).2 (fun hs => ?_), rfl⟩
    have h1 := (h.lt hj).2
    rcases hS j hs with rfl | g
    · omega
    · omega
theorem size_one_int : (Try.prog.info? 3).map (·.size) = some 1 := by kernel_rfl
theorem put_bal (B N : Nat) (w : World) (bS : Nat) (mv rv : Value) (k : Int) (F : List Nat → Option Nat) (E : List Nat → Nat × Nat) (A : List Nat) (y : Nat) (h : StP B N w bS mv rv k F E) (hA : Ad A) (hN : N < 1000000000) (hy : y < M256) :
    Calls Try.prog 37 #[.pointer (some ⟨bS, 0, none⟩), .iface 62 (.agg (balC A y))] w fun e w' => e = .returned (.iface 62 (.agg (balC A (E A).2))) ∧
      StepP B (N + 1) bS mv F rv k (upE E A ((E A).1, y)) w w' := by
  have H := Lib.hid h
  have HA := Lib.hid hA
  have HN := Lib.hid hN
  have HY := Lib.hid hy
  have HO := Lib.hid (h.ok A hA)
  clear h hA hN hy
  have hS := St.start w
  obtain ⟨n, hn⟩ : ∃ n, n = (E A).1 := ⟨_, rfl⟩
  obtain ⟨x, hx⟩ : ∃ x, x = (E A).2 := ⟨_, rfl⟩
  rw [← hn, ← hx] at HO ⊢
  have HE := Lib.hid (And.intro hn hx)
  clear hn hx
  go_enter Try.func37, Try.ntmps37
  go_upto_region 2 with (fail)
  try simp only [Act.put, List.setIfInBounds_toArray, List.set_cons_zero, List.set_cons_succ]
  refine wp_region_lit ?_
  refine st_x (v := .tuple #[.agg (nonC [] 0), .bool false]) rfl (x_ta _ _ _ rfl rfl (taBN _ _)) ?_; try simp only [Act.put, List.setIfInBounds_toArray, List.set_cons_zero, List.set_cons_succ]
  refine st_x (v := .bool false) rfl (x_ext _ _ rfl rfl rfl) ?_; try simp only [Act.put, List.setIfInBounds_toArray, List.set_cons_zero, List.set_cons_succ]
  refine st_x (v := .agg (nonC [] 0)) rfl (x_ext _ _ rfl rfl rfl) ?_; try simp only [Act.put, List.setIfInBounds_toArray, List.set_cons_zero, List.set_cons_succ]
  refine st_end14 ?_
  go_upto_region 8 with (fail)
  try simp only [Act.put, List.setIfInBounds_toArray, List.set_cons_zero, List.set_cons_succ]
  refine wp_region_lit ?_
  refine st_x (v := .tuple #[.agg (balC A y), .bool true]) rfl (x_ta _ _ _ rfl rfl (taBB _ _)) ?_; try simp only [Act.put, List.setIfInBounds_toArray, List.set_cons_zero, List.set_cons_succ]
  refine st_x (v := .bool true) rfl (x_ext _ _ rfl rfl rfl) ?_; try simp only [Act.put, List.setIfInBounds_toArray, List.set_cons_zero, List.set_cons_succ]
  refine st_x (v := .agg (balC A y)) rfl (x_ext _ _ rfl rfl rfl) ?_; try simp only [Act.put, List.setIfInBounds_toArray, List.set_cons_zero, List.set_cons_succ]
  refine st_end14 ?_
  go_upto_region 9 with (fail)
  try simp only [Act.put, List.setIfInBounds_toArray, List.set_cons_zero, List.set_cons_succ]
  refine wp_region_lit ?_
  refine st_new hS rfl 62 rfl bal_zero ?_; clear hS; intro w1 b7 hS; try simp only [Act.put, List.setIfInBounds_toArray, List.set_cons_zero, List.set_cons_succ]
  refine st_store (b := b7) (c' := balC A y) hS rfl 62 _ _ rfl rfl rfl .head bal_size (balC_size _ _) (balC_size _ _) (balC_one _ _) ?_; clear hS; intro w2 hS; try simp only [Act.put, List.setIfInBounds_toArray, List.set_cons_zero, List.set_cons_succ]
  refine st_end14 ?_
  have hT2 := hS.frame
  have hO7 : w.heap.size ≤ b7 := hS.le .head
  have H2 := Lib.hid (H.out.call hT2)
  have hB7 := hS.get .head
  have hlt7 := hB7.lt
  clear hS
  go_upto_region 10 with (fail)
  try simp only [Act.put, List.setIfInBounds_toArray, List.set_cons_zero, List.set_cons_succ]
  refine wp_region_lit ?_
  refine st_x (v := .pointer (some ⟨bS, 0, none⟩)) rfl (x_val _ (.inl rfl) rfl) ?_; try simp only [Act.put, List.setIfInBounds_toArray, List.set_cons_zero, List.set_cons_succ]
  refine st_x (v := .pointer (some ⟨b7, 0, none⟩)) rfl (x_fa _ _ _ rfl rfl (fa_b0 _ _)) ?_; try simp only [Act.put, List.setIfInBounds_toArray, List.set_cons_zero, List.set_cons_succ]
  refine st_x (v := .agg (av A)) rfl (x_ldIn (n := 20) _ rfl rfl hB7 (arrV_size _ _) (fun j hj => balC_a A y j hj) addr_tyY rfl addr_sizeY) ?_; try simp only [Act.put, List.setIfInBounds_toArray, List.set_cons_zero, List.set_cons_succ]
  refine st_callS (args := #[.pointer (some ⟨bS, 0, none⟩), .agg (av A)]) rfl rfl (by simp only [List.map_toArray, List.map_cons, List.map_nil]; rfl) Try.call56 (open_any B N w2 bS mv rv k F E A H2.out HA.out) ?_
  rintro e w3 ⟨b, rfl, hT3, hb, hFA⟩
  refine ⟨_, rfl, ?_⟩
  try simp only [Act.put, List.setIfInBounds_toArray, List.set_cons_zero, List.set_cons_succ]
  rw [← HE.out.1, ← HE.out.2] at hb
  refine st_x (v := .pointer (some ⟨b, 0, none⟩)) rfl (x_val _ (.inr rfl) rfl) ?_; try simp only [Act.put, List.setIfInBounds_toArray, List.set_cons_zero, List.set_cons_succ]
  refine st_end14 ?_
  have H3 := Lib.hid (H2.out.call hT3)
  replace hB7 := hT3.blk hB7 (by simp)
  have hT := hT2.trans hT3
  have h7lt := hB7.lt
  have hO7' : w.heap.size ≤ b7 := hO7
  have hb7 : b ≠ b7 := by
    intro e
    subst e
    have h1 : (b : Nat) < w2.heap.size := hlt7
    rcases hFA with g | ⟨_, g⟩
    · have := (H.out.acc A b HA.out g).1.lt; omega
    · omega
  have hbb : B ≤ b ∧ b ≠ bS := by
    rcases hFA with g | ⟨_, g⟩
    · exact (H.out.acc A b HA.out g).2
    · have h1 := H2.out.blk.lt; have h2 := H.out.base; omega
  have hFF : F A = some b ∨ F A = none ∧ ∀ X, Ad X → F X ≠ some b := by
    rcases hFA with g | ⟨g, g2⟩
    · exact .inl g
    · refine .inr ⟨g, fun X hX e => ?_⟩
      have := (H2.out.acc X b hX e).1.lt
      omega
  have hFn : F A = some b ∨ F A = none ∧ w.heap.size ≤ b := hFA.imp id (fun g => ⟨g.1, Nat.le_trans hT2.size g.2⟩)
  have hb0 : F A = some b ∨ w.heap.size ≤ b := hFA.imp id (fun g => Nat.le_trans hT2.size g.2)
  clear hFA
  go_upto_region 11 with (fail)
  try simp only [Act.put, List.setIfInBounds_toArray, List.set_cons_zero, List.set_cons_succ]
  refine wp_region_held_drew (S := fun w' => Tch [b7, b] w3 w') (by kernel_rfl) ((Tch.refl _ _).drew) (fun hC => ?_)
  have hD0 : Tch [] w3 w3.drew := (Tch.refl [] w3).drew
  generalize World.drew w3 = u0 at hC hD0 ⊢
  have hBu := hD0.blk hB7 (by simp)
  have hbu := hD0.blk hb (by simp)
  refine held_in (v := .pointer (some ⟨b, 0, none⟩)) 0 rfl (by kernel_rfl) (by kernel_rfl) (by kernel_rfl) (fun _ _ _ h => h) hC rfl (fun w' hw' => x_val _ (.inl rfl) rfl) ?_; try simp only [Act.put, List.setIfInBounds_toArray, List.set_cons_zero, List.set_cons_succ]
  refine held_in (v := .pointer (some ⟨b, 0, none⟩)) 1 rfl (by kernel_rfl) (by kernel_rfl) (by kernel_rfl) (fun _ _ _ h => h) hC rfl (fun w' hw' => x_val _ (.inl rfl) rfl) ?_; try simp only [Act.put, List.setIfInBounds_toArray, List.set_cons_zero, List.set_cons_succ]
  refine held_in (v := .pointer (some ⟨b, 0, none⟩)) 2 rfl (by kernel_rfl) (by kernel_rfl) (by kernel_rfl) (fun _ _ _ h => h) hC rfl (fun w' hw' => x_nilck _ rfl rfl) ?_; try simp only [Act.put, List.setIfInBounds_toArray, List.set_cons_zero, List.set_cons_succ]
  refine held_in (v := .pointer (some ⟨b, 1, none⟩)) 3 rfl (by kernel_rfl) (by kernel_rfl) (by kernel_rfl) (fun _ _ _ h => h) hC rfl (fun w' hw' => x_fa _ _ _ rfl rfl (fa_a1 _ _)) ?_; try simp only [Act.put, List.setIfInBounds_toArray, List.set_cons_zero, List.set_cons_succ]
  refine held_in (v := .pointer (some ⟨b7, 20, none⟩)) 5 rfl (by kernel_rfl) (by kernel_rfl) (by kernel_rfl) (fun _ _ _ h => h) hC rfl (fun w' hw' => x_fa _ _ _ rfl rfl (fa_b1 _ _)) ?_; try simp only [Act.put, List.setIfInBounds_toArray, List.set_cons_zero, List.set_cons_succ]
  refine held_two 4 6 (by kernel_rfl) ?_ ?_
  · refine held_x (v := .agg (wcells x)) rfl rfl (x_ldIn (n := 32) _ rfl rfl hbu (wc_size x) (fun j hj => acA_x n x j hj) wordN_type rfl wordN_size) ⟨hC, ?_⟩
    try simp only [Act.put, List.setIfInBounds_toArray, List.set_cons_zero, List.set_cons_succ]
    refine held_one 6 (by kernel_rfl) ?_
    refine held_x (v := .agg (wcells y)) rfl rfl (x_ldIn (n := 32) _ rfl rfl hBu (wc_size y) (fun j hj => balC_w A y j hj) wordN_type rfl wordN_size) ⟨hC, ?_⟩
    try simp only [Act.put, List.setIfInBounds_toArray, List.set_cons_zero, List.set_cons_succ]
    refine held_in (v := .pointer (some ⟨b7, 20, none⟩)) 7 rfl (by kernel_rfl) (by kernel_rfl) (by kernel_rfl) (fun _ _ _ h => h) hC rfl (fun w' hw' => x_fa _ _ _ rfl rfl (fa_b1 _ _)) ?_; try simp only [Act.put, List.setIfInBounds_toArray, List.set_cons_zero, List.set_cons_succ]
    refine held_one 8 (by kernel_rfl) ?_
    obtain ⟨u1, hu1⟩ : ∃ u1, u1 = u0.setRow b7 (splS (balC A y) 20 (wcells x)) := ⟨_, rfl⟩
    refine held_skip (w' := u1) rfl rfl (by rw [hu1]; exact r_store _ _ rfl rfl rfl hBu wordN_size (wc_size _) (by rw [wc_size, balC_size]; decide) (wc_one _)) ?_
    have hO1 : Only b7 u0 u1 := by rw [hu1]; exact Only.setRow _ _ _
    have hB1 : Blk u1 b7 62 (balC A x) := by rw [hu1]; have := hBu.row (splS (balC A y) 20 (wcells x)); rwa [balC_set] at this
    have hb1 : Blk u1 b 69 (acA n x) := hO1.blk hb7 hbu
    clear hu1 hBu hbu
    have hC1 : Tch [b7, b] w3 u1 := hC.only hO1 (.inr (by simp))
    refine ⟨hC1, ?_⟩
    try simp only [Act.put, List.setIfInBounds_toArray, List.set_cons_zero, List.set_cons_succ]
    refine held_in (v := .pointer (some ⟨b, 0, none⟩)) 9 rfl (by kernel_rfl) (by kernel_rfl) (by kernel_rfl) (fun _ _ _ h => h) hC1 rfl (fun w' hw' => x_nilck _ rfl rfl) ?_; try simp only [Act.put, List.setIfInBounds_toArray, List.set_cons_zero, List.set_cons_succ]
    refine held_in (v := .pointer (some ⟨b, 1, none⟩)) 10 rfl (by kernel_rfl) (by kernel_rfl) (by kernel_rfl) (fun _ _ _ h => h) hC1 rfl (fun w' hw' => x_fa _ _ _ rfl rfl (fa_a1 _ _)) ?_; try simp only [Act.put, List.setIfInBounds_toArray, List.set_cons_zero, List.set_cons_succ]
    refine held_one 11 (by kernel_rfl) ?_
    obtain ⟨u2, hu2⟩ : ∃ u2, u2 = u1.setRow b (splS (acA n x) 1 (wcells y)) := ⟨_, rfl⟩
    refine held_skip (w' := u2) rfl rfl (by rw [hu2]; exact r_store _ _ rfl rfl rfl hb1 wordN_size (wc_size _) (by rw [wc_size, acA_size]; decide) (wc_one _)) ?_
    have hO2 : Only b u1 u2 := by rw [hu2]; exact Only.setRow _ _ _
    have hb2 : Blk u2 b 69 (acA n y) := by rw [hu2]; have := hb1.row (splS (acA n x) 1 (wcells y)); rwa [acA_setx] at this
    have hB2 : Blk u2 b7 62 (balC A x) := hO2.blk (fun e => hb7 e.symm) hB1
    clear hu2 hB1 hb1
    have hC2 : Tch [b7, b] w3 u2 := hC1.only hO2 (.inr (by simp))
    refine ⟨hC2, ?_⟩
    try simp only [Act.put, List.setIfInBounds_toArray, List.set_cons_zero, List.set_cons_succ]
    refine wpAnyH_done (by kernel_rfl) ?_ _
    clear hC hC1 hO1 hO2
    have hP2 : PT (fun j => j = b7 ∨ j = b) w u2 := (PT.nil hT).trans (PT.of_tch hC2 (by intro q hq; rcases List.mem_cons.1 hq with rfl | hq; exact .inl (.inl rfl); rcases List.mem_singleton.1 hq with rfl; exact .inl (.inr rfl)))
    obtain ⟨E0, hE0, hEE⟩ := H.out.turn HA.out hP2 (by rintro j (rfl | rfl); exact .inr hO7'; exact .inl rfl) hb2 hbb hFn ⟨HO.out.1, HY.out⟩
    clear hC2
    go_upto_region 12 with (fail)
    try simp only [Act.put, List.setIfInBounds_toArray, List.set_cons_zero, List.set_cons_succ]
    refine wp_region_lit ?_
    refine st_x (v := .pointer (some ⟨bS, 0, none⟩)) rfl (x_val _ (.inl rfl) rfl) ?_; try simp only [Act.put, List.setIfInBounds_toArray, List.set_cons_zero, List.set_cons_succ]
    refine st_x (v := .pointer (some ⟨b7, 0, none⟩)) rfl (x_fa _ _ _ rfl rfl (fa_b0 _ _)) ?_; try simp only [Act.put, List.setIfInBounds_toArray, List.set_cons_zero, List.set_cons_succ]
    refine st_x (v := .agg (av A)) rfl (x_ldIn (n := 20) _ rfl rfl hB2 (arrV_size _ _) (fun j hj => balC_a A x j hj) addr_tyY rfl addr_sizeY) ?_; try simp only [Act.put, List.setIfInBounds_toArray, List.set_cons_zero, List.set_cons_succ]
    refine st_x (v := .pointer (some ⟨b, 0, none⟩)) rfl (x_val _ (.inl rfl) rfl) ?_; try simp only [Act.put, List.setIfInBounds_toArray, List.set_cons_zero, List.set_cons_succ]
    refine st_callS (args := #[.pointer (some ⟨bS, 0, none⟩), .agg (av A), .pointer (some ⟨b, 0, none⟩)]) rfl rfl (by simp only [List.map_toArray, List.map_cons, List.map_nil]; rfl) Try.call17 (keep_any B N u2 bS mv rv k F E0 A b n y hE0 HA.out hb2 hbb.1 hbb.2 ⟨HO.out.1, HY.out⟩ HN.out hFF) ?_
    rintro e w5 ⟨rfl, mv5, F5, g1, g2, g3⟩
    refine ⟨_, rfl, ?_⟩
    try simp only [Act.put, List.setIfInBounds_toArray, List.set_cons_zero, List.set_cons_succ]
    refine st_end14 ?_
    rw [hEE] at g1
    have hB5 : Blk w5 b7 62 (balC A x) := g2.blk hB2 (by
      rintro (e | e | ⟨X, hX, e⟩)
      · have := H.out.blk.lt; omega
      · exact hE0.accne hB2 e
      · have := (H.out.acc X b7 hX e).1.lt; omega)
    have hstep : StepP B (N + 1) bS mv F rv k (upE E A (n, y)) w w5 := ⟨mv5, F5, g1, ⟨g2.os.trans hP2.os, g2.tape.trans hP2.tape, g2.output.trans hP2.output, Nat.le_trans hP2.size g2.size, fun j hj hn => (g2.block j (Nat.lt_of_lt_of_le hj hP2.size) hn).trans (hP2.block j hj (fun e => e.elim (fun e => by omega) (fun e => hb0.elim (fun g => hn (.inr (.inr ⟨A, HA.out, by rw [g, e]⟩))) (fun g => by omega))))⟩,
      fun j hj => (g3 j hj).elim .inl (fun g => g.elim (fun e => hb0.elim (fun g => .inl (.inr (.inr ⟨A, HA.out, by rw [g, e]⟩))) (fun g => .inr (by rw [e]; exact g))) (fun g => .inr (Nat.le_trans hP2.size g)))⟩
    clear g1 g2 g3 hB2 hE0 hb2 hP2
    go_upto_region 13 with (fail)
    try simp only [Act.put, List.setIfInBounds_toArray, List.set_cons_zero, List.set_cons_succ]
    refine wp_region_lit ?_
    refine st_x (v := .agg (balC A x)) rfl (x_ld _ rfl rfl hB5 bal_ty rfl (by rw [balC_size]; exact bal_size)) ?_; try simp only [Act.put, List.setIfInBounds_toArray, List.set_cons_zero, List.set_cons_succ]
    refine st_x (v := .iface 62 (.agg (balC A x))) rfl (x_mkI _ _ rfl rfl (mkB _ _)) ?_; try simp only [Act.put, List.setIfInBounds_toArray, List.set_cons_zero, List.set_cons_succ]
    refine st_x (v := .iface 62 (.agg (balC A x))) rfl (x_val _ (.inr rfl) rfl) ?_; try simp only [Act.put, List.setIfInBounds_toArray, List.set_cons_zero, List.set_cons_succ]
    refine st_end14 ?_
    go_wp2
    go_ret
    exact ⟨rfl, hstep⟩
  · refine held_x (v := .agg (wcells y)) rfl rfl (x_ldIn (n := 32) _ rfl rfl hBu (wc_size y) (fun j hj => balC_w A y j hj) wordN_type rfl wordN_size) ⟨hC, ?_⟩
    try simp only [Act.put, List.setIfInBounds_toArray, List.set_cons_zero, List.set_cons_succ]
    refine held_one 4 (by kernel_rfl) ?_
    refine held_x (v := .agg (wcells x)) rfl rfl (x_ldIn (n := 32) _ rfl rfl hbu (wc_size x) (fun j hj => acA_x n x j hj) wordN_type rfl wordN_size) ⟨hC, ?_⟩
    try simp only [Act.put, List.setIfInBounds_toArray, List.set_cons_zero, List.set_cons_succ]
    refine held_in (v := .pointer (some ⟨b7, 20, none⟩)) 7 rfl (by kernel_rfl) (by kernel_rfl) (by kernel_rfl) (fun _ _ _ h => h) hC rfl (fun w' hw' => x_fa _ _ _ rfl rfl (fa_b1 _ _)) ?_; try simp only [Act.put, List.setIfInBounds_toArray, List.set_cons_zero, List.set_cons_succ]
    refine held_one 8 (by kernel_rfl) ?_
    obtain ⟨u1, hu1⟩ : ∃ u1, u1 = u0.setRow b7 (splS (balC A y) 20 (wcells x)) := ⟨_, rfl⟩
    refine held_skip (w' := u1) rfl rfl (by rw [hu1]; exact r_store _ _ rfl rfl rfl hBu wordN_size (wc_size _) (by rw [wc_size, balC_size]; decide) (wc_one _)) ?_
    have hO1 : Only b7 u0 u1 := by rw [hu1]; exact Only.setRow _ _ _
    have hB1 : Blk u1 b7 62 (balC A x) := by rw [hu1]; have := hBu.row (splS (balC A y) 20 (wcells x)); rwa [balC_set] at this
    have hb1 : Blk u1 b 69 (acA n x) := hO1.blk hb7 hbu
    clear hu1 hBu hbu
    have hC1 : Tch [b7, b] w3 u1 := hC.only hO1 (.inr (by simp))
    refine ⟨hC1, ?_⟩
    try simp only [Act.put, List.setIfInBounds_toArray, List.set_cons_zero, List.set_cons_succ]
    refine held_in (v := .pointer (some ⟨b, 0, none⟩)) 9 rfl (by kernel_rfl) (by kernel_rfl) (by kernel_rfl) (fun _ _ _ h => h) hC1 rfl (fun w' hw' => x_nilck _ rfl rfl) ?_; try simp only [Act.put, List.setIfInBounds_toArray, List.set_cons_zero, List.set_cons_succ]
    refine held_in (v := .pointer (some ⟨b, 1, none⟩)) 10 rfl (by kernel_rfl) (by kernel_rfl) (by kernel_rfl) (fun _ _ _ h => h) hC1 rfl (fun w' hw' => x_fa _ _ _ rfl rfl (fa_a1 _ _)) ?_; try simp only [Act.put, List.setIfInBounds_toArray, List.set_cons_zero, List.set_cons_succ]
    refine held_one 11 (by kernel_rfl) ?_
    obtain ⟨u2, hu2⟩ : ∃ u2, u2 = u1.setRow b (splS (acA n x) 1 (wcells y)) := ⟨_, rfl⟩
    refine held_skip (w' := u2) rfl rfl (by rw [hu2]; exact r_store _ _ rfl rfl rfl hb1 wordN_size (wc_size _) (by rw [wc_size, acA_size]; decide) (wc_one _)) ?_
    have hO2 : Only b u1 u2 := by rw [hu2]; exact Only.setRow _ _ _
    have hb2 : Blk u2 b 69 (acA n y) := by rw [hu2]; have := hb1.row (splS (acA n x) 1 (wcells y)); rwa [acA_setx] at this
    have hB2 : Blk u2 b7 62 (balC A x) := hO2.blk (fun e => hb7 e.symm) hB1
    clear hu2 hB1 hb1
    have hC2 : Tch [b7, b] w3 u2 := hC1.only hO2 (.inr (by simp))
    refine ⟨hC2, ?_⟩
    try simp only [Act.put, List.setIfInBounds_toArray, List.set_cons_zero, List.set_cons_succ]
    refine wpAnyH_done (by kernel_rfl) ?_ _
    clear hC hC1 hO1 hO2
    have hP2 : PT (fun j => j = b7 ∨ j = b) w u2 := (PT.nil hT).trans (PT.of_tch hC2 (by intro q hq; rcases List.mem_cons.1 hq with rfl | hq; exact .inl (.inl rfl); rcases List.mem_singleton.1 hq with rfl; exact .inl (.inr rfl)))
    obtain ⟨E0, hE0, hEE⟩ := H.out.turn HA.out hP2 (by rintro j (rfl | rfl); exact .inr hO7'; exact .inl rfl) hb2 hbb hFn ⟨HO.out.1, HY.out⟩
    clear hC2
    go_upto_region 12 with (fail)
    try simp only [Act.put, List.setIfInBounds_toArray, List.set_cons_zero, List.set_cons_succ]
    refine wp_region_lit ?_
    refine st_x (v := .pointer (some ⟨bS, 0, none⟩)) rfl (x_val _ (.inl rfl) rfl) ?_; try simp only [Act.put, List.setIfInBounds_toArray, List.set_cons_zero, List.set_cons_succ]
    refine st_x (v := .pointer (some ⟨b7, 0, none⟩)) rfl (x_fa _ _ _ rfl rfl (fa_b0 _ _)) ?_; try simp only [Act.put, List.setIfInBounds_toArray, List.set_cons_zero, List.set_cons_succ]
    refine st_x (v := .agg (av A)) rfl (x_ldIn (n := 20) _ rfl rfl hB2 (arrV_size _ _) (fun j hj => balC_a A x j hj) addr_tyY rfl addr_sizeY) ?_; try simp only [Act.put, List.setIfInBounds_toArray, List.set_cons_zero, List.set_cons_succ]
    refine st_x (v := .pointer (some ⟨b, 0, none⟩)) rfl (x_val _ (.inl rfl) rfl) ?_; try simp only [Act.put, List.setIfInBounds_toArray, List.set_cons_zero, List.set_cons_succ]
    refine st_callS (args := #[.pointer (some ⟨bS, 0, none⟩), .agg (av A), .pointer (some ⟨b, 0, none⟩)]) rfl rfl (by simp only [List.map_toArray, List.map_cons, List.map_nil]; rfl) Try.call17 (keep_any B N u2 bS mv rv k F E0 A b n y hE0 HA.out hb2 hbb.1 hbb.2 ⟨HO.out.1, HY.out⟩ HN.out hFF) ?_
    rintro e w5 ⟨rfl, mv5, F5, g1, g2, g3⟩
    refine ⟨_, rfl, ?_⟩
    try simp only [Act.put, List.setIfInBounds_toArray, List.set_cons_zero, List.set_cons_succ]
    refine st_end14 ?_
    rw [hEE] at g1
    have hB5 : Blk w5 b7 62 (balC A x) := g2.blk hB2 (by
      rintro (e | e | ⟨X, hX, e⟩)
      · have := H.out.blk.lt; omega
      · exact hE0.accne hB2 e
      · have := (H.out.acc X b7 hX e).1.lt; omega)
    have hstep : StepP B (N + 1) bS mv F rv k (upE E A (n, y)) w w5 := ⟨mv5, F5, g1, ⟨g2.os.trans hP2.os, g2.tape.trans hP2.tape, g2.output.trans hP2.output, Nat.le_trans hP2.size g2.size, fun j hj hn => (g2.block j (Nat.lt_of_lt_of_le hj hP2.size) hn).trans (hP2.block j hj (fun e => e.elim (fun e => by omega) (fun e => hb0.elim (fun g => hn (.inr (.inr ⟨A, HA.out, by rw [g, e]⟩))) (fun g => by omega))))⟩,
      fun j hj => (g3 j hj).elim .inl (fun g => g.elim (fun e => hb0.elim (fun g => .inl (.inr (.inr ⟨A, HA.out, by rw [g, e]⟩))) (fun g => .inr (by rw [e]; exact g))) (fun g => .inr (Nat.le_trans hP2.size g)))⟩
    clear g1 g2 g3 hB2 hE0 hb2 hP2
    go_upto_region 13 with (fail)
    try simp only [Act.put, List.setIfInBounds_toArray, List.set_cons_zero, List.set_cons_succ]
    refine wp_region_lit ?_
    refine st_x (v := .agg (balC A x)) rfl (x_ld _ rfl rfl hB5 bal_ty rfl (by rw [balC_size]; exact bal_size)) ?_; try simp only [Act.put, List.setIfInBounds_toArray, List.set_cons_zero, List.set_cons_succ]
    refine st_x (v := .iface 62 (.agg (balC A x))) rfl (x_mkI _ _ rfl rfl (mkB _ _)) ?_; try simp only [Act.put, List.setIfInBounds_toArray, List.set_cons_zero, List.set_cons_succ]
    refine st_x (v := .iface 62 (.agg (balC A x))) rfl (x_val _ (.inr rfl) rfl) ?_; try simp only [Act.put, List.setIfInBounds_toArray, List.set_cons_zero, List.set_cons_succ]
    refine st_end14 ?_
    go_wp2
    go_ret
    exact ⟨rfl, hstep⟩
theorem put_non (B N : Nat) (w : World) (bS : Nat) (mv rv : Value) (k : Int) (F : List Nat → Option Nat) (E : List Nat → Nat × Nat) (A : List Nat) (y : Nat) (h : StP B N w bS mv rv k F E) (hA : Ad A) (hN : N < 1000000000) (hy : y < 9223372036854775808) :
    Calls Try.prog 37 #[.pointer (some ⟨bS, 0, none⟩), .iface 76 (.agg (nonC A y))] w fun e w' => e = .returned (.iface 76 (.agg (nonC A (E A).1))) ∧
      StepP B (N + 1) bS mv F rv k (upE E A (y, (E A).2)) w w' := by
  have H := Lib.hid h
  have HA := Lib.hid hA
  have HN := Lib.hid hN
  have HY := Lib.hid hy
  have HO := Lib.hid (h.ok A hA)
  clear h hA hN hy
  have hS := St.start w
  obtain ⟨n, hn⟩ : ∃ n, n = (E A).1 := ⟨_, rfl⟩
  obtain ⟨x, hx⟩ : ∃ x, x = (E A).2 := ⟨_, rfl⟩
  rw [← hn, ← hx] at HO ⊢
  have HE := Lib.hid (And.intro hn hx)
  clear hn hx
  go_enter Try.func37, Try.ntmps37
  go_upto_region 2 with (fail)
  try simp only [Act.put, List.setIfInBounds_toArray, List.set_cons_zero, List.set_cons_succ]
  refine wp_region_lit ?_
  refine st_x (v := .tuple #[.agg (nonC A y), .bool true]) rfl (x_ta _ _ _ rfl rfl (taNN _ _)) ?_; try simp only [Act.put, List.setIfInBounds_toArray, List.set_cons_zero, List.set_cons_succ]
  refine st_x (v := .bool true) rfl (x_ext _ _ rfl rfl rfl) ?_; try simp only [Act.put, List.setIfInBounds_toArray, List.set_cons_zero, List.set_cons_succ]
  refine st_x (v := .agg (nonC A y)) rfl (x_ext _ _ rfl rfl rfl) ?_; try simp only [Act.put, List.setIfInBounds_toArray, List.set_cons_zero, List.set_cons_succ]
  refine st_end14 ?_
  go_upto_region 3 with (fail)
  try simp only [Act.put, List.setIfInBounds_toArray, List.set_cons_zero, List.set_cons_succ]
  refine wp_region_lit ?_
  refine st_new hS rfl 76 rfl non_zero ?_; clear hS; intro w1 b7 hS; try simp only [Act.put, List.setIfInBounds_toArray, List.set_cons_zero, List.set_cons_succ]
  refine st_store (b := b7) (c' := nonC A y) hS rfl 76 _ _ rfl rfl rfl .head non_size (nonC_size _ _) (nonC_size _ _) (nonC_one _ _) ?_; clear hS; intro w2 hS; try simp only [Act.put, List.setIfInBounds_toArray, List.set_cons_zero, List.set_cons_succ]
  refine st_end14 ?_
  have hT2 := hS.frame
  have hO7 : w.heap.size ≤ b7 := hS.le .head
  have H2 := Lib.hid (H.out.call hT2)
  have hB7 := hS.get .head
  have hlt7 := hB7.lt
  clear hS
  go_upto_region 4 with (fail)
  try simp only [Act.put, List.setIfInBounds_toArray, List.set_cons_zero, List.set_cons_succ]
  refine wp_region_lit ?_
  refine st_x (v := .pointer (some ⟨bS, 0, none⟩)) rfl (x_val _ (.inl rfl) rfl) ?_; try simp only [Act.put, List.setIfInBounds_toArray, List.set_cons_zero, List.set_cons_succ]
  refine st_x (v := .pointer (some ⟨b7, 0, none⟩)) rfl (x_fa _ _ _ rfl rfl (fa_n0 _ _)) ?_; try simp only [Act.put, List.setIfInBounds_toArray, List.set_cons_zero, List.set_cons_succ]
  refine st_x (v := .agg (av A)) rfl (x_ldIn (n := 20) _ rfl rfl hB7 (arrV_size _ _) (fun j hj => nonC_a A y j hj) addr_tyY rfl addr_sizeY) ?_; try simp only [Act.put, List.setIfInBounds_toArray, List.set_cons_zero, List.set_cons_succ]
  refine st_callS (args := #[.pointer (some ⟨bS, 0, none⟩), .agg (av A)]) rfl rfl (by simp only [List.map_toArray, List.map_cons, List.map_nil]; rfl) Try.call56 (open_any B N w2 bS mv rv k F E A H2.out HA.out) ?_
  rintro e w3 ⟨b, rfl, hT3, hb, hFA⟩
  refine ⟨_, rfl, ?_⟩
  try simp only [Act.put, List.setIfInBounds_toArray, List.set_cons_zero, List.set_cons_succ]
  rw [← HE.out.1, ← HE.out.2] at hb
  refine st_x (v := .pointer (some ⟨b, 0, none⟩)) rfl (x_val _ (.inr rfl) rfl) ?_; try simp only [Act.put, List.setIfInBounds_toArray, List.set_cons_zero, List.set_cons_succ]
  refine st_end14 ?_
  have H3 := Lib.hid (H2.out.call hT3)
  replace hB7 := hT3.blk hB7 (by simp)
  have hT := hT2.trans hT3
  have h7lt := hB7.lt
  have hO7' : w.heap.size ≤ b7 := hO7
  have hb7 : b ≠ b7 := by
    intro e
    subst e
    have h1 : (b : Nat) < w2.heap.size := hlt7
    rcases hFA with g | ⟨_, g⟩
    · have := (H.out.acc A b HA.out g).1.lt; omega
    · omega
  have hbb : B ≤ b ∧ b ≠ bS := by
    rcases hFA with g | ⟨_, g⟩
    · exact (H.out.acc A b HA.out g).2
    · have h1 := H2.out.blk.lt; have h2 := H.out.base; omega
  have hFF : F A = some b ∨ F A = none ∧ ∀ X, Ad X → F X ≠ some b := by
    rcases hFA with g | ⟨g, g2⟩
    · exact .inl g
    · refine .inr ⟨g, fun X hX e => ?_⟩
      have := (H2.out.acc X b hX e).1.lt
      omega
  have hFn : F A = some b ∨ F A = none ∧ w.heap.size ≤ b := hFA.imp id (fun g => ⟨g.1, Nat.le_trans hT2.size g.2⟩)
  have hb0 : F A = some b ∨ w.heap.size ≤ b := hFA.imp id (fun g => Nat.le_trans hT2.size g.2)
  clear hFA
  go_upto_region 5 with (fail)
  try simp only [Act.put, List.setIfInBounds_toArray, List.set_cons_zero, List.set_cons_succ]
  refine wp_region_held_drew (S := fun w' => Tch [b7, b] w3 w') (by kernel_rfl) ((Tch.refl _ _).drew) (fun hC => ?_)
  have hD0 : Tch [] w3 w3.drew := (Tch.refl [] w3).drew
  generalize World.drew w3 = u0 at hC hD0 ⊢
  have hBu := hD0.blk hB7 (by simp)
  have hbu := hD0.blk hb (by simp)
  refine held_in (v := .pointer (some ⟨b, 0, none⟩)) 0 rfl (by kernel_rfl) (by kernel_rfl) (by kernel_rfl) (fun _ _ _ h => h) hC rfl (fun w' hw' => x_val _ (.inl rfl) rfl) ?_; try simp only [Act.put, List.setIfInBounds_toArray, List.set_cons_zero, List.set_cons_succ]
  refine held_in (v := .pointer (some ⟨b, 0, none⟩)) 1 rfl (by kernel_rfl) (by kernel_rfl) (by kernel_rfl) (fun _ _ _ h => h) hC rfl (fun w' hw' => x_val _ (.inl rfl) rfl) ?_; try simp only [Act.put, List.setIfInBounds_toArray, List.set_cons_zero, List.set_cons_succ]
  refine held_in (v := .pointer (some ⟨b, 0, none⟩)) 2 rfl (by kernel_rfl) (by kernel_rfl) (by kernel_rfl) (fun _ _ _ h => h) hC rfl (fun w' hw' => x_nilck _ rfl rfl) ?_; try simp only [Act.put, List.setIfInBounds_toArray, List.set_cons_zero, List.set_cons_succ]
  refine held_in (v := .pointer (some ⟨b, 0, none⟩)) 3 rfl (by kernel_rfl) (by kernel_rfl) (by kernel_rfl) (fun _ _ _ h => h) hC rfl (fun w' hw' => x_fa _ _ _ rfl rfl (fa_a0 _ _)) ?_; try simp only [Act.put, List.setIfInBounds_toArray, List.set_cons_zero, List.set_cons_succ]
  refine held_in (v := .pointer (some ⟨b7, 20, none⟩)) 5 rfl (by kernel_rfl) (by kernel_rfl) (by kernel_rfl) (fun _ _ _ h => h) hC rfl (fun w' hw' => x_fa _ _ _ rfl rfl (fa_n1 _ _)) ?_; try simp only [Act.put, List.setIfInBounds_toArray, List.set_cons_zero, List.set_cons_succ]
  refine held_two 4 6 (by kernel_rfl) ?_ ?_
  · refine held_x (v := .int .i64 (n : Int)) rfl rfl (x_cell _ _ rfl rfl (hbu.cell (acA_n n x)) int_aggS) ⟨hC, ?_⟩
    try simp only [Act.put, List.setIfInBounds_toArray, List.set_cons_zero, List.set_cons_succ]
    refine held_one 6 (by kernel_rfl) ?_
    refine held_x (v := .int .i64 (y : Int)) rfl rfl (x_cell _ _ rfl rfl (hBu.cell (nonC_n A y)) int_aggS) ⟨hC, ?_⟩
    try simp only [Act.put, List.setIfInBounds_toArray, List.set_cons_zero, List.set_cons_succ]
    refine held_in (v := .pointer (some ⟨b7, 20, none⟩)) 7 rfl (by kernel_rfl) (by kernel_rfl) (by kernel_rfl) (fun _ _ _ h => h) hC rfl (fun w' hw' => x_fa _ _ _ rfl rfl (fa_n1 _ _)) ?_; try simp only [Act.put, List.setIfInBounds_toArray, List.set_cons_zero, List.set_cons_succ]
    refine held_one 8 (by kernel_rfl) ?_
    obtain ⟨u1, hu1⟩ : ∃ u1, u1 = World.setCell u0 ⟨b7, 20, none⟩ (.int .i64 (n : Int)) := ⟨_, rfl⟩
    refine held_skip (w' := u1) rfl rfl (by rw [hu1]; exact r_store1 _ _ rfl rfl rfl hBu size_one_int (by rw [nonC_size]; decide) rfl) ?_
    have hO1 : Only b7 u0 u1 := by rw [hu1]; exact Only.setCell u0 ⟨b7, 20, none⟩ _
    have hB1 : Blk u1 b7 76 (nonC A n) := by rw [hu1]; have := hBu.set 20 (.int .i64 (n : Int)); rwa [nonC_set] at this
    have hb1 : Blk u1 b 69 (acA n x) := hO1.blk hb7 hbu
    clear hu1 hBu hbu
    have hC1 : Tch [b7, b] w3 u1 := hC.only hO1 (.inr (by simp))
    refine ⟨hC1, ?_⟩
    try simp only [Act.put, List.setIfInBounds_toArray, List.set_cons_zero, List.set_cons_succ]
    refine held_in (v := .pointer (some ⟨b, 0, none⟩)) 9 rfl (by kernel_rfl) (by kernel_rfl) (by kernel_rfl) (fun _ _ _ h => h) hC1 rfl (fun w' hw' => x_nilck _ rfl rfl) ?_; try simp only [Act.put, List.setIfInBounds_toArray, List.set_cons_zero, List.set_cons_succ]
    refine held_in (v := .pointer (some ⟨b, 0, none⟩)) 10 rfl (by kernel_rfl) (by kernel_rfl) (by kernel_rfl) (fun _ _ _ h => h) hC1 rfl (fun w' hw' => x_fa _ _ _ rfl rfl (fa_a0 _ _)) ?_; try simp only [Act.put, List.setIfInBounds_toArray, List.set_cons_zero, List.set_cons_succ]
    refine held_one 11 (by kernel_rfl) ?_
    obtain ⟨u2, hu2⟩ : ∃ u2, u2 = World.setCell u1 ⟨b, 0, none⟩ (.int .i64 (y : Int)) := ⟨_, rfl⟩
    refine held_skip (w' := u2) rfl rfl (by rw [hu2]; exact r_store1 _ _ rfl rfl rfl hb1 size_one_int (by rw [acA_size]; decide) rfl) ?_
    have hO2 : Only b u1 u2 := by rw [hu2]; exact Only.setCell u1 ⟨b, 0, none⟩ _
    have hb2 : Blk u2 b 69 (acA y x) := by rw [hu2]; have := hb1.set 0 (.int .i64 (y : Int)); rwa [acA_setn] at this
    have hB2 : Blk u2 b7 76 (nonC A n) := hO2.blk (fun e => hb7 e.symm) hB1
    clear hu2 hB1 hb1
    have hC2 : Tch [b7, b] w3 u2 := hC1.only hO2 (.inr (by simp))
    refine ⟨hC2, ?_⟩
    try simp only [Act.put, List.setIfInBounds_toArray, List.set_cons_zero, List.set_cons_succ]
    refine wpAnyH_done (by kernel_rfl) ?_ _
    clear hC hC1 hO1 hO2
    have hP2 : PT (fun j => j = b7 ∨ j = b) w u2 := (PT.nil hT).trans (PT.of_tch hC2 (by intro q hq; rcases List.mem_cons.1 hq with rfl | hq; exact .inl (.inl rfl); rcases List.mem_singleton.1 hq with rfl; exact .inl (.inr rfl)))
    obtain ⟨E0, hE0, hEE⟩ := H.out.turn HA.out hP2 (by rintro j (rfl | rfl); exact .inr hO7'; exact .inl rfl) hb2 hbb hFn ⟨HY.out, HO.out.2⟩
    clear hC2
    go_upto_region 6 with (fail)
    try simp only [Act.put, List.setIfInBounds_toArray, List.set_cons_zero, List.set_cons_succ]
    refine wp_region_lit ?_
    refine st_x (v := .pointer (some ⟨bS, 0, none⟩)) rfl (x_val _ (.inl rfl) rfl) ?_; try simp only [Act.put, List.setIfInBounds_toArray, List.set_cons_zero, List.set_cons_succ]
    refine st_x (v := .pointer (some ⟨b7, 0, none⟩)) rfl (x_fa _ _ _ rfl rfl (fa_n0 _ _)) ?_; try simp only [Act.put, List.setIfInBounds_toArray, List.set_cons_zero, List.set_cons_succ]
    refine st_x (v := .agg (av A)) rfl (x_ldIn (n := 20) _ rfl rfl hB2 (arrV_size _ _) (fun j hj => nonC_a A n j hj) addr_tyY rfl addr_sizeY) ?_; try simp only [Act.put, List.setIfInBounds_toArray, List.set_cons_zero, List.set_cons_succ]
    refine st_x (v := .pointer (some ⟨b, 0, none⟩)) rfl (x_val _ (.inl rfl) rfl) ?_; try simp only [Act.put, List.setIfInBounds_toArray, List.set_cons_zero, List.set_cons_succ]
    refine st_callS (args := #[.pointer (some ⟨bS, 0, none⟩), .agg (av A), .pointer (some ⟨b, 0, none⟩)]) rfl rfl (by simp only [List.map_toArray, List.map_cons, List.map_nil]; rfl) Try.call17 (keep_any B N u2 bS mv rv k F E0 A b y x hE0 HA.out hb2 hbb.1 hbb.2 ⟨HY.out, HO.out.2⟩ HN.out hFF) ?_
    rintro e w5 ⟨rfl, mv5, F5, g1, g2, g3⟩
    refine ⟨_, rfl, ?_⟩
    try simp only [Act.put, List.setIfInBounds_toArray, List.set_cons_zero, List.set_cons_succ]
    refine st_end14 ?_
    rw [hEE] at g1
    have hB5 : Blk w5 b7 76 (nonC A n) := g2.blk hB2 (by
      rintro (e | e | ⟨X, hX, e⟩)
      · have := H.out.blk.lt; omega
      · exact hE0.accne hB2 e
      · have := (H.out.acc X b7 hX e).1.lt; omega)
    have hstep : StepP B (N + 1) bS mv F rv k (upE E A (y, x)) w w5 := ⟨mv5, F5, g1, ⟨g2.os.trans hP2.os, g2.tape.trans hP2.tape, g2.output.trans hP2.output, Nat.le_trans hP2.size g2.size, fun j hj hn => (g2.block j (Nat.lt_of_lt_of_le hj hP2.size) hn).trans (hP2.block j hj (fun e => e.elim (fun e => by omega) (fun e => hb0.elim (fun g => hn (.inr (.inr ⟨A, HA.out, by rw [g, e]⟩))) (fun g => by omega))))⟩,
      fun j hj => (g3 j hj).elim .inl (fun g => g.elim (fun e => hb0.elim (fun g => .inl (.inr (.inr ⟨A, HA.out, by rw [g, e]⟩))) (fun g => .inr (by rw [e]; exact g))) (fun g => .inr (Nat.le_trans hP2.size g)))⟩
    clear g1 g2 g3 hB2 hE0 hb2 hP2
    go_upto_region 7 with (fail)
    try simp only [Act.put, List.setIfInBounds_toArray, List.set_cons_zero, List.set_cons_succ]
    refine wp_region_lit ?_
    refine st_x (v := .agg (nonC A n)) rfl (x_ld _ rfl rfl hB5 non_ty rfl (by rw [nonC_size]; exact non_size)) ?_; try simp only [Act.put, List.setIfInBounds_toArray, List.set_cons_zero, List.set_cons_succ]
    refine st_x (v := .iface 76 (.agg (nonC A n))) rfl (x_mkI _ _ rfl rfl (mkN _ _)) ?_; try simp only [Act.put, List.setIfInBounds_toArray, List.set_cons_zero, List.set_cons_succ]
    refine st_x (v := .iface 76 (.agg (nonC A n))) rfl (x_val _ (.inr rfl) rfl) ?_; try simp only [Act.put, List.setIfInBounds_toArray, List.set_cons_zero, List.set_cons_succ]
    refine st_end14 ?_
    go_wp2
    go_ret
    exact ⟨rfl, hstep⟩
  · refine held_x (v := .int .i64 (y : Int)) rfl rfl (x_cell _ _ rfl rfl (hBu.cell (nonC_n A y)) int_aggS) ⟨hC, ?_⟩
    try simp only [Act.put, List.setIfInBounds_toArray, List.set_cons_zero, List.set_cons_succ]
    refine held_one 4 (by kernel_rfl) ?_
    refine held_x (v := .int .i64 (n : Int)) rfl rfl (x_cell _ _ rfl rfl (hbu.cell (acA_n n x)) int_aggS) ⟨hC, ?_⟩
    try simp only [Act.put, List.setIfInBounds_toArray, List.set_cons_zero, List.set_cons_succ]
    refine held_in (v := .pointer (some ⟨b7, 20, none⟩)) 7 rfl (by kernel_rfl) (by kernel_rfl) (by kernel_rfl) (fun _ _ _ h => h) hC rfl (fun w' hw' => x_fa _ _ _ rfl rfl (fa_n1 _ _)) ?_; try simp only [Act.put, List.setIfInBounds_toArray, List.set_cons_zero, List.set_cons_succ]
    refine held_one 8 (by kernel_rfl) ?_
    obtain ⟨u1, hu1⟩ : ∃ u1, u1 = World.setCell u0 ⟨b7, 20, none⟩ (.int .i64 (n : Int)) := ⟨_, rfl⟩
    refine held_skip (w' := u1) rfl rfl (by rw [hu1]; exact r_store1 _ _ rfl rfl rfl hBu size_one_int (by rw [nonC_size]; decide) rfl) ?_
    have hO1 : Only b7 u0 u1 := by rw [hu1]; exact Only.setCell u0 ⟨b7, 20, none⟩ _
    have hB1 : Blk u1 b7 76 (nonC A n) := by rw [hu1]; have := hBu.set 20 (.int .i64 (n : Int)); rwa [nonC_set] at this
    have hb1 : Blk u1 b 69 (acA n x) := hO1.blk hb7 hbu
    clear hu1 hBu hbu
    have hC1 : Tch [b7, b] w3 u1 := hC.only hO1 (.inr (by simp))
    refine ⟨hC1, ?_⟩
    try simp only [Act.put, List.setIfInBounds_toArray, List.set_cons_zero, List.set_cons_succ]
    refine held_in (v := .pointer (some ⟨b, 0, none⟩)) 9 rfl (by kernel_rfl) (by kernel_rfl) (by kernel_rfl) (fun _ _ _ h => h) hC1 rfl (fun w' hw' => x_nilck _ rfl rfl) ?_; try simp only [Act.put, List.setIfInBounds_toArray, List.set_cons_zero, List.set_cons_succ]
    refine held_in (v := .pointer (some ⟨b, 0, none⟩)) 10 rfl (by kernel_rfl) (by kernel_rfl) (by kernel_rfl) (fun _ _ _ h => h) hC1 rfl (fun w' hw' => x_fa _ _ _ rfl rfl (fa_a0 _ _)) ?_; try simp only [Act.put, List.setIfInBounds_toArray, List.set_cons_zero, List.set_cons_succ]
    refine held_one 11 (by kernel_rfl) ?_
    obtain ⟨u2, hu2⟩ : ∃ u2, u2 = World.setCell u1 ⟨b, 0, none⟩ (.int .i64 (y : Int)) := ⟨_, rfl⟩
    refine held_skip (w' := u2) rfl rfl (by rw [hu2]; exact r_store1 _ _ rfl rfl rfl hb1 size_one_int (by rw [acA_size]; decide) rfl) ?_
    have hO2 : Only b u1 u2 := by rw [hu2]; exact Only.setCell u1 ⟨b, 0, none⟩ _
    have hb2 : Blk u2 b 69 (acA y x) := by rw [hu2]; have := hb1.set 0 (.int .i64 (y : Int)); rwa [acA_setn] at this
    have hB2 : Blk u2 b7 76 (nonC A n) := hO2.blk (fun e => hb7 e.symm) hB1
    clear hu2 hB1 hb1
    have hC2 : Tch [b7, b] w3 u2 := hC1.only hO2 (.inr (by simp))
    refine ⟨hC2, ?_⟩
    try simp only [Act.put, List.setIfInBounds_toArray, List.set_cons_zero, List.set_cons_succ]
    refine wpAnyH_done (by kernel_rfl) ?_ _
    clear hC hC1 hO1 hO2
    have hP2 : PT (fun j => j = b7 ∨ j = b) w u2 := (PT.nil hT).trans (PT.of_tch hC2 (by intro q hq; rcases List.mem_cons.1 hq with rfl | hq; exact .inl (.inl rfl); rcases List.mem_singleton.1 hq with rfl; exact .inl (.inr rfl)))
    obtain ⟨E0, hE0, hEE⟩ := H.out.turn HA.out hP2 (by rintro j (rfl | rfl); exact .inr hO7'; exact .inl rfl) hb2 hbb hFn ⟨HY.out, HO.out.2⟩
    clear hC2
    go_upto_region 6 with (fail)
    try simp only [Act.put, List.setIfInBounds_toArray, List.set_cons_zero, List.set_cons_succ]
    refine wp_region_lit ?_
    refine st_x (v := .pointer (some ⟨bS, 0, none⟩)) rfl (x_val _ (.inl rfl) rfl) ?_; try simp only [Act.put, List.setIfInBounds_toArray, List.set_cons_zero, List.set_cons_succ]
    refine st_x (v := .pointer (some ⟨b7, 0, none⟩)) rfl (x_fa _ _ _ rfl rfl (fa_n0 _ _)) ?_; try simp only [Act.put, List.setIfInBounds_toArray, List.set_cons_zero, List.set_cons_succ]
    refine st_x (v := .agg (av A)) rfl (x_ldIn (n := 20) _ rfl rfl hB2 (arrV_size _ _) (fun j hj => nonC_a A n j hj) addr_tyY rfl addr_sizeY) ?_; try simp only [Act.put, List.setIfInBounds_toArray, List.set_cons_zero, List.set_cons_succ]
    refine st_x (v := .pointer (some ⟨b, 0, none⟩)) rfl (x_val _ (.inl rfl) rfl) ?_; try simp only [Act.put, List.setIfInBounds_toArray, List.set_cons_zero, List.set_cons_succ]
    refine st_callS (args := #[.pointer (some ⟨bS, 0, none⟩), .agg (av A), .pointer (some ⟨b, 0, none⟩)]) rfl rfl (by simp only [List.map_toArray, List.map_cons, List.map_nil]; rfl) Try.call17 (keep_any B N u2 bS mv rv k F E0 A b y x hE0 HA.out hb2 hbb.1 hbb.2 ⟨HY.out, HO.out.2⟩ HN.out hFF) ?_
    rintro e w5 ⟨rfl, mv5, F5, g1, g2, g3⟩
    refine ⟨_, rfl, ?_⟩
    try simp only [Act.put, List.setIfInBounds_toArray, List.set_cons_zero, List.set_cons_succ]
    refine st_end14 ?_
    rw [hEE] at g1
    have hB5 : Blk w5 b7 76 (nonC A n) := g2.blk hB2 (by
      rintro (e | e | ⟨X, hX, e⟩)
      · have := H.out.blk.lt; omega
      · exact hE0.accne hB2 e
      · have := (H.out.acc X b7 hX e).1.lt; omega)
    have hstep : StepP B (N + 1) bS mv F rv k (upE E A (y, x)) w w5 := ⟨mv5, F5, g1, ⟨g2.os.trans hP2.os, g2.tape.trans hP2.tape, g2.output.trans hP2.output, Nat.le_trans hP2.size g2.size, fun j hj hn => (g2.block j (Nat.lt_of_lt_of_le hj hP2.size) hn).trans (hP2.block j hj (fun e => e.elim (fun e => by omega) (fun e => hb0.elim (fun g => hn (.inr (.inr ⟨A, HA.out, by rw [g, e]⟩))) (fun g => by omega))))⟩,
      fun j hj => (g3 j hj).elim .inl (fun g => g.elim (fun e => hb0.elim (fun g => .inl (.inr (.inr ⟨A, HA.out, by rw [g, e]⟩))) (fun g => .inr (by rw [e]; exact g))) (fun g => .inr (Nat.le_trans hP2.size g)))⟩
    clear g1 g2 g3 hB2 hE0 hb2 hP2
    go_upto_region 7 with (fail)
    try simp only [Act.put, List.setIfInBounds_toArray, List.set_cons_zero, List.set_cons_succ]
    refine wp_region_lit ?_
    refine st_x (v := .agg (nonC A n)) rfl (x_ld _ rfl rfl hB5 non_ty rfl (by rw [nonC_size]; exact non_size)) ?_; try simp only [Act.put, List.setIfInBounds_toArray, List.set_cons_zero, List.set_cons_succ]
    refine st_x (v := .iface 76 (.agg (nonC A n))) rfl (x_mkI _ _ rfl rfl (mkN _ _)) ?_; try simp only [Act.put, List.setIfInBounds_toArray, List.set_cons_zero, List.set_cons_succ]
    refine st_x (v := .iface 76 (.agg (nonC A n))) rfl (x_val _ (.inr rfl) rfl) ?_; try simp only [Act.put, List.setIfInBounds_toArray, List.set_cons_zero, List.set_cons_succ]
    refine st_end14 ?_
    go_wp2
    go_ret
    exact ⟨rfl, hstep⟩
end Go.Proofs.Ytklpcppdjcedpaa
