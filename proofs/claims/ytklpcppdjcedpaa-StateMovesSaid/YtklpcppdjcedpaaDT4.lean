/- The document's states: SetBalance, Move. -/
import Derived.Test.YtklpcppdjcedpaaDT3
namespace Go.Proofs.Ytklpcppdjcedpaa
open Go.RowKit Go.WideMaps Go.ChangeMaps Go.MapKept
set_option linter.unusedVariables false
set_option linter.unusedSimpArgs false
set_option maxRecDepth 100000
set_option maxHeartbeats 2000000
theorem fld_d2 (A : List Nat) (x : Nat) (w : World) : (Instr.field 37 (.agg (dC A x)) 2).run Try.prog w = .ok (.agg (wcells x)) w := by kernel_rfl
/-- A Balance is stored into an account within its row. -/
theorem DocP.setB {B : Nat} {w : World} {bR g cap k x y : Nat} {L : AL} {A : List Nat} (h : DocP B w bR (.slice (some ⟨g, 0, none⟩) L.length cap) L) (hk : k < L.length) (hA : L[k] = (A, x)) (hy : y < M256) :
    ∃ cur, Blk w g 37 cur ∧ k * 55 + 21 + (wcells y).size ≤ cur.size ∧ DocP B (w.setRow g (splS cur (k * 55 + 21) (wcells y))) bR (.slice (some ⟨g, 0, none⟩) (L.set k (A, y)).length cap) (L.set k (A, y)) := by
  have h55 : k * 55 + 55 ≤ L.length * 55 := by have : (k + 1) * 55 ≤ L.length * 55 := Nat.mul_le_mul_right _ hk; rw [Nat.succ_mul] at this; exact this
  obtain ⟨h1, h2⟩ := h.own
  rcases h2 with ⟨e, _⟩ | ⟨g', cap', cur, e, hg, hb, hn, hc, hsz, htk⟩
  · cases e
  · injection e with e1 _ e3
    injection e1 with e1
    injection e1 with e1
    subst e1 e3
    have hB : Blk w g 37 cur := hb
    have hle : k * 55 + 21 + (wcells y).size ≤ cur.size := by
      rw [wc_size, hsz]
      have : L.length * 55 ≤ cap * 55 := Nat.mul_le_mul_right _ hn
      omega
    have hO := Only.setRow w g (splS cur (k * 55 + 21) (wcells y))
    have hne : g ≠ bR := fun e => h.apart (by rw [← e]; rfl)
    refine ⟨cur, hB, hle, by rw [List.length_set]; exact hO.blk (fun e => hne e.symm) h.blk, ⟨dCells_len _, .inr ⟨g, cap, _, rfl, hg, hB.row _, by rw [List.length_set]; exact hn, hc, ?_, ?_⟩⟩, fun e => hne (by cases e; rfl), h.base, fun q hq => ?_, sorted_set L A y k hk h.sorted (by rw [hA]), by rw [List.length_set]; exact h.len⟩
    · unfold splS
      rw [wc_size] at hle
      simp only [List.size_toArray, List.length_append, List.length_take, List.length_drop, Array.length_toList, wc_size]
      omega
    · unfold splS
      rw [List.toList_toArray, List.length_set, List.append_assoc]
      have ht := take_splice cur.toList (dCells L) (wcells y).toList (L.length * 55) (k * 55 + 21) htk (dCells_len L) (by rw [wcL]; omega)
      rw [ht, wcL]
      exact dCells_set L A x y k hk hA
    · have hq' := List.mem_or_eq_of_mem_set hq
      rcases hq' with hq' | rfl
      · exact h.ads q hq'
      · have := h.ads _ (List.getElem_mem hk)
        rw [hA] at this
        exact ⟨this.1, hy⟩
/-- What a step makes of a state of the document. -/
def DStep (B bR : Nat) (lv : Value) (L' : AL) (w w' : World) : Prop := ∃ lv', DocP B w' bR lv' L' ∧ PT (dfoot bR lv) w w' ∧ ∀ j, dfoot bR lv' j → dfoot bR lv j ∨ w.heap.size ≤ j
theorem DStep.of {B bR : Nat} {lv : Value} {L' : AL} {w u w' : World} (hT : Tch [] w u) (h : DStep B bR lv L' u w') : DStep B bR lv L' w w' := by
  obtain ⟨lv', h1, h2, h3⟩ := h
  exact ⟨lv', h1, (PT.nil hT).trans h2, fun j hj => (h3 j hj).imp id (fun g => Nat.le_trans hT.size g)⟩
theorem DStep.comp {B bR : Nat} {lv lv1 : Value} {L' : AL} {w w1 w2 : World} (h2 : PT (dfoot bR lv) w w1) (h3 : ∀ j, dfoot bR lv1 j → dfoot bR lv j ∨ w.heap.size ≤ j) (h' : DStep B bR lv1 L' w1 w2) : DStep B bR lv L' w w2 := by
  obtain ⟨lv2, g1, g2, g3⟩ := h'
  refine ⟨lv2, g1, ⟨g2.os.trans h2.os, g2.tape.trans h2.tape, g2.output.trans h2.output, Nat.le_trans h2.size g2.size, fun j hj hn => (g2.block j (Nat.lt_of_lt_of_le hj h2.size) (fun hf => ?_)).trans (h2.block j hj hn)⟩, fun j hj => ?_⟩
  · rcases h3 j hf with g | g
    · exact hn g
    · omega
  · rcases g3 j hj with g | g
    · exact h3 j g
    · exact .inr (Nat.le_trans h2.size g)
theorem rsetBal_any (B : Nat) (w : World) (bR : Nat) (lv : Value) (L : AL) (A : List Nat) (y : Nat) (h : DocP B w bR lv L) (hA : Ad A) (hlen : L.length < 900000) (hy : y < M256) :
    Calls Try.prog 8 #[.pointer (some ⟨bR, 0, none⟩), .agg (av A), .agg (wcells y)] w fun e w' => e = .returned (.tuple #[]) ∧ ∃ L', DStep B bR lv L' w w' ∧ (∀ X, balL L' X = if X = A then y else balL L X) ∧ L'.length ≤ L.length + 1 := by
  have H := Lib.hid h
  have hc := fun w' (hT : Tch [] w w') => at_anyD B w' bR lv L A (h.call hT) hA hlen
  have HY := Lib.hid hy
  have hlt : ∀ j, dfoot bR lv j → j < w.heap.size := fun j hj => (h.lt hj).2
  clear h hA hlen hy
  have hS := St.start w
  go_enter Try.func8, Try.ntmps8
  go_upto_region 0 with (fail)
  try simp only [Act.put, List.setIfInBounds_toArray, List.set_cons_zero, List.set_cons_succ]
  refine wp_region_lit ?_
  refine st_box hS rfl 23 _ rfl rfl ?_; clear hS; intro w1 b4 hS; try simp only [Act.put, List.setIfInBounds_toArray, List.set_cons_zero, List.set_cons_succ]
  refine st_box hS rfl 25 _ rfl rfl ?_; clear hS; intro w2 b5 hS; try simp only [Act.put, List.setIfInBounds_toArray, List.set_cons_zero, List.set_cons_succ]
  refine st_end14 ?_
  have hT2 := hS.frame
  have h4 := hS.le (.tail .head)
  have h5 := hS.le .head
  have F4 : ∀ u, PT (dfoot bR lv) w2 u → Blk u b4 23 (av A) := fun u hu => hu.blk (hS.get (.tail .head)) (fun hj => by have := hlt b4 hj; omega)
  have F5 : ∀ u, PT (dfoot bR lv) w2 u → Blk u b5 25 (wcells y) := fun u hu => hu.blk (hS.get .head) (fun hj => by have := hlt b5 hj; omega)
  clear hS
  go_upto_region 1 with (fail)
  try simp only [Act.put, List.setIfInBounds_toArray, List.set_cons_zero, List.set_cons_succ]
  refine wp_region_held_drew (S := fun w' => PT (dfoot bR lv) w2 w') (by kernel_rfl) (PT.nil ((Tch.refl _ _).drew)) (fun hC => ?_)
  have hD0 : Tch [] w2 w2.drew := (Tch.refl [] w2).drew
  generalize World.drew w2 = u0 at hC hD0 ⊢
  refine held_in (v := .pointer (some ⟨bR, 0, none⟩)) 0 rfl (by kernel_rfl) (by kernel_rfl) (by kernel_rfl) (fun _ _ _ h => h) hC rfl (fun w' hw' => x_val _ (.inl rfl) rfl) ?_; try simp only [Act.put, List.setIfInBounds_toArray, List.set_cons_zero, List.set_cons_succ]
  refine held_in (v := .agg (av A)) 1 rfl (by kernel_rfl) (by kernel_rfl) (by kernel_rfl) (fun _ _ _ h => h) hC rfl (fun w' hw' => x_ld _ rfl rfl (F4 _ hw') addr_tyY rfl (by rw [arrV_size]; exact addr_sizeY)) ?_; try simp only [Act.put, List.setIfInBounds_toArray, List.set_cons_zero, List.set_cons_succ]
  refine held_in (v := .agg (wcells y)) 3 rfl (by kernel_rfl) (by kernel_rfl) (by kernel_rfl) (fun _ _ _ h => h) hC rfl (fun w' hw' => x_ld _ rfl rfl (F5 _ hw') wordN_type rfl (by rw [wc_size]; exact wordN_size)) ?_; try simp only [Act.put, List.setIfInBounds_toArray, List.set_cons_zero, List.set_cons_succ]
  refine held_one 2 (by kernel_rfl) ?_
  refine held_callS (args := #[.pointer (some ⟨bR, 0, none⟩), .agg (av A)]) rfl rfl rfl (by simp only [List.map_toArray, List.map_cons, List.map_nil]; rfl) Try.call24 (hc u0 (hT2.trans hD0)) ?_
  rintro e w3 ⟨g, k, cap, L1, rfl, hD1, ⟨hk, hLk⟩, hbal, hlen1, hP1, hg⟩
  have hC3 : PT (dfoot bR lv) w2 w3 := (PT.nil hD0).trans hP1
  refine ⟨_, rfl, hC3, ?_⟩
  try simp only [Act.put, List.setIfInBounds_toArray, List.set_cons_zero, List.set_cons_succ]
  refine held_in (v := .pointer (some ⟨g, k * 55, none⟩)) 4 rfl (by kernel_rfl) (by kernel_rfl) (by kernel_rfl) (fun _ _ _ h => h) hC3 rfl (fun w' hw' => x_nilck _ rfl rfl) ?_; try simp only [Act.put, List.setIfInBounds_toArray, List.set_cons_zero, List.set_cons_succ]
  refine held_in (v := .pointer (some ⟨g, k * 55 + 21, none⟩)) 5 rfl (by kernel_rfl) (by kernel_rfl) (by kernel_rfl) (fun _ _ _ h => h) hC3 rfl (fun w' hw' => x_fa _ _ _ rfl rfl (fa_d2 _ _ _)) ?_; try simp only [Act.put, List.setIfInBounds_toArray, List.set_cons_zero, List.set_cons_succ]
  refine held_one 6 (by kernel_rfl) ?_
  obtain ⟨cur, hcur, hle, hD2⟩ := hD1.setB hk hLk HY.out
  obtain ⟨w4, hw4⟩ : ∃ w4, w4 = w3.setRow g (splS cur (k * 55 + 21) (wcells y)) := ⟨_, rfl⟩
  refine held_skip (w' := w4) rfl rfl (by rw [hw4]; exact r_store _ _ rfl rfl rfl hcur wordN_size (wc_size _) hle (wc_one _)) ?_
  have hO4 : Only g w3 w4 := by rw [hw4]; exact Only.setRow _ _ _
  rw [← hw4] at hD2
  clear hw4
  have hP4 : PT (dfoot bR lv) w w4 := by
    have h0 : PT (dfoot bR lv) w w3 := (PT.nil hT2).trans hC3
    refine ⟨hO4.os.trans h0.os, hO4.tape.trans h0.tape, hO4.output.trans h0.output, Nat.le_trans h0.size (Nat.le_of_eq hO4.size.symm), fun j hj hn => (hO4.block j (fun e => ?_)).trans (h0.block j hj hn)⟩
    subst e
    rcases hg with hg | hg
    · exact hn (.inr hg)
    · have := hT2.size; have := hD0.size; omega
  have hC4 : PT (dfoot bR lv) w2 w4 := by
    refine ⟨hO4.os.trans hC3.os, hO4.tape.trans hC3.tape, hO4.output.trans hC3.output, Nat.le_trans hC3.size (Nat.le_of_eq hO4.size.symm), fun j hj hn => (hO4.block j (fun e => ?_)).trans (hC3.block j hj hn)⟩
    subst e
    rcases hg with hg | hg
    · exact hn (.inr hg)
    · have := hD0.size; omega
  refine ⟨hC4, ?_⟩
  try simp only [Act.put, List.setIfInBounds_toArray, List.set_cons_zero, List.set_cons_succ]
  refine wpAnyH_done (by kernel_rfl) ?_ _
  go_wp2
  go_end0
  refine ⟨rfl, L1.set k (A, y), ⟨_, hD2, hP4, ?_⟩, fun X => ?_, by rw [List.length_set]; exact hlen1⟩
  · rintro j (rfl | hj)
    · exact .inl (.inl rfl)
    · have hj' : g = j := Option.some.inj hj
      subst hj'
      rcases hg with hg | hg
      · exact .inl (.inr hg)
      · exact .inr (by have := hT2.size; have := hD0.size; omega)
  · rw [balL_set L1 A y k hk hD1.sorted (by rw [hLk]) X, hbal X]
theorem wadd_lt_iff2 {q x : Nat} (hq : q < M256) (hx : x < M256) : wadd q x < q ↔ ¬ q + x < M256 := by
  unfold wadd
  by_cases h : q + x < M256
  · rw [Nat.mod_eq_of_lt h]; omega
  · rw [Nat.mod_eq_sub_mod (by omega), Nat.mod_eq_of_lt (by omega)]; omega
theorem balL_lt {L : AL} (h : ∀ p ∈ L, Ad p.1 ∧ p.2 < M256) (A : List Nat) : balL L A < M256 := by
  induction L with
  | nil => exact M256_pos
  | cons p L ih =>
    show (if p.1 = A then p.2 else balL L A) < M256
    split
    · exact (h p List.mem_cons_self).2
    · exact ih fun q hq => h q (List.mem_cons_of_mem _ hq)
/-- The Balances of a state of the document. -/
def EL (L : AL) : List Nat → Nat × Nat := fun A => (0, balL L A)
theorem rmove_any (B : Nat) (w : World) (bR : Nat) (lv : Value) (L : AL) (f t : List Nat) (x : Nat) (h : DocP B w bR lv L) (hf : Ad f) (ht : Ad t) (hlen : L.length < 800000) (hx : x < M256) :
    Calls Try.prog 10 #[.pointer (some ⟨bR, 0, none⟩), .agg (av f), .agg (av t), .agg (wcells x)] w fun e w' => e = .returned (.bool (mvOK (EL L) f t x)) ∧ ∃ L', DStep B bR lv L' w w' ∧ (∀ X, balL L' X = (mvR (EL L) f t x X).2) ∧ L'.length ≤ L.length + 2 := by
  have H := Lib.hid h
  have HA := Lib.hid (And.intro hf ht)
  have HX := Lib.hid (And.intro hlen hx)
  obtain ⟨p, hp⟩ : ∃ p, p = balL L f := ⟨_, rfl⟩
  obtain ⟨q, hq⟩ : ∃ q, q = balL L t := ⟨_, rfl⟩
  have HP := Lib.hid (And.intro hp (And.intro (show p < M256 by rw [hp]; exact balL_lt h.ads f) (And.intro hq (show q < M256 by rw [hq]; exact balL_lt h.ads t))))
  have hstay : mvR (EL L) f t x = EL L → ∀ w', Tch [] w w' → ∃ L', DStep B bR lv L' w w' ∧ (∀ X, balL L' X = (mvR (EL L) f t x X).2) ∧ L'.length ≤ L.length + 2 := fun e w' hT => ⟨L, ⟨lv, h.call hT, PT.nil hT, fun j hj => .inl hj⟩, fun X => by rw [e]; rfl, by omega⟩
  have HS := Lib.hid hstay
  have HG := Lib.hid (fun A (hA : Ad A) u (hT : Tch [] w u) => rget_any B u bR lv L A (h.call hT) hA)
  have hlt : ∀ j, dfoot bR lv j → j < w.heap.size := fun j hj => (h.lt hj).2
  clear h hf ht hlen hx hp hq hstay
  have hS := St.start w
  go_enter Try.func10, Try.ntmps10
  go_upto_region 0 with (fail)
  try simp only [Act.put, List.setIfInBounds_toArray, List.set_cons_zero, List.set_cons_succ]
  refine wp_region_lit ?_
  refine st_box hS rfl 23 _ rfl rfl ?_; clear hS; intro w1 b1 hS; try simp only [Act.put, List.setIfInBounds_toArray, List.set_cons_zero, List.set_cons_succ]
  refine st_box hS rfl 23 _ rfl rfl ?_; clear hS; intro w2 b2 hS; try simp only [Act.put, List.setIfInBounds_toArray, List.set_cons_zero, List.set_cons_succ]
  refine st_box hS rfl 25 _ rfl rfl ?_; clear hS; intro w3 b3 hS; try simp only [Act.put, List.setIfInBounds_toArray, List.set_cons_zero, List.set_cons_succ]
  refine st_x (v := .bool false) rfl (x_val _ (.inr rfl) rfl) ?_; try simp only [Act.put, List.setIfInBounds_toArray, List.set_cons_zero, List.set_cons_succ]
  refine st_end14 ?_
  go_upto_region 1 with (fail)
  try simp only [Act.put, List.setIfInBounds_toArray, List.set_cons_zero, List.set_cons_succ]
  refine wp_region_lit ?_
  refine st_x (v := .pointer (some ⟨bR, 0, none⟩)) rfl (x_val _ (.inl rfl) rfl) ?_; try simp only [Act.put, List.setIfInBounds_toArray, List.set_cons_zero, List.set_cons_succ]
  refine st_x (v := .agg (av f)) rfl (x_ld _ rfl rfl (hS.get (.tail (.tail .head))) addr_tyY rfl (by rw [arrV_size]; exact addr_sizeY)) ?_; try simp only [Act.put, List.setIfInBounds_toArray, List.set_cons_zero, List.set_cons_succ]
  refine st_callS (args := #[.pointer (some ⟨bR, 0, none⟩), .agg (av f)]) rfl rfl (by simp only [List.map_toArray, List.map_cons, List.map_nil]; rfl) Try.call12 (HG.out f HA.out.1 _ hS.frame) ?_
  rintro e w4 ⟨rfl, hT4⟩
  refine ⟨_, rfl, ?_⟩
  try simp only [Act.put, List.setIfInBounds_toArray, List.set_cons_zero, List.set_cons_succ]
  rw [← HP.out.1]
  replace hS := hS.call hT4
  refine st_x (v := .agg (wcells p)) rfl (x_fld _ _ rfl rfl (fld_d2 _ _ _)) ?_; try simp only [Act.put, List.setIfInBounds_toArray, List.set_cons_zero, List.set_cons_succ]
  refine st_new hS rfl 25 rfl word_zeroS ?_; clear hS; intro w5 b9 hS; try simp only [Act.put, List.setIfInBounds_toArray, List.set_cons_zero, List.set_cons_succ]
  refine st_store (b := b9) (c' := wcells p) hS rfl 25 _ _ rfl rfl rfl .head wordN_size (wc_size _) (wc_size _) (wc_one _) ?_; clear hS; intro w6 hS; try simp only [Act.put, List.setIfInBounds_toArray, List.set_cons_zero, List.set_cons_succ]
  refine st_end14 ?_
  go_upto_region 2 with (fail)
  try simp only [Act.put, List.setIfInBounds_toArray, List.set_cons_zero, List.set_cons_succ]
  refine wp_region_lit ?_
  refine st_x (v := .pointer (some ⟨bR, 0, none⟩)) rfl (x_val _ (.inl rfl) rfl) ?_; try simp only [Act.put, List.setIfInBounds_toArray, List.set_cons_zero, List.set_cons_succ]
  refine st_x (v := .agg (av t)) rfl (x_ld _ rfl rfl (hS.get (.tail (.tail .head))) addr_tyY rfl (by rw [arrV_size]; exact addr_sizeY)) ?_; try simp only [Act.put, List.setIfInBounds_toArray, List.set_cons_zero, List.set_cons_succ]
  refine st_callS (args := #[.pointer (some ⟨bR, 0, none⟩), .agg (av t)]) rfl rfl (by simp only [List.map_toArray, List.map_cons, List.map_nil]; rfl) Try.call12 (HG.out t HA.out.2 _ hS.frame) ?_
  rintro e w7 ⟨rfl, hT7⟩
  refine ⟨_, rfl, ?_⟩
  try simp only [Act.put, List.setIfInBounds_toArray, List.set_cons_zero, List.set_cons_succ]
  rw [← HP.out.2.2.1]
  replace hS := hS.call hT7
  refine st_x (v := .agg (wcells q)) rfl (x_fld _ _ rfl rfl (fld_d2 _ _ _)) ?_; try simp only [Act.put, List.setIfInBounds_toArray, List.set_cons_zero, List.set_cons_succ]
  refine st_new hS rfl 25 rfl word_zeroS ?_; clear hS; intro w8 b10 hS; try simp only [Act.put, List.setIfInBounds_toArray, List.set_cons_zero, List.set_cons_succ]
  refine st_store (b := b10) (c' := wcells q) hS rfl 25 _ _ rfl rfl rfl .head wordN_size (wc_size _) (wc_size _) (wc_one _) ?_; clear hS; intro w9 hS; try simp only [Act.put, List.setIfInBounds_toArray, List.set_cons_zero, List.set_cons_succ]
  refine st_end14 ?_
  go_upto_region 3 with (fail)
  try simp only [Act.put, List.setIfInBounds_toArray, List.set_cons_zero, List.set_cons_succ]
  refine wp_region_lit ?_
  refine st_x (v := .agg (wcells p)) rfl (x_ld _ rfl rfl (hS.get (.tail .head)) wordN_type rfl (by rw [wc_size]; exact wordN_size)) ?_; try simp only [Act.put, List.setIfInBounds_toArray, List.set_cons_zero, List.set_cons_succ]
  refine st_x (v := .agg (wcells x)) rfl (x_ld _ rfl rfl (hS.get (.tail (.tail .head))) wordN_type rfl (by rw [wc_size]; exact wordN_size)) ?_; try simp only [Act.put, List.setIfInBounds_toArray, List.set_cons_zero, List.set_cons_succ]
  refine st_callS (args := #[.agg (wcells p), .agg (wcells x)]) rfl rfl (by simp only [List.map_toArray, List.map_cons, List.map_nil]; rfl) Try.call28 (rCmp_any p x HP.out.2.1 HX.out.2 _) ?_
  rintro e w10 ⟨rfl, hT10⟩
  refine ⟨_, rfl, ?_⟩
  try simp only [Act.put, List.setIfInBounds_toArray, List.set_cons_zero, List.set_cons_succ]
  replace hS := hS.call hT10
  by_cases h1 : p < x
  · have hd : decide (cmpN p x < 0) = true := by rw [cmpN_lt]; exact decide_eq_true h1
    have hR : mvOK (EL L) f t x = false := by unfold mvOK EL; rw [← HP.out.1]; exact decide_eq_false (fun h => by omega)
    have HR := Lib.hid hR
    clear h1 hR
    refine st_x (v := .bool true) rfl (x_lssI hd _ _ _ _ rfl rfl rfl) ?_; try simp only [Act.put, List.setIfInBounds_toArray, List.set_cons_zero, List.set_cons_succ]
    refine st_end14 ?_
    go_wp2
    go_ret
    rw [HR.out]
    exact ⟨rfl, HS.out (mvR_no HR.out) _ hS.frame⟩
  have hd : decide (cmpN p x < 0) = false := by rw [cmpN_lt]; exact decide_eq_false h1
  have H1 := Lib.hid (show x ≤ p by omega)
  clear h1
  refine st_x (v := .bool false) rfl (x_lssI hd _ _ _ _ rfl rfl rfl) ?_; try simp only [Act.put, List.setIfInBounds_toArray, List.set_cons_zero, List.set_cons_succ]
  refine st_end14 ?_
  clear hd
  go_upto_region 5 with (fail)
  try simp only [Act.put, List.setIfInBounds_toArray, List.set_cons_zero, List.set_cons_succ]
  refine wp_region_lit ?_
  refine st_x (v := .agg (av f)) rfl (x_ld _ rfl rfl (hS.get (.tail (.tail (.tail (.tail .head))))) addr_tyY rfl (by rw [arrV_size]; exact addr_sizeY)) ?_; try simp only [Act.put, List.setIfInBounds_toArray, List.set_cons_zero, List.set_cons_succ]
  refine st_x (v := .agg (av t)) rfl (x_ld _ rfl rfl (hS.get (.tail (.tail (.tail .head)))) addr_tyY rfl (by rw [arrV_size]; exact addr_sizeY)) ?_; try simp only [Act.put, List.setIfInBounds_toArray, List.set_cons_zero, List.set_cons_succ]
  by_cases h2 : f = t
  · have hR : mvOK (EL L) f t x = true := by unfold mvOK EL; rw [← HP.out.1]; exact decide_eq_true ⟨H1.out, .inl h2⟩
    have HR := Lib.hid (And.intro hR (show mvE (EL L) f t x = EL L from if_pos h2))
    have hd : decide (f = t) = true := decide_eq_true h2
    clear h2 hR
    refine st_x (v := .bool true) rfl (x_eqAv HA.out.1 HA.out.2 hd _ _ _ rfl rfl rfl) ?_; try simp only [Act.put, List.setIfInBounds_toArray, List.set_cons_zero, List.set_cons_succ]
    refine st_end14 ?_
    go_wp2
    go_ret
    rw [HR.out.1]
    exact ⟨rfl, HS.out ((mvR_yes HR.out.1).trans HR.out.2) _ hS.frame⟩
  have hd : decide (f = t) = false := decide_eq_false h2
  have H2 := Lib.hid h2
  clear h2
  refine st_x (v := .bool false) rfl (x_eqAv HA.out.1 HA.out.2 hd _ _ _ rfl rfl rfl) ?_; try simp only [Act.put, List.setIfInBounds_toArray, List.set_cons_zero, List.set_cons_succ]
  refine st_end14 ?_
  clear hd
  go_upto_region 7 with (fail)
  try simp only [Act.put, List.setIfInBounds_toArray, List.set_cons_zero, List.set_cons_succ]
  refine wp_region_lit ?_
  refine st_x (v := .agg (wcells q)) rfl (x_ld _ rfl rfl (hS.get .head) wordN_type rfl (by rw [wc_size]; exact wordN_size)) ?_; try simp only [Act.put, List.setIfInBounds_toArray, List.set_cons_zero, List.set_cons_succ]
  refine st_x (v := .agg (wcells x)) rfl (x_ld _ rfl rfl (hS.get (.tail (.tail .head))) wordN_type rfl (by rw [wc_size]; exact wordN_size)) ?_; try simp only [Act.put, List.setIfInBounds_toArray, List.set_cons_zero, List.set_cons_succ]
  refine st_callS (args := #[.agg (wcells q), .agg (wcells x)]) rfl rfl (by simp only [List.map_toArray, List.map_cons, List.map_nil]; rfl) Try.call29 (rAdd_any q x HP.out.2.2.2 HX.out.2 _) ?_
  rintro e w11 ⟨rfl, hT11⟩
  refine ⟨_, rfl, ?_⟩
  try simp only [Act.put, List.setIfInBounds_toArray, List.set_cons_zero, List.set_cons_succ]
  replace hS := hS.call hT11
  refine st_new hS rfl 25 rfl word_zeroS ?_; clear hS; intro w12 b11 hS; try simp only [Act.put, List.setIfInBounds_toArray, List.set_cons_zero, List.set_cons_succ]
  refine st_store (b := b11) (c' := wcells (wadd q x)) hS rfl 25 _ _ rfl rfl rfl .head wordN_size (wc_size _) (wc_size _) (wc_one _) ?_; clear hS; intro w13 hS; try simp only [Act.put, List.setIfInBounds_toArray, List.set_cons_zero, List.set_cons_succ]
  refine st_end14 ?_
  go_upto_region 8 with (fail)
  try simp only [Act.put, List.setIfInBounds_toArray, List.set_cons_zero, List.set_cons_succ]
  refine wp_region_lit ?_
  refine st_x (v := .agg (wcells (wadd q x))) rfl (x_ld _ rfl rfl (hS.get .head) wordN_type rfl (by rw [wc_size]; exact wordN_size)) ?_; try simp only [Act.put, List.setIfInBounds_toArray, List.set_cons_zero, List.set_cons_succ]
  refine st_x (v := .agg (wcells q)) rfl (x_ld _ rfl rfl (hS.get (.tail .head)) wordN_type rfl (by rw [wc_size]; exact wordN_size)) ?_; try simp only [Act.put, List.setIfInBounds_toArray, List.set_cons_zero, List.set_cons_succ]
  refine st_callS (args := #[.agg (wcells (wadd q x)), .agg (wcells q)]) rfl rfl (by simp only [List.map_toArray, List.map_cons, List.map_nil]; rfl) Try.call28 (rCmp_any (wadd q x) q (wadd_lt _ _) HP.out.2.2.2 _) ?_
  rintro e w14 ⟨rfl, hT14⟩
  refine ⟨_, rfl, ?_⟩
  try simp only [Act.put, List.setIfInBounds_toArray, List.set_cons_zero, List.set_cons_succ]
  replace hS := hS.call hT14
  by_cases h3 : wadd q x < q
  · have hd : decide (cmpN (wadd q x) q < 0) = true := by rw [cmpN_lt]; exact decide_eq_true h3
    have hR : mvOK (EL L) f t x = false := by unfold mvOK EL; rw [← HP.out.2.2.1]; exact decide_eq_false (fun h => h.2.elim H2.out ((wadd_lt_iff2 HP.out.2.2.2 HX.out.2).1 h3))
    have HR := Lib.hid hR
    clear h3 hR
    refine st_x (v := .bool true) rfl (x_lssI hd _ _ _ _ rfl rfl rfl) ?_; try simp only [Act.put, List.setIfInBounds_toArray, List.set_cons_zero, List.set_cons_succ]
    refine st_end14 ?_
    go_wp2
    go_ret
    rw [HR.out]
    exact ⟨rfl, HS.out (mvR_no HR.out) _ hS.frame⟩
  have hd : decide (cmpN (wadd q x) q < 0) = false := by rw [cmpN_lt]; exact decide_eq_false h3
  have hsum : q + x < M256 := Classical.byContradiction fun h => h3 ((wadd_lt_iff2 HP.out.2.2.2 HX.out.2).2 h)
  have H3 := Lib.hid hsum
  clear h3 hsum
  refine st_x (v := .bool false) rfl (x_lssI hd _ _ _ _ rfl rfl rfl) ?_; try simp only [Act.put, List.setIfInBounds_toArray, List.set_cons_zero, List.set_cons_succ]
  refine st_end14 ?_
  clear hd
  have hTw := hS.frame
  have n1 := hS.le (.tail (.tail (.tail (.tail (.tail .head)))))
  have n2 := hS.le (.tail (.tail (.tail (.tail .head))))
  have n3 := hS.le (.tail (.tail (.tail .head)))
  have n9 := hS.le (.tail (.tail .head))
  have n11 := hS.le .head
  have J1 : ∀ u, PT (dfoot bR lv) w14 u → Blk u b1 23 (av f) := fun u h => h.blk (hS.get (.tail (.tail (.tail (.tail (.tail .head)))))) (fun hj => by have := hlt b1 hj; omega)
  have J2 : ∀ u, PT (dfoot bR lv) w14 u → Blk u b2 23 (av t) := fun u h => h.blk (hS.get (.tail (.tail (.tail (.tail .head))))) (fun hj => by have := hlt b2 hj; omega)
  have J3 : ∀ u, PT (dfoot bR lv) w14 u → Blk u b3 25 (wcells x) := fun u h => h.blk (hS.get (.tail (.tail (.tail .head)))) (fun hj => by have := hlt b3 hj; omega)
  have J9 : ∀ u, PT (dfoot bR lv) w14 u → Blk u b9 25 (wcells p) := fun u h => h.blk (hS.get (.tail (.tail .head))) (fun hj => by have := hlt b9 hj; omega)
  have J11 : ∀ u, PT (dfoot bR lv) w14 u → Blk u b11 25 (wcells (wadd q x)) := fun u h => h.blk (hS.get .head) (fun hj => by have := hlt b11 hj; omega)
  clear hS
  go_upto_region 10 with (fail)
  try simp only [Act.put, List.setIfInBounds_toArray, List.set_cons_zero, List.set_cons_succ]
  refine wp_region_held_drew (S := fun w' => PT (dfoot bR lv) w14 w') (by kernel_rfl) (PT.nil ((Tch.refl _ _).drew)) (fun hD => ?_)
  have hTd : Tch [] w14 w14.drew := (Tch.refl [] w14).drew
  generalize World.drew w14 = v0 at hD hTd ⊢
  refine held_in (v := .pointer (some ⟨bR, 0, none⟩)) 0 rfl (by kernel_rfl) (by kernel_rfl) (by kernel_rfl) (fun _ _ _ h => h) hD rfl (fun w' hw' => x_val _ (.inl rfl) rfl) ?_; try simp only [Act.put, List.setIfInBounds_toArray, List.set_cons_zero, List.set_cons_succ]
  refine held_in (v := .agg (av f)) 1 rfl (by kernel_rfl) (by kernel_rfl) (by kernel_rfl) (fun _ _ _ h => h) hD rfl (fun w' hw' => x_ld _ rfl rfl (J1 _ hw') addr_tyY rfl (by rw [arrV_size]; exact addr_sizeY)) ?_; try simp only [Act.put, List.setIfInBounds_toArray, List.set_cons_zero, List.set_cons_succ]
  refine held_in (v := .agg (wcells p)) 2 rfl (by kernel_rfl) (by kernel_rfl) (by kernel_rfl) (fun _ _ _ h => h) hD rfl (fun w' hw' => x_ld _ rfl rfl (J9 _ hw') wordN_type rfl (by rw [wc_size]; exact wordN_size)) ?_; try simp only [Act.put, List.setIfInBounds_toArray, List.set_cons_zero, List.set_cons_succ]
  refine held_in (v := .agg (wcells x)) 3 rfl (by kernel_rfl) (by kernel_rfl) (by kernel_rfl) (fun _ _ _ h => h) hD rfl (fun w' hw' => x_ld _ rfl rfl (J3 _ hw') wordN_type rfl (by rw [wc_size]; exact wordN_size)) ?_; try simp only [Act.put, List.setIfInBounds_toArray, List.set_cons_zero, List.set_cons_succ]
  refine held_one 4 (by kernel_rfl) ?_
  refine held_callS (args := #[.agg (wcells p), .agg (wcells x)]) rfl rfl rfl (by simp only [List.map_toArray, List.map_cons, List.map_nil]; rfl) Try.call30 (rSub_any p x HP.out.2.1 HX.out.2 v0) ?_
  rintro e v1 ⟨rfl, hTv1⟩
  rw [wsub_eq_of HP.out.2.1 H1.out]
  refine ⟨_, rfl, hD.trans (PT.nil hTv1), ?_⟩
  try simp only [Act.put, List.setIfInBounds_toArray, List.set_cons_zero, List.set_cons_succ]
  refine held_one 5 (by kernel_rfl) ?_
  refine held_callS (args := #[.pointer (some ⟨bR, 0, none⟩), .agg (av f), .agg (wcells (p - x))]) rfl rfl rfl (by simp only [List.map_toArray, List.map_cons, List.map_nil]; rfl) Try.call8 (rsetBal_any B v1 bR lv L f (p - x) (H.out.call (hTw.trans (hTd.trans hTv1))) HA.out.1 (by have := HX.out.1; omega) (by have := HP.out.2.1; omega)) ?_
  rintro e v2 ⟨rfl, L1, ⟨lv1, g1, g2, g3⟩, hb1, hl1⟩
  have hD2 : PT (dfoot bR lv) w14 v2 := (PT.nil (hTd.trans hTv1)).trans g2
  refine ⟨_, rfl, hD2, ?_⟩
  try simp only [Act.put, List.setIfInBounds_toArray, List.set_cons_zero, List.set_cons_succ]
  refine wpAnyH_done (by kernel_rfl) ?_ _
  go_upto_region 11 with (fail)
  try simp only [Act.put, List.setIfInBounds_toArray, List.set_cons_zero, List.set_cons_succ]
  refine wp_region_lit ?_
  refine st_x (v := .pointer (some ⟨bR, 0, none⟩)) rfl (x_val _ (.inl rfl) rfl) ?_; try simp only [Act.put, List.setIfInBounds_toArray, List.set_cons_zero, List.set_cons_succ]
  refine st_x (v := .agg (av t)) rfl (x_ld _ rfl rfl (J2 _ hD2) addr_tyY rfl (by rw [arrV_size]; exact addr_sizeY)) ?_; try simp only [Act.put, List.setIfInBounds_toArray, List.set_cons_zero, List.set_cons_succ]
  refine st_x (v := .agg (wcells (wadd q x))) rfl (x_ld _ rfl rfl (J11 _ hD2) wordN_type rfl (by rw [wc_size]; exact wordN_size)) ?_; try simp only [Act.put, List.setIfInBounds_toArray, List.set_cons_zero, List.set_cons_succ]
  refine st_callS (args := #[.pointer (some ⟨bR, 0, none⟩), .agg (av t), .agg (wcells (wadd q x))]) rfl rfl (by simp only [List.map_toArray, List.map_cons, List.map_nil]; rfl) Try.call8 (rsetBal_any B v2 bR lv1 L1 t (wadd q x) g1 HA.out.2 (by have := HX.out.1; omega) (wadd_lt _ _)) ?_
  rintro e v3 ⟨rfl, L2, hst2, hb2, hl2⟩
  refine ⟨_, rfl, ?_⟩
  try simp only [Act.put, List.setIfInBounds_toArray, List.set_cons_zero, List.set_cons_succ]
  refine st_end14 ?_
  go_wp2
  go_ret
  have hR : mvOK (EL L) f t x = true := by unfold mvOK EL; rw [← HP.out.1, ← HP.out.2.2.1]; exact decide_eq_true ⟨H1.out, .inr H3.out⟩
  rw [hR]
  refine ⟨rfl, L2, ?_, fun X => ?_, by omega⟩
  · exact DStep.comp ((PT.nil hTw).trans hD2) (fun j hj => (g3 j hj).imp id (fun g => Nat.le_trans (Nat.le_trans hTw.size (hTd.trans hTv1).size) g)) hst2
  · rw [mvR_yes hR, hb2 X]
    unfold mvE EL upE
    rw [if_neg H2.out, wadd_eq_of H3.out]
    by_cases e1 : X = t
    · rw [if_pos e1, if_pos e1, ← HP.out.2.2.1]
    · rw [if_neg e1, if_neg e1, hb1 X]
      by_cases e2 : X = f
      · rw [if_pos e2, if_pos e2, ← HP.out.1]
      · rw [if_neg e2, if_neg e2]
end Go.Proofs.Ytklpcppdjcedpaa
