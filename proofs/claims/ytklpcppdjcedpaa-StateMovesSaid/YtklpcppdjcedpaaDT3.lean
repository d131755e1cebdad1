/- The document's states: at, SetBalance. -/
import Derived.Test.YtklpcppdjcedpaaDT2
namespace Go.Proofs.Ytklpcppdjcedpaa
open Go.RowKit Go.WideMaps Go.ChangeMaps Go.MapKept
set_option linter.unusedVariables false
set_option linter.unusedSimpArgs false
set_option maxRecDepth 100000
set_option maxHeartbeats 2000000
/-- The blocks of a state of the document. -/
def dfoot (bR : Nat) (lv : Value) (j : Nat) : Prop := j = bR ∨ lv.ownBlock = some j
theorem DocP.lt {B : Nat} {w : World} {bR : Nat} {lv : Value} {L : AL} (h : DocP B w bR lv L) {j : Nat} (hj : dfoot bR lv j) : B ≤ j ∧ j < w.heap.size := by
  rcases hj with rfl | hj
  · exact ⟨h.base, h.blk.lt⟩
  · exact h.own.lt j hj
/-- Where an account is; it is made if it isn't there. -/
def AtP (B : Nat) (bR : Nat) (lv : Value) (L : AL) (A : List Nat) (w : World) (e : Ending) (w' : World) : Prop :=
  ∃ g k cap L', e = .returned (.pointer (some ⟨g, k * 55, none⟩)) ∧ DocP B w' bR (.slice (some ⟨g, 0, none⟩) L'.length cap) L' ∧ (∃ hk : k < L'.length, L'[k] = (A, balL L A)) ∧ (∀ X, balL L' X = balL L X) ∧ L'.length ≤ L.length + 1 ∧
    PT (dfoot bR lv) w w' ∧ (lv.ownBlock = some g ∨ w.heap.size ≤ g)
theorem own_mono {w : World} {B B' e sz n : Nat} {v : Value} {xs : List Value} (h : w.ownsRow B e sz v n xs) (hB : B' ≤ B) : w.ownsRow B' e sz v n xs := by
  obtain ⟨h1, h2⟩ := h
  refine ⟨h1, h2.imp id ?_⟩
  rintro ⟨g, cap, cur, rfl, hg, h3⟩
  exact ⟨g, cap, cur, rfl, Nat.le_trans hB hg, h3⟩
theorem own_call {w w' : World} {B e sz n : Nat} {v : Value} {xs : List Value} {bs : List Nat} (h : w.ownsRow B e sz v n xs) (hT : Tch bs w w') (hb : ∀ g, v.ownBlock = some g → g ∉ bs) : w'.ownsRow B e sz v n xs := own_far h hT hb
theorem dcells_at {w : World} {g : Nat} {L : AL} (hc : ∀ k (hk : k < L.length), w.rangeAt g (k * 55) (dC L[k].1 L[k].2).toList) : ∀ j u, (dCells L)[j]? = some u → w.cell? ⟨g, j, none⟩ = some u := fun j u hu => by
  have hj : j < L.length * 55 := by have := (List.getElem?_eq_some_iff.1 hu).1; rw [dCells_len] at this; exact this
  obtain ⟨m, i, hi, rfl⟩ : ∃ m i, i < 55 ∧ j = m * 55 + i := ⟨j / 55, j % 55, Nat.mod_lt _ (by decide), by omega⟩
  have hm : m < L.length := Nat.lt_of_mul_lt_mul_right (Nat.lt_of_le_of_lt (Nat.le_add_right _ _) hj)
  rw [dCells_at L hm hi] at hu
  exact hc m hm i u (by rw [Array.getElem?_toList]; exact hu)
theorem dCells_takeD (L : AL) (k : Nat) : dCells L = dCells (L.take k) ++ dCells (L.drop k) := by rw [← dCells_app, List.take_append_drop]
theorem bld_accs1 (A : List Nat) (w : World) : (Instr.buildSlice 44 1 #[(0, .agg (dC A 0))]).run Try.prog w = .ok (.slice (some ⟨w.heap.size, 0, none⟩) 1 1) (w.alloc (.cells (dC A 0) 37)) := by kernel_rfl
section
variable {a : Act} {w : World} {o : Oper} {Q : Exit → Act → World → Prop} {l0 : List Oper}
theorem held_bldD {n : Nat} {K : Act → World → Prop} {A : List Nat} {x1 : Operand} (ho : l0[n]? = some o) (hw : Region.wanted o (yielded l0.toArray a.tmps) = true) (hop : o.op = .buildSlice 44 1 #[(0, x1)]) (h1 : a.eval x1 = .agg (dC A 0))
    (h : ∀ w' b, Tch [] w w' → Blk w' b 37 (dC A 0) → b = w.heap.size → K (a.put o.dst (.slice (some ⟨b, 0, none⟩) 1 1)) w') : wpOp Try.prog l0.toArray Q n K a w := by
  have hr : (execOp a.eval o).run Try.prog w = .ok (.value (.slice (some ⟨w.heap.size, 0, none⟩) 1 1)) (w.alloc (.cells (dC A 0) 37)) := by
    have := bld_accs1 A w
    unfold execOp
    simp only [hop, List.map_toArray, List.map_cons, List.map_nil, h1, Sem.run_bind, this, Result.andThen_ok, Sem.run_pure]
  exact held_run ho hw hr (h _ _ ((Tch.refl _ _).alloc _) (heap_alloc_new w _) rfl)
end
theorem drop_cells {w : World} {g k : Nat} {L : AL} (hall : ∀ j u, (dCells L)[j]? = some u → w.cell? ⟨g, j, none⟩ = some u) (hk : k ≤ L.length) : ∀ j u, (dCells (L.drop k))[j]? = some u → w.cell? ⟨g, k * 55 + j, none⟩ = some u := fun j u hu => by
  refine hall _ _ ?_
  rw [dCells_takeD L k, List.getElem?_append_right (by rw [dCells_len, List.length_take, Nat.min_eq_left hk]; omega), dCells_len, List.length_take, Nat.min_eq_left hk, show k * 55 + j - k * 55 = j by omega]
  exact hu
theorem take_cells {w : World} {g k : Nat} {L : AL} (hall : ∀ j u, (dCells L)[j]? = some u → w.cell? ⟨g, j, none⟩ = some u) (hk : k ≤ L.length) : ∀ j u, (dCells (L.take k))[j]? = some u → w.cell? ⟨g, 0 + j, none⟩ = some u := fun j u hu => by
  rw [Nat.zero_add]
  refine hall _ _ ?_
  rw [dCells_takeD L k, List.getElem?_append_left (by have := (List.getElem?_eq_some_iff.1 hu).1; exact this)]
  exact hu
theorem own_cellsD {w : World} {B n : Nat} {v : Value} {M : AL} (h : w.ownsRow B 37 55 v n (dCells M)) (hn : n = M.length) : ∃ p c, v = .slice p M.length c ∧ (M ≠ [] → ∃ g o, p = some ⟨g, o, none⟩ ∧ ∀ j u, (dCells M)[j]? = some u → w.cell? ⟨g, o + j, none⟩ = some u) := by
  subst hn
  obtain ⟨_, h2⟩ := h
  rcases h2 with ⟨rfl, h0⟩ | ⟨g, cap, cur, rfl, hg, hb, hn, hc, hsz, htk⟩
  · rw [h0]
    exact ⟨none, 0, rfl, fun hne => absurd (List.eq_nil_of_length_eq_zero h0) hne⟩
  · refine ⟨_, _, rfl, fun _ => ⟨g, 0, rfl, fun j u hu => ?_⟩⟩
    rw [← htk, List.getElem?_take] at hu
    split at hu
    · rw [Array.getElem?_toList] at hu
      rw [Nat.zero_add]
      exact Blk.cell (show Blk w g 37 cur from hb) hu
    · cases hu
theorem at_made (B : Nat) (w w3 w4 u w5 : World) (bR k c : Nat) (p : Option Addr) (v13 : Value) (L : AL) (A : List Nat) (h : DocP B w bR (.slice p L.length c) L) (hA : Ad A) (hk : k ≤ L.length) (h1 : ∀ j (h : j < k) (h' : j < L.length), aLt L[j].1 A) (h2 : ∀ j (h : j < L.length), k ≤ j → aLt A L[j].1) (hlen : L.length < 900000)
    (hT4 : Tch [] w w4) (hTu : Tch [] w4 u) (hown : u.ownsRow w4.heap.size 37 55 v13 (L.take k ++ (A, 0) :: L.drop k).length (dCells (L.take k ++ (A, 0) :: L.drop k))) (hO : Only bR u w5) (hB5 : Blk w5 bR 54 #[v13, .slice none 0 0, .int .i64 0]) :
    ∃ g cap, v13 = .slice (some ⟨g, 0, none⟩) (L.take k ++ (A, 0) :: L.drop k).length cap ∧ k < (L.take k ++ (A, 0) :: L.drop k).length ∧ ∀ w6, Tch [] w5 w6 → AtP B bR (.slice p L.length c) L A w (.returned (.pointer (some ⟨g, k * 55, none⟩))) w6 := by
  obtain ⟨g, cap, rfl, hg, hgl⟩ := hown.form (by rw [List.length_append, List.length_cons]; omega)
  have hkl : k < (L.take k ++ (A, 0) :: L.drop k).length := by rw [List.length_append, List.length_take, List.length_cons, Nat.min_eq_left hk]; omega
  refine ⟨g, cap, rfl, hkl, fun w6 hT6 => ⟨g, k, cap, _, rfl, ?_, ⟨hkl, ?_⟩, balL_ins L A k hk (fun q hq e => ?_), ?_, ?_, .inr ?_⟩⟩
  · have hbR := h.blk.lt
    have hne : g ≠ bR := by have := hT4.size; omega
    have hD : DocP B w5 bR (.slice (some ⟨g, 0, none⟩) (L.take k ++ (A, 0) :: L.drop k).length cap) (L.take k ++ (A, 0) :: L.drop k) := by
      refine ⟨hB5, own_mono (own_call hown (bs := [bR]) ⟨hO.os, hO.tape, hO.output, Nat.le_of_eq hO.size.symm, fun j _ hj => hO.block j (fun e => hj (by rw [e]; simp))⟩ (fun g' e hm => by cases e; rw [List.mem_singleton] at hm; exact hne hm)) (Nat.le_trans h.base (Nat.le_trans (Nat.le_of_lt hbR) hT4.size)), fun e => hne (by cases e; rfl), h.base, fun q hq => ?_, sorted_ins L A k hk h.sorted (fun j hj => h1 j hj _) h2, ?_⟩
      · rcases List.mem_append.1 hq with hq | hq
        · exact h.ads q (List.mem_of_mem_take hq)
        · rcases List.mem_cons.1 hq with rfl | hq
          · exact ⟨hA, M256_pos⟩
          · exact h.ads q (List.mem_of_mem_drop hq)
      · rw [List.length_append, List.length_take, List.length_cons, List.length_drop]; omega
    exact hD.call hT6
  · have hb0 : balL L A = 0 := balL_none L A fun j hj e => by
      rcases Nat.lt_or_ge j k with h3 | h3
      · have := h1 j h3 hj; rw [e] at this; exact aLt_irrefl _ this
      · have := h2 j hj h3; rw [e] at this; exact aLt_irrefl _ this
    rw [hb0]
    rw [List.getElem_append_right (by rw [List.length_take]; omega)]
    simp [Nat.min_eq_left hk]
  · obtain ⟨j, hj, rfl⟩ := List.mem_iff_getElem.1 hq
    rcases Nat.lt_or_ge j k with h3 | h3
    · have := h1 j h3 hj; rw [e] at this; exact aLt_irrefl _ this
    · have := h2 j hj h3; rw [e] at this; exact aLt_irrefl _ this
  · rw [List.length_append, List.length_take, List.length_cons, List.length_drop]; omega
  · have hP : PT (dfoot bR (.slice p L.length c)) u w5 := ⟨hO.os, hO.tape, hO.output, Nat.le_of_eq hO.size.symm, fun j _ hj => hO.block j (fun e => hj (.inl e))⟩
    exact (PT.nil (hT4.trans hTu)).trans (hP.trans (PT.nil hT6))
  · have := hT4.size; omega
theorem one_size_accs : (Try.prog.info? 44).map (·.size) = some 1 := by kernel_rfl
theorem at_found (B : Nat) (w w' : World) (bR g k c : Nat) (L : AL) (A : List Nat) (h : DocP B w bR (.slice (some ⟨g, 0, none⟩) L.length c) L) (hT : Tch [] w w') (hk : k < L.length) (hA : L[k].1 = A) : AtP B bR (.slice (some ⟨g, 0, none⟩) L.length c) L A w (.returned (.pointer (some ⟨g, k * 55, none⟩))) w' := by
  refine ⟨g, k, c, L, rfl, h.call hT, ⟨hk, ?_⟩, fun _ => rfl, Nat.le_succ _, PT.nil hT, .inl rfl⟩
  have hb : balL L A = L[k].2 := balL_at L A k hk (fun j hj e => by
    have h1 := List.pairwise_iff_getElem.1 h.sorted j k (by omega) hk hj
    rw [e, hA] at h1
    exact aLt_irrefl _ h1) hA
  rw [hb, ← hA]
theorem at_anyD (B : Nat) (w : World) (bR : Nat) (lv : Value) (L : AL) (A : List Nat) (h : DocP B w bR lv L) (hA : Ad A) (hlen : L.length < 900000) :
    Calls Try.prog 24 #[.pointer (some ⟨bR, 0, none⟩), .agg (av A)] w (AtP B bR lv L A w) := by
  have H := Lib.hid h
  have HA := Lib.hid hA
  have HL := Lib.hid hlen
  obtain ⟨p, c, hlv, hcap, hrow⟩ := h.slice
  have HR := Lib.hid hrow
  obtain ⟨n, hn⟩ : ∃ n, n = L.length := ⟨_, rfl⟩
  have HN := Lib.hid hn
  have HLV := Lib.hid hlv
  rw [hlv]
  rw [← hn] at hcap
  have hBR := h.blk
  rw [hlv, ← hn] at hBR
  have HC := Lib.hid hcap
  clear h hA hrow hcap hlen hlv
  have HP : ∃ P : Ending → World → Prop, P = AtP B bR (.slice p L.length c) L A w := ⟨_, rfl⟩
  obtain ⟨P, hP⟩ := HP
  rw [← hP]
  have HPP := Lib.hid hP
  clear hP
  have hS := St.start w
  go_enter Try.func24, Try.ntmps24
  go_wp2_with (first
    | (refine st_box (L := []) hS rfl 23 _ rfl rfl ?_; clear hS; intro w1 b3 hS))
  go_loopw [5] (fun i wr => ∃ k : Nat, i = .int .i64 (k : Int) ∧ k ≤ n ∧ Hid (∀ j (h : j < k) (h' : j < L.length), aLt L[j].1 A) ∧ St [] w wr [(b3, 23, av A)]) (fun i _ => n - (intOf i).toNat)
  case atStart => exact ⟨0, rfl, Nat.zero_le _, Lib.hid (fun j h => by omega), hS⟩
  case round =>
    clear hS
    obtain ⟨k, rfl, hkn, HK, hS⟩ := hrel
    have hT := hS.frame
    have hB : ∀ u, Tch [] wr u → Blk u bR 54 #[.slice p n c, .slice none 0 0, .int .i64 0] := fun u hu => (hT.trans hu).blk hBR (by simp)
    have F3 : ∀ u, Tch [] wr u → Blk u b3 23 (av A) := fun u hu => hu.blk (hS.get .head) (by simp)
    have hDr := hS.drew
    go_upto_region 2 with (fail)
    try simp only [Act.put, List.setIfInBounds_toArray, List.set_cons_zero, List.set_cons_succ]
    refine k_region (C := fun w' => Tch [] wr w') (by kernel_rfl) (by kernel_rfl) ((Tch.refl _ _).drew) ?_
    refine k_in (v := .int .i64 (k : Int)) rfl (fun w' hw' => x_val _ (.inl rfl) rfl) ?_; try simp only [Act.put, List.setIfInBounds_toArray, List.set_cons_zero, List.set_cons_succ]
    refine k_in (v := .pointer (some ⟨bR, 0, none⟩)) rfl (fun w' hw' => x_val _ (.inl rfl) rfl) ?_; try simp only [Act.put, List.setIfInBounds_toArray, List.set_cons_zero, List.set_cons_succ]
    refine k_in (v := .pointer (some ⟨bR, 0, none⟩)) rfl (fun w' hw' => x_nilck _ rfl rfl) ?_; try simp only [Act.put, List.setIfInBounds_toArray, List.set_cons_zero, List.set_cons_succ]
    refine k_in (v := .pointer (some ⟨bR, 0, none⟩)) rfl (fun w' hw' => x_fa _ _ _ rfl rfl (fa_r0 _ _)) ?_; try simp only [Act.put, List.setIfInBounds_toArray, List.set_cons_zero, List.set_cons_succ]
    refine k_in (v := .slice p n c) rfl (fun w' hw' => x_cell _ _ rfl rfl ((hB _ hw').cell rfl) accs_agg) ?_; try simp only [Act.put, List.setIfInBounds_toArray, List.set_cons_zero, List.set_cons_succ]
    refine k_in (v := .int .i64 (n : Int)) rfl (fun w' hw' => x_lenA _ rfl rfl) ?_; try simp only [Act.put, List.setIfInBounds_toArray, List.set_cons_zero, List.set_cons_succ]
    by_cases hlt : k < n
    · have hd : decide ((k : Int) < (n : Int)) = true := decide_eq_true (by omega)
      have hkL : k < L.length := by have := HN.out; omega
      obtain ⟨g, rfl, hgne, hglt, hcs⟩ := HR.out (fun e => by rw [e] at hkL; simp at hkL)
      have hck := hcs k hkL
      have hcu : ∀ u, Tch [] wr u → u.rangeAt g (k * 55) (dC L[k].1 L[k].2).toList := fun u hu => range_tch hck hglt (hT.trans hu)
      obtain ⟨Y, hY⟩ : ∃ Y, Y = L[k].1 := ⟨_, rfl⟩
      obtain ⟨y, hy⟩ : ∃ y, y = L[k].2 := ⟨_, rfl⟩
      have hYA : Ad Y := by rw [hY]; exact (H.out.ads _ (List.getElem_mem hkL)).1
      rw [← hY, ← hy] at hcu
      have hry : ∀ u, Tch [] wr u → RdB u (.slice (some ⟨g, 0 + k * 55, none⟩) 20 20) Y := fun u hu => by rw [Nat.zero_add]; exact RdB_av hYA (Nat.lt_of_lt_of_le hglt (hT.trans hu).size) (dC_rangeA (hcu u hu))
      have hra : ∀ u, Tch [] wr u → RdB u (.slice (some ⟨b3, 0, none⟩) 20 20) A := fun u hu => RdB_av HA.out (F3 u hu).lt (blk_range0 (F3 u hu))
      have HY := Lib.hid (And.intro hY hy)
      clear hcs hck hY hy
      refine k_in (v := .bool true) rfl (fun w' hw' => x_lssI hd _ _ _ _ rfl rfl rfl) ?_; try simp only [Act.put, List.setIfInBounds_toArray, List.set_cons_zero, List.set_cons_succ]
      refine k_in (v := .bool true) rfl (fun w' hw' => x_val _ (.inl rfl) rfl) ?_; try simp only [Act.put, List.setIfInBounds_toArray, List.set_cons_zero, List.set_cons_succ]
      refine k_in (v := .pointer (some ⟨bR, 0, none⟩)) rfl (fun w' hw' => x_val _ (.inl rfl) rfl) ?_; try simp only [Act.put, List.setIfInBounds_toArray, List.set_cons_zero, List.set_cons_succ]
      refine k_in (v := .pointer (some ⟨bR, 0, none⟩)) rfl (fun w' hw' => x_nilck _ rfl rfl) ?_; try simp only [Act.put, List.setIfInBounds_toArray, List.set_cons_zero, List.set_cons_succ]
      refine k_in (v := .pointer (some ⟨bR, 0, none⟩)) rfl (fun w' hw' => x_fa _ _ _ rfl rfl (fa_r0 _ _)) ?_; try simp only [Act.put, List.setIfInBounds_toArray, List.set_cons_zero, List.set_cons_succ]
      refine k_in (v := .slice (some ⟨g, 0, none⟩) n c) rfl (fun w' hw' => x_cell _ _ rfl rfl ((hB _ hw').cell rfl) accs_agg) ?_; try simp only [Act.put, List.setIfInBounds_toArray, List.set_cons_zero, List.set_cons_succ]
      refine k_in (v := .int .i64 (k : Int)) rfl (fun w' hw' => x_val _ (.inl rfl) rfl) ?_; try simp only [Act.put, List.setIfInBounds_toArray, List.set_cons_zero, List.set_cons_succ]
      refine k_in (v := .pointer (some ⟨g, 0 + k * 55, none⟩)) rfl (fun w' hw' => x_idxS _ _ rfl rfl rfl accts_tyY acct_sizeY hlt) ?_; try simp only [Act.put, List.setIfInBounds_toArray, List.set_cons_zero, List.set_cons_succ]
      refine k_in (v := .pointer (some ⟨g, 0 + k * 55, none⟩)) rfl (fun w' hw' => x_fa _ _ _ rfl rfl (fa_d0 _ _ _)) ?_; try simp only [Act.put, List.setIfInBounds_toArray, List.set_cons_zero, List.set_cons_succ]
      refine k_in (v := .slice (some ⟨g, 0 + k * 55, none⟩) 20 20) rfl (fun w' hw' => x_slAd _ rfl rfl) ?_; try simp only [Act.put, List.setIfInBounds_toArray, List.set_cons_zero, List.set_cons_succ]
      refine k_in (v := .string (strB Y)) rfl (fun w' hw' => x_convS _ rfl rfl (hry _ hw')) ?_; try simp only [Act.put, List.setIfInBounds_toArray, List.set_cons_zero, List.set_cons_succ]
      refine k_in (v := .slice (some ⟨b3, 0, none⟩) 20 20) rfl (fun w' hw' => x_slAd _ rfl rfl) ?_; try simp only [Act.put, List.setIfInBounds_toArray, List.set_cons_zero, List.set_cons_succ]
      refine k_in (v := .string (strB A)) rfl (fun w' hw' => x_convS _ rfl rfl (hra _ hw')) ?_; try simp only [Act.put, List.setIfInBounds_toArray, List.set_cons_zero, List.set_cons_succ]
      by_cases he : aLt Y A
      · have hd2 : decide (aLt Y A) = true := decide_eq_true he
        have HE := Lib.hid he
        clear he
        refine k_in (v := .bool true) rfl (fun w' hw' => x_strLt hYA.2 HA.out.2 hd2 _ _ _ rfl rfl rfl) ?_; try simp only [Act.put, List.setIfInBounds_toArray, List.set_cons_zero, List.set_cons_succ]
        refine k_in (v := .bool true) rfl (fun w' hw' => x_pickS (c := true) rfl _ _ _ rfl rfl rfl rfl) ?_; try simp only [Act.put, List.setIfInBounds_toArray, List.set_cons_zero, List.set_cons_succ]
        refine k_end ?_
        intro w2 hw2
        clear hd hd2
        go_upto_region 3 with (fail)
        try simp only [Act.put, List.setIfInBounds_toArray, List.set_cons_zero, List.set_cons_succ]
        refine wp_region_lit ?_
        refine st_x (v := .int .i64 (k : Int)) rfl (x_val _ (.inl rfl) rfl) ?_; try simp only [Act.put, List.setIfInBounds_toArray, List.set_cons_zero, List.set_cons_succ]
        refine st_x (v := .int .i64 ((k + 1 : Nat) : Int)) rfl (x_addI (by have := HL.out; have := HN.out; rw [IntKind.wrap_i64]; omega) _ _ _ _ rfl rfl rfl) ?_; try simp only [Act.put, List.setIfInBounds_toArray, List.set_cons_zero, List.set_cons_succ]
        refine st_x (v := .int .i64 ((k + 1 : Nat) : Int)) rfl (x_val _ (.inr rfl) rfl) ?_; try simp only [Act.put, List.setIfInBounds_toArray, List.set_cons_zero, List.set_cons_succ]
        refine st_end14 ?_
        go_wp2
        go_roundw
        case rel => exact ⟨k + 1, rfl, hlt, Lib.hid (fun j hj hj' => by
          by_cases e : j = k
          · subst e; rw [← HY.out.1]; exact HE.out
          · exact HK.out j (by omega) hj'), hS.call hw2⟩
        case measure => simp [intOf]; omega
      · have hd2 : decide (aLt Y A) = false := decide_eq_false he
        have HE := Lib.hid he
        clear he
        refine k_in (v := .bool false) rfl (fun w' hw' => x_strLt hYA.2 HA.out.2 hd2 _ _ _ rfl rfl rfl) ?_; try simp only [Act.put, List.setIfInBounds_toArray, List.set_cons_zero, List.set_cons_succ]
        refine k_in (v := .bool false) rfl (fun w' hw' => x_pickS (c := true) rfl _ _ _ rfl rfl rfl rfl) ?_; try simp only [Act.put, List.setIfInBounds_toArray, List.set_cons_zero, List.set_cons_succ]
        refine k_end ?_
        intro w2 hw2
        clear hd hd2
        go_upto_region 4 with (fail)
        try simp only [Act.put, List.setIfInBounds_toArray, List.set_cons_zero, List.set_cons_succ]
        refine k_region (C := fun w' => Tch [] wr w') (by kernel_rfl) (by kernel_rfl) (hw2.drew) ?_
        refine k_in (v := .int .i64 (k : Int)) rfl (fun w' hw' => x_val _ (.inl rfl) rfl) ?_; try simp only [Act.put, List.setIfInBounds_toArray, List.set_cons_zero, List.set_cons_succ]
        refine k_in (v := .pointer (some ⟨bR, 0, none⟩)) rfl (fun w' hw' => x_val _ (.inl rfl) rfl) ?_; try simp only [Act.put, List.setIfInBounds_toArray, List.set_cons_zero, List.set_cons_succ]
        refine k_in (v := .pointer (some ⟨bR, 0, none⟩)) rfl (fun w' hw' => x_nilck _ rfl rfl) ?_; try simp only [Act.put, List.setIfInBounds_toArray, List.set_cons_zero, List.set_cons_succ]
        refine k_in (v := .pointer (some ⟨bR, 0, none⟩)) rfl (fun w' hw' => x_fa _ _ _ rfl rfl (fa_r0 _ _)) ?_; try simp only [Act.put, List.setIfInBounds_toArray, List.set_cons_zero, List.set_cons_succ]
        refine k_in (v := .slice (some ⟨g, 0, none⟩) n c) rfl (fun w' hw' => x_cell _ _ rfl rfl ((hB _ hw').cell rfl) accs_agg) ?_; try simp only [Act.put, List.setIfInBounds_toArray, List.set_cons_zero, List.set_cons_succ]
        refine k_in (v := .int .i64 (n : Int)) rfl (fun w' hw' => x_lenA _ rfl rfl) ?_; try simp only [Act.put, List.setIfInBounds_toArray, List.set_cons_zero, List.set_cons_succ]
        have hkne : ((k : Int) == (n : Int)) = false := by simp; omega
        refine k_in (v := .bool false) rfl (fun w' hw' => x_eqI hkne _ _ _ rfl rfl rfl) ?_; try simp only [Act.put, List.setIfInBounds_toArray, List.set_cons_zero, List.set_cons_succ]
        refine k_in (v := .bool false) rfl (fun w' hw' => x_val _ (.inl rfl) rfl) ?_; try simp only [Act.put, List.setIfInBounds_toArray, List.set_cons_zero, List.set_cons_succ]
        refine k_in (v := .pointer (some ⟨bR, 0, none⟩)) rfl (fun w' hw' => x_val _ (.inl rfl) rfl) ?_; try simp only [Act.put, List.setIfInBounds_toArray, List.set_cons_zero, List.set_cons_succ]
        refine k_in (v := .pointer (some ⟨bR, 0, none⟩)) rfl (fun w' hw' => x_nilck _ rfl rfl) ?_; try simp only [Act.put, List.setIfInBounds_toArray, List.set_cons_zero, List.set_cons_succ]
        refine k_in (v := .pointer (some ⟨bR, 0, none⟩)) rfl (fun w' hw' => x_fa _ _ _ rfl rfl (fa_r0 _ _)) ?_; try simp only [Act.put, List.setIfInBounds_toArray, List.set_cons_zero, List.set_cons_succ]
        refine k_in (v := .slice (some ⟨g, 0, none⟩) n c) rfl (fun w' hw' => x_cell _ _ rfl rfl ((hB _ hw').cell rfl) accs_agg) ?_; try simp only [Act.put, List.setIfInBounds_toArray, List.set_cons_zero, List.set_cons_succ]
        refine k_in (v := .int .i64 (k : Int)) rfl (fun w' hw' => x_val _ (.inl rfl) rfl) ?_; try simp only [Act.put, List.setIfInBounds_toArray, List.set_cons_zero, List.set_cons_succ]
        refine k_in (v := .pointer (some ⟨g, 0 + k * 55, none⟩)) rfl (fun w' hw' => x_idxS _ _ rfl rfl rfl accts_tyY acct_sizeY hlt) ?_; try simp only [Act.put, List.setIfInBounds_toArray, List.set_cons_zero, List.set_cons_succ]
        refine k_in (v := .pointer (some ⟨g, 0 + k * 55, none⟩)) rfl (fun w' hw' => x_fa _ _ _ rfl rfl (fa_d0 _ _ _)) ?_; try simp only [Act.put, List.setIfInBounds_toArray, List.set_cons_zero, List.set_cons_succ]
        refine k_in (v := .agg (av Y)) rfl (fun w' hw' => x_ldMid _ rfl rfl (by rw [Nat.zero_add]; exact dC_rangeA (hcu _ hw')) addr_tyY rfl (by rw [arrV_size]; exact addr_sizeY)) ?_; try simp only [Act.put, List.setIfInBounds_toArray, List.set_cons_zero, List.set_cons_succ]
        refine k_in (v := .agg (av A)) rfl (fun w' hw' => x_ld _ rfl rfl (F3 _ hw') addr_tyY rfl (by rw [arrV_size]; exact addr_sizeY)) ?_; try simp only [Act.put, List.setIfInBounds_toArray, List.set_cons_zero, List.set_cons_succ]
        by_cases he : Y = A
        · have hd3 : decide (Y = A) = true := decide_eq_true he
          have HQ := Lib.hid he
          clear he
          refine k_in (v := .bool (!true)) rfl (fun w' hw' => x_neAv hYA HA.out hd3 _ _ _ rfl rfl rfl) ?_; try simp only [Act.put, List.setIfInBounds_toArray, List.set_cons_zero, List.set_cons_succ]
          refine k_in (v := .bool false) rfl (fun w' hw' => x_pickS (c := false) rfl _ _ _ rfl rfl rfl rfl) ?_; try simp only [Act.put, List.setIfInBounds_toArray, List.set_cons_zero, List.set_cons_succ]
          refine k_end ?_
          intro w3 hw3
          clear hd3 hkne
          go_upto_region 7 with (fail)
          try simp only [Act.put, List.setIfInBounds_toArray, List.set_cons_zero, List.set_cons_succ]
          refine wp_region_lit ?_
          refine st_x (v := .pointer (some ⟨bR, 0, none⟩)) rfl (x_val _ (.inl rfl) rfl) ?_; try simp only [Act.put, List.setIfInBounds_toArray, List.set_cons_zero, List.set_cons_succ]
          refine st_x (v := .pointer (some ⟨bR, 0, none⟩)) rfl (x_nilck _ rfl rfl) ?_; try simp only [Act.put, List.setIfInBounds_toArray, List.set_cons_zero, List.set_cons_succ]
          refine st_x (v := .pointer (some ⟨bR, 0, none⟩)) rfl (x_fa _ _ _ rfl rfl (fa_r0 _ _)) ?_; try simp only [Act.put, List.setIfInBounds_toArray, List.set_cons_zero, List.set_cons_succ]
          refine st_x (v := .slice (some ⟨g, 0, none⟩) n c) rfl (x_cell _ _ rfl rfl ((hB _ hw3).cell rfl) accs_agg) ?_; try simp only [Act.put, List.setIfInBounds_toArray, List.set_cons_zero, List.set_cons_succ]
          refine st_x (v := .int .i64 (k : Int)) rfl (x_val _ (.inl rfl) rfl) ?_; try simp only [Act.put, List.setIfInBounds_toArray, List.set_cons_zero, List.set_cons_succ]
          refine st_x (v := .pointer (some ⟨g, 0 + k * 55, none⟩)) rfl (x_idxS _ _ rfl rfl rfl accts_tyY acct_sizeY hlt) ?_; try simp only [Act.put, List.setIfInBounds_toArray, List.set_cons_zero, List.set_cons_succ]
          refine st_x (v := .pointer (some ⟨g, 0 + k * 55, none⟩)) rfl (x_val _ (.inr rfl) rfl) ?_; try simp only [Act.put, List.setIfInBounds_toArray, List.set_cons_zero, List.set_cons_succ]
          refine st_end14 ?_
          go_wp2
          show P (.returned (.pointer (some ⟨g, 0 + k * 55, none⟩))) w3
          rw [HPP.out, Nat.zero_add]
          exact at_found B w w3 bR g k c L A (by have := H.out; rwa [HLV.out] at this) (hT.trans hw3) hkL (HY.out.1.symm.trans HQ.out)
        · have hd3 : decide (Y = A) = false := decide_eq_false he
          have HQ := Lib.hid he
          clear he
          refine k_in (v := .bool (!false)) rfl (fun w' hw' => x_neAv hYA HA.out hd3 _ _ _ rfl rfl rfl) ?_; try simp only [Act.put, List.setIfInBounds_toArray, List.set_cons_zero, List.set_cons_succ]
          refine k_in (v := .bool true) rfl (fun w' hw' => x_pickS (c := false) rfl _ _ _ rfl rfl rfl rfl) ?_; try simp only [Act.put, List.setIfInBounds_toArray, List.set_cons_zero, List.set_cons_succ]
          refine k_end ?_
          intro w3 hw3
          clear hd3 hkne
          have hins : ∀ j (h : j < L.length), k ≤ j → aLt A L[j].1 := sorted_from L A k H.out.sorted (fun hh => by
            rw [← HY.out.1]
            exact ((aLt_total A Y).resolve_right (fun h => h.elim (fun e => HQ.out e.symm) HE.out)))
          have hT3 := hT.trans hw3
          have hkL2 : k ≤ L.length := by have := HN.out; omega
          have hall : L ≠ [] → ∃ G0, (some ⟨g, 0, none⟩ : Option Addr) = some ⟨G0, 0, none⟩ ∧ G0 < w.heap.size ∧ ∀ j u, (dCells L)[j]? = some u → w.cell? ⟨G0, j, none⟩ = some u := fun hne => (HR.out hne).imp fun G0 h => ⟨h.1, h.2.2.1, dcells_at h.2.2.2⟩
          obtain ⟨p', c', hsl, hp'⟩ := slice_fromD (some ⟨g, 0, none⟩) n c k hkn HC.out
          have hdl : n - k = (L.drop k).length := by rw [List.length_drop, ← HN.out]
          rw [hdl] at hsl
          go_upto_region 5 with (fail)
          try simp only [Act.put, List.setIfInBounds_toArray, List.set_cons_zero, List.set_cons_succ]
          refine wp_region_lit ?_
          refine st_x (v := .pointer (some ⟨bR, 0, none⟩)) rfl (x_val _ (.inl rfl) rfl) ?_; try simp only [Act.put, List.setIfInBounds_toArray, List.set_cons_zero, List.set_cons_succ]
          refine st_x (v := .pointer (some ⟨bR, 0, none⟩)) rfl (x_nilck _ rfl rfl) ?_; try simp only [Act.put, List.setIfInBounds_toArray, List.set_cons_zero, List.set_cons_succ]
          refine st_x (v := .pointer (some ⟨bR, 0, none⟩)) rfl (x_fa _ _ _ rfl rfl (fa_r0 _ _)) ?_; try simp only [Act.put, List.setIfInBounds_toArray, List.set_cons_zero, List.set_cons_succ]
          refine st_x (v := .slice (some ⟨g, 0, none⟩) n c) rfl (x_cell _ _ rfl rfl ((hB _ hw3).cell rfl) accs_agg) ?_; try simp only [Act.put, List.setIfInBounds_toArray, List.set_cons_zero, List.set_cons_succ]
          refine st_x (v := .int .i64 (k : Int)) rfl (x_val _ (.inl rfl) rfl) ?_; try simp only [Act.put, List.setIfInBounds_toArray, List.set_cons_zero, List.set_cons_succ]
          refine st_x (v := (.slice p' (L.drop k).length c')) rfl (x_slF _ _ _ rfl rfl rfl (hsl _)) ?_; try simp only [Act.put, List.setIfInBounds_toArray, List.set_cons_zero, List.set_cons_succ]
          refine st_appD (base := w3.heap.size) (N := 0) (us := []) (M := L.drop k) rfl rfl rfl rfl (World.ownsRow_nil _ _ _ _) (Nat.le_refl _) (fun hne => by
            obtain ⟨g', e, hl, hc⟩ := hall (fun e => by rw [e] at hne; simp at hne)
            have hkn' : k < n := by have := List.length_pos_iff.2 hne; omega
            exact ⟨g', k * 55, hp' hkn' g' e, drop_cells (w := w3) (g := g') (fun j u hu => (hT3.cell (p := ⟨g', j, none⟩) hl (by simp)).trans (hc j u hu)) hkL2⟩) (by have := HL.out; rw [← hdl]; have := HN.out; omega) ?_
          intro v6 w4 hown6 hT34 ho6
          try simp only [Act.put, List.setIfInBounds_toArray, List.set_cons_zero, List.set_cons_succ]
          rw [List.nil_append, Nat.zero_add] at hown6
          refine st_x (v := v6) rfl (x_val _ (.inr rfl) rfl) ?_; try simp only [Act.put, List.setIfInBounds_toArray, List.set_cons_zero, List.set_cons_succ]
          refine st_end14 ?_
          replace hT34 : Tch [] w3 w4 := hT34
          have hTw4 := hT3.trans hT34
          have hr4 := hw3.trans hT34
          go_upto_region 6 with (fail)
          try simp only [Act.put, List.setIfInBounds_toArray, List.set_cons_zero, List.set_cons_succ]
          refine wp_region_held_drew (S := fun w' => PT (fun j => j = bR) w4 w') (by kernel_rfl) (PT.nil ((Tch.refl _ _).drew)) (fun hC => ?_)
          have hTu0 : Tch [] w4 w4.drew := (Tch.refl [] w4).drew
          generalize World.drew w4 = u0 at hC hTu0 ⊢
          have hne3 : b3 ≠ bR := by have h7 := hS.le .head; have h8 := H.out.blk.lt; omega
          have G3 : ∀ u, PT (fun j => j = bR) w4 u → Blk u b3 23 (av A) := fun u hu => hu.blk (F3 _ hr4) hne3
          refine held_in (v := .pointer (some ⟨bR, 0, none⟩)) 0 rfl (by kernel_rfl) (by kernel_rfl) (by kernel_rfl) (fun _ _ _ h => h) hC rfl (fun w' hw' => x_val _ (.inl rfl) rfl) ?_; try simp only [Act.put, List.setIfInBounds_toArray, List.set_cons_zero, List.set_cons_succ]
          refine held_in (v := .pointer (some ⟨bR, 0, none⟩)) 1 rfl (by kernel_rfl) (by kernel_rfl) (by kernel_rfl) (fun _ _ _ h => h) hC rfl (fun w' hw' => x_val _ (.inl rfl) rfl) ?_; try simp only [Act.put, List.setIfInBounds_toArray, List.set_cons_zero, List.set_cons_succ]
          refine held_in (v := .pointer (some ⟨bR, 0, none⟩)) 2 rfl (by kernel_rfl) (by kernel_rfl) (by kernel_rfl) (fun _ _ _ h => h) hC rfl (fun w' hw' => x_nilck _ rfl rfl) ?_; try simp only [Act.put, List.setIfInBounds_toArray, List.set_cons_zero, List.set_cons_succ]
          refine held_in (v := .pointer (some ⟨bR, 0, none⟩)) 3 rfl (by kernel_rfl) (by kernel_rfl) (by kernel_rfl) (fun _ _ _ h => h) hC rfl (fun w' hw' => x_fa _ _ _ rfl rfl (fa_r0 _ _)) ?_; try simp only [Act.put, List.setIfInBounds_toArray, List.set_cons_zero, List.set_cons_succ]
          refine held_in (v := .int .i64 (k : Int)) 5 rfl (by kernel_rfl) (by kernel_rfl) (by kernel_rfl) (fun _ _ _ h => h) hC rfl (fun w' hw' => x_val _ (.inl rfl) rfl) ?_; try simp only [Act.put, List.setIfInBounds_toArray, List.set_cons_zero, List.set_cons_succ]
          refine held_in (v := .agg (av A)) 8 rfl (by kernel_rfl) (by kernel_rfl) (by kernel_rfl) (fun _ _ _ h => h) hC rfl (fun w' hw' => x_ld _ rfl rfl (G3 _ hw') addr_tyY rfl (by rw [arrV_size]; exact addr_sizeY)) ?_; try simp only [Act.put, List.setIfInBounds_toArray, List.set_cons_zero, List.set_cons_succ]
          refine held_in (v := .agg (dC A 0)) 9 rfl (by kernel_rfl) (by kernel_rfl) (by kernel_rfl) (fun _ _ _ h => h) hC rfl (fun w' hw' => x_bld (vals := #[(0, .agg (av A))]) rfl (by simp only [List.map_toArray, List.map_cons, List.map_nil]; rfl) (bld_acct _ _)) ?_; try simp only [Act.put, List.setIfInBounds_toArray, List.set_cons_zero, List.set_cons_succ]
          refine held_in (v := v6) 12 rfl (by kernel_rfl) (by kernel_rfl) (by kernel_rfl) (fun _ _ _ h => h) hC rfl (fun w' hw' => x_val _ (.inl rfl) rfl) ?_; try simp only [Act.put, List.setIfInBounds_toArray, List.set_cons_zero, List.set_cons_succ]
          refine held_two 4 10 (by kernel_rfl) ?_ ?_
          · refine held_x (v := .slice (some ⟨g, 0, none⟩) n c) rfl rfl (x_cell _ _ rfl rfl ((hB _ (hr4.trans hTu0)).cell rfl) accs_agg) ⟨PT.nil hTu0, ?_⟩
            try simp only [Act.put, List.setIfInBounds_toArray, List.set_cons_zero, List.set_cons_succ]
            refine held_in (v := .slice (some ⟨g, 0, none⟩) k c) 6 rfl (by kernel_rfl) (by kernel_rfl) (by kernel_rfl) (fun _ _ _ h => h) (PT.nil hTu0) rfl (fun w' hw' => x_slT _ _ _ rfl rfl rfl (slice_toD _ n c k hkn HC.out _)) ?_; try simp only [Act.put, List.setIfInBounds_toArray, List.set_cons_zero, List.set_cons_succ]
            refine held_two 7 10 (by kernel_rfl) ?_ ?_
            · refine held_appD (base := w4.heap.size) (N := 0) (us := []) (M := L.take k) (p := some ⟨g, 0, none⟩) (c := c) rfl rfl rfl rfl (by rw [List.length_take, Nat.min_eq_left hkL2]; rfl) (World.ownsRow_nil _ _ _ _) hTu0.size (fun hne => by
                obtain ⟨g', e, hl, hc⟩ := hall (fun e => by rw [e] at hne; simp at hne)
                exact ⟨g', 0, e, take_cells (w := u0) (g := g') (fun j u hu => ((hTw4.trans hTu0).cell (p := ⟨g', j, none⟩) hl (by simp)).trans (hc j u hu)) hkL2⟩) (by have := HL.out; rw [List.length_take]; omega) ?_
              intro v7 u0_7 hown7 hTq ho7
              replace hTq : Tch [] u0 u0_7 := hTq
              rw [List.nil_append, Nat.zero_add] at hown7
              have hTu0_7 := hTu0.trans hTq
              clear hTq
              refine ⟨PT.nil hTu0_7, ?_⟩
              try simp only [Act.put, List.setIfInBounds_toArray, List.set_cons_zero, List.set_cons_succ]
              refine held_one 10 (by kernel_rfl) ?_
              refine held_bldD rfl rfl rfl rfl ?_
              intro u0_7_10 b10 hTq hb10 hbn
              have hTu0_7_10 := hTu0_7.trans hTq
              replace hown7 := own_call hown7 hTq (by simp)
              clear hTq hbn
              refine ⟨PT.nil hTu0_7_10, ?_⟩
              try simp only [Act.put, List.setIfInBounds_toArray, List.set_cons_zero, List.set_cons_succ]
              refine held_one 11 (by kernel_rfl) ?_
              refine held_appD (base := w4.heap.size) (v := v7) (M := [(A, 0)]) rfl rfl rfl rfl rfl hown7 hTu0_7_10.size (fun _ => ⟨b10, 0, rfl, fun j v hv => by rw [Nat.zero_add]; refine hb10.cell ?_; rw [← Array.getElem?_toList]; simpa [dCells] using hv⟩) (by have := HL.out; rw [List.length_take, List.length_singleton]; omega) ?_
              intro v11 y1 hown11 hTa ho11
              have hy1 : Tch [] w4 y1 := Tch.fresh hTu0_7_10 hTa (fun q hq => by
                cases hv7 : v7.ownBlock with
                | none => rw [hv7] at hq; simp at hq
                | some g7 => rw [hv7] at hq; simp at hq; subst hq; exact (hown7.lt _ hv7).1)
              refine ⟨PT.nil hy1, ?_⟩
              try simp only [Act.put, List.setIfInBounds_toArray, List.set_cons_zero, List.set_cons_succ]
              have hown6' := own_call hown6 hy1 (by simp)
              obtain ⟨p6, c6, hv6, hx6⟩ := own_cellsD hown6' rfl
              refine held_one 13 (by kernel_rfl) ?_
              refine held_appD (base := w4.heap.size) (v := v11) (M := L.drop k) rfl rfl rfl rfl hv6 hown11 hy1.size hx6 (by have := HL.out; rw [List.length_take, List.length_singleton, List.length_drop]; omega) ?_
              intro v13 y2 hown13 hTb ho13
              have hy2 : Tch [] w4 y2 := Tch.fresh hy1 hTb (fun q hq => by
                cases hv11 : v11.ownBlock with
                | none => rw [hv11] at hq; simp at hq
                | some g11 => rw [hv11] at hq; simp at hq; subst hq; exact (hown11.lt _ hv11).1)
              refine ⟨PT.nil hy2, ?_⟩
              try simp only [Act.put, List.setIfInBounds_toArray, List.set_cons_zero, List.set_cons_succ]
              have hcells : dCells (L.take k) ++ dCells [(A, 0)] ++ dCells (L.drop k) = dCells (L.take k ++ (A, 0) :: L.drop k) := by rw [← dCells_app, ← dCells_app, List.append_assoc]; rfl
              have hlenr : (L.take k).length + [(A, 0)].length + (L.drop k).length = (L.take k ++ (A, 0) :: L.drop k).length := by simp only [List.length_append, List.length_cons, List.length_nil]; omega
              rw [hcells, hlenr] at hown13
              refine held_in (v := .pointer (some ⟨bR, 0, none⟩)) 14 rfl (by kernel_rfl) (by kernel_rfl) (by kernel_rfl) (fun _ _ _ h => h) (PT.nil hy2) rfl (fun w' hw' => x_nilck _ rfl rfl) ?_; try simp only [Act.put, List.setIfInBounds_toArray, List.set_cons_zero, List.set_cons_succ]
              refine held_in (v := .pointer (some ⟨bR, 0, none⟩)) 15 rfl (by kernel_rfl) (by kernel_rfl) (by kernel_rfl) (fun _ _ _ h => h) (PT.nil hy2) rfl (fun w' hw' => x_fa _ _ _ rfl rfl (fa_r0 _ _)) ?_; try simp only [Act.put, List.setIfInBounds_toArray, List.set_cons_zero, List.set_cons_succ]
              have hBy : Blk y2 bR 54 #[.slice (some ⟨g, 0, none⟩) n c, .slice none 0 0, .int .i64 0] := hB _ (hr4.trans hy2)
              have hv13 : v13.oneCell' = true := by
                rcases hown13.2 with ⟨rfl, _⟩ | ⟨_, _, _, rfl, _⟩ <;> rfl
              refine held_one 16 (by kernel_rfl) ?_
              obtain ⟨w5, hw5⟩ : ∃ w5, w5 = World.setCell y2 ⟨bR, 0, none⟩ v13 := ⟨_, rfl⟩
              refine held_skip (w' := w5) rfl rfl (by rw [hw5]; exact r_store1 _ _ rfl rfl rfl hBy one_size_accs (by show 0 < 3; decide) hv13) ?_
              have hO5 : Only bR y2 w5 := by rw [hw5]; exact Only.setCell y2 ⟨bR, 0, none⟩ _
              have hB5 : Blk w5 bR 54 #[v13, .slice none 0 0, .int .i64 0] := by rw [hw5]; exact hBy.set 0 v13
              clear hw5
              refine ⟨⟨hO5.os.trans hy2.os, hO5.tape.trans hy2.tape, hO5.output.trans hy2.output, Nat.le_trans hy2.size (Nat.le_of_eq hO5.size.symm), fun j hj hn => (hO5.block j hn).trans (hy2.block j hj (by simp))⟩, ?_⟩
              try simp only [Act.put, List.setIfInBounds_toArray, List.set_cons_zero, List.set_cons_succ]
              refine wpAnyH_done (by kernel_rfl) ?_ _
              have HM := at_made B w w3 w4 y2 w5 bR k c (some ⟨g, 0, none⟩) v13 L A (by have := H.out; rwa [HLV.out] at this) HA.out hkL2 HK.out hins HL.out hTw4 hy2 hown13 hO5 hB5
              obtain ⟨g13, cap13, hv13e, hk13, HM⟩ := HM
              have hidx : k < (L.take k ++ (A, 0) :: L.drop k).length := hk13
              generalize (L.take k ++ (A, 0) :: L.drop k).length = m13 at hv13e hidx
              subst hv13e
              have HMM := Lib.hid HM
              clear HM
              go_upto_region 7 with (fail)
              try simp only [Act.put, List.setIfInBounds_toArray, List.set_cons_zero, List.set_cons_succ]
              refine wp_region_lit ?_
              refine st_x (v := .pointer (some ⟨bR, 0, none⟩)) rfl (x_val _ (.inl rfl) rfl) ?_; try simp only [Act.put, List.setIfInBounds_toArray, List.set_cons_zero, List.set_cons_succ]
              refine st_x (v := .pointer (some ⟨bR, 0, none⟩)) rfl (x_nilck _ rfl rfl) ?_; try simp only [Act.put, List.setIfInBounds_toArray, List.set_cons_zero, List.set_cons_succ]
              refine st_x (v := .pointer (some ⟨bR, 0, none⟩)) rfl (x_fa _ _ _ rfl rfl (fa_r0 _ _)) ?_; try simp only [Act.put, List.setIfInBounds_toArray, List.set_cons_zero, List.set_cons_succ]
              refine st_x (v := .slice (some ⟨g13, 0, none⟩) m13 cap13) rfl (x_cell _ _ rfl rfl (hB5.cell rfl) accs_agg) ?_; try simp only [Act.put, List.setIfInBounds_toArray, List.set_cons_zero, List.set_cons_succ]
              refine st_x (v := .int .i64 (k : Int)) rfl (x_val _ (.inl rfl) rfl) ?_; try simp only [Act.put, List.setIfInBounds_toArray, List.set_cons_zero, List.set_cons_succ]
              refine st_x (v := .pointer (some ⟨g13, 0 + k * 55, none⟩)) rfl (x_idxS _ _ rfl rfl rfl accts_tyY acct_sizeY hidx) ?_; try simp only [Act.put, List.setIfInBounds_toArray, List.set_cons_zero, List.set_cons_succ]
              refine st_x (v := .pointer (some ⟨g13, 0 + k * 55, none⟩)) rfl (x_val _ (.inr rfl) rfl) ?_; try simp only [Act.put, List.setIfInBounds_toArray, List.set_cons_zero, List.set_cons_succ]
              refine st_end14 ?_
              go_wp2
              show P (.returned (.pointer (some ⟨g13, 0 + k * 55, none⟩))) w5
              rw [HPP.out, Nat.zero_add]
              exact HMM.out w5 (Tch.refl _ _)
            · refine held_bldD rfl rfl rfl rfl ?_
              intro u0_10 b10 hTq hb10 hbn
              have hTu0_10 := hTu0.trans hTq
              clear hTq hbn
              refine ⟨PT.nil hTu0_10, ?_⟩
              try simp only [Act.put, List.setIfInBounds_toArray, List.set_cons_zero, List.set_cons_succ]
              refine held_one 7 (by kernel_rfl) ?_
              refine held_appD (base := w4.heap.size) (N := 0) (us := []) (M := L.take k) (p := some ⟨g, 0, none⟩) (c := c) rfl rfl rfl rfl (by rw [List.length_take, Nat.min_eq_left hkL2]; rfl) (World.ownsRow_nil _ _ _ _) hTu0_10.size (fun hne => by
                obtain ⟨g', e, hl, hc⟩ := hall (fun e => by rw [e] at hne; simp at hne)
                exact ⟨g', 0, e, take_cells (w := u0_10) (g := g') (fun j u hu => ((hTw4.trans hTu0_10).cell (p := ⟨g', j, none⟩) hl (by simp)).trans (hc j u hu)) hkL2⟩) (by have := HL.out; rw [List.length_take]; omega) ?_
              intro v7 u0_10_7 hown7 hTq ho7
              replace hTq : Tch [] u0_10 u0_10_7 := hTq
              rw [List.nil_append, Nat.zero_add] at hown7
              have hTu0_10_7 := hTu0_10.trans hTq
              replace hb10 := hTq.blk hb10 (by simp)
              clear hTq
              refine ⟨PT.nil hTu0_10_7, ?_⟩
              try simp only [Act.put, List.setIfInBounds_toArray, List.set_cons_zero, List.set_cons_succ]
              refine held_one 11 (by kernel_rfl) ?_
              refine held_appD (base := w4.heap.size) (v := v7) (M := [(A, 0)]) rfl rfl rfl rfl rfl hown7 hTu0_10_7.size (fun _ => ⟨b10, 0, rfl, fun j v hv => by rw [Nat.zero_add]; refine hb10.cell ?_; rw [← Array.getElem?_toList]; simpa [dCells] using hv⟩) (by have := HL.out; rw [List.length_take, List.length_singleton]; omega) ?_
              intro v11 y1 hown11 hTa ho11
              have hy1 : Tch [] w4 y1 := Tch.fresh hTu0_10_7 hTa (fun q hq => by
                cases hv7 : v7.ownBlock with
                | none => rw [hv7] at hq; simp at hq
                | some g7 => rw [hv7] at hq; simp at hq; subst hq; exact (hown7.lt _ hv7).1)
              refine ⟨PT.nil hy1, ?_⟩
              try simp only [Act.put, List.setIfInBounds_toArray, List.set_cons_zero, List.set_cons_succ]
              have hown6' := own_call hown6 hy1 (by simp)
              obtain ⟨p6, c6, hv6, hx6⟩ := own_cellsD hown6' rfl
              refine held_one 13 (by kernel_rfl) ?_
              refine held_appD (base := w4.heap.size) (v := v11) (M := L.drop k) rfl rfl rfl rfl hv6 hown11 hy1.size hx6 (by have := HL.out; rw [List.length_take, List.length_singleton, List.length_drop]; omega) ?_
              intro v13 y2 hown13 hTb ho13
              have hy2 : Tch [] w4 y2 := Tch.fresh hy1 hTb (fun q hq => by
                cases hv11 : v11.ownBlock with
                | none => rw [hv11] at hq; simp at hq
                | some g11 => rw [hv11] at hq; simp at hq; subst hq; exact (hown11.lt _ hv11).1)
              refine ⟨PT.nil hy2, ?_⟩
              try simp only [Act.put, List.setIfInBounds_toArray, List.set_cons_zero, List.set_cons_succ]
              have hcells : dCells (L.take k) ++ dCells [(A, 0)] ++ dCells (L.drop k) = dCells (L.take k ++ (A, 0) :: L.drop k) := by rw [← dCells_app, ← dCells_app, List.append_assoc]; rfl
              have hlenr : (L.take k).length + [(A, 0)].length + (L.drop k).length = (L.take k ++ (A, 0) :: L.drop k).length := by simp only [List.length_append, List.length_cons, List.length_nil]; omega
              rw [hcells, hlenr] at hown13
              refine held_in (v := .pointer (some ⟨bR, 0, none⟩)) 14 rfl (by kernel_rfl) (by kernel_rfl) (by kernel_rfl) (fun _ _ _ h => h) (PT.nil hy2) rfl (fun w' hw' => x_nilck _ rfl rfl) ?_; try simp only [Act.put, List.setIfInBounds_toArray, List.set_cons_zero, List.set_cons_succ]
              refine held_in (v := .pointer (some ⟨bR, 0, none⟩)) 15 rfl (by kernel_rfl) (by kernel_rfl) (by kernel_rfl) (fun _ _ _ h => h) (PT.nil hy2) rfl (fun w' hw' => x_fa _ _ _ rfl rfl (fa_r0 _ _)) ?_; try simp only [Act.put, List.setIfInBounds_toArray, List.set_cons_zero, List.set_cons_succ]
              have hBy : Blk y2 bR 54 #[.slice (some ⟨g, 0, none⟩) n c, .slice none 0 0, .int .i64 0] := hB _ (hr4.trans hy2)
              have hv13 : v13.oneCell' = true := by
                rcases hown13.2 with ⟨rfl, _⟩ | ⟨_, _, _, rfl, _⟩ <;> rfl
              refine held_one 16 (by kernel_rfl) ?_
              obtain ⟨w5, hw5⟩ : ∃ w5, w5 = World.setCell y2 ⟨bR, 0, none⟩ v13 := ⟨_, rfl⟩
              refine held_skip (w' := w5) rfl rfl (by rw [hw5]; exact r_store1 _ _ rfl rfl rfl hBy one_size_accs (by show 0 < 3; decide) hv13) ?_
              have hO5 : Only bR y2 w5 := by rw [hw5]; exact Only.setCell y2 ⟨bR, 0, none⟩ _
              have hB5 : Blk w5 bR 54 #[v13, .slice none 0 0, .int .i64 0] := by rw [hw5]; exact hBy.set 0 v13
              clear hw5
              refine ⟨⟨hO5.os.trans hy2.os, hO5.tape.trans hy2.tape, hO5.output.trans hy2.output, Nat.le_trans hy2.size (Nat.le_of_eq hO5.size.symm), fun j hj hn => (hO5.block j hn).trans (hy2.block j hj (by simp))⟩, ?_⟩
              try simp only [Act.put, List.setIfInBounds_toArray, List.set_cons_zero, List.set_cons_succ]
              refine wpAnyH_done (by kernel_rfl) ?_ _
              have HM := at_made B w w3 w4 y2 w5 bR k c (some ⟨g, 0, none⟩) v13 L A (by have := H.out; rwa [HLV.out] at this) HA.out hkL2 HK.out hins HL.out hTw4 hy2 hown13 hO5 hB5
              obtain ⟨g13, cap13, hv13e, hk13, HM⟩ := HM
              have hidx : k < (L.take k ++ (A, 0) :: L.drop k).length := hk13
              generalize (L.take k ++ (A, 0) :: L.drop k).length = m13 at hv13e hidx
              subst hv13e
              have HMM := Lib.hid HM
              clear HM
              go_upto_region 7 with (fail)
              try simp only [Act.put, List.setIfInBounds_toArray, List.set_cons_zero, List.set_cons_succ]
              refine wp_region_lit ?_
              refine st_x (v := .pointer (some ⟨bR, 0, none⟩)) rfl (x_val _ (.inl rfl) rfl) ?_; try simp only [Act.put, List.setIfInBounds_toArray, List.set_cons_zero, List.set_cons_succ]
              refine st_x (v := .pointer (some ⟨bR, 0, none⟩)) rfl (x_nilck _ rfl rfl) ?_; try simp only [Act.put, List.setIfInBounds_toArray, List.set_cons_zero, List.set_cons_succ]
              refine st_x (v := .pointer (some ⟨bR, 0, none⟩)) rfl (x_fa _ _ _ rfl rfl (fa_r0 _ _)) ?_; try simp only [Act.put, List.setIfInBounds_toArray, List.set_cons_zero, List.set_cons_succ]
              refine st_x (v := .slice (some ⟨g13, 0, none⟩) m13 cap13) rfl (x_cell _ _ rfl rfl (hB5.cell rfl) accs_agg) ?_; try simp only [Act.put, List.setIfInBounds_toArray, List.set_cons_zero, List.set_cons_succ]
              refine st_x (v := .int .i64 (k : Int)) rfl (x_val _ (.inl rfl) rfl) ?_; try simp only [Act.put, List.setIfInBounds_toArray, List.set_cons_zero, List.set_cons_succ]
              refine st_x (v := .pointer (some ⟨g13, 0 + k * 55, none⟩)) rfl (x_idxS _ _ rfl rfl rfl accts_tyY acct_sizeY hidx) ?_; try simp only [Act.put, List.setIfInBounds_toArray, List.set_cons_zero, List.set_cons_succ]
              refine st_x (v := .pointer (some ⟨g13, 0 + k * 55, none⟩)) rfl (x_val _ (.inr rfl) rfl) ?_; try simp only [Act.put, List.setIfInBounds_toArray, List.set_cons_zero, List.set_cons_succ]
              refine st_end14 ?_
              go_wp2
              show P (.returned (.pointer (some ⟨g13, 0 + k * 55, none⟩))) w5
              rw [HPP.out, Nat.zero_add]
              exact HMM.out w5 (Tch.refl _ _)
          · refine held_bldD rfl rfl rfl rfl ?_
            intro u0_10 b10 hTq hb10 hbn
            have hTu0_10 := hTu0.trans hTq
            clear hTq hbn
            refine ⟨PT.nil hTu0_10, ?_⟩
            try simp only [Act.put, List.setIfInBounds_toArray, List.set_cons_zero, List.set_cons_succ]
            refine held_one 4 (by kernel_rfl) ?_
            refine held_x (v := .slice (some ⟨g, 0, none⟩) n c) rfl rfl (x_cell _ _ rfl rfl ((hB _ (hr4.trans hTu0_10)).cell rfl) accs_agg) ⟨PT.nil hTu0_10, ?_⟩
            try simp only [Act.put, List.setIfInBounds_toArray, List.set_cons_zero, List.set_cons_succ]
            refine held_in (v := .slice (some ⟨g, 0, none⟩) k c) 6 rfl (by kernel_rfl) (by kernel_rfl) (by kernel_rfl) (fun _ _ _ h => h) (PT.nil hTu0_10) rfl (fun w' hw' => x_slT _ _ _ rfl rfl rfl (slice_toD _ n c k hkn HC.out _)) ?_; try simp only [Act.put, List.setIfInBounds_toArray, List.set_cons_zero, List.set_cons_succ]
            refine held_one 7 (by kernel_rfl) ?_
            refine held_appD (base := w4.heap.size) (N := 0) (us := []) (M := L.take k) (p := some ⟨g, 0, none⟩) (c := c) rfl rfl rfl rfl (by rw [List.length_take, Nat.min_eq_left hkL2]; rfl) (World.ownsRow_nil _ _ _ _) hTu0_10.size (fun hne => by
              obtain ⟨g', e, hl, hc⟩ := hall (fun e => by rw [e] at hne; simp at hne)
              exact ⟨g', 0, e, take_cells (w := u0_10) (g := g') (fun j u hu => ((hTw4.trans hTu0_10).cell (p := ⟨g', j, none⟩) hl (by simp)).trans (hc j u hu)) hkL2⟩) (by have := HL.out; rw [List.length_take]; omega) ?_
            intro v7 u0_10_7 hown7 hTq ho7
            replace hTq : Tch [] u0_10 u0_10_7 := hTq
            rw [List.nil_append, Nat.zero_add] at hown7
            have hTu0_10_7 := hTu0_10.trans hTq
            replace hb10 := hTq.blk hb10 (by simp)
            clear hTq
            refine ⟨PT.nil hTu0_10_7, ?_⟩
            try simp only [Act.put, List.setIfInBounds_toArray, List.set_cons_zero, List.set_cons_succ]
            refine held_one 11 (by kernel_rfl) ?_
            refine held_appD (base := w4.heap.size) (v := v7) (M := [(A, 0)]) rfl rfl rfl rfl rfl hown7 hTu0_10_7.size (fun _ => ⟨b10, 0, rfl, fun j v hv => by rw [Nat.zero_add]; refine hb10.cell ?_; rw [← Array.getElem?_toList]; simpa [dCells] using hv⟩) (by have := HL.out; rw [List.length_take, List.length_singleton]; omega) ?_
            intro v11 y1 hown11 hTa ho11
            have hy1 : Tch [] w4 y1 := Tch.fresh hTu0_10_7 hTa (fun q hq => by
              cases hv7 : v7.ownBlock with
              | none => rw [hv7] at hq; simp at hq
              | some g7 => rw [hv7] at hq; simp at hq; subst hq; exact (hown7.lt _ hv7).1)
            refine ⟨PT.nil hy1, ?_⟩
            try simp only [Act.put, List.setIfInBounds_toArray, List.set_cons_zero, List.set_cons_succ]
            have hown6' := own_call hown6 hy1 (by simp)
            obtain ⟨p6, c6, hv6, hx6⟩ := own_cellsD hown6' rfl
            refine held_one 13 (by kernel_rfl) ?_
            refine held_appD (base := w4.heap.size) (v := v11) (M := L.drop k) rfl rfl rfl rfl hv6 hown11 hy1.size hx6 (by have := HL.out; rw [List.length_take, List.length_singleton, List.length_drop]; omega) ?_
            intro v13 y2 hown13 hTb ho13
            have hy2 : Tch [] w4 y2 := Tch.fresh hy1 hTb (fun q hq => by
              cases hv11 : v11.ownBlock with
              | none => rw [hv11] at hq; simp at hq
              | some g11 => rw [hv11] at hq; simp at hq; subst hq; exact (hown11.lt _ hv11).1)
            refine ⟨PT.nil hy2, ?_⟩
            try simp only [Act.put, List.setIfInBounds_toArray, List.set_cons_zero, List.set_cons_succ]
            have hcells : dCells (L.take k) ++ dCells [(A, 0)] ++ dCells (L.drop k) = dCells (L.take k ++ (A, 0) :: L.drop k) := by rw [← dCells_app, ← dCells_app, List.append_assoc]; rfl
            have hlenr : (L.take k).length + [(A, 0)].length + (L.drop k).length = (L.take k ++ (A, 0) :: L.drop k).length := by simp only [List.length_append, List.length_cons, List.length_nil]; omega
            rw [hcells, hlenr] at hown13
            refine held_in (v := .pointer (some ⟨bR, 0, none⟩)) 14 rfl (by kernel_rfl) (by kernel_rfl) (by kernel_rfl) (fun _ _ _ h => h) (PT.nil hy2) rfl (fun w' hw' => x_nilck _ rfl rfl) ?_; try simp only [Act.put, List.setIfInBounds_toArray, List.set_cons_zero, List.set_cons_succ]
            refine held_in (v := .pointer (some ⟨bR, 0, none⟩)) 15 rfl (by kernel_rfl) (by kernel_rfl) (by kernel_rfl) (fun _ _ _ h => h) (PT.nil hy2) rfl (fun w' hw' => x_fa _ _ _ rfl rfl (fa_r0 _ _)) ?_; try simp only [Act.put, List.setIfInBounds_toArray, List.set_cons_zero, List.set_cons_succ]
            have hBy : Blk y2 bR 54 #[.slice (some ⟨g, 0, none⟩) n c, .slice none 0 0, .int .i64 0] := hB _ (hr4.trans hy2)
            have hv13 : v13.oneCell' = true := by
              rcases hown13.2 with ⟨rfl, _⟩ | ⟨_, _, _, rfl, _⟩ <;> rfl
            refine held_one 16 (by kernel_rfl) ?_
            obtain ⟨w5, hw5⟩ : ∃ w5, w5 = World.setCell y2 ⟨bR, 0, none⟩ v13 := ⟨_, rfl⟩
            refine held_skip (w' := w5) rfl rfl (by rw [hw5]; exact r_store1 _ _ rfl rfl rfl hBy one_size_accs (by show 0 < 3; decide) hv13) ?_
            have hO5 : Only bR y2 w5 := by rw [hw5]; exact Only.setCell y2 ⟨bR, 0, none⟩ _
            have hB5 : Blk w5 bR 54 #[v13, .slice none 0 0, .int .i64 0] := by rw [hw5]; exact hBy.set 0 v13
            clear hw5
            refine ⟨⟨hO5.os.trans hy2.os, hO5.tape.trans hy2.tape, hO5.output.trans hy2.output, Nat.le_trans hy2.size (Nat.le_of_eq hO5.size.symm), fun j hj hn => (hO5.block j hn).trans (hy2.block j hj (by simp))⟩, ?_⟩
            try simp only [Act.put, List.setIfInBounds_toArray, List.set_cons_zero, List.set_cons_succ]
            refine wpAnyH_done (by kernel_rfl) ?_ _
            have HM := at_made B w w3 w4 y2 w5 bR k c (some ⟨g, 0, none⟩) v13 L A (by have := H.out; rwa [HLV.out] at this) HA.out hkL2 HK.out hins HL.out hTw4 hy2 hown13 hO5 hB5
            obtain ⟨g13, cap13, hv13e, hk13, HM⟩ := HM
            have hidx : k < (L.take k ++ (A, 0) :: L.drop k).length := hk13
            generalize (L.take k ++ (A, 0) :: L.drop k).length = m13 at hv13e hidx
            subst hv13e
            have HMM := Lib.hid HM
            clear HM
            go_upto_region 7 with (fail)
            try simp only [Act.put, List.setIfInBounds_toArray, List.set_cons_zero, List.set_cons_succ]
            refine wp_region_lit ?_
            refine st_x (v := .pointer (some ⟨bR, 0, none⟩)) rfl (x_val _ (.inl rfl) rfl) ?_; try simp only [Act.put, List.setIfInBounds_toArray, List.set_cons_zero, List.set_cons_succ]
            refine st_x (v := .pointer (some ⟨bR, 0, none⟩)) rfl (x_nilck _ rfl rfl) ?_; try simp only [Act.put, List.setIfInBounds_toArray, List.set_cons_zero, List.set_cons_succ]
            refine st_x (v := .pointer (some ⟨bR, 0, none⟩)) rfl (x_fa _ _ _ rfl rfl (fa_r0 _ _)) ?_; try simp only [Act.put, List.setIfInBounds_toArray, List.set_cons_zero, List.set_cons_succ]
            refine st_x (v := .slice (some ⟨g13, 0, none⟩) m13 cap13) rfl (x_cell _ _ rfl rfl (hB5.cell rfl) accs_agg) ?_; try simp only [Act.put, List.setIfInBounds_toArray, List.set_cons_zero, List.set_cons_succ]
            refine st_x (v := .int .i64 (k : Int)) rfl (x_val _ (.inl rfl) rfl) ?_; try simp only [Act.put, List.setIfInBounds_toArray, List.set_cons_zero, List.set_cons_succ]
            refine st_x (v := .pointer (some ⟨g13, 0 + k * 55, none⟩)) rfl (x_idxS _ _ rfl rfl rfl accts_tyY acct_sizeY hidx) ?_; try simp only [Act.put, List.setIfInBounds_toArray, List.set_cons_zero, List.set_cons_succ]
            refine st_x (v := .pointer (some ⟨g13, 0 + k * 55, none⟩)) rfl (x_val _ (.inr rfl) rfl) ?_; try simp only [Act.put, List.setIfInBounds_toArray, List.set_cons_zero, List.set_cons_succ]
            refine st_end14 ?_
            go_wp2
            show P (.returned (.pointer (some ⟨g13, 0 + k * 55, none⟩))) w5
            rw [HPP.out, Nat.zero_add]
            exact HMM.out w5 (Tch.refl _ _)
    · have hd : decide ((k : Int) < (n : Int)) = false := decide_eq_false (by omega)
      have hkn2 : k = n := by omega
      have hins : ∀ j (h : j < L.length), k ≤ j → aLt A L[j].1 := fun j h h' => by have := HN.out; omega
      refine k_in (v := .bool false) rfl (fun w' hw' => x_lssI hd _ _ _ _ rfl rfl rfl) ?_; try simp only [Act.put, List.setIfInBounds_toArray, List.set_cons_zero, List.set_cons_succ]
      refine k_in (v := .bool false) rfl (fun w' hw' => x_val _ (.inl rfl) rfl) ?_; try simp only [Act.put, List.setIfInBounds_toArray, List.set_cons_zero, List.set_cons_succ]
      refine k_skip (j := 7) (b := false) rfl rfl rfl rfl rfl ?_; try simp only [Act.put, List.setIfInBounds_toArray, List.set_cons_zero, List.set_cons_succ]
      refine k_skip (j := 7) (b := false) rfl rfl rfl rfl rfl ?_; try simp only [Act.put, List.setIfInBounds_toArray, List.set_cons_zero, List.set_cons_succ]
      refine k_skip (j := 7) (b := false) rfl rfl rfl rfl rfl ?_; try simp only [Act.put, List.setIfInBounds_toArray, List.set_cons_zero, List.set_cons_succ]
      refine k_skip (j := 7) (b := false) rfl rfl rfl rfl rfl ?_; try simp only [Act.put, List.setIfInBounds_toArray, List.set_cons_zero, List.set_cons_succ]
      refine k_skip (j := 7) (b := false) rfl rfl rfl rfl rfl ?_; try simp only [Act.put, List.setIfInBounds_toArray, List.set_cons_zero, List.set_cons_succ]
      refine k_skip (j := 7) (b := false) rfl rfl rfl rfl rfl ?_; try simp only [Act.put, List.setIfInBounds_toArray, List.set_cons_zero, List.set_cons_succ]
      refine k_skip (j := 7) (b := false) rfl rfl rfl rfl rfl ?_; try simp only [Act.put, List.setIfInBounds_toArray, List.set_cons_zero, List.set_cons_succ]
      refine k_skip (j := 7) (b := false) rfl rfl rfl rfl rfl ?_; try simp only [Act.put, List.setIfInBounds_toArray, List.set_cons_zero, List.set_cons_succ]
      refine k_skip (j := 7) (b := false) rfl rfl rfl rfl rfl ?_; try simp only [Act.put, List.setIfInBounds_toArray, List.set_cons_zero, List.set_cons_succ]
      refine k_skip (j := 7) (b := false) rfl rfl rfl rfl rfl ?_; try simp only [Act.put, List.setIfInBounds_toArray, List.set_cons_zero, List.set_cons_succ]
      refine k_skip (j := 7) (b := false) rfl rfl rfl rfl rfl ?_; try simp only [Act.put, List.setIfInBounds_toArray, List.set_cons_zero, List.set_cons_succ]
      refine k_skip (j := 7) (b := false) rfl rfl rfl rfl rfl ?_; try simp only [Act.put, List.setIfInBounds_toArray, List.set_cons_zero, List.set_cons_succ]
      refine k_in (v := .bool false) rfl (fun w' hw' => x_pickS (c := false) rfl _ _ _ rfl rfl rfl rfl) ?_; try simp only [Act.put, List.setIfInBounds_toArray, List.set_cons_zero, List.set_cons_succ]
      refine k_end ?_
      intro w2 hw2
      clear hd
      go_upto_region 4 with (fail)
      try simp only [Act.put, List.setIfInBounds_toArray, List.set_cons_zero, List.set_cons_succ]
      refine k_region (C := fun w' => Tch [] wr w') (by kernel_rfl) (by kernel_rfl) (hw2.drew) ?_
      refine k_in (v := .int .i64 (k : Int)) rfl (fun w' hw' => x_val _ (.inl rfl) rfl) ?_; try simp only [Act.put, List.setIfInBounds_toArray, List.set_cons_zero, List.set_cons_succ]
      refine k_in (v := .pointer (some ⟨bR, 0, none⟩)) rfl (fun w' hw' => x_val _ (.inl rfl) rfl) ?_; try simp only [Act.put, List.setIfInBounds_toArray, List.set_cons_zero, List.set_cons_succ]
      refine k_in (v := .pointer (some ⟨bR, 0, none⟩)) rfl (fun w' hw' => x_nilck _ rfl rfl) ?_; try simp only [Act.put, List.setIfInBounds_toArray, List.set_cons_zero, List.set_cons_succ]
      refine k_in (v := .pointer (some ⟨bR, 0, none⟩)) rfl (fun w' hw' => x_fa _ _ _ rfl rfl (fa_r0 _ _)) ?_; try simp only [Act.put, List.setIfInBounds_toArray, List.set_cons_zero, List.set_cons_succ]
      refine k_in (v := .slice p n c) rfl (fun w' hw' => x_cell _ _ rfl rfl ((hB _ hw').cell rfl) accs_agg) ?_; try simp only [Act.put, List.setIfInBounds_toArray, List.set_cons_zero, List.set_cons_succ]
      refine k_in (v := .int .i64 (n : Int)) rfl (fun w' hw' => x_lenA _ rfl rfl) ?_; try simp only [Act.put, List.setIfInBounds_toArray, List.set_cons_zero, List.set_cons_succ]
      have hkne : ((k : Int) == (n : Int)) = true := by simp; omega
      refine k_in (v := .bool true) rfl (fun w' hw' => x_eqI hkne _ _ _ rfl rfl rfl) ?_; try simp only [Act.put, List.setIfInBounds_toArray, List.set_cons_zero, List.set_cons_succ]
      refine k_in (v := .bool true) rfl (fun w' hw' => x_val _ (.inl rfl) rfl) ?_; try simp only [Act.put, List.setIfInBounds_toArray, List.set_cons_zero, List.set_cons_succ]
      refine k_skip (j := 7) (b := true) rfl rfl rfl rfl rfl ?_; try simp only [Act.put, List.setIfInBounds_toArray, List.set_cons_zero, List.set_cons_succ]
      refine k_skip (j := 7) (b := true) rfl rfl rfl rfl rfl ?_; try simp only [Act.put, List.setIfInBounds_toArray, List.set_cons_zero, List.set_cons_succ]
      refine k_skip (j := 7) (b := true) rfl rfl rfl rfl rfl ?_; try simp only [Act.put, List.setIfInBounds_toArray, List.set_cons_zero, List.set_cons_succ]
      refine k_skip (j := 7) (b := true) rfl rfl rfl rfl rfl ?_; try simp only [Act.put, List.setIfInBounds_toArray, List.set_cons_zero, List.set_cons_succ]
      refine k_skip (j := 7) (b := true) rfl rfl rfl rfl rfl ?_; try simp only [Act.put, List.setIfInBounds_toArray, List.set_cons_zero, List.set_cons_succ]
      refine k_skip (j := 7) (b := true) rfl rfl rfl rfl rfl ?_; try simp only [Act.put, List.setIfInBounds_toArray, List.set_cons_zero, List.set_cons_succ]
      refine k_skip (j := 7) (b := true) rfl rfl rfl rfl rfl ?_; try simp only [Act.put, List.setIfInBounds_toArray, List.set_cons_zero, List.set_cons_succ]
      refine k_skip (j := 7) (b := true) rfl rfl rfl rfl rfl ?_; try simp only [Act.put, List.setIfInBounds_toArray, List.set_cons_zero, List.set_cons_succ]
      refine k_skip (j := 7) (b := true) rfl rfl rfl rfl rfl ?_; try simp only [Act.put, List.setIfInBounds_toArray, List.set_cons_zero, List.set_cons_succ]
      refine k_skip (j := 7) (b := true) rfl rfl rfl rfl rfl ?_; try simp only [Act.put, List.setIfInBounds_toArray, List.set_cons_zero, List.set_cons_succ]
      refine k_in (v := .bool true) rfl (fun w' hw' => x_pickS (c := true) rfl _ _ _ rfl rfl rfl rfl) ?_; try simp only [Act.put, List.setIfInBounds_toArray, List.set_cons_zero, List.set_cons_succ]
      refine k_end ?_
      intro w3 hw3
      clear hkne hkn2
      have hT3 := hT.trans hw3
      have hkL2 : k ≤ L.length := by have := HN.out; omega
      have hall : L ≠ [] → ∃ G0, (p : Option Addr) = some ⟨G0, 0, none⟩ ∧ G0 < w.heap.size ∧ ∀ j u, (dCells L)[j]? = some u → w.cell? ⟨G0, j, none⟩ = some u := fun hne => (HR.out hne).imp fun G0 h => ⟨h.1, h.2.2.1, dcells_at h.2.2.2⟩
      obtain ⟨p', c', hsl, hp'⟩ := slice_fromD (p) n c k hkn HC.out
      have hdl : n - k = (L.drop k).length := by rw [List.length_drop, ← HN.out]
      rw [hdl] at hsl
      go_upto_region 5 with (fail)
      try simp only [Act.put, List.setIfInBounds_toArray, List.set_cons_zero, List.set_cons_succ]
      refine wp_region_lit ?_
      refine st_x (v := .pointer (some ⟨bR, 0, none⟩)) rfl (x_val _ (.inl rfl) rfl) ?_; try simp only [Act.put, List.setIfInBounds_toArray, List.set_cons_zero, List.set_cons_succ]
      refine st_x (v := .pointer (some ⟨bR, 0, none⟩)) rfl (x_nilck _ rfl rfl) ?_; try simp only [Act.put, List.setIfInBounds_toArray, List.set_cons_zero, List.set_cons_succ]
      refine st_x (v := .pointer (some ⟨bR, 0, none⟩)) rfl (x_fa _ _ _ rfl rfl (fa_r0 _ _)) ?_; try simp only [Act.put, List.setIfInBounds_toArray, List.set_cons_zero, List.set_cons_succ]
      refine st_x (v := .slice (p) n c) rfl (x_cell _ _ rfl rfl ((hB _ hw3).cell rfl) accs_agg) ?_; try simp only [Act.put, List.setIfInBounds_toArray, List.set_cons_zero, List.set_cons_succ]
      refine st_x (v := .int .i64 (k : Int)) rfl (x_val _ (.inl rfl) rfl) ?_; try simp only [Act.put, List.setIfInBounds_toArray, List.set_cons_zero, List.set_cons_succ]
      refine st_x (v := (.slice p' (L.drop k).length c')) rfl (x_slF _ _ _ rfl rfl rfl (hsl _)) ?_; try simp only [Act.put, List.setIfInBounds_toArray, List.set_cons_zero, List.set_cons_succ]
      refine st_appD (base := w3.heap.size) (N := 0) (us := []) (M := L.drop k) rfl rfl rfl rfl (World.ownsRow_nil _ _ _ _) (Nat.le_refl _) (fun hne => by
        obtain ⟨g', e, hl, hc⟩ := hall (fun e => by rw [e] at hne; simp at hne)
        have hkn' : k < n := by have := List.length_pos_iff.2 hne; omega
        exact ⟨g', k * 55, hp' hkn' g' e, drop_cells (w := w3) (g := g') (fun j u hu => (hT3.cell (p := ⟨g', j, none⟩) hl (by simp)).trans (hc j u hu)) hkL2⟩) (by have := HL.out; rw [← hdl]; have := HN.out; omega) ?_
      intro v6 w4 hown6 hT34 ho6
      try simp only [Act.put, List.setIfInBounds_toArray, List.set_cons_zero, List.set_cons_succ]
      rw [List.nil_append, Nat.zero_add] at hown6
      refine st_x (v := v6) rfl (x_val _ (.inr rfl) rfl) ?_; try simp only [Act.put, List.setIfInBounds_toArray, List.set_cons_zero, List.set_cons_succ]
      refine st_end14 ?_
      replace hT34 : Tch [] w3 w4 := hT34
      have hTw4 := hT3.trans hT34
      have hr4 := hw3.trans hT34
      go_upto_region 6 with (fail)
      try simp only [Act.put, List.setIfInBounds_toArray, List.set_cons_zero, List.set_cons_succ]
      refine wp_region_held_drew (S := fun w' => PT (fun j => j = bR) w4 w') (by kernel_rfl) (PT.nil ((Tch.refl _ _).drew)) (fun hC => ?_)
      have hTu0 : Tch [] w4 w4.drew := (Tch.refl [] w4).drew
      generalize World.drew w4 = u0 at hC hTu0 ⊢
      have hne3 : b3 ≠ bR := by have h7 := hS.le .head; have h8 := H.out.blk.lt; omega
      have G3 : ∀ u, PT (fun j => j = bR) w4 u → Blk u b3 23 (av A) := fun u hu => hu.blk (F3 _ hr4) hne3
      refine held_in (v := .pointer (some ⟨bR, 0, none⟩)) 0 rfl (by kernel_rfl) (by kernel_rfl) (by kernel_rfl) (fun _ _ _ h => h) hC rfl (fun w' hw' => x_val _ (.inl rfl) rfl) ?_; try simp only [Act.put, List.setIfInBounds_toArray, List.set_cons_zero, List.set_cons_succ]
      refine held_in (v := .pointer (some ⟨bR, 0, none⟩)) 1 rfl (by kernel_rfl) (by kernel_rfl) (by kernel_rfl) (fun _ _ _ h => h) hC rfl (fun w' hw' => x_val _ (.inl rfl) rfl) ?_; try simp only [Act.put, List.setIfInBounds_toArray, List.set_cons_zero, List.set_cons_succ]
      refine held_in (v := .pointer (some ⟨bR, 0, none⟩)) 2 rfl (by kernel_rfl) (by kernel_rfl) (by kernel_rfl) (fun _ _ _ h => h) hC rfl (fun w' hw' => x_nilck _ rfl rfl) ?_; try simp only [Act.put, List.setIfInBounds_toArray, List.set_cons_zero, List.set_cons_succ]
      refine held_in (v := .pointer (some ⟨bR, 0, none⟩)) 3 rfl (by kernel_rfl) (by kernel_rfl) (by kernel_rfl) (fun _ _ _ h => h) hC rfl (fun w' hw' => x_fa _ _ _ rfl rfl (fa_r0 _ _)) ?_; try simp only [Act.put, List.setIfInBounds_toArray, List.set_cons_zero, List.set_cons_succ]
      refine held_in (v := .int .i64 (k : Int)) 5 rfl (by kernel_rfl) (by kernel_rfl) (by kernel_rfl) (fun _ _ _ h => h) hC rfl (fun w' hw' => x_val _ (.inl rfl) rfl) ?_; try simp only [Act.put, List.setIfInBounds_toArray, List.set_cons_zero, List.set_cons_succ]
      refine held_in (v := .agg (av A)) 8 rfl (by kernel_rfl) (by kernel_rfl) (by kernel_rfl) (fun _ _ _ h => h) hC rfl (fun w' hw' => x_ld _ rfl rfl (G3 _ hw') addr_tyY rfl (by rw [arrV_size]; exact addr_sizeY)) ?_; try simp only [Act.put, List.setIfInBounds_toArray, List.set_cons_zero, List.set_cons_succ]
      refine held_in (v := .agg (dC A 0)) 9 rfl (by kernel_rfl) (by kernel_rfl) (by kernel_rfl) (fun _ _ _ h => h) hC rfl (fun w' hw' => x_bld (vals := #[(0, .agg (av A))]) rfl (by simp only [List.map_toArray, List.map_cons, List.map_nil]; rfl) (bld_acct _ _)) ?_; try simp only [Act.put, List.setIfInBounds_toArray, List.set_cons_zero, List.set_cons_succ]
      refine held_in (v := v6) 12 rfl (by kernel_rfl) (by kernel_rfl) (by kernel_rfl) (fun _ _ _ h => h) hC rfl (fun w' hw' => x_val _ (.inl rfl) rfl) ?_; try simp only [Act.put, List.setIfInBounds_toArray, List.set_cons_zero, List.set_cons_succ]
      refine held_two 4 10 (by kernel_rfl) ?_ ?_
      · refine held_x (v := .slice (p) n c) rfl rfl (x_cell _ _ rfl rfl ((hB _ (hr4.trans hTu0)).cell rfl) accs_agg) ⟨PT.nil hTu0, ?_⟩
        try simp only [Act.put, List.setIfInBounds_toArray, List.set_cons_zero, List.set_cons_succ]
        refine held_in (v := .slice (p) k c) 6 rfl (by kernel_rfl) (by kernel_rfl) (by kernel_rfl) (fun _ _ _ h => h) (PT.nil hTu0) rfl (fun w' hw' => x_slT _ _ _ rfl rfl rfl (slice_toD _ n c k hkn HC.out _)) ?_; try simp only [Act.put, List.setIfInBounds_toArray, List.set_cons_zero, List.set_cons_succ]
        refine held_two 7 10 (by kernel_rfl) ?_ ?_
        · refine held_appD (base := w4.heap.size) (N := 0) (us := []) (M := L.take k) (p := p) (c := c) rfl rfl rfl rfl (by rw [List.length_take, Nat.min_eq_left hkL2]; rfl) (World.ownsRow_nil _ _ _ _) hTu0.size (fun hne => by
            obtain ⟨g', e, hl, hc⟩ := hall (fun e => by rw [e] at hne; simp at hne)
            exact ⟨g', 0, e, take_cells (w := u0) (g := g') (fun j u hu => ((hTw4.trans hTu0).cell (p := ⟨g', j, none⟩) hl (by simp)).trans (hc j u hu)) hkL2⟩) (by have := HL.out; rw [List.length_take]; omega) ?_
          intro v7 u0_7 hown7 hTq ho7
          replace hTq : Tch [] u0 u0_7 := hTq
          rw [List.nil_append, Nat.zero_add] at hown7
          have hTu0_7 := hTu0.trans hTq
          clear hTq
          refine ⟨PT.nil hTu0_7, ?_⟩
          try simp only [Act.put, List.setIfInBounds_toArray, List.set_cons_zero, List.set_cons_succ]
          refine held_one 10 (by kernel_rfl) ?_
          refine held_bldD rfl rfl rfl rfl ?_
          intro u0_7_10 b10 hTq hb10 hbn
          have hTu0_7_10 := hTu0_7.trans hTq
          replace hown7 := own_call hown7 hTq (by simp)
          clear hTq hbn
          refine ⟨PT.nil hTu0_7_10, ?_⟩
          try simp only [Act.put, List.setIfInBounds_toArray, List.set_cons_zero, List.set_cons_succ]
          refine held_one 11 (by kernel_rfl) ?_
          refine held_appD (base := w4.heap.size) (v := v7) (M := [(A, 0)]) rfl rfl rfl rfl rfl hown7 hTu0_7_10.size (fun _ => ⟨b10, 0, rfl, fun j v hv => by rw [Nat.zero_add]; refine hb10.cell ?_; rw [← Array.getElem?_toList]; simpa [dCells] using hv⟩) (by have := HL.out; rw [List.length_take, List.length_singleton]; omega) ?_
          intro v11 y1 hown11 hTa ho11
          have hy1 : Tch [] w4 y1 := Tch.fresh hTu0_7_10 hTa (fun q hq => by
            cases hv7 : v7.ownBlock with
            | none => rw [hv7] at hq; simp at hq
            | some g7 => rw [hv7] at hq; simp at hq; subst hq; exact (hown7.lt _ hv7).1)
          refine ⟨PT.nil hy1, ?_⟩
          try simp only [Act.put, List.setIfInBounds_toArray, List.set_cons_zero, List.set_cons_succ]
          have hown6' := own_call hown6 hy1 (by simp)
          obtain ⟨p6, c6, hv6, hx6⟩ := own_cellsD hown6' rfl
          refine held_one 13 (by kernel_rfl) ?_
          refine held_appD (base := w4.heap.size) (v := v11) (M := L.drop k) rfl rfl rfl rfl hv6 hown11 hy1.size hx6 (by have := HL.out; rw [List.length_take, List.length_singleton, List.length_drop]; omega) ?_
          intro v13 y2 hown13 hTb ho13
          have hy2 : Tch [] w4 y2 := Tch.fresh hy1 hTb (fun q hq => by
            cases hv11 : v11.ownBlock with
            | none => rw [hv11] at hq; simp at hq
            | some g11 => rw [hv11] at hq; simp at hq; subst hq; exact (hown11.lt _ hv11).1)
          refine ⟨PT.nil hy2, ?_⟩
          try simp only [Act.put, List.setIfInBounds_toArray, List.set_cons_zero, List.set_cons_succ]
          have hcells : dCells (L.take k) ++ dCells [(A, 0)] ++ dCells (L.drop k) = dCells (L.take k ++ (A, 0) :: L.drop k) := by rw [← dCells_app, ← dCells_app, List.append_assoc]; rfl
          have hlenr : (L.take k).length + [(A, 0)].length + (L.drop k).length = (L.take k ++ (A, 0) :: L.drop k).length := by simp only [List.length_append, List.length_cons, List.length_nil]; omega
          rw [hcells, hlenr] at hown13
          refine held_in (v := .pointer (some ⟨bR, 0, none⟩)) 14 rfl (by kernel_rfl) (by kernel_rfl) (by kernel_rfl) (fun _ _ _ h => h) (PT.nil hy2) rfl (fun w' hw' => x_nilck _ rfl rfl) ?_; try simp only [Act.put, List.setIfInBounds_toArray, List.set_cons_zero, List.set_cons_succ]
          refine held_in (v := .pointer (some ⟨bR, 0, none⟩)) 15 rfl (by kernel_rfl) (by kernel_rfl) (by kernel_rfl) (fun _ _ _ h => h) (PT.nil hy2) rfl (fun w' hw' => x_fa _ _ _ rfl rfl (fa_r0 _ _)) ?_; try simp only [Act.put, List.setIfInBounds_toArray, List.set_cons_zero, List.set_cons_succ]
          have hBy : Blk y2 bR 54 #[.slice (p) n c, .slice none 0 0, .int .i64 0] := hB _ (hr4.trans hy2)
          have hv13 : v13.oneCell' = true := by
            rcases hown13.2 with ⟨rfl, _⟩ | ⟨_, _, _, rfl, _⟩ <;> rfl
          refine held_one 16 (by kernel_rfl) ?_
          obtain ⟨w5, hw5⟩ : ∃ w5, w5 = World.setCell y2 ⟨bR, 0, none⟩ v13 := ⟨_, rfl⟩
          refine held_skip (w' := w5) rfl rfl (by rw [hw5]; exact r_store1 _ _ rfl rfl rfl hBy one_size_accs (by show 0 < 3; decide) hv13) ?_
          have hO5 : Only bR y2 w5 := by rw [hw5]; exact Only.setCell y2 ⟨bR, 0, none⟩ _
          have hB5 : Blk w5 bR 54 #[v13, .slice none 0 0, .int .i64 0] := by rw [hw5]; exact hBy.set 0 v13
          clear hw5
          refine ⟨⟨hO5.os.trans hy2.os, hO5.tape.trans hy2.tape, hO5.output.trans hy2.output, Nat.le_trans hy2.size (Nat.le_of_eq hO5.size.symm), fun j hj hn => (hO5.block j hn).trans (hy2.block j hj (by simp))⟩, ?_⟩
          try simp only [Act.put, List.setIfInBounds_toArray, List.set_cons_zero, List.set_cons_succ]
          refine wpAnyH_done (by kernel_rfl) ?_ _
          have HM := at_made B w w3 w4 y2 w5 bR k c (p) v13 L A (by have := H.out; rwa [HLV.out] at this) HA.out hkL2 HK.out hins HL.out hTw4 hy2 hown13 hO5 hB5
          obtain ⟨g13, cap13, hv13e, hk13, HM⟩ := HM
          have hidx : k < (L.take k ++ (A, 0) :: L.drop k).length := hk13
          generalize (L.take k ++ (A, 0) :: L.drop k).length = m13 at hv13e hidx
          subst hv13e
          have HMM := Lib.hid HM
          clear HM
          go_upto_region 7 with (fail)
          try simp only [Act.put, List.setIfInBounds_toArray, List.set_cons_zero, List.set_cons_succ]
          refine wp_region_lit ?_
          refine st_x (v := .pointer (some ⟨bR, 0, none⟩)) rfl (x_val _ (.inl rfl) rfl) ?_; try simp only [Act.put, List.setIfInBounds_toArray, List.set_cons_zero, List.set_cons_succ]
          refine st_x (v := .pointer (some ⟨bR, 0, none⟩)) rfl (x_nilck _ rfl rfl) ?_; try simp only [Act.put, List.setIfInBounds_toArray, List.set_cons_zero, List.set_cons_succ]
          refine st_x (v := .pointer (some ⟨bR, 0, none⟩)) rfl (x_fa _ _ _ rfl rfl (fa_r0 _ _)) ?_; try simp only [Act.put, List.setIfInBounds_toArray, List.set_cons_zero, List.set_cons_succ]
          refine st_x (v := .slice (some ⟨g13, 0, none⟩) m13 cap13) rfl (x_cell _ _ rfl rfl (hB5.cell rfl) accs_agg) ?_; try simp only [Act.put, List.setIfInBounds_toArray, List.set_cons_zero, List.set_cons_succ]
          refine st_x (v := .int .i64 (k : Int)) rfl (x_val _ (.inl rfl) rfl) ?_; try simp only [Act.put, List.setIfInBounds_toArray, List.set_cons_zero, List.set_cons_succ]
          refine st_x (v := .pointer (some ⟨g13, 0 + k * 55, none⟩)) rfl (x_idxS _ _ rfl rfl rfl accts_tyY acct_sizeY hidx) ?_; try simp only [Act.put, List.setIfInBounds_toArray, List.set_cons_zero, List.set_cons_succ]
          refine st_x (v := .pointer (some ⟨g13, 0 + k * 55, none⟩)) rfl (x_val _ (.inr rfl) rfl) ?_; try simp only [Act.put, List.setIfInBounds_toArray, List.set_cons_zero, List.set_cons_succ]
          refine st_end14 ?_
          go_wp2
          show P (.returned (.pointer (some ⟨g13, 0 + k * 55, none⟩))) w5
          rw [HPP.out, Nat.zero_add]
          exact HMM.out w5 (Tch.refl _ _)
        · refine held_bldD rfl rfl rfl rfl ?_
          intro u0_10 b10 hTq hb10 hbn
          have hTu0_10 := hTu0.trans hTq
          clear hTq hbn
          refine ⟨PT.nil hTu0_10, ?_⟩
          try simp only [Act.put, List.setIfInBounds_toArray, List.set_cons_zero, List.set_cons_succ]
          refine held_one 7 (by kernel_rfl) ?_
          refine held_appD (base := w4.heap.size) (N := 0) (us := []) (M := L.take k) (p := p) (c := c) rfl rfl rfl rfl (by rw [List.length_take, Nat.min_eq_left hkL2]; rfl) (World.ownsRow_nil _ _ _ _) hTu0_10.size (fun hne => by
            obtain ⟨g', e, hl, hc⟩ := hall (fun e => by rw [e] at hne; simp at hne)
            exact ⟨g', 0, e, take_cells (w := u0_10) (g := g') (fun j u hu => ((hTw4.trans hTu0_10).cell (p := ⟨g', j, none⟩) hl (by simp)).trans (hc j u hu)) hkL2⟩) (by have := HL.out; rw [List.length_take]; omega) ?_
          intro v7 u0_10_7 hown7 hTq ho7
          replace hTq : Tch [] u0_10 u0_10_7 := hTq
          rw [List.nil_append, Nat.zero_add] at hown7
          have hTu0_10_7 := hTu0_10.trans hTq
          replace hb10 := hTq.blk hb10 (by simp)
          clear hTq
          refine ⟨PT.nil hTu0_10_7, ?_⟩
          try simp only [Act.put, List.setIfInBounds_toArray, List.set_cons_zero, List.set_cons_succ]
          refine held_one 11 (by kernel_rfl) ?_
          refine held_appD (base := w4.heap.size) (v := v7) (M := [(A, 0)]) rfl rfl rfl rfl rfl hown7 hTu0_10_7.size (fun _ => ⟨b10, 0, rfl, fun j v hv => by rw [Nat.zero_add]; refine hb10.cell ?_; rw [← Array.getElem?_toList]; simpa [dCells] using hv⟩) (by have := HL.out; rw [List.length_take, List.length_singleton]; omega) ?_
          intro v11 y1 hown11 hTa ho11
          have hy1 : Tch [] w4 y1 := Tch.fresh hTu0_10_7 hTa (fun q hq => by
            cases hv7 : v7.ownBlock with
            | none => rw [hv7] at hq; simp at hq
            | some g7 => rw [hv7] at hq; simp at hq; subst hq; exact (hown7.lt _ hv7).1)
          refine ⟨PT.nil hy1, ?_⟩
          try simp only [Act.put, List.setIfInBounds_toArray, List.set_cons_zero, List.set_cons_succ]
          have hown6' := own_call hown6 hy1 (by simp)
          obtain ⟨p6, c6, hv6, hx6⟩ := own_cellsD hown6' rfl
          refine held_one 13 (by kernel_rfl) ?_
          refine held_appD (base := w4.heap.size) (v := v11) (M := L.drop k) rfl rfl rfl rfl hv6 hown11 hy1.size hx6 (by have := HL.out; rw [List.length_take, List.length_singleton, List.length_drop]; omega) ?_
          intro v13 y2 hown13 hTb ho13
          have hy2 : Tch [] w4 y2 := Tch.fresh hy1 hTb (fun q hq => by
            cases hv11 : v11.ownBlock with
            | none => rw [hv11] at hq; simp at hq
            | some g11 => rw [hv11] at hq; simp at hq; subst hq; exact (hown11.lt _ hv11).1)
          refine ⟨PT.nil hy2, ?_⟩
          try simp only [Act.put, List.setIfInBounds_toArray, List.set_cons_zero, List.set_cons_succ]
          have hcells : dCells (L.take k) ++ dCells [(A, 0)] ++ dCells (L.drop k) = dCells (L.take k ++ (A, 0) :: L.drop k) := by rw [← dCells_app, ← dCells_app, List.append_assoc]; rfl
          have hlenr : (L.take k).length + [(A, 0)].length + (L.drop k).length = (L.take k ++ (A, 0) :: L.drop k).length := by simp only [List.length_append, List.length_cons, List.length_nil]; omega
          rw [hcells, hlenr] at hown13
          refine held_in (v := .pointer (some ⟨bR, 0, none⟩)) 14 rfl (by kernel_rfl) (by kernel_rfl) (by kernel_rfl) (fun _ _ _ h => h) (PT.nil hy2) rfl (fun w' hw' => x_nilck _ rfl rfl) ?_; try simp only [Act.put, List.setIfInBounds_toArray, List.set_cons_zero, List.set_cons_succ]
          refine held_in (v := .pointer (some ⟨bR, 0, none⟩)) 15 rfl (by kernel_rfl) (by kernel_rfl) (by kernel_rfl) (fun _ _ _ h => h) (PT.nil hy2) rfl (fun w' hw' => x_fa _ _ _ rfl rfl (fa_r0 _ _)) ?_; try simp only [Act.put, List.setIfInBounds_toArray, List.set_cons_zero, List.set_cons_succ]
          have hBy : Blk y2 bR 54 #[.slice (p) n c, .slice none 0 0, .int .i64 0] := hB _ (hr4.trans hy2)
          have hv13 : v13.oneCell' = true := by
            rcases hown13.2 with ⟨rfl, _⟩ | ⟨_, _, _, rfl, _⟩ <;> rfl
          refine held_one 16 (by kernel_rfl) ?_
          obtain ⟨w5, hw5⟩ : ∃ w5, w5 = World.setCell y2 ⟨bR, 0, none⟩ v13 := ⟨_, rfl⟩
          refine held_skip (w' := w5) rfl rfl (by rw [hw5]; exact r_store1 _ _ rfl rfl rfl hBy one_size_accs (by show 0 < 3; decide) hv13) ?_
          have hO5 : Only bR y2 w5 := by rw [hw5]; exact Only.setCell y2 ⟨bR, 0, none⟩ _
          have hB5 : Blk w5 bR 54 #[v13, .slice none 0 0, .int .i64 0] := by rw [hw5]; exact hBy.set 0 v13
          clear hw5
          refine ⟨⟨hO5.os.trans hy2.os, hO5.tape.trans hy2.tape, hO5.output.trans hy2.output, Nat.le_trans hy2.size (Nat.le_of_eq hO5.size.symm), fun j hj hn => (hO5.block j hn).trans (hy2.block j hj (by simp))⟩, ?_⟩
          try simp only [Act.put, List.setIfInBounds_toArray, List.set_cons_zero, List.set_cons_succ]
          refine wpAnyH_done (by kernel_rfl) ?_ _
          have HM := at_made B w w3 w4 y2 w5 bR k c (p) v13 L A (by have := H.out; rwa [HLV.out] at this) HA.out hkL2 HK.out hins HL.out hTw4 hy2 hown13 hO5 hB5
          obtain ⟨g13, cap13, hv13e, hk13, HM⟩ := HM
          have hidx : k < (L.take k ++ (A, 0) :: L.drop k).length := hk13
          generalize (L.take k ++ (A, 0) :: L.drop k).length = m13 at hv13e hidx
          subst hv13e
          have HMM := Lib.hid HM
          clear HM
          go_upto_region 7 with (fail)
          try simp only [Act.put, List.setIfInBounds_toArray, List.set_cons_zero, List.set_cons_succ]
          refine wp_region_lit ?_
          refine st_x (v := .pointer (some ⟨bR, 0, none⟩)) rfl (x_val _ (.inl rfl) rfl) ?_; try simp only [Act.put, List.setIfInBounds_toArray, List.set_cons_zero, List.set_cons_succ]
          refine st_x (v := .pointer (some ⟨bR, 0, none⟩)) rfl (x_nilck _ rfl rfl) ?_; try simp only [Act.put, List.setIfInBounds_toArray, List.set_cons_zero, List.set_cons_succ]
          refine st_x (v := .pointer (some ⟨bR, 0, none⟩)) rfl (x_fa _ _ _ rfl rfl (fa_r0 _ _)) ?_; try simp only [Act.put, List.setIfInBounds_toArray, List.set_cons_zero, List.set_cons_succ]
          refine st_x (v := .slice (some ⟨g13, 0, none⟩) m13 cap13) rfl (x_cell _ _ rfl rfl (hB5.cell rfl) accs_agg) ?_; try simp only [Act.put, List.setIfInBounds_toArray, List.set_cons_zero, List.set_cons_succ]
          refine st_x (v := .int .i64 (k : Int)) rfl (x_val _ (.inl rfl) rfl) ?_; try simp only [Act.put, List.setIfInBounds_toArray, List.set_cons_zero, List.set_cons_succ]
          refine st_x (v := .pointer (some ⟨g13, 0 + k * 55, none⟩)) rfl (x_idxS _ _ rfl rfl rfl accts_tyY acct_sizeY hidx) ?_; try simp only [Act.put, List.setIfInBounds_toArray, List.set_cons_zero, List.set_cons_succ]
          refine st_x (v := .pointer (some ⟨g13, 0 + k * 55, none⟩)) rfl (x_val _ (.inr rfl) rfl) ?_; try simp only [Act.put, List.setIfInBounds_toArray, List.set_cons_zero, List.set_cons_succ]
          refine st_end14 ?_
          go_wp2
          show P (.returned (.pointer (some ⟨g13, 0 + k * 55, none⟩))) w5
          rw [HPP.out, Nat.zero_add]
          exact HMM.out w5 (Tch.refl _ _)
      · refine held_bldD rfl rfl rfl rfl ?_
        intro u0_10 b10 hTq hb10 hbn
        have hTu0_10 := hTu0.trans hTq
        clear hTq hbn
        refine ⟨PT.nil hTu0_10, ?_⟩
        try simp only [Act.put, List.setIfInBounds_toArray, List.set_cons_zero, List.set_cons_succ]
        refine held_one 4 (by kernel_rfl) ?_
        refine held_x (v := .slice (p) n c) rfl rfl (x_cell _ _ rfl rfl ((hB _ (hr4.trans hTu0_10)).cell rfl) accs_agg) ⟨PT.nil hTu0_10, ?_⟩
        try simp only [Act.put, List.setIfInBounds_toArray, List.set_cons_zero, List.set_cons_succ]
        refine held_in (v := .slice (p) k c) 6 rfl (by kernel_rfl) (by kernel_rfl) (by kernel_rfl) (fun _ _ _ h => h) (PT.nil hTu0_10) rfl (fun w' hw' => x_slT _ _ _ rfl rfl rfl (slice_toD _ n c k hkn HC.out _)) ?_; try simp only [Act.put, List.setIfInBounds_toArray, List.set_cons_zero, List.set_cons_succ]
        refine held_one 7 (by kernel_rfl) ?_
        refine held_appD (base := w4.heap.size) (N := 0) (us := []) (M := L.take k) (p := p) (c := c) rfl rfl rfl rfl (by rw [List.length_take, Nat.min_eq_left hkL2]; rfl) (World.ownsRow_nil _ _ _ _) hTu0_10.size (fun hne => by
          obtain ⟨g', e, hl, hc⟩ := hall (fun e => by rw [e] at hne; simp at hne)
          exact ⟨g', 0, e, take_cells (w := u0_10) (g := g') (fun j u hu => ((hTw4.trans hTu0_10).cell (p := ⟨g', j, none⟩) hl (by simp)).trans (hc j u hu)) hkL2⟩) (by have := HL.out; rw [List.length_take]; omega) ?_
        intro v7 u0_10_7 hown7 hTq ho7
        replace hTq : Tch [] u0_10 u0_10_7 := hTq
        rw [List.nil_append, Nat.zero_add] at hown7
        have hTu0_10_7 := hTu0_10.trans hTq
        replace hb10 := hTq.blk hb10 (by simp)
        clear hTq
        refine ⟨PT.nil hTu0_10_7, ?_⟩
        try simp only [Act.put, List.setIfInBounds_toArray, List.set_cons_zero, List.set_cons_succ]
        refine held_one 11 (by kernel_rfl) ?_
        refine held_appD (base := w4.heap.size) (v := v7) (M := [(A, 0)]) rfl rfl rfl rfl rfl hown7 hTu0_10_7.size (fun _ => ⟨b10, 0, rfl, fun j v hv => by rw [Nat.zero_add]; refine hb10.cell ?_; rw [← Array.getElem?_toList]; simpa [dCells] using hv⟩) (by have := HL.out; rw [List.length_take, List.length_singleton]; omega) ?_
        intro v11 y1 hown11 hTa ho11
        have hy1 : Tch [] w4 y1 := Tch.fresh hTu0_10_7 hTa (fun q hq => by
          cases hv7 : v7.ownBlock with
          | none => rw [hv7] at hq; simp at hq
          | some g7 => rw [hv7] at hq; simp at hq; subst hq; exact (hown7.lt _ hv7).1)
        refine ⟨PT.nil hy1, ?_⟩
        try simp only [Act.put, List.setIfInBounds_toArray, List.set_cons_zero, List.set_cons_succ]
        have hown6' := own_call hown6 hy1 (by simp)
        obtain ⟨p6, c6, hv6, hx6⟩ := own_cellsD hown6' rfl
        refine held_one 13 (by kernel_rfl) ?_
        refine held_appD (base := w4.heap.size) (v := v11) (M := L.drop k) rfl rfl rfl rfl hv6 hown11 hy1.size hx6 (by have := HL.out; rw [List.length_take, List.length_singleton, List.length_drop]; omega) ?_
        intro v13 y2 hown13 hTb ho13
        have hy2 : Tch [] w4 y2 := Tch.fresh hy1 hTb (fun q hq => by
          cases hv11 : v11.ownBlock with
          | none => rw [hv11] at hq; simp at hq
          | some g11 => rw [hv11] at hq; simp at hq; subst hq; exact (hown11.lt _ hv11).1)
        refine ⟨PT.nil hy2, ?_⟩
        try simp only [Act.put, List.setIfInBounds_toArray, List.set_cons_zero, List.set_cons_succ]
        have hcells : dCells (L.take k) ++ dCells [(A, 0)] ++ dCells (L.drop k) = dCells (L.take k ++ (A, 0) :: L.drop k) := by rw [← dCells_app, ← dCells_app, List.append_assoc]; rfl
        have hlenr : (L.take k).length + [(A, 0)].length + (L.drop k).length = (L.take k ++ (A, 0) :: L.drop k).length := by simp only [List.length_append, List.length_cons, List.length_nil]; omega
        rw [hcells, hlenr] at hown13
        refine held_in (v := .pointer (some ⟨bR, 0, none⟩)) 14 rfl (by kernel_rfl) (by kernel_rfl) (by kernel_rfl) (fun _ _ _ h => h) (PT.nil hy2) rfl (fun w' hw' => x_nilck _ rfl rfl) ?_; try simp only [Act.put, List.setIfInBounds_toArray, List.set_cons_zero, List.set_cons_succ]
        refine held_in (v := .pointer (some ⟨bR, 0, none⟩)) 15 rfl (by kernel_rfl) (by kernel_rfl) (by kernel_rfl) (fun _ _ _ h => h) (PT.nil hy2) rfl (fun w' hw' => x_fa _ _ _ rfl rfl (fa_r0 _ _)) ?_; try simp only [Act.put, List.setIfInBounds_toArray, List.set_cons_zero, List.set_cons_succ]
        have hBy : Blk y2 bR 54 #[.slice (p) n c, .slice none 0 0, .int .i64 0] := hB _ (hr4.trans hy2)
        have hv13 : v13.oneCell' = true := by
          rcases hown13.2 with ⟨rfl, _⟩ | ⟨_, _, _, rfl, _⟩ <;> rfl
        refine held_one 16 (by kernel_rfl) ?_
        obtain ⟨w5, hw5⟩ : ∃ w5, w5 = World.setCell y2 ⟨bR, 0, none⟩ v13 := ⟨_, rfl⟩
        refine held_skip (w' := w5) rfl rfl (by rw [hw5]; exact r_store1 _ _ rfl rfl rfl hBy one_size_accs (by show 0 < 3; decide) hv13) ?_
        have hO5 : Only bR y2 w5 := by rw [hw5]; exact Only.setCell y2 ⟨bR, 0, none⟩ _
        have hB5 : Blk w5 bR 54 #[v13, .slice none 0 0, .int .i64 0] := by rw [hw5]; exact hBy.set 0 v13
        clear hw5
        refine ⟨⟨hO5.os.trans hy2.os, hO5.tape.trans hy2.tape, hO5.output.trans hy2.output, Nat.le_trans hy2.size (Nat.le_of_eq hO5.size.symm), fun j hj hn => (hO5.block j hn).trans (hy2.block j hj (by simp))⟩, ?_⟩
        try simp only [Act.put, List.setIfInBounds_toArray, List.set_cons_zero, List.set_cons_succ]
        refine wpAnyH_done (by kernel_rfl) ?_ _
        have HM := at_made B w w3 w4 y2 w5 bR k c (p) v13 L A (by have := H.out; rwa [HLV.out] at this) HA.out hkL2 HK.out hins HL.out hTw4 hy2 hown13 hO5 hB5
        obtain ⟨g13, cap13, hv13e, hk13, HM⟩ := HM
        have hidx : k < (L.take k ++ (A, 0) :: L.drop k).length := hk13
        generalize (L.take k ++ (A, 0) :: L.drop k).length = m13 at hv13e hidx
        subst hv13e
        have HMM := Lib.hid HM
        clear HM
        go_upto_region 7 with (fail)
        try simp only [Act.put, List.setIfInBounds_toArray, List.set_cons_zero, List.set_cons_succ]
        refine wp_region_lit ?_
        refine st_x (v := .pointer (some ⟨bR, 0, none⟩)) rfl (x_val _ (.inl rfl) rfl) ?_; try simp only [Act.put, List.setIfInBounds_toArray, List.set_cons_zero, List.set_cons_succ]
        refine st_x (v := .pointer (some ⟨bR, 0, none⟩)) rfl (x_nilck _ rfl rfl) ?_; try simp only [Act.put, List.setIfInBounds_toArray, List.set_cons_zero, List.set_cons_succ]
        refine st_x (v := .pointer (some ⟨bR, 0, none⟩)) rfl (x_fa _ _ _ rfl rfl (fa_r0 _ _)) ?_; try simp only [Act.put, List.setIfInBounds_toArray, List.set_cons_zero, List.set_cons_succ]
        refine st_x (v := .slice (some ⟨g13, 0, none⟩) m13 cap13) rfl (x_cell _ _ rfl rfl (hB5.cell rfl) accs_agg) ?_; try simp only [Act.put, List.setIfInBounds_toArray, List.set_cons_zero, List.set_cons_succ]
        refine st_x (v := .int .i64 (k : Int)) rfl (x_val _ (.inl rfl) rfl) ?_; try simp only [Act.put, List.setIfInBounds_toArray, List.set_cons_zero, List.set_cons_succ]
        refine st_x (v := .pointer (some ⟨g13, 0 + k * 55, none⟩)) rfl (x_idxS _ _ rfl rfl rfl accts_tyY acct_sizeY hidx) ?_; try simp only [Act.put, List.setIfInBounds_toArray, List.set_cons_zero, List.set_cons_succ]
        refine st_x (v := .pointer (some ⟨g13, 0 + k * 55, none⟩)) rfl (x_val _ (.inr rfl) rfl) ?_; try simp only [Act.put, List.setIfInBounds_toArray, List.set_cons_zero, List.set_cons_succ]
        refine st_end14 ?_
        go_wp2
        show P (.returned (.pointer (some ⟨g13, 0 + k * 55, none⟩))) w5
        rw [HPP.out, Nat.zero_add]
        exact HMM.out w5 (Tch.refl _ _)
end Go.Proofs.Ytklpcppdjcedpaa
