/- Len and Dup, the program's and the document's. -/
import Derived.Test.YtlliidfkjlmadaaI7
set_option linter.unusedVariables false
set_option linter.unusedSimpArgs false
namespace Go.Proofs.Ytlliidfkjlmadaa
open Go.RowKit
set_option maxRecDepth 100000
set_option maxHeartbeats 4000000

theorem len_any (B b : Nat) (v : Value) (Ws : List (List Nat)) (w : World) (h : StkIn B 29 w b v Ws) :
    Calls Try.prog 11 #[.pointer (some ⟨b, 0, none⟩)] w fun e w' => e = .returned (.int .i64 (Ws.length : Int)) ∧ w' = w := by
  obtain ⟨p, c, rfl, _⟩ := h.slice
  have hS := St.one h.blk
  clear h
  go_enter Try.func11, Try.ntmps11
  go_wp2_with (refine st_cell1 (v := .slice p Ws.length c) hS rfl 27 _ rfl rfl .head rfl words_aggI ?_)
  go_ret
  exact ⟨rfl, rfl⟩
def dupOk (Ws : List (List Nat)) (n : Int) : Bool := decide (1 ≤ n ∧ n ≤ Ws.length ∧ Ws.length < 1024)
def dupL (Ws : List (List Nat)) (n : Int) : List (List Nat) := if 1 ≤ n ∧ n ≤ Ws.length then pushL Ws (Ws.getD (Ws.length - n.toNat) []) else Ws
/-- A row that has an element lies in a block. -/
theorem row_blk {w : World} {B e m n : Nat} {p : Option Addr} {c : Nat} {xs : List Value} (h : w.ownsRow B e m (.slice p n c) n xs) (hn : 0 < n) : ∃ g, p = some ⟨g, 0, none⟩ ∧ n ≤ c := by
  rcases h.2 with ⟨_, e2⟩ | ⟨g, cap, cur, e1, _, _, hc, _⟩
  · omega
  · injection e1 with e1 _ e3
    exact ⟨g, e1, by omega⟩
theorem dup_any (B b : Nat) (v : Value) (Ws : List (List Nat)) (n : Int) (w : World) (h : StkIn B 29 w b v Ws) (hl : Ws.length ≤ 1024) :
    Calls Try.prog 21 #[.pointer (some ⟨b, 0, none⟩), .int .i64 n] w (StkP B 29 w b v (dupOk Ws n) (dupL Ws n)) := by
  obtain ⟨p, c, rfl, hc⟩ := h.slice
  have HH := Lib.hid h
  have HB := Lib.hid (fun w' (hT : Tch [] w w') => hT.blk h.blk (by simp))
  by_cases h1 : n < 1
  · rw [show dupOk Ws n = false from decide_eq_false (by omega), show dupL Ws n = Ws from if_neg (by omega)]
    clear h
    go_enter Try.func21, Try.ntmps21
    go_upto_region 1 with (fail)
    try simp only [Act.put, List.setIfInBounds_toArray, List.set_cons_zero, List.set_cons_succ]
    refine k_seq (C := fun w' => Tch [] w w') (Tch.refl _ _) ?_
    refine k_val (v := .int .i64 n) rfl _ (.inl rfl) rfl ?_; try simp only [Act.put, List.setIfInBounds_toArray, List.set_cons_zero, List.set_cons_succ]
    refine k_lss (m := n) (n := 1) (t := true) rfl _ _ _ rfl rfl rfl (decide_eq_true (by omega)) ?_; try simp only [Act.put, List.setIfInBounds_toArray, List.set_cons_zero, List.set_cons_succ]
    refine k_val (v := .bool true) rfl _ (.inl rfl) rfl ?_; try simp only [Act.put, List.setIfInBounds_toArray, List.set_cons_zero, List.set_cons_succ]
    refine k_skip rfl rfl rfl rfl rfl ?_; try simp only [Act.put, List.setIfInBounds_toArray, List.set_cons_zero, List.set_cons_succ]
    refine k_skip rfl rfl rfl rfl rfl ?_; try simp only [Act.put, List.setIfInBounds_toArray, List.set_cons_zero, List.set_cons_succ]
    refine k_skip rfl rfl rfl rfl rfl ?_; try simp only [Act.put, List.setIfInBounds_toArray, List.set_cons_zero, List.set_cons_succ]
    refine k_skip rfl rfl rfl rfl rfl ?_; try simp only [Act.put, List.setIfInBounds_toArray, List.set_cons_zero, List.set_cons_succ]
    refine k_skip rfl rfl rfl rfl rfl ?_; try simp only [Act.put, List.setIfInBounds_toArray, List.set_cons_zero, List.set_cons_succ]
    refine k_skip rfl rfl rfl rfl rfl ?_; try simp only [Act.put, List.setIfInBounds_toArray, List.set_cons_zero, List.set_cons_succ]
    refine k_skip rfl rfl rfl rfl rfl ?_; try simp only [Act.put, List.setIfInBounds_toArray, List.set_cons_zero, List.set_cons_succ]
    refine k_pickT (t := true) rfl _ _ _ rfl rfl rfl ?_; try simp only [Act.put, List.setIfInBounds_toArray, List.set_cons_zero, List.set_cons_succ]
    refine k_end ?_
    intro w2 hT2
    go_wp2
    go_ret
    exact StkP.mk rfl (HH.out.call hT2) (Turned.of_tch hT2 _ _)
  by_cases h2 : (Ws.length : Int) < n
  · rw [show dupOk Ws n = false from decide_eq_false (by omega), show dupL Ws n = Ws from if_neg (by omega)]
    clear h
    go_enter Try.func21, Try.ntmps21
    go_upto_region 1 with (fail)
    try simp only [Act.put, List.setIfInBounds_toArray, List.set_cons_zero, List.set_cons_succ]
    refine k_seq (C := fun w' => Tch [] w w') (Tch.refl _ _) ?_
    refine k_val (v := .int .i64 n) rfl _ (.inl rfl) rfl ?_; try simp only [Act.put, List.setIfInBounds_toArray, List.set_cons_zero, List.set_cons_succ]
    refine k_lss (m := n) (n := 1) (t := false) rfl _ _ _ rfl rfl rfl (decide_eq_false (by omega)) ?_; try simp only [Act.put, List.setIfInBounds_toArray, List.set_cons_zero, List.set_cons_succ]
    refine k_val (v := .bool false) rfl _ (.inl rfl) rfl ?_; try simp only [Act.put, List.setIfInBounds_toArray, List.set_cons_zero, List.set_cons_succ]
    refine k_val (v := .int .i64 n) rfl _ (.inl rfl) rfl ?_; try simp only [Act.put, List.setIfInBounds_toArray, List.set_cons_zero, List.set_cons_succ]
    refine k_val (v := .pointer (some ⟨b, 0, none⟩)) rfl _ (.inl rfl) rfl ?_; try simp only [Act.put, List.setIfInBounds_toArray, List.set_cons_zero, List.set_cons_succ]
    refine k_nilI ⟨b, 0, none⟩ rfl _ rfl rfl ?_; try simp only [Act.put, List.setIfInBounds_toArray, List.set_cons_zero, List.set_cons_succ]
    refine k_faI rfl rfl rfl (fa_stkP b) ?_; try simp only [Act.put, List.setIfInBounds_toArray, List.set_cons_zero, List.set_cons_succ]
    refine k_cellC (b := b) (j := 0) (v := .slice p Ws.length c) rfl _ _ rfl rfl (fun w' h => (HB.out w' h).cell rfl) words_aggI ?_; try simp only [Act.put, List.setIfInBounds_toArray, List.set_cons_zero, List.set_cons_succ]
    refine k_lenW (p := p) (n := Ws.length) (c := c) rfl _ rfl rfl ?_; try simp only [Act.put, List.setIfInBounds_toArray, List.set_cons_zero, List.set_cons_succ]
    refine k_gtr (m := n) (n := (Ws.length : Int)) (t := true) rfl _ _ _ rfl rfl rfl (decide_eq_true (by omega)) ?_; try simp only [Act.put, List.setIfInBounds_toArray, List.set_cons_zero, List.set_cons_succ]
    refine k_pickF (t := true) rfl _ _ _ rfl rfl rfl ?_; try simp only [Act.put, List.setIfInBounds_toArray, List.set_cons_zero, List.set_cons_succ]
    refine k_end ?_
    intro w2 hT2
    go_wp2
    go_ret
    exact StkP.mk rfl (HH.out.call hT2) (Turned.of_tch hT2 _ _)
  obtain ⟨n, rfl⟩ : ∃ m : Nat, n = m := ⟨n.toNat, by omega⟩
  have hk : Ws.length - n < Ws.length := by omega
  have hok : dupOk Ws (n : Int) = pushOk Ws := by
    unfold dupOk pushOk
    rw [decide_eq_decide]; omega
  rw [hok, show dupL Ws (n : Int) = pushL Ws (Ws.getD (Ws.length - n) []) from by unfold dupL; rw [if_pos (by omega), Int.toNat_natCast]]
  obtain ⟨g, rfl, _⟩ := row_blk h.own (by omega)
  obtain ⟨W, hWd⟩ : ∃ W, W = Ws.getD (Ws.length - n) [] := ⟨_, rfl⟩
  have hW : Ws[Ws.length - n] = W := by rw [hWd, List.getD_eq_getElem?_getD, List.getElem?_eq_getElem hk]; rfl
  rw [← hWd]
  clear h hWd hok
  go_enter Try.func21, Try.ntmps21
  go_upto_region 1 with (fail)
  try simp only [Act.put, List.setIfInBounds_toArray, List.set_cons_zero, List.set_cons_succ]
  refine k_seq (C := fun w' => Tch [] w w') (Tch.refl _ _) ?_
  refine k_val (v := .int .i64 (n : Int)) rfl _ (.inl rfl) rfl ?_; try simp only [Act.put, List.setIfInBounds_toArray, List.set_cons_zero, List.set_cons_succ]
  refine k_lss (m := (n : Int)) (n := 1) (t := false) rfl _ _ _ rfl rfl rfl (decide_eq_false (by omega)) ?_; try simp only [Act.put, List.setIfInBounds_toArray, List.set_cons_zero, List.set_cons_succ]
  refine k_val (v := .bool false) rfl _ (.inl rfl) rfl ?_; try simp only [Act.put, List.setIfInBounds_toArray, List.set_cons_zero, List.set_cons_succ]
  refine k_val (v := .int .i64 (n : Int)) rfl _ (.inl rfl) rfl ?_; try simp only [Act.put, List.setIfInBounds_toArray, List.set_cons_zero, List.set_cons_succ]
  refine k_val (v := .pointer (some ⟨b, 0, none⟩)) rfl _ (.inl rfl) rfl ?_; try simp only [Act.put, List.setIfInBounds_toArray, List.set_cons_zero, List.set_cons_succ]
  refine k_nilI ⟨b, 0, none⟩ rfl _ rfl rfl ?_; try simp only [Act.put, List.setIfInBounds_toArray, List.set_cons_zero, List.set_cons_succ]
  refine k_faI rfl rfl rfl (fa_stkP b) ?_; try simp only [Act.put, List.setIfInBounds_toArray, List.set_cons_zero, List.set_cons_succ]
  refine k_cellC (b := b) (j := 0) (v := .slice (some ⟨g, 0, none⟩) Ws.length c) rfl _ _ rfl rfl (fun w' h => (HB.out w' h).cell rfl) words_aggI ?_; try simp only [Act.put, List.setIfInBounds_toArray, List.set_cons_zero, List.set_cons_succ]
  refine k_lenW (p := (some ⟨g, 0, none⟩)) (n := Ws.length) (c := c) rfl _ rfl rfl ?_; try simp only [Act.put, List.setIfInBounds_toArray, List.set_cons_zero, List.set_cons_succ]
  refine k_gtr (m := (n : Int)) (n := (Ws.length : Int)) (t := false) rfl _ _ _ rfl rfl rfl (decide_eq_false (by omega)) ?_; try simp only [Act.put, List.setIfInBounds_toArray, List.set_cons_zero, List.set_cons_succ]
  refine k_pickF (t := false) rfl _ _ _ rfl rfl rfl ?_; try simp only [Act.put, List.setIfInBounds_toArray, List.set_cons_zero, List.set_cons_succ]
  refine k_end ?_
  intro w2 hT2
  go_upto_region 3 with (fail)
  try simp only [Act.put, List.setIfInBounds_toArray, List.set_cons_zero, List.set_cons_succ]
  have HB2 := Lib.hid (fun w' (hT : Tch [] w w') => hT.blk HH.out.blk (by simp))
  have HO := Lib.hid (fun w' (hT : Tch [] w w') => (HH.out.call hT).own)
  refine k_region_head (C := fun w' => Tch [] w w') 14 (by kernel_rfl) (by kernel_rfl) hT2.drew ?_
  try simp only [List.take_succ_cons, List.take_zero, List.drop_succ_cons, List.drop_zero]
  refine k_val (v := .pointer (some ⟨b, 0, none⟩)) rfl _ (.inl rfl) rfl ?_; try simp only [Act.put, List.setIfInBounds_toArray, List.set_cons_zero, List.set_cons_succ]
  refine k_val (v := .pointer (some ⟨b, 0, none⟩)) rfl _ (.inl rfl) rfl ?_; try simp only [Act.put, List.setIfInBounds_toArray, List.set_cons_zero, List.set_cons_succ]
  refine k_nilI ⟨b, 0, none⟩ rfl _ rfl rfl ?_; try simp only [Act.put, List.setIfInBounds_toArray, List.set_cons_zero, List.set_cons_succ]
  refine k_faI rfl rfl rfl (fa_stkP b) ?_; try simp only [Act.put, List.setIfInBounds_toArray, List.set_cons_zero, List.set_cons_succ]
  refine k_cellC (b := b) (j := 0) (v := .slice (some ⟨g, 0, none⟩) Ws.length c) rfl _ _ rfl rfl (fun w' h => (HB2.out w' h).cell rfl) words_aggI ?_; try simp only [Act.put, List.setIfInBounds_toArray, List.set_cons_zero, List.set_cons_succ]
  refine k_val (v := .pointer (some ⟨b, 0, none⟩)) rfl _ (.inl rfl) rfl ?_; try simp only [Act.put, List.setIfInBounds_toArray, List.set_cons_zero, List.set_cons_succ]
  refine k_nilI ⟨b, 0, none⟩ rfl _ rfl rfl ?_; try simp only [Act.put, List.setIfInBounds_toArray, List.set_cons_zero, List.set_cons_succ]
  refine k_faI rfl rfl rfl (fa_stkP b) ?_; try simp only [Act.put, List.setIfInBounds_toArray, List.set_cons_zero, List.set_cons_succ]
  refine k_cellC (b := b) (j := 0) (v := .slice (some ⟨g, 0, none⟩) Ws.length c) rfl _ _ rfl rfl (fun w' h => (HB2.out w' h).cell rfl) words_aggI ?_; try simp only [Act.put, List.setIfInBounds_toArray, List.set_cons_zero, List.set_cons_succ]
  refine k_lenW (p := (some ⟨g, 0, none⟩)) (n := Ws.length) (c := c) rfl _ rfl rfl ?_; try simp only [Act.put, List.setIfInBounds_toArray, List.set_cons_zero, List.set_cons_succ]
  refine k_val (v := .int .i64 (n : Int)) rfl _ (.inl rfl) rfl ?_; try simp only [Act.put, List.setIfInBounds_toArray, List.set_cons_zero, List.set_cons_succ]
  refine k_sub (m := (Ws.length : Int)) (n := (n : Int)) (s := ((Ws.length - n : Nat) : Int)) rfl _ _ _ _ rfl rfl rfl (by rw [IntKind.wrap_i64]; omega) ?_; try simp only [Act.put, List.setIfInBounds_toArray, List.set_cons_zero, List.set_cons_succ]
  refine k_in (v := .pointer (some ⟨g, (Ws.length - n) * 32, none⟩)) rfl (fun w' h => x_idxW _ _ rfl rfl rfl hk) ?_; try simp only [Act.put, List.setIfInBounds_toArray, List.set_cons_zero, List.set_cons_succ]
  refine k_in (v := .agg (wv W)) rfl (fun w' h => x_ldW _ rfl rfl (HO.out w' h) hk hW) ?_; try simp only [Act.put, List.setIfInBounds_toArray, List.set_cons_zero, List.set_cons_succ]
  refine k_end ?_
  intro w3 hT3
  have HP := Lib.hid (push_any B b (.slice (some ⟨g, 0, none⟩) Ws.length c) Ws W w3 (HH.out.call hT3) hl)
  clear hT2
  go_wp2_with (go_at_call 20; go_must (refine HP.out.mono ?_; rintro e w4 ⟨v4, rfl, h4, hT4⟩; have HF := Lib.hid (And.intro h4 ((Turned.of_tch hT3 _ _).trans hT4)); clear h4 hT4))
  go_ret
  exact StkP.mk rfl HF.out.1 HF.out.2
theorem rdup_any (B b : Nat) (v : Value) (Ws : List (List Nat)) (n : Int) (w : World) (h : StkIn B 35 w b v Ws) (hl : Ws.length ≤ 1024) :
    Calls Try.prog 28 #[.pointer (some ⟨b, 0, none⟩), .int .i64 n] w (StkP B 35 w b v (dupOk Ws n) (dupL Ws n)) := by
  obtain ⟨p, c, rfl, hc⟩ := h.slice
  have HH := Lib.hid h
  have HB := Lib.hid (fun w' (hT : Tch [] w w') => hT.blk h.blk (by simp))
  by_cases h1 : n < 1
  · rw [show dupOk Ws n = false from decide_eq_false (by omega), show dupL Ws n = Ws from if_neg (by omega)]
    clear h
    go_enter Try.func28, Try.ntmps28
    go_upto_region 1 with (fail)
    try simp only [Act.put, List.setIfInBounds_toArray, List.set_cons_zero, List.set_cons_succ]
    refine k_seq (C := fun w' => Tch [] w w') (Tch.refl _ _) ?_
    refine k_val (v := .int .i64 n) rfl _ (.inl rfl) rfl ?_; try simp only [Act.put, List.setIfInBounds_toArray, List.set_cons_zero, List.set_cons_succ]
    refine k_lss (m := n) (n := 1) (t := true) rfl _ _ _ rfl rfl rfl (decide_eq_true (by omega)) ?_; try simp only [Act.put, List.setIfInBounds_toArray, List.set_cons_zero, List.set_cons_succ]
    refine k_val (v := .bool true) rfl _ (.inl rfl) rfl ?_; try simp only [Act.put, List.setIfInBounds_toArray, List.set_cons_zero, List.set_cons_succ]
    refine k_skip rfl rfl rfl rfl rfl ?_; try simp only [Act.put, List.setIfInBounds_toArray, List.set_cons_zero, List.set_cons_succ]
    refine k_skip rfl rfl rfl rfl rfl ?_; try simp only [Act.put, List.setIfInBounds_toArray, List.set_cons_zero, List.set_cons_succ]
    refine k_skip rfl rfl rfl rfl rfl ?_; try simp only [Act.put, List.setIfInBounds_toArray, List.set_cons_zero, List.set_cons_succ]
    refine k_skip rfl rfl rfl rfl rfl ?_; try simp only [Act.put, List.setIfInBounds_toArray, List.set_cons_zero, List.set_cons_succ]
    refine k_skip rfl rfl rfl rfl rfl ?_; try simp only [Act.put, List.setIfInBounds_toArray, List.set_cons_zero, List.set_cons_succ]
    refine k_skip rfl rfl rfl rfl rfl ?_; try simp only [Act.put, List.setIfInBounds_toArray, List.set_cons_zero, List.set_cons_succ]
    refine k_skip rfl rfl rfl rfl rfl ?_; try simp only [Act.put, List.setIfInBounds_toArray, List.set_cons_zero, List.set_cons_succ]
    refine k_pickT (t := true) rfl _ _ _ rfl rfl rfl ?_; try simp only [Act.put, List.setIfInBounds_toArray, List.set_cons_zero, List.set_cons_succ]
    refine k_end ?_
    intro w2 hT2
    go_wp2
    go_ret
    exact StkP.mk rfl (HH.out.call hT2) (Turned.of_tch hT2 _ _)
  by_cases h2 : (Ws.length : Int) < n
  · rw [show dupOk Ws n = false from decide_eq_false (by omega), show dupL Ws n = Ws from if_neg (by omega)]
    clear h
    go_enter Try.func28, Try.ntmps28
    go_upto_region 1 with (fail)
    try simp only [Act.put, List.setIfInBounds_toArray, List.set_cons_zero, List.set_cons_succ]
    refine k_seq (C := fun w' => Tch [] w w') (Tch.refl _ _) ?_
    refine k_val (v := .int .i64 n) rfl _ (.inl rfl) rfl ?_; try simp only [Act.put, List.setIfInBounds_toArray, List.set_cons_zero, List.set_cons_succ]
    refine k_lss (m := n) (n := 1) (t := false) rfl _ _ _ rfl rfl rfl (decide_eq_false (by omega)) ?_; try simp only [Act.put, List.setIfInBounds_toArray, List.set_cons_zero, List.set_cons_succ]
    refine k_val (v := .bool false) rfl _ (.inl rfl) rfl ?_; try simp only [Act.put, List.setIfInBounds_toArray, List.set_cons_zero, List.set_cons_succ]
    refine k_val (v := .int .i64 n) rfl _ (.inl rfl) rfl ?_; try simp only [Act.put, List.setIfInBounds_toArray, List.set_cons_zero, List.set_cons_succ]
    refine k_val (v := .pointer (some ⟨b, 0, none⟩)) rfl _ (.inl rfl) rfl ?_; try simp only [Act.put, List.setIfInBounds_toArray, List.set_cons_zero, List.set_cons_succ]
    refine k_nilI ⟨b, 0, none⟩ rfl _ rfl rfl ?_; try simp only [Act.put, List.setIfInBounds_toArray, List.set_cons_zero, List.set_cons_succ]
    refine k_faI rfl rfl rfl (fa_stkR b) ?_; try simp only [Act.put, List.setIfInBounds_toArray, List.set_cons_zero, List.set_cons_succ]
    refine k_cellC (b := b) (j := 0) (v := .slice p Ws.length c) rfl _ _ rfl rfl (fun w' h => (HB.out w' h).cell rfl) words_aggI ?_; try simp only [Act.put, List.setIfInBounds_toArray, List.set_cons_zero, List.set_cons_succ]
    refine k_lenW (p := p) (n := Ws.length) (c := c) rfl _ rfl rfl ?_; try simp only [Act.put, List.setIfInBounds_toArray, List.set_cons_zero, List.set_cons_succ]
    refine k_gtr (m := n) (n := (Ws.length : Int)) (t := true) rfl _ _ _ rfl rfl rfl (decide_eq_true (by omega)) ?_; try simp only [Act.put, List.setIfInBounds_toArray, List.set_cons_zero, List.set_cons_succ]
    refine k_pickF (t := true) rfl _ _ _ rfl rfl rfl ?_; try simp only [Act.put, List.setIfInBounds_toArray, List.set_cons_zero, List.set_cons_succ]
    refine k_end ?_
    intro w2 hT2
    go_wp2
    go_ret
    exact StkP.mk rfl (HH.out.call hT2) (Turned.of_tch hT2 _ _)
  obtain ⟨n, rfl⟩ : ∃ m : Nat, n = m := ⟨n.toNat, by omega⟩
  have hk : Ws.length - n < Ws.length := by omega
  have hok : dupOk Ws (n : Int) = pushOk Ws := by
    unfold dupOk pushOk
    rw [decide_eq_decide]; omega
  rw [hok, show dupL Ws (n : Int) = pushL Ws (Ws.getD (Ws.length - n) []) from by unfold dupL; rw [if_pos (by omega), Int.toNat_natCast]]
  obtain ⟨g, rfl, _⟩ := row_blk h.own (by omega)
  obtain ⟨W, hWd⟩ : ∃ W, W = Ws.getD (Ws.length - n) [] := ⟨_, rfl⟩
  have hW : Ws[Ws.length - n] = W := by rw [hWd, List.getD_eq_getElem?_getD, List.getElem?_eq_getElem hk]; rfl
  rw [← hWd]
  clear h hWd hok
  go_enter Try.func28, Try.ntmps28
  go_upto_region 1 with (fail)
  try simp only [Act.put, List.setIfInBounds_toArray, List.set_cons_zero, List.set_cons_succ]
  refine k_seq (C := fun w' => Tch [] w w') (Tch.refl _ _) ?_
  refine k_val (v := .int .i64 (n : Int)) rfl _ (.inl rfl) rfl ?_; try simp only [Act.put, List.setIfInBounds_toArray, List.set_cons_zero, List.set_cons_succ]
  refine k_lss (m := (n : Int)) (n := 1) (t := false) rfl _ _ _ rfl rfl rfl (decide_eq_false (by omega)) ?_; try simp only [Act.put, List.setIfInBounds_toArray, List.set_cons_zero, List.set_cons_succ]
  refine k_val (v := .bool false) rfl _ (.inl rfl) rfl ?_; try simp only [Act.put, List.setIfInBounds_toArray, List.set_cons_zero, List.set_cons_succ]
  refine k_val (v := .int .i64 (n : Int)) rfl _ (.inl rfl) rfl ?_; try simp only [Act.put, List.setIfInBounds_toArray, List.set_cons_zero, List.set_cons_succ]
  refine k_val (v := .pointer (some ⟨b, 0, none⟩)) rfl _ (.inl rfl) rfl ?_; try simp only [Act.put, List.setIfInBounds_toArray, List.set_cons_zero, List.set_cons_succ]
  refine k_nilI ⟨b, 0, none⟩ rfl _ rfl rfl ?_; try simp only [Act.put, List.setIfInBounds_toArray, List.set_cons_zero, List.set_cons_succ]
  refine k_faI rfl rfl rfl (fa_stkR b) ?_; try simp only [Act.put, List.setIfInBounds_toArray, List.set_cons_zero, List.set_cons_succ]
  refine k_cellC (b := b) (j := 0) (v := .slice (some ⟨g, 0, none⟩) Ws.length c) rfl _ _ rfl rfl (fun w' h => (HB.out w' h).cell rfl) words_aggI ?_; try simp only [Act.put, List.setIfInBounds_toArray, List.set_cons_zero, List.set_cons_succ]
  refine k_lenW (p := (some ⟨g, 0, none⟩)) (n := Ws.length) (c := c) rfl _ rfl rfl ?_; try simp only [Act.put, List.setIfInBounds_toArray, List.set_cons_zero, List.set_cons_succ]
  refine k_gtr (m := (n : Int)) (n := (Ws.length : Int)) (t := false) rfl _ _ _ rfl rfl rfl (decide_eq_false (by omega)) ?_; try simp only [Act.put, List.setIfInBounds_toArray, List.set_cons_zero, List.set_cons_succ]
  refine k_pickF (t := false) rfl _ _ _ rfl rfl rfl ?_; try simp only [Act.put, List.setIfInBounds_toArray, List.set_cons_zero, List.set_cons_succ]
  refine k_end ?_
  intro w2 hT2
  go_upto_region 3 with (fail)
  try simp only [Act.put, List.setIfInBounds_toArray, List.set_cons_zero, List.set_cons_succ]
  have HB2 := Lib.hid (fun w' (hT : Tch [] w w') => hT.blk HH.out.blk (by simp))
  have HO := Lib.hid (fun w' (hT : Tch [] w w') => (HH.out.call hT).own)
  refine k_region_head (C := fun w' => Tch [] w w') 14 (by kernel_rfl) (by kernel_rfl) hT2.drew ?_
  try simp only [List.take_succ_cons, List.take_zero, List.drop_succ_cons, List.drop_zero]
  refine k_val (v := .pointer (some ⟨b, 0, none⟩)) rfl _ (.inl rfl) rfl ?_; try simp only [Act.put, List.setIfInBounds_toArray, List.set_cons_zero, List.set_cons_succ]
  refine k_val (v := .pointer (some ⟨b, 0, none⟩)) rfl _ (.inl rfl) rfl ?_; try simp only [Act.put, List.setIfInBounds_toArray, List.set_cons_zero, List.set_cons_succ]
  refine k_nilI ⟨b, 0, none⟩ rfl _ rfl rfl ?_; try simp only [Act.put, List.setIfInBounds_toArray, List.set_cons_zero, List.set_cons_succ]
  refine k_faI rfl rfl rfl (fa_stkR b) ?_; try simp only [Act.put, List.setIfInBounds_toArray, List.set_cons_zero, List.set_cons_succ]
  refine k_cellC (b := b) (j := 0) (v := .slice (some ⟨g, 0, none⟩) Ws.length c) rfl _ _ rfl rfl (fun w' h => (HB2.out w' h).cell rfl) words_aggI ?_; try simp only [Act.put, List.setIfInBounds_toArray, List.set_cons_zero, List.set_cons_succ]
  refine k_val (v := .pointer (some ⟨b, 0, none⟩)) rfl _ (.inl rfl) rfl ?_; try simp only [Act.put, List.setIfInBounds_toArray, List.set_cons_zero, List.set_cons_succ]
  refine k_nilI ⟨b, 0, none⟩ rfl _ rfl rfl ?_; try simp only [Act.put, List.setIfInBounds_toArray, List.set_cons_zero, List.set_cons_succ]
  refine k_faI rfl rfl rfl (fa_stkR b) ?_; try simp only [Act.put, List.setIfInBounds_toArray, List.set_cons_zero, List.set_cons_succ]
  refine k_cellC (b := b) (j := 0) (v := .slice (some ⟨g, 0, none⟩) Ws.length c) rfl _ _ rfl rfl (fun w' h => (HB2.out w' h).cell rfl) words_aggI ?_; try simp only [Act.put, List.setIfInBounds_toArray, List.set_cons_zero, List.set_cons_succ]
  refine k_lenW (p := (some ⟨g, 0, none⟩)) (n := Ws.length) (c := c) rfl _ rfl rfl ?_; try simp only [Act.put, List.setIfInBounds_toArray, List.set_cons_zero, List.set_cons_succ]
  refine k_val (v := .int .i64 (n : Int)) rfl _ (.inl rfl) rfl ?_; try simp only [Act.put, List.setIfInBounds_toArray, List.set_cons_zero, List.set_cons_succ]
  refine k_sub (m := (Ws.length : Int)) (n := (n : Int)) (s := ((Ws.length - n : Nat) : Int)) rfl _ _ _ _ rfl rfl rfl (by rw [IntKind.wrap_i64]; omega) ?_; try simp only [Act.put, List.setIfInBounds_toArray, List.set_cons_zero, List.set_cons_succ]
  refine k_in (v := .pointer (some ⟨g, (Ws.length - n) * 32, none⟩)) rfl (fun w' h => x_idxW _ _ rfl rfl rfl hk) ?_; try simp only [Act.put, List.setIfInBounds_toArray, List.set_cons_zero, List.set_cons_succ]
  refine k_in (v := .agg (wv W)) rfl (fun w' h => x_ldW _ rfl rfl (HO.out w' h) hk hW) ?_; try simp only [Act.put, List.setIfInBounds_toArray, List.set_cons_zero, List.set_cons_succ]
  refine k_end ?_
  intro w3 hT3
  have HP := Lib.hid (rpush_any B b (.slice (some ⟨g, 0, none⟩) Ws.length c) Ws W w3 (HH.out.call hT3) hl)
  clear hT2
  go_wp2_with (go_at_call 27; go_must (refine HP.out.mono ?_; rintro e w4 ⟨v4, rfl, h4, hT4⟩; have HF := Lib.hid (And.intro h4 ((Turned.of_tch hT3 _ _).trans hT4)); clear h4 hT4))
  go_ret
  exact StkP.mk rfl HF.out.1 HF.out.2
end Go.Proofs.Ytlliidfkjlmadaa
