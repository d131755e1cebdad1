/- Swap, the program's and the document's. -/
import Derived.Test.YtlliidfkjlmadaaI8
set_option linter.unusedVariables false
set_option linter.unusedSimpArgs false
namespace Go.Proofs.Ytlliidfkjlmadaa
open Go.RowKit
set_option maxRecDepth 100000
set_option maxHeartbeats 4000000

def swapOk (Ws : List (List Nat)) (n : Int) : Bool := decide (1 ≤ n ∧ n < Ws.length)
def swapL (Ws : List (List Nat)) (n : Int) : List (List Nat) := if 1 ≤ n ∧ n < Ws.length then (Ws.set (Ws.length - 1) (Ws.getD (Ws.length - 1 - n.toNat) [])).set (Ws.length - 1 - n.toNat) (Ws.getD (Ws.length - 1) []) else Ws
theorem swapL_len (Ws : List (List Nat)) (n : Int) : (swapL Ws n).length = Ws.length := by
  unfold swapL; split <;> simp
theorem st_stW {ops : Array Oper} {rest : List Oper} {o : Oper} {a : Act} {w : World} {Q : Exit → Act → World → Prop} {B g n c k : Nat} {Ws : List (List Nat)} {W : List Nat} (hown : w.ownsRow B 37 32 (.slice (some ⟨g, 0, none⟩) n c) n (wcs Ws)) (hk : k < Ws.length) (hgd : o.guard = none) (x y : Operand)
    (ho : o.op = .store 37 x y) (hx : a.eval x = .pointer (some ⟨g, k * 32, none⟩)) (hy : a.eval y = .agg (wv W))
    (h : ∀ w', Only g w w' → w'.ownsRow B 37 32 (.slice (some ⟨g, 0, none⟩) n c) n (wcs (Ws.set k W)) → wpList Try.prog ops Q rest (a.put o.dst undef) w') : wpList Try.prog ops Q (o :: rest) a w :=
  wpList_plain hgd fun K hK => by
    obtain ⟨w', hr, h1, h2⟩ := run_stW (W := W) hown hk
    unfold Oper.wp execOp
    simp only [ho, hx, hy, Sem.run_bind, hr, Result.andThen_ok, Sem.run_pure]
    exact hK _ _ (h _ h2 h1)
theorem getD_of {Ws : List (List Nat)} {k : Nat} (hk : k < Ws.length) : Ws[k] = Ws.getD k [] := by
  rw [List.getD_eq_getElem?_getD, List.getElem?_eq_getElem hk]; rfl
theorem StkIn.turned {B ty g n c b : Nat} {w w' : World} {Ws Vs : List (List Nat)} (h : StkIn B ty w b (.slice (some ⟨g, 0, none⟩) n c) Ws) (hn : n = Ws.length) (hT : Tch [g] w w') (hown : w'.ownsRow B 37 32 (.slice (some ⟨g, 0, none⟩) n c) n (wcs Vs)) (hl : Vs.length = n) :
    StkIn B ty w' b (.slice (some ⟨g, 0, none⟩) n c) Vs ∧ Turned w w' b (.slice (some ⟨g, 0, none⟩) n c) (.slice (some ⟨g, 0, none⟩) n c) := by
  have hgb : g ≠ b := fun e => h.apart (by rw [e]; rfl)
  subst hl
  exact ⟨⟨hT.blk h.blk (by rw [List.mem_singleton]; exact fun e => hgb e.symm), hown, h.apart, h.base⟩, hT.mono (fun x hx => .inl (mem_fpr.2 (.inr (by rw [List.mem_singleton.1 hx]; rfl)))), fun _ hk => .inl hk⟩
theorem swap_any (B b : Nat) (v : Value) (Ws : List (List Nat)) (n : Int) (w : World) (h : StkIn B 29 w b v Ws) (hl : Ws.length ≤ 1024) (hn : -9223372036854775808 ≤ n ∧ n ≤ 9223372036854775807) :
    Calls Try.prog 23 #[.pointer (some ⟨b, 0, none⟩), .int .i64 n] w (StkP B 29 w b v (swapOk Ws n) (swapL Ws n)) := by
  obtain ⟨p, c, rfl, hc⟩ := h.slice
  have HH := Lib.hid h
  have HB := Lib.hid (fun w' (hT : Tch [] w w') => hT.blk h.blk (by simp))
  have HN := Lib.hid hn
  clear hn
  by_cases h1 : n < 1
  · rw [show swapOk Ws n = false from decide_eq_false (by omega), show swapL Ws n = Ws from if_neg (by omega)]
    clear h
    go_enter Try.func23, Try.ntmps23
    go_upto_region 1 with (fail)
    try simp only [Act.put, List.setIfInBounds_toArray, List.set_cons_zero, List.set_cons_succ]
    refine k_seq (C := fun w' => Tch [] w w') (Tch.refl _ _) ?_
    refine k_val (v := .pointer (some ⟨b, 0, none⟩)) rfl _ (.inl rfl) rfl ?_; try simp only [Act.put, List.setIfInBounds_toArray, List.set_cons_zero, List.set_cons_succ]
    refine k_nilI ⟨b, 0, none⟩ rfl _ rfl rfl ?_; try simp only [Act.put, List.setIfInBounds_toArray, List.set_cons_zero, List.set_cons_succ]
    refine k_faI rfl rfl rfl (fa_stkP b) ?_; try simp only [Act.put, List.setIfInBounds_toArray, List.set_cons_zero, List.set_cons_succ]
    refine k_cellC (b := b) (j := 0) (v := .slice p Ws.length c) rfl _ _ rfl rfl (fun w' h => (HB.out w' h).cell rfl) words_aggI ?_; try simp only [Act.put, List.setIfInBounds_toArray, List.set_cons_zero, List.set_cons_succ]
    refine k_lenW (p := p) (n := Ws.length) (c := c) rfl _ rfl rfl ?_; try simp only [Act.put, List.setIfInBounds_toArray, List.set_cons_zero, List.set_cons_succ]
    refine k_sub (m := (Ws.length : Int)) (n := 1) (s := (Ws.length : Int) - 1) rfl _ _ _ _ rfl rfl rfl (by rw [IntKind.wrap_i64]; omega) ?_; try simp only [Act.put, List.setIfInBounds_toArray, List.set_cons_zero, List.set_cons_succ]
    refine k_val (v := .int .i64 ((Ws.length : Int) - 1)) rfl _ (.inr rfl) rfl ?_; try simp only [Act.put, List.setIfInBounds_toArray, List.set_cons_zero, List.set_cons_succ]
    refine k_end ?_
    intro w2 hT2
    go_upto_region 2 with (fail)
    try simp only [Act.put, List.setIfInBounds_toArray, List.set_cons_zero, List.set_cons_succ]
    refine k_seq (C := fun w' => Tch [] w2 w') (Tch.refl _ _) ?_
    refine k_val (v := .int .i64 n) rfl _ (.inl rfl) rfl ?_; try simp only [Act.put, List.setIfInBounds_toArray, List.set_cons_zero, List.set_cons_succ]
    refine k_lss (m := n) (n := 1) (t := true) rfl _ _ _ rfl rfl rfl (decide_eq_true (by omega)) ?_; try simp only [Act.put, List.setIfInBounds_toArray, List.set_cons_zero, List.set_cons_succ]
    refine k_val (v := .bool true) rfl _ (.inl rfl) rfl ?_; try simp only [Act.put, List.setIfInBounds_toArray, List.set_cons_zero, List.set_cons_succ]
    refine k_skip rfl rfl rfl rfl rfl ?_; try simp only [Act.put, List.setIfInBounds_toArray, List.set_cons_zero, List.set_cons_succ]
    refine k_skip rfl rfl rfl rfl rfl ?_; try simp only [Act.put, List.setIfInBounds_toArray, List.set_cons_zero, List.set_cons_succ]
    refine k_skip rfl rfl rfl rfl rfl ?_; try simp only [Act.put, List.setIfInBounds_toArray, List.set_cons_zero, List.set_cons_succ]
    refine k_pickT (t := true) rfl _ _ _ rfl rfl rfl ?_; try simp only [Act.put, List.setIfInBounds_toArray, List.set_cons_zero, List.set_cons_succ]
    refine k_end ?_
    intro w3 hT3
    have hT := hT2.trans hT3
    go_wp2
    go_ret
    exact StkP.mk rfl (HH.out.call hT) (Turned.of_tch hT _ _)
  by_cases h2 : (Ws.length : Int) - 1 < n
  · rw [show swapOk Ws n = false from decide_eq_false (by omega), show swapL Ws n = Ws from if_neg (by omega)]
    clear h
    go_enter Try.func23, Try.ntmps23
    go_upto_region 1 with (fail)
    try simp only [Act.put, List.setIfInBounds_toArray, List.set_cons_zero, List.set_cons_succ]
    refine k_seq (C := fun w' => Tch [] w w') (Tch.refl _ _) ?_
    refine k_val (v := .pointer (some ⟨b, 0, none⟩)) rfl _ (.inl rfl) rfl ?_; try simp only [Act.put, List.setIfInBounds_toArray, List.set_cons_zero, List.set_cons_succ]
    refine k_nilI ⟨b, 0, none⟩ rfl _ rfl rfl ?_; try simp only [Act.put, List.setIfInBounds_toArray, List.set_cons_zero, List.set_cons_succ]
    refine k_faI rfl rfl rfl (fa_stkP b) ?_; try simp only [Act.put, List.setIfInBounds_toArray, List.set_cons_zero, List.set_cons_succ]
    refine k_cellC (b := b) (j := 0) (v := .slice p Ws.length c) rfl _ _ rfl rfl (fun w' h => (HB.out w' h).cell rfl) words_aggI ?_; try simp only [Act.put, List.setIfInBounds_toArray, List.set_cons_zero, List.set_cons_succ]
    refine k_lenW (p := p) (n := Ws.length) (c := c) rfl _ rfl rfl ?_; try simp only [Act.put, List.setIfInBounds_toArray, List.set_cons_zero, List.set_cons_succ]
    refine k_sub (m := (Ws.length : Int)) (n := 1) (s := (Ws.length : Int) - 1) rfl _ _ _ _ rfl rfl rfl (by rw [IntKind.wrap_i64]; omega) ?_; try simp only [Act.put, List.setIfInBounds_toArray, List.set_cons_zero, List.set_cons_succ]
    refine k_val (v := .int .i64 ((Ws.length : Int) - 1)) rfl _ (.inr rfl) rfl ?_; try simp only [Act.put, List.setIfInBounds_toArray, List.set_cons_zero, List.set_cons_succ]
    refine k_end ?_
    intro w2 hT2
    go_upto_region 2 with (fail)
    try simp only [Act.put, List.setIfInBounds_toArray, List.set_cons_zero, List.set_cons_succ]
    refine k_seq (C := fun w' => Tch [] w2 w') (Tch.refl _ _) ?_
    refine k_val (v := .int .i64 n) rfl _ (.inl rfl) rfl ?_; try simp only [Act.put, List.setIfInBounds_toArray, List.set_cons_zero, List.set_cons_succ]
    refine k_lss (m := n) (n := 1) (t := false) rfl _ _ _ rfl rfl rfl (decide_eq_false (by omega)) ?_; try simp only [Act.put, List.setIfInBounds_toArray, List.set_cons_zero, List.set_cons_succ]
    refine k_val (v := .bool false) rfl _ (.inl rfl) rfl ?_; try simp only [Act.put, List.setIfInBounds_toArray, List.set_cons_zero, List.set_cons_succ]
    refine k_val (v := .int .i64 n) rfl _ (.inl rfl) rfl ?_; try simp only [Act.put, List.setIfInBounds_toArray, List.set_cons_zero, List.set_cons_succ]
    refine k_val (v := .int .i64 ((Ws.length : Int) - 1)) rfl _ (.inl rfl) rfl ?_; try simp only [Act.put, List.setIfInBounds_toArray, List.set_cons_zero, List.set_cons_succ]
    refine k_gtr (m := n) (n := ((Ws.length : Int) - 1)) (t := true) rfl _ _ _ rfl rfl rfl (decide_eq_true (by omega)) ?_; try simp only [Act.put, List.setIfInBounds_toArray, List.set_cons_zero, List.set_cons_succ]
    refine k_pickF (t := true) rfl _ _ _ rfl rfl rfl ?_; try simp only [Act.put, List.setIfInBounds_toArray, List.set_cons_zero, List.set_cons_succ]
    refine k_end ?_
    intro w3 hT3
    have hT := hT2.trans hT3
    go_wp2
    go_ret
    exact StkP.mk rfl (HH.out.call hT) (Turned.of_tch hT _ _)
  obtain ⟨n, rfl⟩ : ∃ m : Nat, n = m := ⟨n.toNat, by omega⟩
  have hk1 : Ws.length - 1 < Ws.length := by omega
  have hk2 : Ws.length - 1 - n < Ws.length := by omega
  rw [show swapOk Ws (n : Int) = true from decide_eq_true (by omega), show swapL Ws (n : Int) = (Ws.set (Ws.length - 1) (Ws.getD (Ws.length - 1 - n) [])).set (Ws.length - 1 - n) (Ws.getD (Ws.length - 1) []) from by unfold swapL; rw [if_pos (by omega), Int.toNat_natCast]]
  obtain ⟨g, rfl, _⟩ := row_blk h.own (by omega)
  have hgb : g ≠ b := fun e => h.apart (by rw [e]; rfl)
  have hW1 := getD_of hk1
  have hW2 := getD_of hk2
  have hk3 : Ws.length - 1 - n < (Ws.set (Ws.length - 1) (Ws.getD (Ws.length - 1 - n) [])).length := by rw [List.length_set]; exact hk2
  have hk4 : ((Ws.set (Ws.length - 1) (Ws.getD (Ws.length - 1 - n) [])).set (Ws.length - 1 - n) (Ws.getD (Ws.length - 1) [])).length = Ws.length := by rw [List.length_set, List.length_set]
  obtain ⟨W1, hWd1⟩ : ∃ W, W = Ws.getD (Ws.length - 1) [] := ⟨_, rfl⟩
  obtain ⟨W2, hWd2⟩ : ∃ W, W = Ws.getD (Ws.length - 1 - n) [] := ⟨_, rfl⟩
  rw [← hWd1] at hW1 hk4 ⊢
  rw [← hWd2] at hW2 hk3 hk4 ⊢
  clear hWd1 hWd2
  go_enter Try.func23, Try.ntmps23
  go_upto_region 1 with (fail)
  try simp only [Act.put, List.setIfInBounds_toArray, List.set_cons_zero, List.set_cons_succ]
  refine k_seq (C := fun w' => Tch [] w w') (Tch.refl _ _) ?_
  refine k_val (v := .pointer (some ⟨b, 0, none⟩)) rfl _ (.inl rfl) rfl ?_; try simp only [Act.put, List.setIfInBounds_toArray, List.set_cons_zero, List.set_cons_succ]
  refine k_nilI ⟨b, 0, none⟩ rfl _ rfl rfl ?_; try simp only [Act.put, List.setIfInBounds_toArray, List.set_cons_zero, List.set_cons_succ]
  refine k_faI rfl rfl rfl (fa_stkP b) ?_; try simp only [Act.put, List.setIfInBounds_toArray, List.set_cons_zero, List.set_cons_succ]
  refine k_cellC (b := b) (j := 0) (v := .slice (some ⟨g, 0, none⟩) Ws.length c) rfl _ _ rfl rfl (fun w' h => (HB.out w' h).cell rfl) words_aggI ?_; try simp only [Act.put, List.setIfInBounds_toArray, List.set_cons_zero, List.set_cons_succ]
  refine k_lenW (p := (some ⟨g, 0, none⟩)) (n := Ws.length) (c := c) rfl _ rfl rfl ?_; try simp only [Act.put, List.setIfInBounds_toArray, List.set_cons_zero, List.set_cons_succ]
  refine k_sub (m := (Ws.length : Int)) (n := 1) (s := ((Ws.length - 1 : Nat) : Int)) rfl _ _ _ _ rfl rfl rfl (by rw [IntKind.wrap_i64]; omega) ?_; try simp only [Act.put, List.setIfInBounds_toArray, List.set_cons_zero, List.set_cons_succ]
  refine k_val (v := .int .i64 (((Ws.length - 1 : Nat) : Int))) rfl _ (.inr rfl) rfl ?_; try simp only [Act.put, List.setIfInBounds_toArray, List.set_cons_zero, List.set_cons_succ]
  refine k_end ?_
  intro w2 hT2
  go_upto_region 2 with (fail)
  try simp only [Act.put, List.setIfInBounds_toArray, List.set_cons_zero, List.set_cons_succ]
  refine k_seq (C := fun w' => Tch [] w2 w') (Tch.refl _ _) ?_
  refine k_val (v := .int .i64 (n : Int)) rfl _ (.inl rfl) rfl ?_; try simp only [Act.put, List.setIfInBounds_toArray, List.set_cons_zero, List.set_cons_succ]
  refine k_lss (m := (n : Int)) (n := 1) (t := false) rfl _ _ _ rfl rfl rfl (decide_eq_false (by omega)) ?_; try simp only [Act.put, List.setIfInBounds_toArray, List.set_cons_zero, List.set_cons_succ]
  refine k_val (v := .bool false) rfl _ (.inl rfl) rfl ?_; try simp only [Act.put, List.setIfInBounds_toArray, List.set_cons_zero, List.set_cons_succ]
  refine k_val (v := .int .i64 (n : Int)) rfl _ (.inl rfl) rfl ?_; try simp only [Act.put, List.setIfInBounds_toArray, List.set_cons_zero, List.set_cons_succ]
  refine k_val (v := .int .i64 (((Ws.length - 1 : Nat) : Int))) rfl _ (.inl rfl) rfl ?_; try simp only [Act.put, List.setIfInBounds_toArray, List.set_cons_zero, List.set_cons_succ]
  refine k_gtr (m := (n : Int)) (n := (((Ws.length - 1 : Nat) : Int))) (t := false) rfl _ _ _ rfl rfl rfl (decide_eq_false (by omega)) ?_; try simp only [Act.put, List.setIfInBounds_toArray, List.set_cons_zero, List.set_cons_succ]
  refine k_pickF (t := false) rfl _ _ _ rfl rfl rfl ?_; try simp only [Act.put, List.setIfInBounds_toArray, List.set_cons_zero, List.set_cons_succ]
  refine k_end ?_
  intro w3 hT3
  have hT0 := hT2.trans hT3
  have h3 := h.call hT0
  have HB3 := Lib.hid (fun w' (hT : Tch [g] w3 w') => hT.blk h3.blk (by rw [List.mem_singleton]; exact fun e => hgb e.symm))
  have H3 := Lib.hid h3
  clear hT2 hT3 h h3
  go_upto_region 4 with (fail)
  try simp only [Act.put, List.setIfInBounds_toArray, List.set_cons_zero, List.set_cons_succ]
  refine wp_region_held_drew (S := fun w' => Tch [g] w3 w') (by kernel_rfl) ((Tch.refl _ _).drew) (fun hC => ?_)
  have hD0 : Tch [] w3 w3.drew := (Tch.refl [] w3).drew
  generalize World.drew w3 = u0 at hC hD0 ⊢
  refine held_in (v := (.pointer (some ⟨b, 0, none⟩))) 0 rfl (by kernel_rfl) (by kernel_rfl) (by kernel_rfl) (fun _ _ _ h => h) hC rfl (fun w' hw' => x_val _ (.inl rfl) rfl) ?_
  try simp only [Act.put, List.setIfInBounds_toArray, List.set_cons_zero, List.set_cons_succ]
  refine held_in (v := (.pointer (some ⟨b, 0, none⟩))) 1 rfl (by kernel_rfl) (by kernel_rfl) (by kernel_rfl) (fun _ _ _ h => h) hC rfl (fun w' hw' => x_nilck _ rfl rfl) ?_
  try simp only [Act.put, List.setIfInBounds_toArray, List.set_cons_zero, List.set_cons_succ]
  refine held_in (v := (.pointer (some ⟨b, 0, none⟩))) 2 rfl (by kernel_rfl) (by kernel_rfl) (by kernel_rfl) (fun _ _ _ h => h) hC rfl (fun w' hw' => x_fa _ _ _ rfl rfl (fa_stkP _ _)) ?_
  try simp only [Act.put, List.setIfInBounds_toArray, List.set_cons_zero, List.set_cons_succ]
  refine held_in (v := (.slice (some ⟨g, 0, none⟩) Ws.length c)) 3 rfl (by kernel_rfl) (by kernel_rfl) (by kernel_rfl) (fun _ _ _ h => h) hC rfl (fun w' hw' => x_cell _ _ rfl rfl ((HB3.out w' hw').cell rfl) words_aggI) ?_
  try simp only [Act.put, List.setIfInBounds_toArray, List.set_cons_zero, List.set_cons_succ]
  refine held_in (v := (.int .i64 ((Ws.length - 1 : Nat) : Int))) 4 rfl (by kernel_rfl) (by kernel_rfl) (by kernel_rfl) (fun _ _ _ h => h) hC rfl (fun w' hw' => x_val _ (.inl rfl) rfl) ?_
  try simp only [Act.put, List.setIfInBounds_toArray, List.set_cons_zero, List.set_cons_succ]
  refine held_in (v := (.pointer (some ⟨b, 0, none⟩))) 5 rfl (by kernel_rfl) (by kernel_rfl) (by kernel_rfl) (fun _ _ _ h => h) hC rfl (fun w' hw' => x_val _ (.inl rfl) rfl) ?_
  try simp only [Act.put, List.setIfInBounds_toArray, List.set_cons_zero, List.set_cons_succ]
  refine held_in (v := (.pointer (some ⟨b, 0, none⟩))) 6 rfl (by kernel_rfl) (by kernel_rfl) (by kernel_rfl) (fun _ _ _ h => h) hC rfl (fun w' hw' => x_nilck _ rfl rfl) ?_
  try simp only [Act.put, List.setIfInBounds_toArray, List.set_cons_zero, List.set_cons_succ]
  refine held_in (v := (.pointer (some ⟨b, 0, none⟩))) 7 rfl (by kernel_rfl) (by kernel_rfl) (by kernel_rfl) (fun _ _ _ h => h) hC rfl (fun w' hw' => x_fa _ _ _ rfl rfl (fa_stkP _ _)) ?_
  try simp only [Act.put, List.setIfInBounds_toArray, List.set_cons_zero, List.set_cons_succ]
  refine held_in (v := (.slice (some ⟨g, 0, none⟩) Ws.length c)) 8 rfl (by kernel_rfl) (by kernel_rfl) (by kernel_rfl) (fun _ _ _ h => h) hC rfl (fun w' hw' => x_cell _ _ rfl rfl ((HB3.out w' hw').cell rfl) words_aggI) ?_
  try simp only [Act.put, List.setIfInBounds_toArray, List.set_cons_zero, List.set_cons_succ]
  refine held_in (v := (.int .i64 ((Ws.length - 1 : Nat) : Int))) 9 rfl (by kernel_rfl) (by kernel_rfl) (by kernel_rfl) (fun _ _ _ h => h) hC rfl (fun w' hw' => x_val _ (.inl rfl) rfl) ?_
  try simp only [Act.put, List.setIfInBounds_toArray, List.set_cons_zero, List.set_cons_succ]
  refine held_in (v := (.int .i64 (n : Int))) 10 rfl (by kernel_rfl) (by kernel_rfl) (by kernel_rfl) (fun _ _ _ h => h) hC rfl (fun w' hw' => x_val _ (.inl rfl) rfl) ?_
  try simp only [Act.put, List.setIfInBounds_toArray, List.set_cons_zero, List.set_cons_succ]
  refine held_in (v := (.int .i64 ((Ws.length - 1 - n : Nat) : Int))) 11 rfl (by kernel_rfl) (by kernel_rfl) (by kernel_rfl) (fun _ _ _ h => h) hC rfl (fun w' hw' => x_subI _ _ _ _ rfl rfl rfl (by rw [IntKind.wrap_i64]; omega)) ?_
  try simp only [Act.put, List.setIfInBounds_toArray, List.set_cons_zero, List.set_cons_succ]
  refine held_in (v := (.pointer (some ⟨b, 0, none⟩))) 12 rfl (by kernel_rfl) (by kernel_rfl) (by kernel_rfl) (fun _ _ _ h => h) hC rfl (fun w' hw' => x_val _ (.inl rfl) rfl) ?_
  try simp only [Act.put, List.setIfInBounds_toArray, List.set_cons_zero, List.set_cons_succ]
  refine held_in (v := (.pointer (some ⟨b, 0, none⟩))) 13 rfl (by kernel_rfl) (by kernel_rfl) (by kernel_rfl) (fun _ _ _ h => h) hC rfl (fun w' hw' => x_nilck _ rfl rfl) ?_
  try simp only [Act.put, List.setIfInBounds_toArray, List.set_cons_zero, List.set_cons_succ]
  refine held_in (v := (.pointer (some ⟨b, 0, none⟩))) 14 rfl (by kernel_rfl) (by kernel_rfl) (by kernel_rfl) (fun _ _ _ h => h) hC rfl (fun w' hw' => x_fa _ _ _ rfl rfl (fa_stkP _ _)) ?_
  try simp only [Act.put, List.setIfInBounds_toArray, List.set_cons_zero, List.set_cons_succ]
  refine held_in (v := (.slice (some ⟨g, 0, none⟩) Ws.length c)) 15 rfl (by kernel_rfl) (by kernel_rfl) (by kernel_rfl) (fun _ _ _ h => h) hC rfl (fun w' hw' => x_cell _ _ rfl rfl ((HB3.out w' hw').cell rfl) words_aggI) ?_
  try simp only [Act.put, List.setIfInBounds_toArray, List.set_cons_zero, List.set_cons_succ]
  refine held_in (v := (.int .i64 ((Ws.length - 1 : Nat) : Int))) 16 rfl (by kernel_rfl) (by kernel_rfl) (by kernel_rfl) (fun _ _ _ h => h) hC rfl (fun w' hw' => x_val _ (.inl rfl) rfl) ?_
  try simp only [Act.put, List.setIfInBounds_toArray, List.set_cons_zero, List.set_cons_succ]
  refine held_in (v := (.int .i64 (n : Int))) 17 rfl (by kernel_rfl) (by kernel_rfl) (by kernel_rfl) (fun _ _ _ h => h) hC rfl (fun w' hw' => x_val _ (.inl rfl) rfl) ?_
  try simp only [Act.put, List.setIfInBounds_toArray, List.set_cons_zero, List.set_cons_succ]
  refine held_in (v := (.int .i64 ((Ws.length - 1 - n : Nat) : Int))) 18 rfl (by kernel_rfl) (by kernel_rfl) (by kernel_rfl) (fun _ _ _ h => h) hC rfl (fun w' hw' => x_subI _ _ _ _ rfl rfl rfl (by rw [IntKind.wrap_i64]; omega)) ?_
  try simp only [Act.put, List.setIfInBounds_toArray, List.set_cons_zero, List.set_cons_succ]
  refine held_in (v := (.pointer (some ⟨g, (Ws.length - 1 - n) * 32, none⟩))) 19 rfl (by kernel_rfl) (by kernel_rfl) (by kernel_rfl) (fun _ _ _ h => h) hC rfl (fun w' hw' => x_idxW _ _ rfl rfl rfl hk2) ?_
  try simp only [Act.put, List.setIfInBounds_toArray, List.set_cons_zero, List.set_cons_succ]
  refine held_in (v := (.pointer (some ⟨b, 0, none⟩))) 21 rfl (by kernel_rfl) (by kernel_rfl) (by kernel_rfl) (fun _ _ _ h => h) hC rfl (fun w' hw' => x_val _ (.inl rfl) rfl) ?_
  try simp only [Act.put, List.setIfInBounds_toArray, List.set_cons_zero, List.set_cons_succ]
  refine held_in (v := (.pointer (some ⟨b, 0, none⟩))) 22 rfl (by kernel_rfl) (by kernel_rfl) (by kernel_rfl) (fun _ _ _ h => h) hC rfl (fun w' hw' => x_nilck _ rfl rfl) ?_
  try simp only [Act.put, List.setIfInBounds_toArray, List.set_cons_zero, List.set_cons_succ]
  refine held_in (v := (.pointer (some ⟨b, 0, none⟩))) 23 rfl (by kernel_rfl) (by kernel_rfl) (by kernel_rfl) (fun _ _ _ h => h) hC rfl (fun w' hw' => x_fa _ _ _ rfl rfl (fa_stkP _ _)) ?_
  try simp only [Act.put, List.setIfInBounds_toArray, List.set_cons_zero, List.set_cons_succ]
  refine held_in (v := (.slice (some ⟨g, 0, none⟩) Ws.length c)) 24 rfl (by kernel_rfl) (by kernel_rfl) (by kernel_rfl) (fun _ _ _ h => h) hC rfl (fun w' hw' => x_cell _ _ rfl rfl ((HB3.out w' hw').cell rfl) words_aggI) ?_
  try simp only [Act.put, List.setIfInBounds_toArray, List.set_cons_zero, List.set_cons_succ]
  refine held_in (v := (.int .i64 ((Ws.length - 1 : Nat) : Int))) 25 rfl (by kernel_rfl) (by kernel_rfl) (by kernel_rfl) (fun _ _ _ h => h) hC rfl (fun w' hw' => x_val _ (.inl rfl) rfl) ?_
  try simp only [Act.put, List.setIfInBounds_toArray, List.set_cons_zero, List.set_cons_succ]
  refine held_in (v := (.pointer (some ⟨g, (Ws.length - 1) * 32, none⟩))) 26 rfl (by kernel_rfl) (by kernel_rfl) (by kernel_rfl) (fun _ _ _ h => h) hC rfl (fun w' hw' => x_idxW _ _ rfl rfl rfl hk1) ?_
  try simp only [Act.put, List.setIfInBounds_toArray, List.set_cons_zero, List.set_cons_succ]
  refine held_two 20 27 (by kernel_rfl) ?_ ?_
  · refine held_x (v := .agg (wv W2)) rfl rfl (x_ldW _ rfl rfl (H3.out.call hD0).own hk2 hW2) ?_
    refine ⟨hC, ?_⟩
    try simp only [Act.put, List.setIfInBounds_toArray, List.set_cons_zero, List.set_cons_succ]
    refine held_one 27 (by kernel_rfl) ?_
    refine held_x (v := .agg (wv W1)) rfl rfl (x_ldW _ rfl rfl (H3.out.call hD0).own hk1 hW1) ?_
    refine ⟨hC, ?_⟩
    try simp only [Act.put, List.setIfInBounds_toArray, List.set_cons_zero, List.set_cons_succ]
    refine held_in (v := (.pointer (some ⟨g, (Ws.length - 1) * 32, none⟩))) 28 rfl (by kernel_rfl) (by kernel_rfl) (by kernel_rfl) (fun _ _ _ h => h) hC rfl (fun w' hw' => x_idxW _ _ rfl rfl rfl hk1) ?_
    try simp only [Act.put, List.setIfInBounds_toArray, List.set_cons_zero, List.set_cons_succ]
    refine held_one 29 (by kernel_rfl) ?_
    refine held_stW (W := W2) (k := Ws.length - 1) (H3.out.call hD0).own hk1 rfl rfl rfl (by rfl) (by rfl) ?_
    intro u1 hO1 h1
    have hC1 := hC.trans hO1.tch
    refine ⟨hC1, ?_⟩
    try simp only [Act.put, List.setIfInBounds_toArray, List.set_cons_zero, List.set_cons_succ]
    refine held_in (v := (.pointer (some ⟨g, (Ws.length - 1 - n) * 32, none⟩))) 30 rfl (by kernel_rfl) (by kernel_rfl) (by kernel_rfl) (fun _ _ _ h => h) hC1 rfl (fun w' hw' => x_idxW _ _ rfl rfl rfl hk2) ?_
    try simp only [Act.put, List.setIfInBounds_toArray, List.set_cons_zero, List.set_cons_succ]
    refine held_one 31 (by kernel_rfl) ?_
    refine held_stW (W := W1) (k := Ws.length - 1 - n) h1 hk3 rfl rfl rfl (by rfl) (by rfl) ?_
    intro u2 hO2 h2
    refine ⟨(hC.trans hO1.tch).trans hO2.tch, ?_⟩
    have hTa := hT0.trans hD0
    obtain ⟨r1, r2⟩ := StkIn.turned (HH.out.call hTa) rfl (hO1.tch.trans hO2.tch) h2 hk4
    have HF := Lib.hid (And.intro r1 ((Turned.of_tch hTa _ _).trans r2))
    clear r1 r2 h1 h2 hO1 hO2 hTa
    refine wpAnyH_done (by kernel_rfl) ?_ _
    go_wp2
    go_ret
    exact StkP.mk rfl HF.out.1 HF.out.2
  · refine held_x (v := .agg (wv W1)) rfl rfl (x_ldW _ rfl rfl (H3.out.call hD0).own hk1 hW1) ?_
    refine ⟨hC, ?_⟩
    try simp only [Act.put, List.setIfInBounds_toArray, List.set_cons_zero, List.set_cons_succ]
    refine held_one 20 (by kernel_rfl) ?_
    refine held_x (v := .agg (wv W2)) rfl rfl (x_ldW _ rfl rfl (H3.out.call hD0).own hk2 hW2) ?_
    refine ⟨hC, ?_⟩
    try simp only [Act.put, List.setIfInBounds_toArray, List.set_cons_zero, List.set_cons_succ]
    refine held_in (v := (.pointer (some ⟨g, (Ws.length - 1) * 32, none⟩))) 28 rfl (by kernel_rfl) (by kernel_rfl) (by kernel_rfl) (fun _ _ _ h => h) hC rfl (fun w' hw' => x_idxW _ _ rfl rfl rfl hk1) ?_
    try simp only [Act.put, List.setIfInBounds_toArray, List.set_cons_zero, List.set_cons_succ]
    refine held_one 29 (by kernel_rfl) ?_
    refine held_stW (W := W2) (k := Ws.length - 1) (H3.out.call hD0).own hk1 rfl rfl rfl (by rfl) (by rfl) ?_
    intro u1 hO1 h1
    have hC1 := hC.trans hO1.tch
    refine ⟨hC1, ?_⟩
    try simp only [Act.put, List.setIfInBounds_toArray, List.set_cons_zero, List.set_cons_succ]
    refine held_in (v := (.pointer (some ⟨g, (Ws.length - 1 - n) * 32, none⟩))) 30 rfl (by kernel_rfl) (by kernel_rfl) (by kernel_rfl) (fun _ _ _ h => h) hC1 rfl (fun w' hw' => x_idxW _ _ rfl rfl rfl hk2) ?_
    try simp only [Act.put, List.setIfInBounds_toArray, List.set_cons_zero, List.set_cons_succ]
    refine held_one 31 (by kernel_rfl) ?_
    refine held_stW (W := W1) (k := Ws.length - 1 - n) h1 hk3 rfl rfl rfl (by rfl) (by rfl) ?_
    intro u2 hO2 h2
    refine ⟨(hC.trans hO1.tch).trans hO2.tch, ?_⟩
    have hTa := hT0.trans hD0
    obtain ⟨r1, r2⟩ := StkIn.turned (HH.out.call hTa) rfl (hO1.tch.trans hO2.tch) h2 hk4
    have HF := Lib.hid (And.intro r1 ((Turned.of_tch hTa _ _).trans r2))
    clear r1 r2 h1 h2 hO1 hO2 hTa
    refine wpAnyH_done (by kernel_rfl) ?_ _
    go_wp2
    go_ret
    exact StkP.mk rfl HF.out.1 HF.out.2
theorem rswap_any (B b : Nat) (v : Value) (Ws : List (List Nat)) (n : Int) (w : World) (h : StkIn B 35 w b v Ws) (hl : Ws.length ≤ 1024) (hn : -9223372036854775808 ≤ n ∧ n ≤ 9223372036854775807) :
    Calls Try.prog 29 #[.pointer (some ⟨b, 0, none⟩), .int .i64 n] w (StkP B 35 w b v (swapOk Ws n) (swapL Ws n)) := by
  obtain ⟨p, c, rfl, hc⟩ := h.slice
  have HH := Lib.hid h
  have HB := Lib.hid (fun w' (hT : Tch [] w w') => hT.blk h.blk (by simp))
  have HN := Lib.hid hn
  clear hn
  by_cases h1 : n < 1
  · rw [show swapOk Ws n = false from decide_eq_false (by omega), show swapL Ws n = Ws from if_neg (by omega)]
    clear h
    go_enter Try.func29, Try.ntmps29
    go_upto_region 1 with (fail)
    try simp only [Act.put, List.setIfInBounds_toArray, List.set_cons_zero, List.set_cons_succ]
    refine k_seq (C := fun w' => Tch [] w w') (Tch.refl _ _) ?_
    refine k_val (v := .int .i64 n) rfl _ (.inl rfl) rfl ?_; try simp only [Act.put, List.setIfInBounds_toArray, List.set_cons_zero, List.set_cons_succ]
    refine k_lss (m := n) (n := 1) (t := true) rfl _ _ _ rfl rfl rfl (decide_eq_true (by omega)) ?_; try simp only [Act.put, List.setIfInBounds_toArray, List.set_cons_zero, List.set_cons_succ]
    refine k_val (v := .bool true) rfl _ (.inl rfl) rfl ?_; try simp only [Act.put, List.setIfInBounds_toArray, List.set_cons_zero, List.set_cons_succ]
    refine k_skip rfl rfl rfl rfl rfl ?_; try simp only [Act.put, List.setIfInBounds_toArray, List.set_cons_zero, List.set_cons_succ]
    refine k_skip rfl rfl rfl rfl rfl ?_; try simp only [Act.put, List.setIfInBounds_toArray, List.set_cons_zero, List.set_cons_succ]
    refine k_skip rfl rfl rfl rfl rfl ?_; try simp only [Act.put, List.setIfInBounds_toArray, List.set_cons_zero, List.set_cons_succ]
    refine k_skip rfl rfl rfl rfl rfl ?_; try simp only [Act.put, List.setIfInBounds_toArray, List.set_cons_zero, List.set_cons_succ]
    refine k_skip rfl rfl rfl rfl rfl ?_; try simp only [Act.put, List.setIfInBounds_toArray, List.set_cons_zero, List.set_cons_succ]
    refine k_skip rfl rfl rfl rfl rfl ?_; try simp only [Act.put, List.setIfInBounds_toArray, List.set_cons_zero, List.set_cons_succ]
    refine k_skip rfl rfl rfl rfl rfl ?_; try simp only [Act.put, List.setIfInBounds_toArray, List.set_cons_zero, List.set_cons_succ]
    refine k_pickT (t := true) rfl _ _ _ rfl rfl rfl ?_; try simp only [Act.put, List.setIfInBounds_toArray, List.set_cons_zero, List.set_cons_succ]
    refine k_end ?_
    intro w2 hT
    go_wp2
    go_ret
    exact StkP.mk rfl (HH.out.call hT) (Turned.of_tch hT _ _)
  by_cases h2 : (Ws.length : Int) ≤ n
  · rw [show swapOk Ws n = false from decide_eq_false (by omega), show swapL Ws n = Ws from if_neg (by omega)]
    clear h
    go_enter Try.func29, Try.ntmps29
    go_upto_region 1 with (fail)
    try simp only [Act.put, List.setIfInBounds_toArray, List.set_cons_zero, List.set_cons_succ]
    refine k_seq (C := fun w' => Tch [] w w') (Tch.refl _ _) ?_
    refine k_val (v := .int .i64 n) rfl _ (.inl rfl) rfl ?_; try simp only [Act.put, List.setIfInBounds_toArray, List.set_cons_zero, List.set_cons_succ]
    refine k_lss (m := n) (n := 1) (t := false) rfl _ _ _ rfl rfl rfl (decide_eq_false (by omega)) ?_; try simp only [Act.put, List.setIfInBounds_toArray, List.set_cons_zero, List.set_cons_succ]
    refine k_val (v := .bool false) rfl _ (.inl rfl) rfl ?_; try simp only [Act.put, List.setIfInBounds_toArray, List.set_cons_zero, List.set_cons_succ]
    refine k_val (v := .int .i64 n) rfl _ (.inl rfl) rfl ?_; try simp only [Act.put, List.setIfInBounds_toArray, List.set_cons_zero, List.set_cons_succ]
    refine k_val (v := .pointer (some ⟨b, 0, none⟩)) rfl _ (.inl rfl) rfl ?_; try simp only [Act.put, List.setIfInBounds_toArray, List.set_cons_zero, List.set_cons_succ]
    refine k_nilI ⟨b, 0, none⟩ rfl _ rfl rfl ?_; try simp only [Act.put, List.setIfInBounds_toArray, List.set_cons_zero, List.set_cons_succ]
    refine k_faI rfl rfl rfl (fa_stkR b) ?_; try simp only [Act.put, List.setIfInBounds_toArray, List.set_cons_zero, List.set_cons_succ]
    refine k_cellC (b := b) (j := 0) (v := .slice p Ws.length c) rfl _ _ rfl rfl (fun w' h => (HB.out w' h).cell rfl) words_aggI ?_; try simp only [Act.put, List.setIfInBounds_toArray, List.set_cons_zero, List.set_cons_succ]
    refine k_lenW (p := p) (n := Ws.length) (c := c) rfl _ rfl rfl ?_; try simp only [Act.put, List.setIfInBounds_toArray, List.set_cons_zero, List.set_cons_succ]
    refine k_geqI (m := n) (n := (Ws.length : Int)) (t := true) rfl _ _ _ rfl rfl rfl (decide_eq_true (by omega)) ?_; try simp only [Act.put, List.setIfInBounds_toArray, List.set_cons_zero, List.set_cons_succ]
    refine k_pickF (t := true) rfl _ _ _ rfl rfl rfl ?_; try simp only [Act.put, List.setIfInBounds_toArray, List.set_cons_zero, List.set_cons_succ]
    refine k_end ?_
    intro w2 hT
    go_wp2
    go_ret
    exact StkP.mk rfl (HH.out.call hT) (Turned.of_tch hT _ _)
  obtain ⟨n, rfl⟩ : ∃ m : Nat, n = m := ⟨n.toNat, by omega⟩
  have hk1 : Ws.length - 1 < Ws.length := by omega
  have hk2 : Ws.length - 1 - n < Ws.length := by omega
  rw [show swapOk Ws (n : Int) = true from decide_eq_true (by omega), show swapL Ws (n : Int) = (Ws.set (Ws.length - 1) (Ws.getD (Ws.length - 1 - n) [])).set (Ws.length - 1 - n) (Ws.getD (Ws.length - 1) []) from by unfold swapL; rw [if_pos (by omega), Int.toNat_natCast]]
  obtain ⟨g, rfl, _⟩ := row_blk h.own (by omega)
  have hgb : g ≠ b := fun e => h.apart (by rw [e]; rfl)
  have hW1 := getD_of hk1
  have hW2 := getD_of hk2
  have hk3 : Ws.length - 1 - n < (Ws.set (Ws.length - 1) (Ws.getD (Ws.length - 1 - n) [])).length := by rw [List.length_set]; exact hk2
  have hk4 : ((Ws.set (Ws.length - 1) (Ws.getD (Ws.length - 1 - n) [])).set (Ws.length - 1 - n) (Ws.getD (Ws.length - 1) [])).length = Ws.length := by rw [List.length_set, List.length_set]
  obtain ⟨W1, hWd1⟩ : ∃ W, W = Ws.getD (Ws.length - 1) [] := ⟨_, rfl⟩
  obtain ⟨W2, hWd2⟩ : ∃ W, W = Ws.getD (Ws.length - 1 - n) [] := ⟨_, rfl⟩
  rw [← hWd1] at hW1 hk4 ⊢
  rw [← hWd2] at hW2 hk3 hk4 ⊢
  clear hWd1 hWd2
  go_enter Try.func29, Try.ntmps29
  go_upto_region 1 with (fail)
  try simp only [Act.put, List.setIfInBounds_toArray, List.set_cons_zero, List.set_cons_succ]
  refine k_seq (C := fun w' => Tch [] w w') (Tch.refl _ _) ?_
  refine k_val (v := .int .i64 (n : Int)) rfl _ (.inl rfl) rfl ?_; try simp only [Act.put, List.setIfInBounds_toArray, List.set_cons_zero, List.set_cons_succ]
  refine k_lss (m := (n : Int)) (n := 1) (t := false) rfl _ _ _ rfl rfl rfl (decide_eq_false (by omega)) ?_; try simp only [Act.put, List.setIfInBounds_toArray, List.set_cons_zero, List.set_cons_succ]
  refine k_val (v := .bool false) rfl _ (.inl rfl) rfl ?_; try simp only [Act.put, List.setIfInBounds_toArray, List.set_cons_zero, List.set_cons_succ]
  refine k_val (v := .int .i64 (n : Int)) rfl _ (.inl rfl) rfl ?_; try simp only [Act.put, List.setIfInBounds_toArray, List.set_cons_zero, List.set_cons_succ]
  refine k_val (v := .pointer (some ⟨b, 0, none⟩)) rfl _ (.inl rfl) rfl ?_; try simp only [Act.put, List.setIfInBounds_toArray, List.set_cons_zero, List.set_cons_succ]
  refine k_nilI ⟨b, 0, none⟩ rfl _ rfl rfl ?_; try simp only [Act.put, List.setIfInBounds_toArray, List.set_cons_zero, List.set_cons_succ]
  refine k_faI rfl rfl rfl (fa_stkR b) ?_; try simp only [Act.put, List.setIfInBounds_toArray, List.set_cons_zero, List.set_cons_succ]
  refine k_cellC (b := b) (j := 0) (v := .slice (some ⟨g, 0, none⟩) Ws.length c) rfl _ _ rfl rfl (fun w' h => (HB.out w' h).cell rfl) words_aggI ?_; try simp only [Act.put, List.setIfInBounds_toArray, List.set_cons_zero, List.set_cons_succ]
  refine k_lenW (p := (some ⟨g, 0, none⟩)) (n := Ws.length) (c := c) rfl _ rfl rfl ?_; try simp only [Act.put, List.setIfInBounds_toArray, List.set_cons_zero, List.set_cons_succ]
  refine k_geqI (m := (n : Int)) (n := (Ws.length : Int)) (t := false) rfl _ _ _ rfl rfl rfl (decide_eq_false (by omega)) ?_; try simp only [Act.put, List.setIfInBounds_toArray, List.set_cons_zero, List.set_cons_succ]
  refine k_pickF (t := false) rfl _ _ _ rfl rfl rfl ?_; try simp only [Act.put, List.setIfInBounds_toArray, List.set_cons_zero, List.set_cons_succ]
  refine k_end ?_
  intro w2 hT2
  have HB2 := Lib.hid (fun w' (hT : Tch [] w2 w') => (hT2.trans hT).blk h.blk (by simp))
  go_upto_region 3 with (fail)
  try simp only [Act.put, List.setIfInBounds_toArray, List.set_cons_zero, List.set_cons_succ]
  refine k_seq (C := fun w' => Tch [] w2 w') (Tch.refl _ _) ?_
  refine k_val (v := .pointer (some ⟨b, 0, none⟩)) rfl _ (.inl rfl) rfl ?_; try simp only [Act.put, List.setIfInBounds_toArray, List.set_cons_zero, List.set_cons_succ]
  refine k_nilI ⟨b, 0, none⟩ rfl _ rfl rfl ?_; try simp only [Act.put, List.setIfInBounds_toArray, List.set_cons_zero, List.set_cons_succ]
  refine k_faI rfl rfl rfl (fa_stkR b) ?_; try simp only [Act.put, List.setIfInBounds_toArray, List.set_cons_zero, List.set_cons_succ]
  refine k_cellC (b := b) (j := 0) (v := .slice (some ⟨g, 0, none⟩) Ws.length c) rfl _ _ rfl rfl (fun w' h => (HB2.out w' h).cell rfl) words_aggI ?_; try simp only [Act.put, List.setIfInBounds_toArray, List.set_cons_zero, List.set_cons_succ]
  refine k_lenW (p := (some ⟨g, 0, none⟩)) (n := Ws.length) (c := c) rfl _ rfl rfl ?_; try simp only [Act.put, List.setIfInBounds_toArray, List.set_cons_zero, List.set_cons_succ]
  refine k_sub (m := (Ws.length : Int)) (n := 1) (s := ((Ws.length - 1 : Nat) : Int)) rfl _ _ _ _ rfl rfl rfl (by rw [IntKind.wrap_i64]; omega) ?_; try simp only [Act.put, List.setIfInBounds_toArray, List.set_cons_zero, List.set_cons_succ]
  refine k_val (v := .int .i64 (((Ws.length - 1 : Nat) : Int))) rfl _ (.inr rfl) rfl ?_; try simp only [Act.put, List.setIfInBounds_toArray, List.set_cons_zero, List.set_cons_succ]
  refine k_end ?_
  intro w3 hT3
  have hT0 := hT2.trans hT3
  have hS := (St.start w3)
  have HS3 := Lib.hid (fun w' (hT : Tch [] w3 w') => St.one ((hT0.trans hT).blk h.blk (by simp)))
  have HO := Lib.hid (fun w' (hT : Tch [] w3 w') => (h.call (hT0.trans hT)).own)
  have hgl := (h.call hT0).lt (x := g) (mem_fpr.2 (.inr rfl))
  have hbl := (h.call hT0).blk.lt
  clear hT2 hT3
  go_upto_region 5 with (first
    | (refine st_cell1 (v := .slice (some ⟨g, 0, none⟩) Ws.length c) (HS3.out _ hS.frame) rfl 27 _ rfl rfl .head rfl words_aggI ?_)
    | (refine st_x (v := .pointer (some ⟨g, (Ws.length - 1) * 32, none⟩)) rfl (x_idxW (.tmp 27) (.tmp 28) rfl rfl rfl hk1) ?_)
    | (refine st_x (v := .agg (wv W1)) rfl (x_ldW (.tmp 29) rfl rfl (HO.out _ hS.frame) hk1 hW1) ?_)
    | (refine st_new hS rfl 37 rfl word_zero ?_; clear hS; intro w4 b6 hS)
    | (refine st_store (b := b6) hS rfl 37 _ _ rfl rfl rfl .head wordN_size (bc_size _ _) (bc_size _ _) (bc_one _ _) ?_; clear hS; intro w5 hS))
  have hT5 := hS.frame
  have hb6 : g ≠ b6 ∧ b ≠ b6 := by
    rcases hS.own .head with h6 | h6
    · exact ⟨by omega, by omega⟩
    · simp at h6
  have HB5 := Lib.hid (fun w' (hT : Tch [] w5 w') => (hT0.trans (hT5.trans hT)).blk h.blk (by simp))
  have HO5 := Lib.hid (fun w' (hT : Tch [] w5 w') => HO.out w' (hT5.trans hT))
  try simp only [Act.put, List.setIfInBounds_toArray, List.set_cons_zero, List.set_cons_succ]
  refine k_region_head (C := fun w' => Tch [] w5 w') 14 (by kernel_rfl) (by kernel_rfl) (Tch.refl _ _).drew ?_
  try simp only [List.take_succ_cons, List.take_zero, List.drop_succ_cons, List.drop_zero]
  refine k_val (v := .pointer (some ⟨b, 0, none⟩)) rfl _ (.inl rfl) rfl ?_; try simp only [Act.put, List.setIfInBounds_toArray, List.set_cons_zero, List.set_cons_succ]
  refine k_nilI ⟨b, 0, none⟩ rfl _ rfl rfl ?_; try simp only [Act.put, List.setIfInBounds_toArray, List.set_cons_zero, List.set_cons_succ]
  refine k_faI rfl rfl rfl (fa_stkR b) ?_; try simp only [Act.put, List.setIfInBounds_toArray, List.set_cons_zero, List.set_cons_succ]
  refine k_cellC (b := b) (j := 0) (v := .slice (some ⟨g, 0, none⟩) Ws.length c) rfl _ _ rfl rfl (fun w' h => (HB5.out w' h).cell rfl) words_aggI ?_; try simp only [Act.put, List.setIfInBounds_toArray, List.set_cons_zero, List.set_cons_succ]
  refine k_val (v := .int .i64 (((Ws.length - 1 : Nat) : Int))) rfl _ (.inl rfl) rfl ?_; try simp only [Act.put, List.setIfInBounds_toArray, List.set_cons_zero, List.set_cons_succ]
  refine k_val (v := .pointer (some ⟨b, 0, none⟩)) rfl _ (.inl rfl) rfl ?_; try simp only [Act.put, List.setIfInBounds_toArray, List.set_cons_zero, List.set_cons_succ]
  refine k_nilI ⟨b, 0, none⟩ rfl _ rfl rfl ?_; try simp only [Act.put, List.setIfInBounds_toArray, List.set_cons_zero, List.set_cons_succ]
  refine k_faI rfl rfl rfl (fa_stkR b) ?_; try simp only [Act.put, List.setIfInBounds_toArray, List.set_cons_zero, List.set_cons_succ]
  refine k_cellC (b := b) (j := 0) (v := .slice (some ⟨g, 0, none⟩) Ws.length c) rfl _ _ rfl rfl (fun w' h => (HB5.out w' h).cell rfl) words_aggI ?_; try simp only [Act.put, List.setIfInBounds_toArray, List.set_cons_zero, List.set_cons_succ]
  refine k_val (v := .int .i64 (((Ws.length - 1 : Nat) : Int))) rfl _ (.inl rfl) rfl ?_; try simp only [Act.put, List.setIfInBounds_toArray, List.set_cons_zero, List.set_cons_succ]
  refine k_val (v := .int .i64 (n : Int)) rfl _ (.inl rfl) rfl ?_; try simp only [Act.put, List.setIfInBounds_toArray, List.set_cons_zero, List.set_cons_succ]
  refine k_sub (m := (((Ws.length - 1 : Nat) : Int))) (n := (n : Int)) (s := ((Ws.length - 1 - n : Nat) : Int)) rfl _ _ _ _ rfl rfl rfl (by rw [IntKind.wrap_i64]; omega) ?_; try simp only [Act.put, List.setIfInBounds_toArray, List.set_cons_zero, List.set_cons_succ]
  refine k_in (v := .pointer (some ⟨g, (Ws.length - 1 - n) * 32, none⟩)) rfl (fun w' h => x_idxW _ _ rfl rfl rfl hk2) ?_; try simp only [Act.put, List.setIfInBounds_toArray, List.set_cons_zero, List.set_cons_succ]
  refine k_in (v := .agg (wv W2)) rfl (fun w' h => x_ldW _ rfl rfl (HO5.out w' h) hk2 hW2) ?_; try simp only [Act.put, List.setIfInBounds_toArray, List.set_cons_zero, List.set_cons_succ]
  refine k_end ?_
  intro w6 hT6
  go_upto_region 6 with (first
    | (refine st_x (v := .pointer (some ⟨g, (Ws.length - 1) * 32, none⟩)) rfl (x_idxW (.tmp 34) (.tmp 35) rfl rfl rfl hk1) ?_)
    | (refine st_stW (W := W2) (k := Ws.length - 1) (HO5.out _ hT6) hk1 rfl (.tmp 45) (.tmp 44) rfl rfl rfl ?_; intro w7 hO7 h7; have HO7 := Lib.hid h7; clear h7))
  have hT7 := (hT0.trans (hT5.trans hT6))
  have H6 := Lib.hid (fun w' (hT : Tch [] w7 w') => hT.blk (hO7.blk (fun e => hb6.1 e.symm) (hT6.blk (hS.get .head) (by simp))) (by simp))
  have HB7 := Lib.hid (fun w' (hT : Tch [] w7 w') => hT.blk (hO7.blk (fun e => hgb e.symm) (hT7.blk h.blk (by simp))) (by simp))
  try simp only [Act.put, List.setIfInBounds_toArray, List.set_cons_zero, List.set_cons_succ]
  refine k_region_head (C := fun w' => Tch [] w7 w') 8 (by kernel_rfl) (by kernel_rfl) (Tch.refl _ _).drew ?_
  try simp only [List.take_succ_cons, List.take_zero, List.drop_succ_cons, List.drop_zero]
  refine k_val (v := .pointer (some ⟨b, 0, none⟩)) rfl _ (.inl rfl) rfl ?_; try simp only [Act.put, List.setIfInBounds_toArray, List.set_cons_zero, List.set_cons_succ]
  refine k_nilI ⟨b, 0, none⟩ rfl _ rfl rfl ?_; try simp only [Act.put, List.setIfInBounds_toArray, List.set_cons_zero, List.set_cons_succ]
  refine k_faI rfl rfl rfl (fa_stkR b) ?_; try simp only [Act.put, List.setIfInBounds_toArray, List.set_cons_zero, List.set_cons_succ]
  refine k_cellC (b := b) (j := 0) (v := .slice (some ⟨g, 0, none⟩) Ws.length c) rfl _ _ rfl rfl (fun w' h => (HB7.out w' h).cell rfl) words_aggI ?_; try simp only [Act.put, List.setIfInBounds_toArray, List.set_cons_zero, List.set_cons_succ]
  refine k_val (v := .int .i64 (((Ws.length - 1 : Nat) : Int))) rfl _ (.inl rfl) rfl ?_; try simp only [Act.put, List.setIfInBounds_toArray, List.set_cons_zero, List.set_cons_succ]
  refine k_val (v := .int .i64 (n : Int)) rfl _ (.inl rfl) rfl ?_; try simp only [Act.put, List.setIfInBounds_toArray, List.set_cons_zero, List.set_cons_succ]
  refine k_sub (m := (((Ws.length - 1 : Nat) : Int))) (n := (n : Int)) (s := ((Ws.length - 1 - n : Nat) : Int)) rfl _ _ _ _ rfl rfl rfl (by rw [IntKind.wrap_i64]; omega) ?_; try simp only [Act.put, List.setIfInBounds_toArray, List.set_cons_zero, List.set_cons_succ]
  refine k_in (v := .agg (wv W1)) rfl (fun w' h => x_ldB _ rfl rfl (H6.out w' h)) ?_; try simp only [Act.put, List.setIfInBounds_toArray, List.set_cons_zero, List.set_cons_succ]
  refine k_end ?_
  intro w8 hT8
  have HO8 := Lib.hid (own_far HO7.out hT8 (by simp))
  go_wp2_with (first
    | (refine st_x (v := .pointer (some ⟨g, (Ws.length - 1 - n) * 32, none⟩)) rfl (x_idxW (.tmp 49) (.tmp 52) rfl rfl rfl hk2) ?_)
    | (refine st_stW (W := W1) (k := Ws.length - 1 - n) HO8.out hk3 rfl (.tmp 54) (.tmp 53) rfl rfl rfl ?_; intro w9 hO9 h9; have HO9 := Lib.hid h9; clear h9))
  go_ret
  obtain ⟨r1, r2⟩ := StkIn.turned (HH.out.call hT7) rfl ((hO7.tch.trans (hT8.mono (by simp))).trans hO9.tch) HO9.out hk4
  exact StkP.mk rfl r1 ((Turned.of_tch hT7 _ _).trans r2)
end Go.Proofs.Ytlliidfkjlmadaa
