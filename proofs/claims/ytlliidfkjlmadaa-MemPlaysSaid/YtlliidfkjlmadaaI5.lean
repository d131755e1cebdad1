/- The document's Put. -/
import Derived.Test.YtlliidfkjlmadaaI4
import Derived.Test.YtlliidfkjlmadaaIK
set_option linter.unusedVariables false
set_option linter.unusedSimpArgs false
namespace Go.Proofs.Ytlliidfkjlmadaa
open Go.RowKit
set_option maxRecDepth 100000
set_option maxHeartbeats 1000000

theorem rput_any (B b : Nat) (v u : Value) (L M : List Nat) (k : Int) (w : World) (h : MemIn B 32 w b v L) (hu : RdB w u M) (hk : -9223372036854775808 ≤ k ∧ k ≤ 9223372036854775807) :
    Calls Try.prog 25 #[.pointer (some ⟨b, 0, none⟩), .int .i64 k, u] w (PutP B 32 w b v (putOk L k M) (putR L k M)) := by
  obtain ⟨p, c, rfl, hc⟩ := h.slice
  have HH := Lib.hid h
  have HU := Lib.hid hu
  have HB := Lib.hid (fun w' (hT : Tch [] w w') => hT.blk h.blk (by simp))
  obtain ⟨pu, cu, rfl, hcu, hMlt, hr⟩ := hu
  have hS := St.one h.blk
  have hLm : L.length ≤ 9223372036854775807 := own_len h.own
  clear hr
  by_cases a1 : M = [] ∧ k < 0
  · obtain ⟨rfl, h0⟩ := a1
    have hz : (([] : List Nat).length : Int) = 0 := rfl
    have h0' : ¬ (0 : Int) ≤ k := by omega
    obtain ⟨hok, hR⟩ := put_no (L := L) (M := []) (k := k) (by omega)
    rw [hok, hR]
    clear h
    go_enter Try.func25, Try.ntmps25
    go_wp2_with (first
      | (refine st_cell1 (v := .slice p L.length c) hS rfl 24 _ rfl rfl .head rfl bytes_aggI ?_))
    go_ret
    obtain ⟨h1, h2⟩ := HH.out.kept hS .head
    exact PutP.mk rfl h1 h2
  by_cases a2 : M = []
  · subst a2
    have hz : (([] : List Nat).length : Int) = 0 := rfl
    have h0' : (0 : Int) ≤ k := by simp at a1; omega
    obtain ⟨hok, hR⟩ := put_nil (L := L) (k := k) h0'
    rw [hok, hR]
    clear h
    go_enter Try.func25, Try.ntmps25
    go_wp2_with (first
      | (refine st_cell1 (v := .slice p L.length c) hS rfl 24 _ rfl rfl .head rfl bytes_aggI ?_))
    go_ret
    obtain ⟨h1, h2⟩ := HH.out.kept hS .head
    exact PutP.mk rfl h1 h2
  have hMl : 0 < M.length := List.length_pos_iff.2 a2
  have g3 : ¬ ((M.length : Int) = 0) := by omega
  by_cases h0 : k < 0
  · obtain ⟨hok, hR⟩ := put_no (L := L) (M := M) (k := k) (by omega)
    rw [hok, hR]
    clear h
    go_enter Try.func25, Try.ntmps25
    go_upto_region 3 with (fail)
    try simp only [Act.put, List.setIfInBounds_toArray, List.set_cons_zero, List.set_cons_succ]
    refine k_seq (C := fun w' => Tch [] w w') (Tch.refl _ _) ?_
    refine k_val (v := .int .i64 k) rfl _ (.inl rfl) rfl ?_; try simp only [Act.put, List.setIfInBounds_toArray, List.set_cons_zero, List.set_cons_succ]
    refine k_lss (m := k) (n := 0) (t := true) rfl _ _ _ rfl rfl rfl (decide_eq_true (by omega)) ?_; try simp only [Act.put, List.setIfInBounds_toArray, List.set_cons_zero, List.set_cons_succ]
    refine k_val (v := .bool true) rfl _ (.inl rfl) rfl ?_; try simp only [Act.put, List.setIfInBounds_toArray, List.set_cons_zero, List.set_cons_succ]
    refine k_skip rfl rfl rfl rfl rfl ?_; try simp only [Act.put, List.setIfInBounds_toArray, List.set_cons_zero, List.set_cons_succ]
    refine k_skip rfl rfl rfl rfl rfl ?_; try simp only [Act.put, List.setIfInBounds_toArray, List.set_cons_zero, List.set_cons_succ]
    refine k_skip rfl rfl rfl rfl rfl ?_; try simp only [Act.put, List.setIfInBounds_toArray, List.set_cons_zero, List.set_cons_succ]
    refine k_skip rfl rfl rfl rfl rfl ?_; try simp only [Act.put, List.setIfInBounds_toArray, List.set_cons_zero, List.set_cons_succ]
    refine k_skip rfl rfl rfl rfl rfl ?_; try simp only [Act.put, List.setIfInBounds_toArray, List.set_cons_zero, List.set_cons_succ]
    refine k_skip rfl rfl rfl rfl rfl ?_; try simp only [Act.put, List.setIfInBounds_toArray, List.set_cons_zero, List.set_cons_succ]
    refine k_skip rfl rfl rfl rfl rfl ?_; try simp only [Act.put, List.setIfInBounds_toArray, List.set_cons_zero, List.set_cons_succ]
    refine k_pickT (t := true) rfl _ _ _ rfl rfl rfl ?_; try simp only [Act.put, List.setIfInBounds_toArray, List.set_cons_zero, List.set_cons_succ]
    refine k_val (v := .bool true) rfl _ (.inl rfl) rfl ?_; try simp only [Act.put, List.setIfInBounds_toArray, List.set_cons_zero, List.set_cons_succ]
    refine k_skip rfl rfl rfl rfl rfl ?_; try simp only [Act.put, List.setIfInBounds_toArray, List.set_cons_zero, List.set_cons_succ]
    refine k_skip rfl rfl rfl rfl rfl ?_; try simp only [Act.put, List.setIfInBounds_toArray, List.set_cons_zero, List.set_cons_succ]
    refine k_skip rfl rfl rfl rfl rfl ?_; try simp only [Act.put, List.setIfInBounds_toArray, List.set_cons_zero, List.set_cons_succ]
    refine k_skip rfl rfl rfl rfl rfl ?_; try simp only [Act.put, List.setIfInBounds_toArray, List.set_cons_zero, List.set_cons_succ]
    refine k_skip rfl rfl rfl rfl rfl ?_; try simp only [Act.put, List.setIfInBounds_toArray, List.set_cons_zero, List.set_cons_succ]
    refine k_skip rfl rfl rfl rfl rfl ?_; try simp only [Act.put, List.setIfInBounds_toArray, List.set_cons_zero, List.set_cons_succ]
    refine k_skip rfl rfl rfl rfl rfl ?_; try simp only [Act.put, List.setIfInBounds_toArray, List.set_cons_zero, List.set_cons_succ]
    refine k_skip rfl rfl rfl rfl rfl ?_; try simp only [Act.put, List.setIfInBounds_toArray, List.set_cons_zero, List.set_cons_succ]
    refine k_skip rfl rfl rfl rfl rfl ?_; try simp only [Act.put, List.setIfInBounds_toArray, List.set_cons_zero, List.set_cons_succ]
    refine k_skip rfl rfl rfl rfl rfl ?_; try simp only [Act.put, List.setIfInBounds_toArray, List.set_cons_zero, List.set_cons_succ]
    refine k_pickT (t := true) rfl _ _ _ rfl rfl rfl ?_; try simp only [Act.put, List.setIfInBounds_toArray, List.set_cons_zero, List.set_cons_succ]
    refine k_end ?_
    intro w2 hT2
    go_wp2
    go_ret
    exact PutP.mk rfl (HH.out.call hT2) (Turned.of_tch hT2 _ _)
  by_cases hf1 : (L.length : Int) < k
  · obtain ⟨hok, hR⟩ := put_no (L := L) (M := M) (k := k) (by rintro ⟨_, h | h⟩; exact a2 h; omega)
    rw [hok, hR]
    clear h
    go_enter Try.func25, Try.ntmps25
    go_upto_region 3 with (fail)
    try simp only [Act.put, List.setIfInBounds_toArray, List.set_cons_zero, List.set_cons_succ]
    refine k_seq (C := fun w' => Tch [] w w') (Tch.refl _ _) ?_
    refine k_val (v := .int .i64 k) rfl _ (.inl rfl) rfl ?_; try simp only [Act.put, List.setIfInBounds_toArray, List.set_cons_zero, List.set_cons_succ]
    refine k_lss (m := k) (n := 0) (t := false) rfl _ _ _ rfl rfl rfl (decide_eq_false (by omega)) ?_; try simp only [Act.put, List.setIfInBounds_toArray, List.set_cons_zero, List.set_cons_succ]
    refine k_val (v := .bool false) rfl _ (.inl rfl) rfl ?_; try simp only [Act.put, List.setIfInBounds_toArray, List.set_cons_zero, List.set_cons_succ]
    refine k_val (v := .int .i64 k) rfl _ (.inl rfl) rfl ?_; try simp only [Act.put, List.setIfInBounds_toArray, List.set_cons_zero, List.set_cons_succ]
    refine k_val (v := .pointer (some ⟨b, 0, none⟩)) rfl _ (.inl rfl) rfl ?_; try simp only [Act.put, List.setIfInBounds_toArray, List.set_cons_zero, List.set_cons_succ]
    refine k_nilI ⟨b, 0, none⟩ rfl _ rfl rfl ?_; try simp only [Act.put, List.setIfInBounds_toArray, List.set_cons_zero, List.set_cons_succ]
    refine k_faI rfl rfl rfl (fa_memR b) ?_; try simp only [Act.put, List.setIfInBounds_toArray, List.set_cons_zero, List.set_cons_succ]
    refine k_cellC (b := b) (j := 0) (v := .slice p L.length c) rfl _ _ rfl rfl (fun w' h => (HB.out w' h).cell rfl) bytes_aggI ?_; try simp only [Act.put, List.setIfInBounds_toArray, List.set_cons_zero, List.set_cons_succ]
    refine k_lenSl (p := p) (n := L.length) (c := c) rfl _ rfl rfl ?_; try simp only [Act.put, List.setIfInBounds_toArray, List.set_cons_zero, List.set_cons_succ]
    refine k_gtr (m := k) (n := (L.length : Int)) (t := true) rfl _ _ _ rfl rfl rfl (decide_eq_true (by omega)) ?_; try simp only [Act.put, List.setIfInBounds_toArray, List.set_cons_zero, List.set_cons_succ]
    refine k_pickF (t := true) rfl _ _ _ rfl rfl rfl ?_; try simp only [Act.put, List.setIfInBounds_toArray, List.set_cons_zero, List.set_cons_succ]
    refine k_val (v := .bool true) rfl _ (.inl rfl) rfl ?_; try simp only [Act.put, List.setIfInBounds_toArray, List.set_cons_zero, List.set_cons_succ]
    refine k_skip rfl rfl rfl rfl rfl ?_; try simp only [Act.put, List.setIfInBounds_toArray, List.set_cons_zero, List.set_cons_succ]
    refine k_skip rfl rfl rfl rfl rfl ?_; try simp only [Act.put, List.setIfInBounds_toArray, List.set_cons_zero, List.set_cons_succ]
    refine k_skip rfl rfl rfl rfl rfl ?_; try simp only [Act.put, List.setIfInBounds_toArray, List.set_cons_zero, List.set_cons_succ]
    refine k_skip rfl rfl rfl rfl rfl ?_; try simp only [Act.put, List.setIfInBounds_toArray, List.set_cons_zero, List.set_cons_succ]
    refine k_skip rfl rfl rfl rfl rfl ?_; try simp only [Act.put, List.setIfInBounds_toArray, List.set_cons_zero, List.set_cons_succ]
    refine k_skip rfl rfl rfl rfl rfl ?_; try simp only [Act.put, List.setIfInBounds_toArray, List.set_cons_zero, List.set_cons_succ]
    refine k_skip rfl rfl rfl rfl rfl ?_; try simp only [Act.put, List.setIfInBounds_toArray, List.set_cons_zero, List.set_cons_succ]
    refine k_skip rfl rfl rfl rfl rfl ?_; try simp only [Act.put, List.setIfInBounds_toArray, List.set_cons_zero, List.set_cons_succ]
    refine k_skip rfl rfl rfl rfl rfl ?_; try simp only [Act.put, List.setIfInBounds_toArray, List.set_cons_zero, List.set_cons_succ]
    refine k_skip rfl rfl rfl rfl rfl ?_; try simp only [Act.put, List.setIfInBounds_toArray, List.set_cons_zero, List.set_cons_succ]
    refine k_pickT (t := true) rfl _ _ _ rfl rfl rfl ?_; try simp only [Act.put, List.setIfInBounds_toArray, List.set_cons_zero, List.set_cons_succ]
    refine k_end ?_
    intro w2 hT2
    go_wp2
    go_ret
    exact PutP.mk rfl (HH.out.call hT2) (Turned.of_tch hT2 _ _)
  by_cases hf2 : ((L.length : Int) - k) < (M.length : Int)
  · obtain ⟨hok, hR⟩ := put_no (L := L) (M := M) (k := k) (by rintro ⟨_, h | h⟩; exact a2 h; omega)
    rw [hok, hR]
    clear h
    go_enter Try.func25, Try.ntmps25
    go_upto_region 3 with (fail)
    try simp only [Act.put, List.setIfInBounds_toArray, List.set_cons_zero, List.set_cons_succ]
    refine k_seq (C := fun w' => Tch [] w w') (Tch.refl _ _) ?_
    refine k_val (v := .int .i64 k) rfl _ (.inl rfl) rfl ?_; try simp only [Act.put, List.setIfInBounds_toArray, List.set_cons_zero, List.set_cons_succ]
    refine k_lss (m := k) (n := 0) (t := false) rfl _ _ _ rfl rfl rfl (decide_eq_false (by omega)) ?_; try simp only [Act.put, List.setIfInBounds_toArray, List.set_cons_zero, List.set_cons_succ]
    refine k_val (v := .bool false) rfl _ (.inl rfl) rfl ?_; try simp only [Act.put, List.setIfInBounds_toArray, List.set_cons_zero, List.set_cons_succ]
    refine k_val (v := .int .i64 k) rfl _ (.inl rfl) rfl ?_; try simp only [Act.put, List.setIfInBounds_toArray, List.set_cons_zero, List.set_cons_succ]
    refine k_val (v := .pointer (some ⟨b, 0, none⟩)) rfl _ (.inl rfl) rfl ?_; try simp only [Act.put, List.setIfInBounds_toArray, List.set_cons_zero, List.set_cons_succ]
    refine k_nilI ⟨b, 0, none⟩ rfl _ rfl rfl ?_; try simp only [Act.put, List.setIfInBounds_toArray, List.set_cons_zero, List.set_cons_succ]
    refine k_faI rfl rfl rfl (fa_memR b) ?_; try simp only [Act.put, List.setIfInBounds_toArray, List.set_cons_zero, List.set_cons_succ]
    refine k_cellC (b := b) (j := 0) (v := .slice p L.length c) rfl _ _ rfl rfl (fun w' h => (HB.out w' h).cell rfl) bytes_aggI ?_; try simp only [Act.put, List.setIfInBounds_toArray, List.set_cons_zero, List.set_cons_succ]
    refine k_lenSl (p := p) (n := L.length) (c := c) rfl _ rfl rfl ?_; try simp only [Act.put, List.setIfInBounds_toArray, List.set_cons_zero, List.set_cons_succ]
    refine k_gtr (m := k) (n := (L.length : Int)) (t := false) rfl _ _ _ rfl rfl rfl (decide_eq_false (by omega)) ?_; try simp only [Act.put, List.setIfInBounds_toArray, List.set_cons_zero, List.set_cons_succ]
    refine k_pickF (t := false) rfl _ _ _ rfl rfl rfl ?_; try simp only [Act.put, List.setIfInBounds_toArray, List.set_cons_zero, List.set_cons_succ]
    refine k_val (v := .bool false) rfl _ (.inl rfl) rfl ?_; try simp only [Act.put, List.setIfInBounds_toArray, List.set_cons_zero, List.set_cons_succ]
    refine k_val (v := .slice pu M.length cu) rfl _ (.inl rfl) rfl ?_; try simp only [Act.put, List.setIfInBounds_toArray, List.set_cons_zero, List.set_cons_succ]
    refine k_lenSl (p := pu) (n := M.length) (c := cu) rfl _ rfl rfl ?_; try simp only [Act.put, List.setIfInBounds_toArray, List.set_cons_zero, List.set_cons_succ]
    refine k_val (v := .pointer (some ⟨b, 0, none⟩)) rfl _ (.inl rfl) rfl ?_; try simp only [Act.put, List.setIfInBounds_toArray, List.set_cons_zero, List.set_cons_succ]
    refine k_nilI ⟨b, 0, none⟩ rfl _ rfl rfl ?_; try simp only [Act.put, List.setIfInBounds_toArray, List.set_cons_zero, List.set_cons_succ]
    refine k_faI rfl rfl rfl (fa_memR b) ?_; try simp only [Act.put, List.setIfInBounds_toArray, List.set_cons_zero, List.set_cons_succ]
    refine k_cellC (b := b) (j := 0) (v := .slice p L.length c) rfl _ _ rfl rfl (fun w' h => (HB.out w' h).cell rfl) bytes_aggI ?_; try simp only [Act.put, List.setIfInBounds_toArray, List.set_cons_zero, List.set_cons_succ]
    refine k_lenSl (p := p) (n := L.length) (c := c) rfl _ rfl rfl ?_; try simp only [Act.put, List.setIfInBounds_toArray, List.set_cons_zero, List.set_cons_succ]
    refine k_val (v := .int .i64 k) rfl _ (.inl rfl) rfl ?_; try simp only [Act.put, List.setIfInBounds_toArray, List.set_cons_zero, List.set_cons_succ]
    refine k_sub (m := (L.length : Int)) (n := k) (s := (L.length : Int) - k) rfl _ _ _ _ rfl rfl rfl (by rw [IntKind.wrap_i64]; omega) ?_; try simp only [Act.put, List.setIfInBounds_toArray, List.set_cons_zero, List.set_cons_succ]
    refine k_gtr (m := (M.length : Int)) (n := ((L.length : Int) - k)) (t := true) rfl _ _ _ rfl rfl rfl (decide_eq_true (by omega)) ?_; try simp only [Act.put, List.setIfInBounds_toArray, List.set_cons_zero, List.set_cons_succ]
    refine k_pickF (t := true) rfl _ _ _ rfl rfl rfl ?_; try simp only [Act.put, List.setIfInBounds_toArray, List.set_cons_zero, List.set_cons_succ]
    refine k_end ?_
    intro w2 hT2
    go_wp2
    go_ret
    exact PutP.mk rfl (HH.out.call hT2) (Turned.of_tch hT2 _ _)
  obtain ⟨k, rfl⟩ : ∃ j : Nat, k = j := ⟨k.toNat, by omega⟩
  obtain ⟨hok, hR⟩ := put_yes (L := L) (M := M) (k := k) a2 (by omega)
  rw [hok, hR]
  have hfit : k + M.length ≤ L.length := by omega
  obtain ⟨g, rfl⟩ : ∃ g, p = some ⟨g, 0, none⟩ := by
    rcases h.own.2 with ⟨e1, e2⟩ | ⟨g, cap, cur, e1, _⟩
    · omega
    · injection e1 with e1
      exact ⟨g, e1⟩
  have hgb : g ≠ b := fun e => h.apart (by rw [e]; rfl)
  have hsl := slice_own g L.length c k (by omega) hc
  have HMn := Lib.hid a2
  have HBS := Lib.hid (fun w' (hT : Tch [] w w') => St.one (hT.blk h.blk (by simp)))
  clear h hok hR a2 a1
  go_enter Try.func25, Try.ntmps25
  go_upto_region 3 with (fail)
  try simp only [Act.put, List.setIfInBounds_toArray, List.set_cons_zero, List.set_cons_succ]
  refine k_seq (C := fun w' => Tch [] w w') (Tch.refl _ _) ?_
  refine k_val (v := .int .i64 (k : Int)) rfl _ (.inl rfl) rfl ?_; try simp only [Act.put, List.setIfInBounds_toArray, List.set_cons_zero, List.set_cons_succ]
  refine k_lss (m := (k : Int)) (n := 0) (t := false) rfl _ _ _ rfl rfl rfl (decide_eq_false (by omega)) ?_; try simp only [Act.put, List.setIfInBounds_toArray, List.set_cons_zero, List.set_cons_succ]
  refine k_val (v := .bool false) rfl _ (.inl rfl) rfl ?_; try simp only [Act.put, List.setIfInBounds_toArray, List.set_cons_zero, List.set_cons_succ]
  refine k_val (v := .int .i64 (k : Int)) rfl _ (.inl rfl) rfl ?_; try simp only [Act.put, List.setIfInBounds_toArray, List.set_cons_zero, List.set_cons_succ]
  refine k_val (v := .pointer (some ⟨b, 0, none⟩)) rfl _ (.inl rfl) rfl ?_; try simp only [Act.put, List.setIfInBounds_toArray, List.set_cons_zero, List.set_cons_succ]
  refine k_nilI ⟨b, 0, none⟩ rfl _ rfl rfl ?_; try simp only [Act.put, List.setIfInBounds_toArray, List.set_cons_zero, List.set_cons_succ]
  refine k_faI rfl rfl rfl (fa_memR b) ?_; try simp only [Act.put, List.setIfInBounds_toArray, List.set_cons_zero, List.set_cons_succ]
  refine k_cellC (b := b) (j := 0) (v := .slice (some ⟨g, 0, none⟩) L.length c) rfl _ _ rfl rfl (fun w' h => (HB.out w' h).cell rfl) bytes_aggI ?_; try simp only [Act.put, List.setIfInBounds_toArray, List.set_cons_zero, List.set_cons_succ]
  refine k_lenSl (p := (some ⟨g, 0, none⟩)) (n := L.length) (c := c) rfl _ rfl rfl ?_; try simp only [Act.put, List.setIfInBounds_toArray, List.set_cons_zero, List.set_cons_succ]
  refine k_gtr (m := (k : Int)) (n := (L.length : Int)) (t := false) rfl _ _ _ rfl rfl rfl (decide_eq_false (by omega)) ?_; try simp only [Act.put, List.setIfInBounds_toArray, List.set_cons_zero, List.set_cons_succ]
  refine k_pickF (t := false) rfl _ _ _ rfl rfl rfl ?_; try simp only [Act.put, List.setIfInBounds_toArray, List.set_cons_zero, List.set_cons_succ]
  refine k_val (v := .bool false) rfl _ (.inl rfl) rfl ?_; try simp only [Act.put, List.setIfInBounds_toArray, List.set_cons_zero, List.set_cons_succ]
  refine k_val (v := .slice pu M.length cu) rfl _ (.inl rfl) rfl ?_; try simp only [Act.put, List.setIfInBounds_toArray, List.set_cons_zero, List.set_cons_succ]
  refine k_lenSl (p := pu) (n := M.length) (c := cu) rfl _ rfl rfl ?_; try simp only [Act.put, List.setIfInBounds_toArray, List.set_cons_zero, List.set_cons_succ]
  refine k_val (v := .pointer (some ⟨b, 0, none⟩)) rfl _ (.inl rfl) rfl ?_; try simp only [Act.put, List.setIfInBounds_toArray, List.set_cons_zero, List.set_cons_succ]
  refine k_nilI ⟨b, 0, none⟩ rfl _ rfl rfl ?_; try simp only [Act.put, List.setIfInBounds_toArray, List.set_cons_zero, List.set_cons_succ]
  refine k_faI rfl rfl rfl (fa_memR b) ?_; try simp only [Act.put, List.setIfInBounds_toArray, List.set_cons_zero, List.set_cons_succ]
  refine k_cellC (b := b) (j := 0) (v := .slice (some ⟨g, 0, none⟩) L.length c) rfl _ _ rfl rfl (fun w' h => (HB.out w' h).cell rfl) bytes_aggI ?_; try simp only [Act.put, List.setIfInBounds_toArray, List.set_cons_zero, List.set_cons_succ]
  refine k_lenSl (p := (some ⟨g, 0, none⟩)) (n := L.length) (c := c) rfl _ rfl rfl ?_; try simp only [Act.put, List.setIfInBounds_toArray, List.set_cons_zero, List.set_cons_succ]
  refine k_val (v := .int .i64 (k : Int)) rfl _ (.inl rfl) rfl ?_; try simp only [Act.put, List.setIfInBounds_toArray, List.set_cons_zero, List.set_cons_succ]
  refine k_sub (m := (L.length : Int)) (n := (k : Int)) (s := (L.length : Int) - k) rfl _ _ _ _ rfl rfl rfl (by rw [IntKind.wrap_i64]; omega) ?_; try simp only [Act.put, List.setIfInBounds_toArray, List.set_cons_zero, List.set_cons_succ]
  refine k_gtr (m := (M.length : Int)) (n := ((L.length : Int) - k)) (t := false) rfl _ _ _ rfl rfl rfl (decide_eq_false (by omega)) ?_; try simp only [Act.put, List.setIfInBounds_toArray, List.set_cons_zero, List.set_cons_succ]
  refine k_pickF (t := false) rfl _ _ _ rfl rfl rfl ?_; try simp only [Act.put, List.setIfInBounds_toArray, List.set_cons_zero, List.set_cons_succ]
  refine k_end ?_
  intro w2 hT2
  have hS2 := HBS.out _ hT2
  go_wp2_with (first
    | (refine st_cell1 (v := .slice (some ⟨g, 0, none⟩) L.length c) hS2 rfl 24 _ rfl rfl .head rfl bytes_aggI ?_)
    | (refine st_from rfl 24 _ _ rfl rfl rfl hsl ?_)
    | (refine st_copyOwn (g := g) (k := k) (c := c) (L := L) (M := M) (HH.out.call hT2).own rfl (.tmp 40) (.tmp 41) rfl rfl rfl (HU.out.tch hT2 (by simp)) HMn.out hfit ?_; intro w3 hown3 hO3; have HO3 := Lib.hid hown3; clear hown3))
  go_ret
  have h2 := HH.out.call hT2
  refine PutP.mk rfl ⟨hO3.blk (fun e => hgb e.symm) h2.blk, HO3.out, h2.apart, h2.base⟩ ⟨(hT2.mono (by simp)).trans (hO3.tch.mono fun x hx => .inl (mem_fpr.2 (.inr (by rw [List.mem_singleton.1 hx]; rfl)))), fun _ hk => .inl hk⟩
end Go.Proofs.Ytlliidfkjlmadaa
