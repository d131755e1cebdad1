/- MemFull: how many words a stack may have. -/
import Derived.Test.YtlliidfkjlmadaaIB
set_option linter.unusedVariables false
set_option linter.unusedSimpArgs false
namespace Go.Proofs.Ytlliidfkjlmadaa
open Go.RowKit
set_option maxRecDepth 100000
set_option maxHeartbeats 4000000

def fullL (k : Nat) : List (List Nat) := (List.range (min k 1024)).map fun i => wof ((i : Nat) : Int)
theorem fullL_len (k : Nat) : (fullL k).length = min k 1024 := by simp [fullL]
theorem fullL_push (k : Nat) : pushL (fullL k) (wof (k : Int)) = fullL (k + 1) := by
  unfold pushL
  rw [fullL_len]
  by_cases h : k < 1024
  · rw [if_pos (by omega)]
    unfold fullL
    rw [Nat.min_eq_left (by omega), Nat.min_eq_left (by omega), List.range_succ, List.map_append]
    rfl
  · rw [if_neg (by omega)]
    unfold fullL
    rw [Nat.min_eq_right (by omega), Nat.min_eq_right (by omega)]
theorem fullL_ok (k : Nat) : pushOk (fullL k) = decide (k < 1024) := by
  unfold pushOk
  rw [fullL_len, decide_eq_decide]
  omega
theorem full_walk (n : Int) (w : World) (hn : -9223372036854775808 ≤ n ∧ n ≤ 9223372036854775807) :
    Calls Try.prog 5 #[.int .i64 n] w fun e w' => e = .returned (.bool true) ∧ Tch [] w w' := by
  by_cases h1 : n < 0
  · clear hn
    go_enter Try.func5, Try.ntmps5
    go_upto_region 2 with (go_at_call 8; refine (alive13 _).mono ?_; rintro e w1 ⟨rfl, hT1⟩)
    try simp only [Act.put, List.setIfInBounds_toArray, List.set_cons_zero, List.set_cons_succ]
    refine k_seq (C := fun w' => Tch [] w w') hT1 ?_
    refine k_val (v := .bool true) rfl _ (.inl rfl) rfl ?_; try simp only [Act.put, List.setIfInBounds_toArray, List.set_cons_zero, List.set_cons_succ]
    refine k_notV (s := true) (t := false) rfl _ _ rfl rfl rfl ?_; try simp only [Act.put, List.setIfInBounds_toArray, List.set_cons_zero, List.set_cons_succ]
    refine k_val (v := .bool false) rfl _ (.inl rfl) rfl ?_; try simp only [Act.put, List.setIfInBounds_toArray, List.set_cons_zero, List.set_cons_succ]
    refine k_val (v := .int .i64 n) rfl _ (.inl rfl) rfl ?_; try simp only [Act.put, List.setIfInBounds_toArray, List.set_cons_zero, List.set_cons_succ]
    refine k_lss (m := n) (n := 0) (t := true) rfl _ _ _ rfl rfl rfl (decide_eq_true (by omega)) ?_; try simp only [Act.put, List.setIfInBounds_toArray, List.set_cons_zero, List.set_cons_succ]
    refine k_pickF (t := true) rfl _ _ _ rfl rfl rfl ?_; try simp only [Act.put, List.setIfInBounds_toArray, List.set_cons_zero, List.set_cons_succ]
    refine k_val (v := .bool true) rfl _ (.inl rfl) rfl ?_; try simp only [Act.put, List.setIfInBounds_toArray, List.set_cons_zero, List.set_cons_succ]
    refine k_skip rfl rfl rfl rfl rfl ?_; try simp only [Act.put, List.setIfInBounds_toArray, List.set_cons_zero, List.set_cons_succ]
    refine k_skip rfl rfl rfl rfl rfl ?_; try simp only [Act.put, List.setIfInBounds_toArray, List.set_cons_zero, List.set_cons_succ]
    refine k_pickT (t := true) rfl _ _ _ rfl rfl rfl ?_; try simp only [Act.put, List.setIfInBounds_toArray, List.set_cons_zero, List.set_cons_succ]
    refine k_end ?_
    intro w2 hT2
    go_wp2
    go_ret
    exact ⟨rfl, hT2⟩
  by_cases h2 : 1100 < n
  · clear hn
    go_enter Try.func5, Try.ntmps5
    go_upto_region 2 with (go_at_call 8; refine (alive13 _).mono ?_; rintro e w1 ⟨rfl, hT1⟩)
    try simp only [Act.put, List.setIfInBounds_toArray, List.set_cons_zero, List.set_cons_succ]
    refine k_seq (C := fun w' => Tch [] w w') hT1 ?_
    refine k_val (v := .bool true) rfl _ (.inl rfl) rfl ?_; try simp only [Act.put, List.setIfInBounds_toArray, List.set_cons_zero, List.set_cons_succ]
    refine k_notV (s := true) (t := false) rfl _ _ rfl rfl rfl ?_; try simp only [Act.put, List.setIfInBounds_toArray, List.set_cons_zero, List.set_cons_succ]
    refine k_val (v := .bool false) rfl _ (.inl rfl) rfl ?_; try simp only [Act.put, List.setIfInBounds_toArray, List.set_cons_zero, List.set_cons_succ]
    refine k_val (v := .int .i64 n) rfl _ (.inl rfl) rfl ?_; try simp only [Act.put, List.setIfInBounds_toArray, List.set_cons_zero, List.set_cons_succ]
    refine k_lss (m := n) (n := 0) (t := false) rfl _ _ _ rfl rfl rfl (decide_eq_false (by omega)) ?_; try simp only [Act.put, List.setIfInBounds_toArray, List.set_cons_zero, List.set_cons_succ]
    refine k_pickF (t := false) rfl _ _ _ rfl rfl rfl ?_; try simp only [Act.put, List.setIfInBounds_toArray, List.set_cons_zero, List.set_cons_succ]
    refine k_val (v := .bool false) rfl _ (.inl rfl) rfl ?_; try simp only [Act.put, List.setIfInBounds_toArray, List.set_cons_zero, List.set_cons_succ]
    refine k_val (v := .int .i64 n) rfl _ (.inl rfl) rfl ?_; try simp only [Act.put, List.setIfInBounds_toArray, List.set_cons_zero, List.set_cons_succ]
    refine k_gtr (m := n) (n := 1100) (t := true) rfl _ _ _ rfl rfl rfl (decide_eq_true (by omega)) ?_; try simp only [Act.put, List.setIfInBounds_toArray, List.set_cons_zero, List.set_cons_succ]
    refine k_pickF (t := true) rfl _ _ _ rfl rfl rfl ?_; try simp only [Act.put, List.setIfInBounds_toArray, List.set_cons_zero, List.set_cons_succ]
    refine k_end ?_
    intro w2 hT2
    go_wp2
    go_ret
    exact ⟨rfl, hT2⟩
  obtain ⟨n, rfl⟩ : ∃ m : Nat, n = m := ⟨n.toNat, by omega⟩
  clear hn
  have hn : n ≤ 1100 := by omega
  go_enter Try.func5, Try.ntmps5
  go_upto_region 2 with (go_at_call 8; refine (alive13 _).mono ?_; rintro e w1 ⟨rfl, hT1⟩)
  try simp only [Act.put, List.setIfInBounds_toArray, List.set_cons_zero, List.set_cons_succ]
  refine k_seq (C := fun w' => Tch [] w w') hT1 ?_
  refine k_val (v := .bool true) rfl _ (.inl rfl) rfl ?_; try simp only [Act.put, List.setIfInBounds_toArray, List.set_cons_zero, List.set_cons_succ]
  refine k_notV (s := true) (t := false) rfl _ _ rfl rfl rfl ?_; try simp only [Act.put, List.setIfInBounds_toArray, List.set_cons_zero, List.set_cons_succ]
  refine k_val (v := .bool false) rfl _ (.inl rfl) rfl ?_; try simp only [Act.put, List.setIfInBounds_toArray, List.set_cons_zero, List.set_cons_succ]
  refine k_val (v := .int .i64 (n : Int)) rfl _ (.inl rfl) rfl ?_; try simp only [Act.put, List.setIfInBounds_toArray, List.set_cons_zero, List.set_cons_succ]
  refine k_lss (m := (n : Int)) (n := 0) (t := false) rfl _ _ _ rfl rfl rfl (decide_eq_false (by omega)) ?_; try simp only [Act.put, List.setIfInBounds_toArray, List.set_cons_zero, List.set_cons_succ]
  refine k_pickF (t := false) rfl _ _ _ rfl rfl rfl ?_; try simp only [Act.put, List.setIfInBounds_toArray, List.set_cons_zero, List.set_cons_succ]
  refine k_val (v := .bool false) rfl _ (.inl rfl) rfl ?_; try simp only [Act.put, List.setIfInBounds_toArray, List.set_cons_zero, List.set_cons_succ]
  refine k_val (v := .int .i64 (n : Int)) rfl _ (.inl rfl) rfl ?_; try simp only [Act.put, List.setIfInBounds_toArray, List.set_cons_zero, List.set_cons_succ]
  refine k_gtr (m := (n : Int)) (n := 1100) (t := false) rfl _ _ _ rfl rfl rfl (decide_eq_false (by omega)) ?_; try simp only [Act.put, List.setIfInBounds_toArray, List.set_cons_zero, List.set_cons_succ]
  refine k_pickF (t := false) rfl _ _ _ rfl rfl rfl ?_; try simp only [Act.put, List.setIfInBounds_toArray, List.set_cons_zero, List.set_cons_succ]
  refine k_end ?_
  clear hT1
  intro w2 hT2
  have hS := (St.start w).call hT2
  clear h1 h2 hT2
  go_upto_region 6 with (refine st_new hS rfl 29 rfl stkP_zero ?_; clear hS; intro w3 b hS)
  have hb0 : w.heap.size ≤ b := (hS.own .head).elim id (fun h => by simp at h)
  have hM0 : StkIn w.heap.size 29 w3 b (.slice none 0 0) [] := RowIn.new (L := []) (hS.get .head) hb0
  have hT3 := hS.frame
  clear hS
  go_loopw [5] (fun i wr => ∃ (k : Nat) (v : Value), i = .int .i64 (k : Int) ∧ k ≤ n ∧ Hid (StkIn w.heap.size 29 wr b v (fullL k)) ∧ Tch [] w wr) (fun i _ => n - (intOf i).toNat)
  case atStart => exact ⟨0, _, rfl, Nat.zero_le _, Lib.hid hM0, hT3⟩
  case round =>
    clear hM0 hT3
    obtain ⟨k, v, rfl, hk, HM, hT⟩ := hrel
    by_cases hlt : k < n
    · have hlt' : (k : Int) < (n : Int) := by omega
      have HO := Lib.hid (fun w' => rOfW_any (k : Int) (by omega) w')
      have hP := fun w' (h : Tch [] wr w') => push_any w.heap.size b v (fullL k) (wof (k : Int)) w' (HM.out.call h) (by rw [fullL_len]; omega)
      rw [fullL_push, fullL_ok] at hP
      by_cases hf : k < 1024
      · rw [decide_eq_true hf] at hP
        have HP := Lib.hid hP
        have hf' : (k : Int) < 1024 := by omega
        clear hP hf
        generalize wv (wof (k : Int)) = ck at *
        go_wp2_with (first
          | (go_at_call 17; go_must (refine (HO.out _).mono ?_; rintro e w4 ⟨rfl, hT4⟩))
          | (go_at_call 20; go_must (refine (HP.out _ hT4).mono ?_; rintro e w5 ⟨v5, rfl, hM5, hT5⟩; have HM5 := Lib.hid hM5; have HT5 := Lib.hid hT5; clear hM5 hT5)))
        go_roundw
        case rel => exact ⟨k + 1, v5, by go_num, hlt, HM5, Turned.fresh_tch (hT.trans hT4) HT5.out (fun x hx => (HM.out.lt hx).1)⟩
        case measure => simp [intOf]; omega
      · rw [decide_eq_false hf] at hP
        have HP := Lib.hid hP
        have hf' : ¬ (k : Int) < 1024 := by omega
        clear hP hf
        generalize wv (wof (k : Int)) = ck at *
        go_wp2_with (first
          | (go_at_call 17; go_must (refine (HO.out _).mono ?_; rintro e w4 ⟨rfl, hT4⟩))
          | (go_at_call 20; go_must (refine (HP.out _ hT4).mono ?_; rintro e w5 ⟨v5, rfl, hM5, hT5⟩; have HM5 := Lib.hid hM5; have HT5 := Lib.hid hT5; clear hM5 hT5)))
        go_roundw
        case rel => exact ⟨k + 1, v5, by go_num, hlt, HM5, Turned.fresh_tch (hT.trans hT4) HT5.out (fun x hx => (HM.out.lt hx).1)⟩
        case measure => simp [intOf]; omega
    · obtain rfl : k = n := by omega
      have hlf := fullL_len k
      have hD := dup_any w.heap.size b v (fullL k) 1 wr HM.out (by rw [hlf]; omega)
      by_cases c0 : k = 0
      · subst c0
        rw [show dupOk (fullL 0) 1 = false from by decide, show dupL (fullL 0) 1 = [] from by decide] at hD
        have c1 : ¬ (1024 : Int) < ((0 : Nat) : Int) := by omega
        have HLL := Lib.hid (show ([] : List (List Nat)).length = 0 from rfl)
        have HD := Lib.hid hD
        clear hD hlf
        go_upto_region 15 with (go_at_call 21; go_must (refine HD.out.mono ?_; rintro e w4 ⟨v4, rfl, hM4, hT4⟩; have HM4 := Lib.hid hM4; have HT4 := Lib.hid hT4; clear hM4 hT4))
        have hTn := Turned.fresh_tch hT HT4.out (fun x hx => (HM.out.lt hx).1)
        have hZ := fun w' (h : Tch [] w4 w') => (len_any _ _ _ _ w' (HM4.out.call h)).mono (fun e w'' q => And.intro q.1 (q.2 ▸ h : Tch [] w4 w''))
        rw [HLL.out] at hZ
        have HL := Lib.hid hZ
        clear hZ HM4 HT4 HM HD
        try simp only [Act.put, List.setIfInBounds_toArray, List.set_cons_zero, List.set_cons_succ]
        refine k_seq (C := fun w' => Tch [] w4 w') (Tch.refl _ _) ?_
        refine k_callC1 (v := .int .i64 0) rfl rfl rfl Try.call11 (fun w' h => HL.out w' h) ?_; try simp only [Act.put, List.setIfInBounds_toArray, List.set_cons_zero, List.set_cons_succ]
        refine k_val (v := .int .i64 0) rfl _ (.inl rfl) rfl ?_; try simp only [Act.put, List.setIfInBounds_toArray, List.set_cons_zero, List.set_cons_succ]
        refine k_eqlI (m := 0) (n := 0) (t := true) rfl _ _ _ rfl rfl rfl (decide_eq_true (by omega)) ?_; try simp only [Act.put, List.setIfInBounds_toArray, List.set_cons_zero, List.set_cons_succ]
        refine k_val (v := .bool true) rfl _ (.inl rfl) rfl ?_; try simp only [Act.put, List.setIfInBounds_toArray, List.set_cons_zero, List.set_cons_succ]
        refine k_skip rfl rfl rfl rfl rfl ?_; try simp only [Act.put, List.setIfInBounds_toArray, List.set_cons_zero, List.set_cons_succ]
        refine k_skip rfl rfl rfl rfl rfl ?_; try simp only [Act.put, List.setIfInBounds_toArray, List.set_cons_zero, List.set_cons_succ]
        refine k_skipN rfl ?_; try simp only [Act.put, List.setIfInBounds_toArray, List.set_cons_zero, List.set_cons_succ]
        refine k_skipN rfl ?_; try simp only [Act.put, List.setIfInBounds_toArray, List.set_cons_zero, List.set_cons_succ]
        refine k_skipN rfl ?_; try simp only [Act.put, List.setIfInBounds_toArray, List.set_cons_zero, List.set_cons_succ]
        refine k_skipN rfl ?_; try simp only [Act.put, List.setIfInBounds_toArray, List.set_cons_zero, List.set_cons_succ]
        refine k_skip rfl rfl rfl rfl rfl ?_; try simp only [Act.put, List.setIfInBounds_toArray, List.set_cons_zero, List.set_cons_succ]
        refine k_skip rfl rfl rfl rfl rfl ?_; try simp only [Act.put, List.setIfInBounds_toArray, List.set_cons_zero, List.set_cons_succ]
        refine k_skipN rfl ?_; try simp only [Act.put, List.setIfInBounds_toArray, List.set_cons_zero, List.set_cons_succ]
        refine k_skipN rfl ?_; try simp only [Act.put, List.setIfInBounds_toArray, List.set_cons_zero, List.set_cons_succ]
        refine k_skip rfl rfl rfl rfl rfl ?_; try simp only [Act.put, List.setIfInBounds_toArray, List.set_cons_zero, List.set_cons_succ]
        refine k_skip rfl rfl rfl rfl rfl ?_; try simp only [Act.put, List.setIfInBounds_toArray, List.set_cons_zero, List.set_cons_succ]
        refine k_skipN rfl ?_; try simp only [Act.put, List.setIfInBounds_toArray, List.set_cons_zero, List.set_cons_succ]
        refine k_skipN rfl ?_; try simp only [Act.put, List.setIfInBounds_toArray, List.set_cons_zero, List.set_cons_succ]
        refine k_skip rfl rfl rfl rfl rfl ?_; try simp only [Act.put, List.setIfInBounds_toArray, List.set_cons_zero, List.set_cons_succ]
        refine k_pickT (t := true) rfl _ _ _ rfl rfl rfl ?_; try simp only [Act.put, List.setIfInBounds_toArray, List.set_cons_zero, List.set_cons_succ]
        refine k_val (v := .bool true) rfl _ (.inr rfl) rfl ?_; try simp only [Act.put, List.setIfInBounds_toArray, List.set_cons_zero, List.set_cons_succ]
        refine k_end ?_
        intro w6 hT6
        go_wp2
        go_ret
        exact ⟨rfl, hTn.trans hT6⟩
      by_cases c2 : k < 1024
      · have hdo : dupOk (fullL k) 1 = true := by
          unfold dupOk; rw [hlf]; exact decide_eq_true (by omega)
        rw [hdo] at hD
        have c1 : ¬ (1024 : Int) < (k : Int) := by omega
        have HLL := Lib.hid (show ((dupL (fullL k) 1).length : Int) = (k : Int) + 1 by
          unfold dupL pushL
          rw [hlf, if_pos (by omega), if_pos (by omega), List.length_append, hlf]
          simp; omega)
        clear hdo
        have HD := Lib.hid hD
        clear hD hlf
        go_upto_region 15 with (go_at_call 21; go_must (refine HD.out.mono ?_; rintro e w4 ⟨v4, rfl, hM4, hT4⟩; have HM4 := Lib.hid hM4; have HT4 := Lib.hid hT4; clear hM4 hT4))
        have hTn := Turned.fresh_tch hT HT4.out (fun x hx => (HM.out.lt hx).1)
        have hZ := fun w' (h : Tch [] w4 w') => (len_any _ _ _ _ w' (HM4.out.call h)).mono (fun e w'' q => And.intro q.1 (q.2 ▸ h : Tch [] w4 w''))
        rw [HLL.out] at hZ
        have HL := Lib.hid hZ
        clear hZ HM4 HT4 HM HD
        try simp only [Act.put, List.setIfInBounds_toArray, List.set_cons_zero, List.set_cons_succ]
        refine k_seq (C := fun w' => Tch [] w4 w') (Tch.refl _ _) ?_
        refine k_callC1 (v := .int .i64 ((k : Int) + 1)) rfl rfl rfl Try.call11 (fun w' h => HL.out w' h) ?_; try simp only [Act.put, List.setIfInBounds_toArray, List.set_cons_zero, List.set_cons_succ]
        refine k_val (v := .int .i64 (k : Int)) rfl _ (.inl rfl) rfl ?_; try simp only [Act.put, List.setIfInBounds_toArray, List.set_cons_zero, List.set_cons_succ]
        refine k_eqlI (m := ((k : Int) + 1)) (n := (k : Int)) (t := false) rfl _ _ _ rfl rfl rfl (decide_eq_false (by omega)) ?_; try simp only [Act.put, List.setIfInBounds_toArray, List.set_cons_zero, List.set_cons_succ]
        refine k_val (v := .bool false) rfl _ (.inl rfl) rfl ?_; try simp only [Act.put, List.setIfInBounds_toArray, List.set_cons_zero, List.set_cons_succ]
        refine k_val (v := .bool true) rfl _ (.inl rfl) rfl ?_; try simp only [Act.put, List.setIfInBounds_toArray, List.set_cons_zero, List.set_cons_succ]
        refine k_val (v := .bool true) rfl _ (.inl rfl) rfl ?_; try simp only [Act.put, List.setIfInBounds_toArray, List.set_cons_zero, List.set_cons_succ]
        refine k_callC1 (v := .int .i64 ((k : Int) + 1)) rfl rfl rfl Try.call11 (fun w' h => HL.out w' h) ?_; try simp only [Act.put, List.setIfInBounds_toArray, List.set_cons_zero, List.set_cons_succ]
        refine k_val (v := .int .i64 (k : Int)) rfl _ (.inl rfl) rfl ?_; try simp only [Act.put, List.setIfInBounds_toArray, List.set_cons_zero, List.set_cons_succ]
        refine k_add (m := (k : Int)) (n := 1) (s := (k : Int) + 1) rfl _ _ _ _ rfl rfl rfl (by rw [IntKind.wrap_i64]; omega) ?_; try simp only [Act.put, List.setIfInBounds_toArray, List.set_cons_zero, List.set_cons_succ]
        refine k_eqlI (m := ((k : Int) + 1)) (n := ((k : Int) + 1)) (t := true) rfl _ _ _ rfl rfl rfl (decide_eq_true (by omega)) ?_; try simp only [Act.put, List.setIfInBounds_toArray, List.set_cons_zero, List.set_cons_succ]
        refine k_pickT (t := true) rfl _ _ _ rfl rfl rfl ?_; try simp only [Act.put, List.setIfInBounds_toArray, List.set_cons_zero, List.set_cons_succ]
        refine k_val (v := .bool true) rfl _ (.inl rfl) rfl ?_; try simp only [Act.put, List.setIfInBounds_toArray, List.set_cons_zero, List.set_cons_succ]
        refine k_val (v := .int .i64 (k : Int)) rfl _ (.inl rfl) rfl ?_; try simp only [Act.put, List.setIfInBounds_toArray, List.set_cons_zero, List.set_cons_succ]
        refine k_gtr (m := (k : Int)) (n := 0) (t := true) rfl _ _ _ rfl rfl rfl (decide_eq_true (by omega)) ?_; try simp only [Act.put, List.setIfInBounds_toArray, List.set_cons_zero, List.set_cons_succ]
        refine k_pickT (t := true) rfl _ _ _ rfl rfl rfl ?_; try simp only [Act.put, List.setIfInBounds_toArray, List.set_cons_zero, List.set_cons_succ]
        refine k_val (v := .bool true) rfl _ (.inl rfl) rfl ?_; try simp only [Act.put, List.setIfInBounds_toArray, List.set_cons_zero, List.set_cons_succ]
        refine k_val (v := .int .i64 (k : Int)) rfl _ (.inl rfl) rfl ?_; try simp only [Act.put, List.setIfInBounds_toArray, List.set_cons_zero, List.set_cons_succ]
        refine k_lss (m := (k : Int)) (n := 1024) (t := true) rfl _ _ _ rfl rfl rfl (decide_eq_true (by omega)) ?_; try simp only [Act.put, List.setIfInBounds_toArray, List.set_cons_zero, List.set_cons_succ]
        refine k_pickT (t := true) rfl _ _ _ rfl rfl rfl ?_; try simp only [Act.put, List.setIfInBounds_toArray, List.set_cons_zero, List.set_cons_succ]
        refine k_pickF (t := true) rfl _ _ _ rfl rfl rfl ?_; try simp only [Act.put, List.setIfInBounds_toArray, List.set_cons_zero, List.set_cons_succ]
        refine k_val (v := .bool true) rfl _ (.inr rfl) rfl ?_; try simp only [Act.put, List.setIfInBounds_toArray, List.set_cons_zero, List.set_cons_succ]
        refine k_end ?_
        intro w6 hT6
        go_wp2
        go_ret
        exact ⟨rfl, hTn.trans hT6⟩
      have hdo : dupOk (fullL k) 1 = false := by
        unfold dupOk; rw [hlf]; exact decide_eq_false (by omega)
      rw [hdo] at hD
      have HLL := Lib.hid (show ((dupL (fullL k) 1).length : Int) = 1024 by
        unfold dupL pushL
        rw [hlf, if_pos (by omega), if_neg (by omega), hlf]
        omega)
      clear hdo
      by_cases c3 : 1024 < k
      · have c1 : (1024 : Int) < (k : Int) := by omega
        have HD := Lib.hid hD
        clear hD hlf
        go_upto_region 15 with (go_at_call 21; go_must (refine HD.out.mono ?_; rintro e w4 ⟨v4, rfl, hM4, hT4⟩; have HM4 := Lib.hid hM4; have HT4 := Lib.hid hT4; clear hM4 hT4))
        have hTn := Turned.fresh_tch hT HT4.out (fun x hx => (HM.out.lt hx).1)
        have hZ := fun w' (h : Tch [] w4 w') => (len_any _ _ _ _ w' (HM4.out.call h)).mono (fun e w'' q => And.intro q.1 (q.2 ▸ h : Tch [] w4 w''))
        rw [HLL.out] at hZ
        have HL := Lib.hid hZ
        clear hZ HM4 HT4 HM HD
        try simp only [Act.put, List.setIfInBounds_toArray, List.set_cons_zero, List.set_cons_succ]
        refine k_seq (C := fun w' => Tch [] w4 w') (Tch.refl _ _) ?_
        refine k_callC1 (v := .int .i64 1024) rfl rfl rfl Try.call11 (fun w' h => HL.out w' h) ?_; try simp only [Act.put, List.setIfInBounds_toArray, List.set_cons_zero, List.set_cons_succ]
        refine k_val (v := .int .i64 1024) rfl _ (.inl rfl) rfl ?_; try simp only [Act.put, List.setIfInBounds_toArray, List.set_cons_zero, List.set_cons_succ]
        refine k_eqlI (m := 1024) (n := 1024) (t := true) rfl _ _ _ rfl rfl rfl (decide_eq_true (by omega)) ?_; try simp only [Act.put, List.setIfInBounds_toArray, List.set_cons_zero, List.set_cons_succ]
        refine k_val (v := .bool true) rfl _ (.inl rfl) rfl ?_; try simp only [Act.put, List.setIfInBounds_toArray, List.set_cons_zero, List.set_cons_succ]
        refine k_skip rfl rfl rfl rfl rfl ?_; try simp only [Act.put, List.setIfInBounds_toArray, List.set_cons_zero, List.set_cons_succ]
        refine k_skip rfl rfl rfl rfl rfl ?_; try simp only [Act.put, List.setIfInBounds_toArray, List.set_cons_zero, List.set_cons_succ]
        refine k_skipN rfl ?_; try simp only [Act.put, List.setIfInBounds_toArray, List.set_cons_zero, List.set_cons_succ]
        refine k_skipN rfl ?_; try simp only [Act.put, List.setIfInBounds_toArray, List.set_cons_zero, List.set_cons_succ]
        refine k_skipN rfl ?_; try simp only [Act.put, List.setIfInBounds_toArray, List.set_cons_zero, List.set_cons_succ]
        refine k_skipN rfl ?_; try simp only [Act.put, List.setIfInBounds_toArray, List.set_cons_zero, List.set_cons_succ]
        refine k_skip rfl rfl rfl rfl rfl ?_; try simp only [Act.put, List.setIfInBounds_toArray, List.set_cons_zero, List.set_cons_succ]
        refine k_skip rfl rfl rfl rfl rfl ?_; try simp only [Act.put, List.setIfInBounds_toArray, List.set_cons_zero, List.set_cons_succ]
        refine k_skipN rfl ?_; try simp only [Act.put, List.setIfInBounds_toArray, List.set_cons_zero, List.set_cons_succ]
        refine k_skipN rfl ?_; try simp only [Act.put, List.setIfInBounds_toArray, List.set_cons_zero, List.set_cons_succ]
        refine k_skip rfl rfl rfl rfl rfl ?_; try simp only [Act.put, List.setIfInBounds_toArray, List.set_cons_zero, List.set_cons_succ]
        refine k_skip rfl rfl rfl rfl rfl ?_; try simp only [Act.put, List.setIfInBounds_toArray, List.set_cons_zero, List.set_cons_succ]
        refine k_skipN rfl ?_; try simp only [Act.put, List.setIfInBounds_toArray, List.set_cons_zero, List.set_cons_succ]
        refine k_skipN rfl ?_; try simp only [Act.put, List.setIfInBounds_toArray, List.set_cons_zero, List.set_cons_succ]
        refine k_skip rfl rfl rfl rfl rfl ?_; try simp only [Act.put, List.setIfInBounds_toArray, List.set_cons_zero, List.set_cons_succ]
        refine k_pickT (t := true) rfl _ _ _ rfl rfl rfl ?_; try simp only [Act.put, List.setIfInBounds_toArray, List.set_cons_zero, List.set_cons_succ]
        refine k_val (v := .bool true) rfl _ (.inr rfl) rfl ?_; try simp only [Act.put, List.setIfInBounds_toArray, List.set_cons_zero, List.set_cons_succ]
        refine k_end ?_
        intro w6 hT6
        go_wp2
        go_ret
        exact ⟨rfl, hTn.trans hT6⟩
      · obtain rfl : k = 1024 := by omega
        have HD := Lib.hid hD
        clear hD hlf
        go_upto_region 15 with (go_at_call 21; go_must (refine HD.out.mono ?_; rintro e w4 ⟨v4, rfl, hM4, hT4⟩; have HM4 := Lib.hid hM4; have HT4 := Lib.hid hT4; clear hM4 hT4))
        have hTn := Turned.fresh_tch hT HT4.out (fun x hx => (HM.out.lt hx).1)
        have hZ := fun w' (h : Tch [] w4 w') => (len_any _ _ _ _ w' (HM4.out.call h)).mono (fun e w'' q => And.intro q.1 (q.2 ▸ h : Tch [] w4 w''))
        rw [HLL.out] at hZ
        have HL := Lib.hid hZ
        clear hZ HM4 HT4 HM HD
        try simp only [Act.put, List.setIfInBounds_toArray, List.set_cons_zero, List.set_cons_succ]
        refine k_seq (C := fun w' => Tch [] w4 w') (Tch.refl _ _) ?_
        refine k_callC1 (v := .int .i64 1024) rfl rfl rfl Try.call11 (fun w' h => HL.out w' h) ?_; try simp only [Act.put, List.setIfInBounds_toArray, List.set_cons_zero, List.set_cons_succ]
        refine k_val (v := .int .i64 1024) rfl _ (.inl rfl) rfl ?_; try simp only [Act.put, List.setIfInBounds_toArray, List.set_cons_zero, List.set_cons_succ]
        refine k_eqlI (m := 1024) (n := 1024) (t := true) rfl _ _ _ rfl rfl rfl (decide_eq_true (by omega)) ?_; try simp only [Act.put, List.setIfInBounds_toArray, List.set_cons_zero, List.set_cons_succ]
        refine k_val (v := .bool true) rfl _ (.inl rfl) rfl ?_; try simp only [Act.put, List.setIfInBounds_toArray, List.set_cons_zero, List.set_cons_succ]
        refine k_skip rfl rfl rfl rfl rfl ?_; try simp only [Act.put, List.setIfInBounds_toArray, List.set_cons_zero, List.set_cons_succ]
        refine k_skip rfl rfl rfl rfl rfl ?_; try simp only [Act.put, List.setIfInBounds_toArray, List.set_cons_zero, List.set_cons_succ]
        refine k_skipN rfl ?_; try simp only [Act.put, List.setIfInBounds_toArray, List.set_cons_zero, List.set_cons_succ]
        refine k_skipN rfl ?_; try simp only [Act.put, List.setIfInBounds_toArray, List.set_cons_zero, List.set_cons_succ]
        refine k_skipN rfl ?_; try simp only [Act.put, List.setIfInBounds_toArray, List.set_cons_zero, List.set_cons_succ]
        refine k_skipN rfl ?_; try simp only [Act.put, List.setIfInBounds_toArray, List.set_cons_zero, List.set_cons_succ]
        refine k_skip rfl rfl rfl rfl rfl ?_; try simp only [Act.put, List.setIfInBounds_toArray, List.set_cons_zero, List.set_cons_succ]
        refine k_skip rfl rfl rfl rfl rfl ?_; try simp only [Act.put, List.setIfInBounds_toArray, List.set_cons_zero, List.set_cons_succ]
        refine k_skipN rfl ?_; try simp only [Act.put, List.setIfInBounds_toArray, List.set_cons_zero, List.set_cons_succ]
        refine k_skipN rfl ?_; try simp only [Act.put, List.setIfInBounds_toArray, List.set_cons_zero, List.set_cons_succ]
        refine k_skip rfl rfl rfl rfl rfl ?_; try simp only [Act.put, List.setIfInBounds_toArray, List.set_cons_zero, List.set_cons_succ]
        refine k_skip rfl rfl rfl rfl rfl ?_; try simp only [Act.put, List.setIfInBounds_toArray, List.set_cons_zero, List.set_cons_succ]
        refine k_skipN rfl ?_; try simp only [Act.put, List.setIfInBounds_toArray, List.set_cons_zero, List.set_cons_succ]
        refine k_skipN rfl ?_; try simp only [Act.put, List.setIfInBounds_toArray, List.set_cons_zero, List.set_cons_succ]
        refine k_skip rfl rfl rfl rfl rfl ?_; try simp only [Act.put, List.setIfInBounds_toArray, List.set_cons_zero, List.set_cons_succ]
        refine k_pickT (t := true) rfl _ _ _ rfl rfl rfl ?_; try simp only [Act.put, List.setIfInBounds_toArray, List.set_cons_zero, List.set_cons_succ]
        refine k_val (v := .bool true) rfl _ (.inr rfl) rfl ?_; try simp only [Act.put, List.setIfInBounds_toArray, List.set_cons_zero, List.set_cons_succ]
        refine k_end ?_
        intro w6 hT6
        go_wp2
        go_ret
        exact ⟨rfl, hTn.trans hT6⟩
end Go.Proofs.Ytlliidfkjlmadaa
