/- StackTurns: a stack tells the last first. -/
import Derived.Test.YtlliidfkjlmadaaIJ
set_option linter.unusedVariables false
set_option linter.unusedSimpArgs false
namespace Go.Proofs.Ytlliidfkjlmadaa
open Go.RowKit
set_option maxRecDepth 100000
set_option maxHeartbeats 40000000

theorem turns_walk (n d s : Int) (w : World) (hn : -9223372036854775808 ≤ n ∧ n ≤ 9223372036854775807) (hd : -9223372036854775808 ≤ d ∧ d ≤ 9223372036854775807) (hs : -9223372036854775808 ≤ s ∧ s ≤ 9223372036854775807) :
    Calls Try.prog 7 #[.int .i64 n, .int .i64 d, .int .i64 s] w fun e w' => e = .returned (.bool true) ∧ Tch [] w w' := by
  by_cases h1 : n < 0
  · clear hn hd hs
    go_enter Try.func7, Try.ntmps7
    go_upto_region 2 with (go_at_call 8; refine (alive13 _).mono ?_; rintro e w1 ⟨rfl, hT1⟩)
    try simp only [Act.put, List.setIfInBounds_toArray, List.set_cons_zero, List.set_cons_succ]
    refine k_seq (C := fun w' => Tch [] w w') hT1 ?_
    refine k_val (v := .bool true) rfl _ (.inl rfl) rfl ?_; try simp only [Act.put, List.setIfInBounds_toArray, List.set_cons_zero, List.set_cons_succ]
    refine k_notV (s := true) (t := false) rfl _ _ rfl rfl rfl ?_; try simp only [Act.put, List.setIfInBounds_toArray, List.set_cons_zero, List.set_cons_succ]
    refine k_val (v := .bool false) rfl _ (.inl rfl) rfl ?_; try simp only [Act.put, List.setIfInBounds_toArray, List.set_cons_zero, List.set_cons_succ]
    refine k_val (v := .int .i64 n) rfl _ (.inl rfl) rfl ?_; try simp only [Act.put, List.setIfInBounds_toArray, List.set_cons_zero, List.set_cons_succ]
    refine k_lss (m := n) (n := 0) (t := true) rfl _ _ _ rfl rfl rfl (decide_eq_true (by omega)) ?_; try simp only [Act.put, List.setIfInBounds_toArray, List.set_cons_zero, List.set_cons_succ]
    refine k_pickF (t := true) rfl _ _ _ rfl rfl rfl ?_; try simp only [Act.put, List.setIfInBounds_toArray, List.set_cons_zero, List.set_cons_succ]
    refine k_val (v := .bool true) rfl _ (.inl rfl) rfl ?_; try simp only [Act.put, List.setIfInBounds_toArray, List.set_cons_zero, List.set_cons_succ]
    refine k_skip rfl rfl rfl rfl rfl ?_; try simp only [Act.put, List.setIfInBounds_toArray, List.set_cons_zero, List.set_cons_succ]
    refine k_skip rfl rfl rfl rfl rfl ?_; try simp only [Act.put, List.setIfInBounds_toArray, List.set_cons_zero, List.set_cons_succ]
    refine k_pickT (t := true) rfl _ _ _ rfl rfl rfl ?_; try simp only [Act.put, List.setIfInBounds_toArray, List.set_cons_zero, List.set_cons_succ]
    refine k_end ?_
    intro w2 hT2
    go_wp2
    go_ret
    exact ⟨rfl, hT2⟩
  by_cases h2 : 40 < n
  · clear hn hd hs
    go_enter Try.func7, Try.ntmps7
    go_upto_region 2 with (go_at_call 8; refine (alive13 _).mono ?_; rintro e w1 ⟨rfl, hT1⟩)
    try simp only [Act.put, List.setIfInBounds_toArray, List.set_cons_zero, List.set_cons_succ]
    refine k_seq (C := fun w' => Tch [] w w') hT1 ?_
    refine k_val (v := .bool true) rfl _ (.inl rfl) rfl ?_; try simp only [Act.put, List.setIfInBounds_toArray, List.set_cons_zero, List.set_cons_succ]
    refine k_notV (s := true) (t := false) rfl _ _ rfl rfl rfl ?_; try simp only [Act.put, List.setIfInBounds_toArray, List.set_cons_zero, List.set_cons_succ]
    refine k_val (v := .bool false) rfl _ (.inl rfl) rfl ?_; try simp only [Act.put, List.setIfInBounds_toArray, List.set_cons_zero, List.set_cons_succ]
    refine k_val (v := .int .i64 n) rfl _ (.inl rfl) rfl ?_; try simp only [Act.put, List.setIfInBounds_toArray, List.set_cons_zero, List.set_cons_succ]
    refine k_lss (m := n) (n := 0) (t := false) rfl _ _ _ rfl rfl rfl (decide_eq_false (by omega)) ?_; try simp only [Act.put, List.setIfInBounds_toArray, List.set_cons_zero, List.set_cons_succ]
    refine k_pickF (t := false) rfl _ _ _ rfl rfl rfl ?_; try simp only [Act.put, List.setIfInBounds_toArray, List.set_cons_zero, List.set_cons_succ]
    refine k_val (v := .bool false) rfl _ (.inl rfl) rfl ?_; try simp only [Act.put, List.setIfInBounds_toArray, List.set_cons_zero, List.set_cons_succ]
    refine k_val (v := .int .i64 n) rfl _ (.inl rfl) rfl ?_; try simp only [Act.put, List.setIfInBounds_toArray, List.set_cons_zero, List.set_cons_succ]
    refine k_gtr (m := n) (n := 40) (t := true) rfl _ _ _ rfl rfl rfl (decide_eq_true (by omega)) ?_; try simp only [Act.put, List.setIfInBounds_toArray, List.set_cons_zero, List.set_cons_succ]
    refine k_pickF (t := true) rfl _ _ _ rfl rfl rfl ?_; try simp only [Act.put, List.setIfInBounds_toArray, List.set_cons_zero, List.set_cons_succ]
    refine k_end ?_
    intro w2 hT2
    go_wp2
    go_ret
    exact ⟨rfl, hT2⟩
  obtain ⟨n, rfl⟩ : ∃ m : Nat, n = m := ⟨n.toNat, by omega⟩
  clear hn
  have hn : n ≤ 40 := by omega
  have HD := Lib.hid hd
  have HS := Lib.hid hs
  clear hd hs
  go_enter Try.func7, Try.ntmps7
  go_upto_region 2 with (go_at_call 8; refine (alive13 _).mono ?_; rintro e w1 ⟨rfl, hT1⟩)
  try simp only [Act.put, List.setIfInBounds_toArray, List.set_cons_zero, List.set_cons_succ]
  refine k_seq (C := fun w' => Tch [] w w') hT1 ?_
  refine k_val (v := .bool true) rfl _ (.inl rfl) rfl ?_; try simp only [Act.put, List.setIfInBounds_toArray, List.set_cons_zero, List.set_cons_succ]
  refine k_notV (s := true) (t := false) rfl _ _ rfl rfl rfl ?_; try simp only [Act.put, List.setIfInBounds_toArray, List.set_cons_zero, List.set_cons_succ]
  refine k_val (v := .bool false) rfl _ (.inl rfl) rfl ?_; try simp only [Act.put, List.setIfInBounds_toArray, List.set_cons_zero, List.set_cons_succ]
  refine k_val (v := .int .i64 (n : Int)) rfl _ (.inl rfl) rfl ?_; try simp only [Act.put, List.setIfInBounds_toArray, List.set_cons_zero, List.set_cons_succ]
  refine k_lss (m := (n : Int)) (n := 0) (t := false) rfl _ _ _ rfl rfl rfl (decide_eq_false (by omega)) ?_; try simp only [Act.put, List.setIfInBounds_toArray, List.set_cons_zero, List.set_cons_succ]
  refine k_pickF (t := false) rfl _ _ _ rfl rfl rfl ?_; try simp only [Act.put, List.setIfInBounds_toArray, List.set_cons_zero, List.set_cons_succ]
  refine k_val (v := .bool false) rfl _ (.inl rfl) rfl ?_; try simp only [Act.put, List.setIfInBounds_toArray, List.set_cons_zero, List.set_cons_succ]
  refine k_val (v := .int .i64 (n : Int)) rfl _ (.inl rfl) rfl ?_; try simp only [Act.put, List.setIfInBounds_toArray, List.set_cons_zero, List.set_cons_succ]
  refine k_gtr (m := (n : Int)) (n := 40) (t := false) rfl _ _ _ rfl rfl rfl (decide_eq_false (by omega)) ?_; try simp only [Act.put, List.setIfInBounds_toArray, List.set_cons_zero, List.set_cons_succ]
  refine k_pickF (t := false) rfl _ _ _ rfl rfl rfl ?_; try simp only [Act.put, List.setIfInBounds_toArray, List.set_cons_zero, List.set_cons_succ]
  refine k_end ?_
  clear hT1
  intro w2 hT2
  have hS := (St.start w).call hT2
  clear h1 h2 hT2
  go_upto_region 7 with (refine st_new hS rfl 29 rfl stkP_zero ?_; clear hS; intro w3 b hS)
  have hb0 : w.heap.size ≤ b := (hS.own .head).elim id (fun h => by simp at h)
  have hM0 : StkIn w.heap.size 29 w3 b (.slice none 0 0) [] := RowIn.new (L := []) (hS.get .head) hb0
  have hT3 := hS.frame
  clear hS
  go_loopw [9, 10] (fun l i wr => ∃ (k : Nat) (v : Value), i = .int .i64 (k : Int) ∧ k ≤ n ∧ Hid (StkIn w.heap.size 29 wr b v (wofs (List.range k)) ∧ wr.ownsRow w.heap.size 3 1 l (List.range k).length (ni (List.range k)) ∧ DisI b v l) ∧ Tch [] w wr) (fun _ i _ => n - (intOf i).toNat)
  case atStart => exact ⟨0, _, rfl, Nat.zero_le _, Lib.hid ⟨hM0, ⟨rfl, .inl ⟨rfl, rfl⟩⟩, fun x _ hm => by simp [Value.ownBlock] at hm⟩, hT3⟩
  case round =>
    clear hM0 hT3
    obtain ⟨k, v, rfl, hk, HM, hT⟩ := hrel
    by_cases hlt : k < n
    · have hlt' : (k : Int) < (n : Int) := by omega
      have HO := Lib.hid (fun w' => rOfW_any (k : Int) (by omega) w')
      have hP := fun w' (h : Tch [] wr w') => push_any w.heap.size b v (wofs (List.range k)) (wof (k : Int)) w' (HM.out.1.call h) (by rw [wofs_len, List.length_range]; omega)
      rw [show pushOk (wofs (List.range k)) = true from by unfold pushOk; rw [wofs_len, List.length_range]; exact decide_eq_true (by omega), show pushL (wofs (List.range k)) (wof (k : Int)) = wofs (List.range (k + 1)) from by unfold pushL; rw [wofs_len, List.length_range, if_pos (by omega), List.range_succ, wofs_append]; rfl] at hP
      have HP := Lib.hid hP
      have hrl : (List.range k).length ≤ 100000000 := by rw [List.length_range]; omega
      clear hP
      generalize wv (wof (k : Int)) = ck at *
      go_wp2_with (first
        | (go_at_call 17; go_must (refine (HO.out _).mono ?_; rintro e w4 ⟨rfl, hT4⟩))
        | (go_at_call 20; go_must (refine (HP.out _ hT4).mono ?_; rintro e w5 ⟨v5, rfl, hM5, hT5⟩; have HM5 := Lib.hid hM5; have HT5 := Lib.hid hT5; have HW5 := Lib.hid (And.intro (own_turned (own_far HM.out.2.1 hT4 (by simp)) HM.out.2.2 hT5) (dis_turned HM.out.2.2 hT5 (fun j hj => Nat.lt_of_lt_of_le (HM.out.2.1.lt j hj).2 hT4.size))); have hb5 := Nat.le_trans hT.size (Nat.le_trans hT4.size hT5.tch.size); clear hM5 hT5))
        | (at_builtin; go_must (refine st_appIF (w := w5.alloc (.cells #[.int .i64 (k : Int)] 3)) (B := w.heap.size) (v := u9) (l := List.range k) (x := k) (b := w5.heap.size) (t := 3) rfl _ _ rfl rfl rfl (Blk.new _ _ _) (HW5.out.1.alloc _) (by simp; omega) hrl ?_; intro v6 w6 hown6 hT6 hf6; have H6 := Lib.hid (And.intro hown6 (And.intro hT6 hf6)); clear hown6 hT6 hf6)))
      go_roundw
      case rel =>
        have hTa : Tch [] w5 (w5.alloc (.cells #[.int .i64 (k : Int)] 3)) := (Tch.refl _ _).alloc _
        refine ⟨k + 1, v5, by go_num, hlt, Lib.hid ⟨(HM5.out.call hTa).far H6.out.2.1 HW5.out.2, ?_, dis_fresh HW5.out.2 (fun x hx => Nat.lt_of_lt_of_le (HM5.out.lt hx).2 hTa.size) H6.out.2.2⟩, Tch.fresh ((Turned.fresh_tch (hT.trans hT4) HT5.out (fun x hx => (HM.out.1.lt hx).1)).trans hTa) H6.out.2.1 (fun x hx => (HW5.out.1.lt x (by simpa using hx)).1)⟩
        have := H6.out.1
        rw [← List.range_succ] at this
        exact this
      case measure => simp [intOf]; omega
    · obtain rfl : k = n := by omega
      have hRl : (List.range k).length = k := List.length_range
      have hRlt : ∀ x ∈ List.range k, x < 41 := fun x hx => by have := List.mem_range.1 hx; omega
      have hD := dup_any w.heap.size b v (wofs (List.range k)) d wr HM.out.1 (by rw [wofs_len, hRl]; omega)
      rw [dupI_wofs (by rw [hRl]; omega)] at hD
      have hdl := dupI_lt hRlt (by decide) d
      by_cases g1 : d < 1
      · have hdo : dupOk (wofs (List.range k)) d = false := by unfold dupOk; rw [wofs_len, hRl]; exact decide_eq_false (by omega)
        have hdI : dupI (List.range k) d = List.range k := if_neg (by rw [hRl]; omega)
        rw [hdo] at hD
        rw [hdI] at hD hdl
        have HDD := Lib.hid hD
        have HDL := Lib.hid hdl
        clear hD hdl hdo hdI
        go_upto_region 12 with (go_at_call 21; go_must (refine HDD.out.mono ?_; rintro e w4 ⟨v4, rfl, hM4, hT4⟩; have HM4 := Lib.hid hM4; have HT4 := Lib.hid hT4; clear hM4 hT4))
        have HL4 := Lib.hid (own_turned HM.out.2.1 HM.out.2.2 HT4.out)
        have HD4 := Lib.hid (dis_turned HM.out.2.2 HT4.out (fun j hj => (HM.out.2.1.lt j hj).2))
        have hTw4 := Turned.fresh_tch hT HT4.out (fun x hx => (HM.out.1.lt hx).1)
        clear HDD HM HT4 hT
        try simp only [Act.put, List.setIfInBounds_toArray, List.set_cons_zero, List.set_cons_succ]
        refine k_seq (C := fun w' => Tch [] w4 w') (Tch.refl _ _) ?_
        refine k_val (v := .int .i64 d) rfl _ (.inl rfl) rfl ?_; try simp only [Act.put, List.setIfInBounds_toArray, List.set_cons_zero, List.set_cons_succ]
        refine k_geqI (m := d) (n := 1) (t := false) rfl _ _ _ rfl rfl rfl (decide_eq_false (by omega)) ?_; try simp only [Act.put, List.setIfInBounds_toArray, List.set_cons_zero, List.set_cons_succ]
        refine k_val (v := .bool false) rfl _ (.inl rfl) rfl ?_; try simp only [Act.put, List.setIfInBounds_toArray, List.set_cons_zero, List.set_cons_succ]
        refine k_skip rfl rfl rfl rfl rfl ?_; try simp only [Act.put, List.setIfInBounds_toArray, List.set_cons_zero, List.set_cons_succ]
        refine k_skip rfl rfl rfl rfl rfl ?_; try simp only [Act.put, List.setIfInBounds_toArray, List.set_cons_zero, List.set_cons_succ]
        refine k_skip rfl rfl rfl rfl rfl ?_; try simp only [Act.put, List.setIfInBounds_toArray, List.set_cons_zero, List.set_cons_succ]
        refine k_pickF (t := false) rfl _ _ _ rfl rfl rfl ?_; try simp only [Act.put, List.setIfInBounds_toArray, List.set_cons_zero, List.set_cons_succ]
        refine k_end ?_
        intro w5 hT5
        have HM5 := Lib.hid (HM4.out.call hT5)
        have HL5 := Lib.hid (own_far HL4.out hT5 (by simp))
        have hTw5 := hTw4.trans hT5
        clear HM4 HL4 hTw4 hT5
        have H1 := Lib.hid (And.intro HM5.out (And.intro HL5.out (And.intro HD4.out HDL.out)))
        have hTw1 := hTw5
        have hL1 : (List.range k).length ≤ 41 := by rw [hRl]; omega
        clear HM5 HL5 HD4 HDL hTw5 hRlt
        have hu9 := own_sliceI H1.out.2.1
        obtain ⟨p9, c9, rfl, _, hp9⟩ := hu9
        generalize hLd : List.range k = L1 at *
        clear hLd
        subst hRl
        have hSw := swap_any w.heap.size b v4 (wofs L1) s w5 H1.out.1 (by rw [wofs_len]; omega) HS.out
        rw [swapI_wofs] at hSw
        have hsl := swapI_lt H1.out.2.2.2 (by decide) s
        have hsn := swapI_len L1 s
        by_cases e1 : s < 1
        · have hso : swapOk (wofs L1) s = false := by unfold swapOk; rw [wofs_len]; exact decide_eq_false (by omega)
          have hsI : swapI L1 s = L1 := if_neg (by omega)
          rw [hso] at hSw
          rw [hsI] at hSw hsl
          have HSW := Lib.hid hSw
          have HSL := Lib.hid hsl
          clear hSw hsl hso hsI hsn
          go_upto_region 15 with (go_at_call 23; go_must (refine HSW.out.mono ?_; rintro e w7 ⟨v7, rfl, hM7, hT7⟩; have HM7 := Lib.hid hM7; have HT7 := Lib.hid hT7; clear hM7 hT7))
          have HL7 := Lib.hid (own_turned H1.out.2.1 H1.out.2.2.1 HT7.out)
          have HD7 := Lib.hid (dis_turned H1.out.2.2.1 HT7.out (fun j hj => (H1.out.2.1.lt j hj).2))
          have hTw7 := Turned.fresh_tch hTw1 HT7.out (fun x hx => (H1.out.1.lt hx).1)
          clear HSW H1 HT7 hTw1
          try simp only [Act.put, List.setIfInBounds_toArray, List.set_cons_zero, List.set_cons_succ]
          refine k_seq (C := fun w' => Tch [] w7 w') (Tch.refl _ _) ?_
          refine k_val (v := .slice p9 L1.length c9) rfl _ (.inl rfl) rfl ?_; try simp only [Act.put, List.setIfInBounds_toArray, List.set_cons_zero, List.set_cons_succ]
          refine k_lenI (p := p9) (n := L1.length) (c := c9) rfl _ rfl rfl ?_; try simp only [Act.put, List.setIfInBounds_toArray, List.set_cons_zero, List.set_cons_succ]
          refine k_sub (m := (L1.length : Int)) (n := 1) (s := ((L1.length : Int) - 1)) rfl _ _ _ _ rfl rfl rfl (by rw [IntKind.wrap_i64]; omega) ?_; try simp only [Act.put, List.setIfInBounds_toArray, List.set_cons_zero, List.set_cons_succ]
          refine k_val (v := .int .i64 (((L1.length : Int) - 1))) rfl _ (.inr rfl) rfl ?_; try simp only [Act.put, List.setIfInBounds_toArray, List.set_cons_zero, List.set_cons_succ]
          refine k_end ?_
          intro w8 hT8
          go_upto_region 16 with (fail)
          try simp only [Act.put, List.setIfInBounds_toArray, List.set_cons_zero, List.set_cons_succ]
          refine k_seq (C := fun w' => Tch [] w8 w') (Tch.refl _ _) ?_
          refine k_val (v := .int .i64 s) rfl _ (.inl rfl) rfl ?_; try simp only [Act.put, List.setIfInBounds_toArray, List.set_cons_zero, List.set_cons_succ]
          refine k_geqI (m := s) (n := 1) (t := false) rfl _ _ _ rfl rfl rfl (decide_eq_false (by omega)) ?_; try simp only [Act.put, List.setIfInBounds_toArray, List.set_cons_zero, List.set_cons_succ]
          refine k_val (v := .bool false) rfl _ (.inl rfl) rfl ?_; try simp only [Act.put, List.setIfInBounds_toArray, List.set_cons_zero, List.set_cons_succ]
          refine k_skip rfl rfl rfl rfl rfl ?_; try simp only [Act.put, List.setIfInBounds_toArray, List.set_cons_zero, List.set_cons_succ]
          refine k_skip rfl rfl rfl rfl rfl ?_; try simp only [Act.put, List.setIfInBounds_toArray, List.set_cons_zero, List.set_cons_succ]
          refine k_skip rfl rfl rfl rfl rfl ?_; try simp only [Act.put, List.setIfInBounds_toArray, List.set_cons_zero, List.set_cons_succ]
          refine k_pickF (t := false) rfl _ _ _ rfl rfl rfl ?_; try simp only [Act.put, List.setIfInBounds_toArray, List.set_cons_zero, List.set_cons_succ]
          refine k_end ?_
          intro w9 hT9
          have HM9 := Lib.hid (HM7.out.call (hT8.trans hT9))
          have HL9 := Lib.hid (own_far HL7.out (hT8.trans hT9) (by simp))
          have hTw9 := hTw7.trans (hT8.trans hT9)
          clear HM7 HL7 hTw7 hT8 hT9
          have hz := fun w' (h : Tch [] w9 w') => (len_any _ _ _ _ w' (HM9.out.call h)).mono (fun e w'' q => And.intro q.1 (q.2 ▸ h : Tch [] w9 w''))
          rw [wofs_len] at hz
          have HZ := Lib.hid hz
          clear hz
          go_upto_region 18 with (fail)
          try simp only [Act.put, List.setIfInBounds_toArray, List.set_cons_zero, List.set_cons_succ]
          refine k_seq (C := fun w' => Tch [] w9 w') (Tch.refl _ _) ?_
          refine k_val (v := .bool false) rfl _ (.inl rfl) rfl ?_; try simp only [Act.put, List.setIfInBounds_toArray, List.set_cons_zero, List.set_cons_succ]
          refine k_val (v := .int .i64 d) rfl _ (.inl rfl) rfl ?_; try simp only [Act.put, List.setIfInBounds_toArray, List.set_cons_zero, List.set_cons_succ]
          refine k_geqI (m := d) (n := 1) (t := false) rfl _ _ _ rfl rfl rfl (decide_eq_false (by omega)) ?_; try simp only [Act.put, List.setIfInBounds_toArray, List.set_cons_zero, List.set_cons_succ]
          refine k_val (v := .bool false) rfl _ (.inl rfl) rfl ?_; try simp only [Act.put, List.setIfInBounds_toArray, List.set_cons_zero, List.set_cons_succ]
          refine k_skip rfl rfl rfl rfl rfl ?_; try simp only [Act.put, List.setIfInBounds_toArray, List.set_cons_zero, List.set_cons_succ]
          refine k_skip rfl rfl rfl rfl rfl ?_; try simp only [Act.put, List.setIfInBounds_toArray, List.set_cons_zero, List.set_cons_succ]
          refine k_skip rfl rfl rfl rfl rfl ?_; try simp only [Act.put, List.setIfInBounds_toArray, List.set_cons_zero, List.set_cons_succ]
          refine k_pickF (t := false) rfl _ _ _ rfl rfl rfl ?_; try simp only [Act.put, List.setIfInBounds_toArray, List.set_cons_zero, List.set_cons_succ]
          refine k_neqB (s := false) (r := false) (t := false) rfl _ _ _ rfl rfl rfl rfl ?_; try simp only [Act.put, List.setIfInBounds_toArray, List.set_cons_zero, List.set_cons_succ]
          refine k_val (v := .bool false) rfl _ (.inl rfl) rfl ?_; try simp only [Act.put, List.setIfInBounds_toArray, List.set_cons_zero, List.set_cons_succ]
          refine k_val (v := .bool false) rfl _ (.inl rfl) rfl ?_; try simp only [Act.put, List.setIfInBounds_toArray, List.set_cons_zero, List.set_cons_succ]
          refine k_val (v := .int .i64 s) rfl _ (.inl rfl) rfl ?_; try simp only [Act.put, List.setIfInBounds_toArray, List.set_cons_zero, List.set_cons_succ]
          refine k_geqI (m := s) (n := 1) (t := false) rfl _ _ _ rfl rfl rfl (decide_eq_false (by omega)) ?_; try simp only [Act.put, List.setIfInBounds_toArray, List.set_cons_zero, List.set_cons_succ]
          refine k_val (v := .bool false) rfl _ (.inl rfl) rfl ?_; try simp only [Act.put, List.setIfInBounds_toArray, List.set_cons_zero, List.set_cons_succ]
          refine k_skip rfl rfl rfl rfl rfl ?_; try simp only [Act.put, List.setIfInBounds_toArray, List.set_cons_zero, List.set_cons_succ]
          refine k_skip rfl rfl rfl rfl rfl ?_; try simp only [Act.put, List.setIfInBounds_toArray, List.set_cons_zero, List.set_cons_succ]
          refine k_skip rfl rfl rfl rfl rfl ?_; try simp only [Act.put, List.setIfInBounds_toArray, List.set_cons_zero, List.set_cons_succ]
          refine k_pickF (t := false) rfl _ _ _ rfl rfl rfl ?_; try simp only [Act.put, List.setIfInBounds_toArray, List.set_cons_zero, List.set_cons_succ]
          refine k_neqB (s := false) (r := false) (t := false) rfl _ _ _ rfl rfl rfl rfl ?_; try simp only [Act.put, List.setIfInBounds_toArray, List.set_cons_zero, List.set_cons_succ]
          refine k_pickF (t := false) rfl _ _ _ rfl rfl rfl ?_; try simp only [Act.put, List.setIfInBounds_toArray, List.set_cons_zero, List.set_cons_succ]
          refine k_val (v := .bool false) rfl _ (.inl rfl) rfl ?_; try simp only [Act.put, List.setIfInBounds_toArray, List.set_cons_zero, List.set_cons_succ]
          refine k_callC1 (v := .int .i64 (L1.length : Int)) rfl rfl rfl Try.call11 (fun w' h => HZ.out w' h) ?_; try simp only [Act.put, List.setIfInBounds_toArray, List.set_cons_zero, List.set_cons_succ]
          refine k_val (v := .slice p9 L1.length c9) rfl _ (.inl rfl) rfl ?_; try simp only [Act.put, List.setIfInBounds_toArray, List.set_cons_zero, List.set_cons_succ]
          refine k_lenI (p := p9) (n := L1.length) (c := c9) rfl _ rfl rfl ?_; try simp only [Act.put, List.setIfInBounds_toArray, List.set_cons_zero, List.set_cons_succ]
          refine k_neqI (m := (L1.length : Int)) (n := (L1.length : Int)) (t := false) rfl _ _ _ rfl rfl rfl (decide_eq_false (by omega)) ?_; try simp only [Act.put, List.setIfInBounds_toArray, List.set_cons_zero, List.set_cons_succ]
          refine k_pickF (t := false) rfl _ _ _ rfl rfl rfl ?_; try simp only [Act.put, List.setIfInBounds_toArray, List.set_cons_zero, List.set_cons_succ]
          refine k_end ?_
          intro wA hTA
          have HMA := Lib.hid (HM9.out.call hTA)
          have HLA := Lib.hid (own_far HL9.out hTA (by simp))
          have hTwB := hTw9.trans hTA
          clear HM9 HL9 hTw9 hTA HZ
          go_upto_region 20 with (fail)
          try simp only [Act.put, List.setIfInBounds_toArray, List.set_cons_zero, List.set_cons_succ]
          refine k_seq (C := fun w' => Tch [] wA w') (Tch.refl _ _) ?_
          refine k_val (v := .slice p9 L1.length c9) rfl _ (.inl rfl) rfl ?_; try simp only [Act.put, List.setIfInBounds_toArray, List.set_cons_zero, List.set_cons_succ]
          refine k_lenI (p := p9) (n := L1.length) (c := c9) rfl _ rfl rfl ?_; try simp only [Act.put, List.setIfInBounds_toArray, List.set_cons_zero, List.set_cons_succ]
          refine k_sub (m := (L1.length : Int)) (n := 1) (s := (L1.length : Int) - 1) rfl _ _ _ _ rfl rfl rfl (by rw [IntKind.wrap_i64]; omega) ?_; try simp only [Act.put, List.setIfInBounds_toArray, List.set_cons_zero, List.set_cons_succ]
          refine k_val (v := .int .i64 ((L1.length : Int) - 1)) rfl _ (.inr rfl) rfl ?_; try simp only [Act.put, List.setIfInBounds_toArray, List.set_cons_zero, List.set_cons_succ]
          refine k_end ?_
          intro wB hTB
          have HMB := Lib.hid (HMA.out.call hTB)
          have HLB := Lib.hid (show wB.ownsRow w.heap.size 3 1 (.slice p9 L1.length c9) L1.length (ni L1) from by have := own_far HLA.out hTB (by simp); exact this)
          have hTwC := hTwB.trans hTB
          clear HMA HLA hTwB hTB
          go_upto_region 21 with (fail)
          go_loopw [14] (fun i wr => ∃ m : Nat, i = .int .i64 ((m : Int) - 1) ∧ m ≤ L1.length ∧ Hid (∃ v, StkIn w.heap.size 29 wr b v ((wofs L1).take m) ∧ wr.ownsRow w.heap.size 3 1 (.slice p9 L1.length c9) L1.length (ni L1) ∧ DisI b v (.slice p9 L1.length c9)) ∧ Tch [] w wr) (fun i _ => (intOf i + 1).toNat)
          case atStart => exact ⟨L1.length, rfl, Nat.le_refl _, Lib.hid ⟨_, by rw [show L1.length = (wofs L1).length by rw [wofs_len], List.take_length]; exact HMB.out, HLB.out, HD7.out⟩, hTwC⟩
          case round =>
            clear HMB HLB hTwC HD7
            obtain ⟨m, rfl, hm, HR0, hTr⟩ := hrel
            obtain ⟨v, hR⟩ := HR0.out
            have HR := Lib.hid hR
            clear hR HR0
            by_cases hm0 : m = 0
            · subst hm0
              have hPp := pop_any w.heap.size b v ((wofs L1).take 0) 1 wr HR.out.1 (by simp) (by omega)
              rw [show popOk ((wofs L1).take 0) 1 = false from by rw [List.take_zero]; decide] at hPp
              have HPp := Lib.hid hPp
              clear hPp
              have hneg : ¬ (0 : Int) ≤ ((0 : Nat) : Int) - 1 := by omega
              go_wp2_with (go_at_call 12; go_must (refine HPp.out.mono ?_; rintro e wC ⟨vo, vC, rfl, hoC, hMC, hTC⟩; have hTf := Turned.fresh_tch hTr hTC (fun x hx => (HR.out.1.lt hx).1); clear hoC hMC hTC))
              go_ret
              exact ⟨rfl, hTf⟩
            · obtain ⟨m, rfl⟩ : ∃ j, m = j + 1 := ⟨m - 1, by omega⟩
              have hml : m < L1.length := by omega
              have htl : ((wofs L1).take (m + 1)).length = m + 1 := by rw [List.length_take, wofs_len]; exact Nat.min_eq_left hml
              have hPp := pop_any w.heap.size b v ((wofs L1).take (m + 1)) 1 wr HR.out.1 (by rw [htl]; omega) (by omega)
              rw [show popOk ((wofs L1).take (m + 1)) 1 = true from by unfold popOk; rw [htl]; exact decide_eq_true (by omega), show popOut ((wofs L1).take (m + 1)) 1 = [wof ((L1.getD m 0 : Nat) : Int)] from by
                unfold popOut outL
                rw [htl, if_pos (by omega)]
                show [((wofs L1).take (m + 1)).getD (m + 1 - 1 - 0) []] = _
                rw [show m + 1 - 1 - 0 = m by omega, List.getD_eq_getElem?_getD, List.getElem?_take_of_lt (by omega), ← List.getD_eq_getElem?_getD, wofs_getD hml], show popL ((wofs L1).take (m + 1)) 1 = (wofs L1).take m from by
                unfold popL
                rw [htl, if_pos (by omega), List.take_take]
                congr 1
                show min (m + 1 - 1) (m + 1) = m
                omega] at hPp
              have hxl := getD_lt HSL.out (by decide) m
              have HXX := Lib.hid (show L1.getD m 0 = L1.getD m 0 from rfl)
              obtain ⟨x, hx⟩ : ∃ x, x = L1.getD m 0 := ⟨_, rfl⟩
              rw [← hx] at hPp hxl
              have HPp := Lib.hid hPp
              have HX := Lib.hid hx.symm
              have HO := Lib.hid (fun w' => rOfW_any (x : Int) (by omega) w')
              clear hPp hx HXX htl
              have hpos : (0 : Int) ≤ ((m + 1 : Nat) : Int) - 1 := by omega
              have hnx : ((m + 1 : Nat) : Int) - 1 = (m : Int) := by omega
              rw [hnx] at hpos ⊢
              obtain ⟨g8, rfl⟩ := hp9 (by omega)
              go_upto_region 24 with (go_at_call 12; go_must (refine HPp.out.mono ?_; rintro e wC ⟨vo, vC, rfl, hoC, hMC, hTC⟩; have HC := Lib.hid (And.intro hoC (And.intro hMC hTC)); clear hoC hMC hTC))
              obtain ⟨po, co, rfl, _, hpo⟩ := own_sliceW HC.out.1
              obtain ⟨go', rfl⟩ := hpo (by simp)
              have HO1 := Lib.hid (fun w' (h : Tch [] wC w') => (own_far HC.out.1 h (by simp) : w'.ownsRow wr.heap.size 37 32 (.slice (some ⟨go', 0, none⟩) 1 co) 1 (wcs [wof (x : Int)])))
              have HL2 := Lib.hid (own_turned HR.out.2.1 HR.out.2.2 HC.out.2.2)
              have HO2 := Lib.hid (fun w' (h : Tch [] wC w') => own_far HL2.out h (by simp))
              try simp only [Act.put, List.setIfInBounds_toArray, List.set_cons_zero, List.set_cons_succ]
              refine k_region (C := fun w' => Tch [] wC w') (by kernel_rfl) (by kernel_rfl) ((Tch.refl _ _).drew) ?_
              refine k_val (v := .bool true) rfl _ (.inl rfl) rfl ?_; try simp only [Act.put, List.setIfInBounds_toArray, List.set_cons_zero, List.set_cons_succ]
              refine k_notV (s := true) (t := false) rfl _ _ rfl rfl rfl ?_; try simp only [Act.put, List.setIfInBounds_toArray, List.set_cons_zero, List.set_cons_succ]
              refine k_val (v := .bool false) rfl _ (.inl rfl) rfl ?_; try simp only [Act.put, List.setIfInBounds_toArray, List.set_cons_zero, List.set_cons_succ]
              refine k_val (v := .slice (some ⟨go', 0, none⟩) 1 co) rfl _ (.inl rfl) rfl ?_; try simp only [Act.put, List.setIfInBounds_toArray, List.set_cons_zero, List.set_cons_succ]
              refine k_lenW (p := (some ⟨go', 0, none⟩)) (n := 1) (c := co) rfl _ rfl rfl ?_; try simp only [Act.put, List.setIfInBounds_toArray, List.set_cons_zero, List.set_cons_succ]
              refine k_neqI (m := (1 : Int)) (n := 1) (t := false) rfl _ _ _ rfl rfl rfl (decide_eq_false (by omega)) ?_; try simp only [Act.put, List.setIfInBounds_toArray, List.set_cons_zero, List.set_cons_succ]
              refine k_pickF (t := false) rfl _ _ _ rfl rfl rfl ?_; try simp only [Act.put, List.setIfInBounds_toArray, List.set_cons_zero, List.set_cons_succ]
              refine k_val (v := .bool false) rfl _ (.inl rfl) rfl ?_; try simp only [Act.put, List.setIfInBounds_toArray, List.set_cons_zero, List.set_cons_succ]
              refine k_val (v := .slice (some ⟨go', 0, none⟩) 1 co) rfl _ (.inl rfl) rfl ?_; try simp only [Act.put, List.setIfInBounds_toArray, List.set_cons_zero, List.set_cons_succ]
              refine k_in (v := .pointer (some ⟨go', 0, none⟩)) rfl (fun w' h => x_idxW0 _ _ rfl rfl rfl (by decide)) ?_; try simp only [Act.put, List.setIfInBounds_toArray, List.set_cons_zero, List.set_cons_succ]
              refine k_in (v := .agg (wv (wof (x : Int)))) rfl (fun w' h => x_ldW0 _ rfl rfl (HO1.out w' h) (by simp) rfl) ?_; try simp only [Act.put, List.setIfInBounds_toArray, List.set_cons_zero, List.set_cons_succ]
              refine k_val (v := .slice (some ⟨g8, 0, none⟩) L1.length c9) rfl _ (.inl rfl) rfl ?_; try simp only [Act.put, List.setIfInBounds_toArray, List.set_cons_zero, List.set_cons_succ]
              refine k_val (v := .int .i64 (m : Int)) rfl _ (.inl rfl) rfl ?_; try simp only [Act.put, List.setIfInBounds_toArray, List.set_cons_zero, List.set_cons_succ]
              refine k_in (v := .pointer (some ⟨g8, m, none⟩)) rfl (fun w' h => x_idxI _ _ rfl rfl rfl (by omega)) ?_; try simp only [Act.put, List.setIfInBounds_toArray, List.set_cons_zero, List.set_cons_succ]
              refine k_in (v := .int .i64 (x : Int)) rfl (fun w' h => x_ldI _ rfl rfl (HO2.out w' h) hml HX.out) ?_; try simp only [Act.put, List.setIfInBounds_toArray, List.set_cons_zero, List.set_cons_succ]
              refine k_callC1 (v := .agg (wv (wof (x : Int)))) rfl rfl rfl Try.call17 (fun w' h => (HO.out w').mono (fun e w'' q => ⟨q.1, h.trans q.2⟩)) ?_; try simp only [Act.put, List.setIfInBounds_toArray, List.set_cons_zero, List.set_cons_succ]
              refine k_in (v := .bool false) rfl (fun w' h => x_neqW (wof_ok _) _ _ _ rfl rfl rfl) ?_; try simp only [Act.put, List.setIfInBounds_toArray, List.set_cons_zero, List.set_cons_succ]
              refine k_pickF (t := false) rfl _ _ _ rfl rfl rfl ?_; try simp only [Act.put, List.setIfInBounds_toArray, List.set_cons_zero, List.set_cons_succ]
              refine k_end ?_
              intro wD hTD
              have HFF := Lib.hid (show StkIn w.heap.size 29 wD b vC ((wofs L1).take m) ∧ wD.ownsRow w.heap.size 3 1 (.slice (some ⟨g8, 0, none⟩) L1.length c9) L1.length (ni L1) ∧ DisI b vC (.slice (some ⟨g8, 0, none⟩) L1.length c9) from ⟨HC.out.2.1.call hTD, HO2.out _ hTD, dis_turned HR.out.2.2 HC.out.2.2 (fun j hj => (HR.out.2.1.lt j hj).2)⟩)
              have hTf := (Turned.fresh_tch hTr HC.out.2.2 (fun x hx => (HR.out.1.lt hx).1)).trans hTD
              clear HC HO1 HL2 HO2 HR hTr hTD
              go_wp2
              go_roundw
              case rel => first | exact ⟨m, by go_num, by omega, Lib.hid ⟨vC, HFF.out⟩, hTf⟩ | exact ⟨m, rfl, by omega, Lib.hid ⟨vC, HFF.out⟩⟩
              case measure => first | (simp [intOf]; done) | (simp [intOf]; omega)
        by_cases e2 : (L1.length : Int) - 1 < s
        · have hso : swapOk (wofs L1) s = false := by unfold swapOk; rw [wofs_len]; exact decide_eq_false (by omega)
          have hsI : swapI L1 s = L1 := if_neg (by omega)
          rw [hso] at hSw
          rw [hsI] at hSw hsl
          have HSW := Lib.hid hSw
          have HSL := Lib.hid hsl
          clear hSw hsl hso hsI hsn
          go_upto_region 15 with (go_at_call 23; go_must (refine HSW.out.mono ?_; rintro e w7 ⟨v7, rfl, hM7, hT7⟩; have HM7 := Lib.hid hM7; have HT7 := Lib.hid hT7; clear hM7 hT7))
          have HL7 := Lib.hid (own_turned H1.out.2.1 H1.out.2.2.1 HT7.out)
          have HD7 := Lib.hid (dis_turned H1.out.2.2.1 HT7.out (fun j hj => (H1.out.2.1.lt j hj).2))
          have hTw7 := Turned.fresh_tch hTw1 HT7.out (fun x hx => (H1.out.1.lt hx).1)
          clear HSW H1 HT7 hTw1
          try simp only [Act.put, List.setIfInBounds_toArray, List.set_cons_zero, List.set_cons_succ]
          refine k_seq (C := fun w' => Tch [] w7 w') (Tch.refl _ _) ?_
          refine k_val (v := .slice p9 L1.length c9) rfl _ (.inl rfl) rfl ?_; try simp only [Act.put, List.setIfInBounds_toArray, List.set_cons_zero, List.set_cons_succ]
          refine k_lenI (p := p9) (n := L1.length) (c := c9) rfl _ rfl rfl ?_; try simp only [Act.put, List.setIfInBounds_toArray, List.set_cons_zero, List.set_cons_succ]
          refine k_sub (m := (L1.length : Int)) (n := 1) (s := ((L1.length : Int) - 1)) rfl _ _ _ _ rfl rfl rfl (by rw [IntKind.wrap_i64]; omega) ?_; try simp only [Act.put, List.setIfInBounds_toArray, List.set_cons_zero, List.set_cons_succ]
          refine k_val (v := .int .i64 (((L1.length : Int) - 1))) rfl _ (.inr rfl) rfl ?_; try simp only [Act.put, List.setIfInBounds_toArray, List.set_cons_zero, List.set_cons_succ]
          refine k_end ?_
          intro w8 hT8
          go_upto_region 16 with (fail)
          try simp only [Act.put, List.setIfInBounds_toArray, List.set_cons_zero, List.set_cons_succ]
          refine k_seq (C := fun w' => Tch [] w8 w') (Tch.refl _ _) ?_
          refine k_val (v := .int .i64 s) rfl _ (.inl rfl) rfl ?_; try simp only [Act.put, List.setIfInBounds_toArray, List.set_cons_zero, List.set_cons_succ]
          refine k_geqI (m := s) (n := 1) (t := true) rfl _ _ _ rfl rfl rfl (decide_eq_true (by omega)) ?_; try simp only [Act.put, List.setIfInBounds_toArray, List.set_cons_zero, List.set_cons_succ]
          refine k_val (v := .bool true) rfl _ (.inl rfl) rfl ?_; try simp only [Act.put, List.setIfInBounds_toArray, List.set_cons_zero, List.set_cons_succ]
          refine k_val (v := .int .i64 s) rfl _ (.inl rfl) rfl ?_; try simp only [Act.put, List.setIfInBounds_toArray, List.set_cons_zero, List.set_cons_succ]
          refine k_val (v := .int .i64 ((L1.length : Int) - 1)) rfl _ (.inl rfl) rfl ?_; try simp only [Act.put, List.setIfInBounds_toArray, List.set_cons_zero, List.set_cons_succ]
          refine k_leqI (m := s) (n := ((L1.length : Int) - 1)) (t := false) rfl _ _ _ rfl rfl rfl (decide_eq_false (by omega)) ?_; try simp only [Act.put, List.setIfInBounds_toArray, List.set_cons_zero, List.set_cons_succ]
          refine k_pickT (t := false) rfl _ _ _ rfl rfl rfl ?_; try simp only [Act.put, List.setIfInBounds_toArray, List.set_cons_zero, List.set_cons_succ]
          refine k_end ?_
          intro w9 hT9
          have HM9 := Lib.hid (HM7.out.call (hT8.trans hT9))
          have HL9 := Lib.hid (own_far HL7.out (hT8.trans hT9) (by simp))
          have hTw9 := hTw7.trans (hT8.trans hT9)
          clear HM7 HL7 hTw7 hT8 hT9
          have hz := fun w' (h : Tch [] w9 w') => (len_any _ _ _ _ w' (HM9.out.call h)).mono (fun e w'' q => And.intro q.1 (q.2 ▸ h : Tch [] w9 w''))
          rw [wofs_len] at hz
          have HZ := Lib.hid hz
          clear hz
          go_upto_region 18 with (fail)
          try simp only [Act.put, List.setIfInBounds_toArray, List.set_cons_zero, List.set_cons_succ]
          refine k_seq (C := fun w' => Tch [] w9 w') (Tch.refl _ _) ?_
          refine k_val (v := .bool false) rfl _ (.inl rfl) rfl ?_; try simp only [Act.put, List.setIfInBounds_toArray, List.set_cons_zero, List.set_cons_succ]
          refine k_val (v := .int .i64 d) rfl _ (.inl rfl) rfl ?_; try simp only [Act.put, List.setIfInBounds_toArray, List.set_cons_zero, List.set_cons_succ]
          refine k_geqI (m := d) (n := 1) (t := false) rfl _ _ _ rfl rfl rfl (decide_eq_false (by omega)) ?_; try simp only [Act.put, List.setIfInBounds_toArray, List.set_cons_zero, List.set_cons_succ]
          refine k_val (v := .bool false) rfl _ (.inl rfl) rfl ?_; try simp only [Act.put, List.setIfInBounds_toArray, List.set_cons_zero, List.set_cons_succ]
          refine k_skip rfl rfl rfl rfl rfl ?_; try simp only [Act.put, List.setIfInBounds_toArray, List.set_cons_zero, List.set_cons_succ]
          refine k_skip rfl rfl rfl rfl rfl ?_; try simp only [Act.put, List.setIfInBounds_toArray, List.set_cons_zero, List.set_cons_succ]
          refine k_skip rfl rfl rfl rfl rfl ?_; try simp only [Act.put, List.setIfInBounds_toArray, List.set_cons_zero, List.set_cons_succ]
          refine k_pickF (t := false) rfl _ _ _ rfl rfl rfl ?_; try simp only [Act.put, List.setIfInBounds_toArray, List.set_cons_zero, List.set_cons_succ]
          refine k_neqB (s := false) (r := false) (t := false) rfl _ _ _ rfl rfl rfl rfl ?_; try simp only [Act.put, List.setIfInBounds_toArray, List.set_cons_zero, List.set_cons_succ]
          refine k_val (v := .bool false) rfl _ (.inl rfl) rfl ?_; try simp only [Act.put, List.setIfInBounds_toArray, List.set_cons_zero, List.set_cons_succ]
          refine k_val (v := .bool false) rfl _ (.inl rfl) rfl ?_; try simp only [Act.put, List.setIfInBounds_toArray, List.set_cons_zero, List.set_cons_succ]
          refine k_val (v := .int .i64 s) rfl _ (.inl rfl) rfl ?_; try simp only [Act.put, List.setIfInBounds_toArray, List.set_cons_zero, List.set_cons_succ]
          refine k_geqI (m := s) (n := 1) (t := true) rfl _ _ _ rfl rfl rfl (decide_eq_true (by omega)) ?_; try simp only [Act.put, List.setIfInBounds_toArray, List.set_cons_zero, List.set_cons_succ]
          refine k_val (v := .bool true) rfl _ (.inl rfl) rfl ?_; try simp only [Act.put, List.setIfInBounds_toArray, List.set_cons_zero, List.set_cons_succ]
          refine k_val (v := .int .i64 s) rfl _ (.inl rfl) rfl ?_; try simp only [Act.put, List.setIfInBounds_toArray, List.set_cons_zero, List.set_cons_succ]
          refine k_val (v := .int .i64 ((L1.length : Int) - 1)) rfl _ (.inl rfl) rfl ?_; try simp only [Act.put, List.setIfInBounds_toArray, List.set_cons_zero, List.set_cons_succ]
          refine k_leqI (m := s) (n := ((L1.length : Int) - 1)) (t := false) rfl _ _ _ rfl rfl rfl (decide_eq_false (by omega)) ?_; try simp only [Act.put, List.setIfInBounds_toArray, List.set_cons_zero, List.set_cons_succ]
          refine k_pickT (t := false) rfl _ _ _ rfl rfl rfl ?_; try simp only [Act.put, List.setIfInBounds_toArray, List.set_cons_zero, List.set_cons_succ]
          refine k_neqB (s := false) (r := false) (t := false) rfl _ _ _ rfl rfl rfl rfl ?_; try simp only [Act.put, List.setIfInBounds_toArray, List.set_cons_zero, List.set_cons_succ]
          refine k_pickF (t := false) rfl _ _ _ rfl rfl rfl ?_; try simp only [Act.put, List.setIfInBounds_toArray, List.set_cons_zero, List.set_cons_succ]
          refine k_val (v := .bool false) rfl _ (.inl rfl) rfl ?_; try simp only [Act.put, List.setIfInBounds_toArray, List.set_cons_zero, List.set_cons_succ]
          refine k_callC1 (v := .int .i64 (L1.length : Int)) rfl rfl rfl Try.call11 (fun w' h => HZ.out w' h) ?_; try simp only [Act.put, List.setIfInBounds_toArray, List.set_cons_zero, List.set_cons_succ]
          refine k_val (v := .slice p9 L1.length c9) rfl _ (.inl rfl) rfl ?_; try simp only [Act.put, List.setIfInBounds_toArray, List.set_cons_zero, List.set_cons_succ]
          refine k_lenI (p := p9) (n := L1.length) (c := c9) rfl _ rfl rfl ?_; try simp only [Act.put, List.setIfInBounds_toArray, List.set_cons_zero, List.set_cons_succ]
          refine k_neqI (m := (L1.length : Int)) (n := (L1.length : Int)) (t := false) rfl _ _ _ rfl rfl rfl (decide_eq_false (by omega)) ?_; try simp only [Act.put, List.setIfInBounds_toArray, List.set_cons_zero, List.set_cons_succ]
          refine k_pickF (t := false) rfl _ _ _ rfl rfl rfl ?_; try simp only [Act.put, List.setIfInBounds_toArray, List.set_cons_zero, List.set_cons_succ]
          refine k_end ?_
          intro wA hTA
          have HMA := Lib.hid (HM9.out.call hTA)
          have HLA := Lib.hid (own_far HL9.out hTA (by simp))
          have hTwB := hTw9.trans hTA
          clear HM9 HL9 hTw9 hTA HZ
          go_upto_region 20 with (fail)
          try simp only [Act.put, List.setIfInBounds_toArray, List.set_cons_zero, List.set_cons_succ]
          refine k_seq (C := fun w' => Tch [] wA w') (Tch.refl _ _) ?_
          refine k_val (v := .slice p9 L1.length c9) rfl _ (.inl rfl) rfl ?_; try simp only [Act.put, List.setIfInBounds_toArray, List.set_cons_zero, List.set_cons_succ]
          refine k_lenI (p := p9) (n := L1.length) (c := c9) rfl _ rfl rfl ?_; try simp only [Act.put, List.setIfInBounds_toArray, List.set_cons_zero, List.set_cons_succ]
          refine k_sub (m := (L1.length : Int)) (n := 1) (s := (L1.length : Int) - 1) rfl _ _ _ _ rfl rfl rfl (by rw [IntKind.wrap_i64]; omega) ?_; try simp only [Act.put, List.setIfInBounds_toArray, List.set_cons_zero, List.set_cons_succ]
          refine k_val (v := .int .i64 ((L1.length : Int) - 1)) rfl _ (.inr rfl) rfl ?_; try simp only [Act.put, List.setIfInBounds_toArray, List.set_cons_zero, List.set_cons_succ]
          refine k_end ?_
          intro wB hTB
          have HMB := Lib.hid (HMA.out.call hTB)
          have HLB := Lib.hid (show wB.ownsRow w.heap.size 3 1 (.slice p9 L1.length c9) L1.length (ni L1) from by have := own_far HLA.out hTB (by simp); exact this)
          have hTwC := hTwB.trans hTB
          clear HMA HLA hTwB hTB
          go_upto_region 21 with (fail)
          go_loopw [14] (fun i wr => ∃ m : Nat, i = .int .i64 ((m : Int) - 1) ∧ m ≤ L1.length ∧ Hid (∃ v, StkIn w.heap.size 29 wr b v ((wofs L1).take m) ∧ wr.ownsRow w.heap.size 3 1 (.slice p9 L1.length c9) L1.length (ni L1) ∧ DisI b v (.slice p9 L1.length c9)) ∧ Tch [] w wr) (fun i _ => (intOf i + 1).toNat)
          case atStart => exact ⟨L1.length, rfl, Nat.le_refl _, Lib.hid ⟨_, by rw [show L1.length = (wofs L1).length by rw [wofs_len], List.take_length]; exact HMB.out, HLB.out, HD7.out⟩, hTwC⟩
          case round =>
            clear HMB HLB hTwC HD7
            obtain ⟨m, rfl, hm, HR0, hTr⟩ := hrel
            obtain ⟨v, hR⟩ := HR0.out
            have HR := Lib.hid hR
            clear hR HR0
            by_cases hm0 : m = 0
            · subst hm0
              have hPp := pop_any w.heap.size b v ((wofs L1).take 0) 1 wr HR.out.1 (by simp) (by omega)
              rw [show popOk ((wofs L1).take 0) 1 = false from by rw [List.take_zero]; decide] at hPp
              have HPp := Lib.hid hPp
              clear hPp
              have hneg : ¬ (0 : Int) ≤ ((0 : Nat) : Int) - 1 := by omega
              go_wp2_with (go_at_call 12; go_must (refine HPp.out.mono ?_; rintro e wC ⟨vo, vC, rfl, hoC, hMC, hTC⟩; have hTf := Turned.fresh_tch hTr hTC (fun x hx => (HR.out.1.lt hx).1); clear hoC hMC hTC))
              go_ret
              exact ⟨rfl, hTf⟩
            · obtain ⟨m, rfl⟩ : ∃ j, m = j + 1 := ⟨m - 1, by omega⟩
              have hml : m < L1.length := by omega
              have htl : ((wofs L1).take (m + 1)).length = m + 1 := by rw [List.length_take, wofs_len]; exact Nat.min_eq_left hml
              have hPp := pop_any w.heap.size b v ((wofs L1).take (m + 1)) 1 wr HR.out.1 (by rw [htl]; omega) (by omega)
              rw [show popOk ((wofs L1).take (m + 1)) 1 = true from by unfold popOk; rw [htl]; exact decide_eq_true (by omega), show popOut ((wofs L1).take (m + 1)) 1 = [wof ((L1.getD m 0 : Nat) : Int)] from by
                unfold popOut outL
                rw [htl, if_pos (by omega)]
                show [((wofs L1).take (m + 1)).getD (m + 1 - 1 - 0) []] = _
                rw [show m + 1 - 1 - 0 = m by omega, List.getD_eq_getElem?_getD, List.getElem?_take_of_lt (by omega), ← List.getD_eq_getElem?_getD, wofs_getD hml], show popL ((wofs L1).take (m + 1)) 1 = (wofs L1).take m from by
                unfold popL
                rw [htl, if_pos (by omega), List.take_take]
                congr 1
                show min (m + 1 - 1) (m + 1) = m
                omega] at hPp
              have hxl := getD_lt HSL.out (by decide) m
              have HXX := Lib.hid (show L1.getD m 0 = L1.getD m 0 from rfl)
              obtain ⟨x, hx⟩ : ∃ x, x = L1.getD m 0 := ⟨_, rfl⟩
              rw [← hx] at hPp hxl
              have HPp := Lib.hid hPp
              have HX := Lib.hid hx.symm
              have HO := Lib.hid (fun w' => rOfW_any (x : Int) (by omega) w')
              clear hPp hx HXX htl
              have hpos : (0 : Int) ≤ ((m + 1 : Nat) : Int) - 1 := by omega
              have hnx : ((m + 1 : Nat) : Int) - 1 = (m : Int) := by omega
              rw [hnx] at hpos ⊢
              obtain ⟨g8, rfl⟩ := hp9 (by omega)
              go_upto_region 24 with (go_at_call 12; go_must (refine HPp.out.mono ?_; rintro e wC ⟨vo, vC, rfl, hoC, hMC, hTC⟩; have HC := Lib.hid (And.intro hoC (And.intro hMC hTC)); clear hoC hMC hTC))
              obtain ⟨po, co, rfl, _, hpo⟩ := own_sliceW HC.out.1
              obtain ⟨go', rfl⟩ := hpo (by simp)
              have HO1 := Lib.hid (fun w' (h : Tch [] wC w') => (own_far HC.out.1 h (by simp) : w'.ownsRow wr.heap.size 37 32 (.slice (some ⟨go', 0, none⟩) 1 co) 1 (wcs [wof (x : Int)])))
              have HL2 := Lib.hid (own_turned HR.out.2.1 HR.out.2.2 HC.out.2.2)
              have HO2 := Lib.hid (fun w' (h : Tch [] wC w') => own_far HL2.out h (by simp))
              try simp only [Act.put, List.setIfInBounds_toArray, List.set_cons_zero, List.set_cons_succ]
              refine k_region (C := fun w' => Tch [] wC w') (by kernel_rfl) (by kernel_rfl) ((Tch.refl _ _).drew) ?_
              refine k_val (v := .bool true) rfl _ (.inl rfl) rfl ?_; try simp only [Act.put, List.setIfInBounds_toArray, List.set_cons_zero, List.set_cons_succ]
              refine k_notV (s := true) (t := false) rfl _ _ rfl rfl rfl ?_; try simp only [Act.put, List.setIfInBounds_toArray, List.set_cons_zero, List.set_cons_succ]
              refine k_val (v := .bool false) rfl _ (.inl rfl) rfl ?_; try simp only [Act.put, List.setIfInBounds_toArray, List.set_cons_zero, List.set_cons_succ]
              refine k_val (v := .slice (some ⟨go', 0, none⟩) 1 co) rfl _ (.inl rfl) rfl ?_; try simp only [Act.put, List.setIfInBounds_toArray, List.set_cons_zero, List.set_cons_succ]
              refine k_lenW (p := (some ⟨go', 0, none⟩)) (n := 1) (c := co) rfl _ rfl rfl ?_; try simp only [Act.put, List.setIfInBounds_toArray, List.set_cons_zero, List.set_cons_succ]
              refine k_neqI (m := (1 : Int)) (n := 1) (t := false) rfl _ _ _ rfl rfl rfl (decide_eq_false (by omega)) ?_; try simp only [Act.put, List.setIfInBounds_toArray, List.set_cons_zero, List.set_cons_succ]
              refine k_pickF (t := false) rfl _ _ _ rfl rfl rfl ?_; try simp only [Act.put, List.setIfInBounds_toArray, List.set_cons_zero, List.set_cons_succ]
              refine k_val (v := .bool false) rfl _ (.inl rfl) rfl ?_; try simp only [Act.put, List.setIfInBounds_toArray, List.set_cons_zero, List.set_cons_succ]
              refine k_val (v := .slice (some ⟨go', 0, none⟩) 1 co) rfl _ (.inl rfl) rfl ?_; try simp only [Act.put, List.setIfInBounds_toArray, List.set_cons_zero, List.set_cons_succ]
              refine k_in (v := .pointer (some ⟨go', 0, none⟩)) rfl (fun w' h => x_idxW0 _ _ rfl rfl rfl (by decide)) ?_; try simp only [Act.put, List.setIfInBounds_toArray, List.set_cons_zero, List.set_cons_succ]
              refine k_in (v := .agg (wv (wof (x : Int)))) rfl (fun w' h => x_ldW0 _ rfl rfl (HO1.out w' h) (by simp) rfl) ?_; try simp only [Act.put, List.setIfInBounds_toArray, List.set_cons_zero, List.set_cons_succ]
              refine k_val (v := .slice (some ⟨g8, 0, none⟩) L1.length c9) rfl _ (.inl rfl) rfl ?_; try simp only [Act.put, List.setIfInBounds_toArray, List.set_cons_zero, List.set_cons_succ]
              refine k_val (v := .int .i64 (m : Int)) rfl _ (.inl rfl) rfl ?_; try simp only [Act.put, List.setIfInBounds_toArray, List.set_cons_zero, List.set_cons_succ]
              refine k_in (v := .pointer (some ⟨g8, m, none⟩)) rfl (fun w' h => x_idxI _ _ rfl rfl rfl (by omega)) ?_; try simp only [Act.put, List.setIfInBounds_toArray, List.set_cons_zero, List.set_cons_succ]
              refine k_in (v := .int .i64 (x : Int)) rfl (fun w' h => x_ldI _ rfl rfl (HO2.out w' h) hml HX.out) ?_; try simp only [Act.put, List.setIfInBounds_toArray, List.set_cons_zero, List.set_cons_succ]
              refine k_callC1 (v := .agg (wv (wof (x : Int)))) rfl rfl rfl Try.call17 (fun w' h => (HO.out w').mono (fun e w'' q => ⟨q.1, h.trans q.2⟩)) ?_; try simp only [Act.put, List.setIfInBounds_toArray, List.set_cons_zero, List.set_cons_succ]
              refine k_in (v := .bool false) rfl (fun w' h => x_neqW (wof_ok _) _ _ _ rfl rfl rfl) ?_; try simp only [Act.put, List.setIfInBounds_toArray, List.set_cons_zero, List.set_cons_succ]
              refine k_pickF (t := false) rfl _ _ _ rfl rfl rfl ?_; try simp only [Act.put, List.setIfInBounds_toArray, List.set_cons_zero, List.set_cons_succ]
              refine k_end ?_
              intro wD hTD
              have HFF := Lib.hid (show StkIn w.heap.size 29 wD b vC ((wofs L1).take m) ∧ wD.ownsRow w.heap.size 3 1 (.slice (some ⟨g8, 0, none⟩) L1.length c9) L1.length (ni L1) ∧ DisI b vC (.slice (some ⟨g8, 0, none⟩) L1.length c9) from ⟨HC.out.2.1.call hTD, HO2.out _ hTD, dis_turned HR.out.2.2 HC.out.2.2 (fun j hj => (HR.out.2.1.lt j hj).2)⟩)
              have hTf := (Turned.fresh_tch hTr HC.out.2.2 (fun x hx => (HR.out.1.lt hx).1)).trans hTD
              clear HC HO1 HL2 HO2 HR hTr hTD
              go_wp2
              go_roundw
              case rel => first | exact ⟨m, by go_num, by omega, Lib.hid ⟨vC, HFF.out⟩, hTf⟩ | exact ⟨m, rfl, by omega, Lib.hid ⟨vC, HFF.out⟩⟩
              case measure => first | (simp [intOf]; done) | (simp [intOf]; omega)
        · have hso : swapOk (wofs L1) s = true := by unfold swapOk; rw [wofs_len]; exact decide_eq_true (by omega)
          obtain ⟨s, rfl⟩ : ∃ m : Nat, s = m := ⟨s.toNat, by omega⟩
          have hsI : swapI L1 (s : Int) = (L1.set (L1.length - 1) (L1.getD (L1.length - 1 - s) 0)).set (L1.length - 1 - s) (L1.getD (L1.length - 1) 0) := by
            unfold swapI; rw [if_pos (by omega), Int.toNat_natCast]
          have hk1 : L1.length - 1 < L1.length := by omega
          have hk2 : L1.length - 1 - s < L1.length := by omega
          obtain ⟨g8, rfl⟩ := hp9 (by omega)
          rw [hso] at hSw
          rw [hsI] at hSw hsl
          have HSW := Lib.hid hSw
          have HSL := Lib.hid hsl
          clear hSw hsl hso hsI hsn
          go_upto_region 15 with (go_at_call 23; go_must (refine HSW.out.mono ?_; rintro e w7 ⟨v7, rfl, hM7, hT7⟩; have HM7 := Lib.hid hM7; have HT7 := Lib.hid hT7; clear hM7 hT7))
          have HL7 := Lib.hid (own_turned H1.out.2.1 H1.out.2.2.1 HT7.out)
          have HD7 := Lib.hid (dis_turned H1.out.2.2.1 HT7.out (fun j hj => (H1.out.2.1.lt j hj).2))
          have hTw7 := Turned.fresh_tch hTw1 HT7.out (fun x hx => (H1.out.1.lt hx).1)
          clear HSW H1 HT7 hTw1
          try simp only [Act.put, List.setIfInBounds_toArray, List.set_cons_zero, List.set_cons_succ]
          refine k_seq (C := fun w' => Tch [] w7 w') (Tch.refl _ _) ?_
          refine k_val (v := .slice (some ⟨g8, 0, none⟩) L1.length c9) rfl _ (.inl rfl) rfl ?_; try simp only [Act.put, List.setIfInBounds_toArray, List.set_cons_zero, List.set_cons_succ]
          refine k_lenI (p := (some ⟨g8, 0, none⟩)) (n := L1.length) (c := c9) rfl _ rfl rfl ?_; try simp only [Act.put, List.setIfInBounds_toArray, List.set_cons_zero, List.set_cons_succ]
          refine k_sub (m := (L1.length : Int)) (n := 1) (s := ((L1.length - 1 : Nat) : Int)) rfl _ _ _ _ rfl rfl rfl (by rw [IntKind.wrap_i64]; omega) ?_; try simp only [Act.put, List.setIfInBounds_toArray, List.set_cons_zero, List.set_cons_succ]
          refine k_val (v := .int .i64 (((L1.length - 1 : Nat) : Int))) rfl _ (.inr rfl) rfl ?_; try simp only [Act.put, List.setIfInBounds_toArray, List.set_cons_zero, List.set_cons_succ]
          refine k_end ?_
          intro w8 hT8
          go_upto_region 16 with (fail)
          try simp only [Act.put, List.setIfInBounds_toArray, List.set_cons_zero, List.set_cons_succ]
          refine k_seq (C := fun w' => Tch [] w8 w') (Tch.refl _ _) ?_
          refine k_val (v := .int .i64 (s : Int)) rfl _ (.inl rfl) rfl ?_; try simp only [Act.put, List.setIfInBounds_toArray, List.set_cons_zero, List.set_cons_succ]
          refine k_geqI (m := (s : Int)) (n := 1) (t := true) rfl _ _ _ rfl rfl rfl (decide_eq_true (by omega)) ?_; try simp only [Act.put, List.setIfInBounds_toArray, List.set_cons_zero, List.set_cons_succ]
          refine k_val (v := .bool true) rfl _ (.inl rfl) rfl ?_; try simp only [Act.put, List.setIfInBounds_toArray, List.set_cons_zero, List.set_cons_succ]
          refine k_val (v := .int .i64 (s : Int)) rfl _ (.inl rfl) rfl ?_; try simp only [Act.put, List.setIfInBounds_toArray, List.set_cons_zero, List.set_cons_succ]
          refine k_val (v := .int .i64 ((L1.length - 1 : Nat) : Int)) rfl _ (.inl rfl) rfl ?_; try simp only [Act.put, List.setIfInBounds_toArray, List.set_cons_zero, List.set_cons_succ]
          refine k_leqI (m := (s : Int)) (n := ((L1.length - 1 : Nat) : Int)) (t := true) rfl _ _ _ rfl rfl rfl (decide_eq_true (by omega)) ?_; try simp only [Act.put, List.setIfInBounds_toArray, List.set_cons_zero, List.set_cons_succ]
          refine k_pickT (t := true) rfl _ _ _ rfl rfl rfl ?_; try simp only [Act.put, List.setIfInBounds_toArray, List.set_cons_zero, List.set_cons_succ]
          refine k_end ?_
          intro w9 hT9
          have HM9 := Lib.hid (HM7.out.call (hT8.trans hT9))
          have HL9 := Lib.hid (own_far HL7.out (hT8.trans hT9) (by simp))
          have hTw9 := hTw7.trans (hT8.trans hT9)
          clear HM7 HL7 hTw7 hT8 hT9
          go_upto_region 17 with (fail)
          try simp only [Act.put, List.setIfInBounds_toArray, List.set_cons_zero, List.set_cons_succ]
          have HO17 := Lib.hid (fun w' (h : Tch [] w9 w') => own_far HL9.out h (by simp))
          refine wp_region_held_drew (S := fun w' => Tch [g8] w9 w') (by kernel_rfl) ((Tch.refl _ _).drew) (fun hC => ?_)
          have hD0 : Tch [] w9 w9.drew := (Tch.refl [] w9).drew
          generalize World.drew w9 = u0 at hC hD0 ⊢
          refine held_in (v := (.slice (some ⟨g8, 0, none⟩) L1.length c9)) 0 rfl (by kernel_rfl) (by kernel_rfl) (by kernel_rfl) (fun _ _ _ h => h) hC rfl (fun w' hw' => x_val _ (.inl rfl) rfl) ?_
          try simp only [Act.put, List.setIfInBounds_toArray, List.set_cons_zero, List.set_cons_succ]
          refine held_in (v := (.int .i64 ((L1.length - 1 : Nat) : Int))) 1 rfl (by kernel_rfl) (by kernel_rfl) (by kernel_rfl) (fun _ _ _ h => h) hC rfl (fun w' hw' => x_val _ (.inl rfl) rfl) ?_
          try simp only [Act.put, List.setIfInBounds_toArray, List.set_cons_zero, List.set_cons_succ]
          refine held_in (v := (.slice (some ⟨g8, 0, none⟩) L1.length c9)) 2 rfl (by kernel_rfl) (by kernel_rfl) (by kernel_rfl) (fun _ _ _ h => h) hC rfl (fun w' hw' => x_val _ (.inl rfl) rfl) ?_
          try simp only [Act.put, List.setIfInBounds_toArray, List.set_cons_zero, List.set_cons_succ]
          refine held_in (v := (.int .i64 ((L1.length - 1 : Nat) : Int))) 3 rfl (by kernel_rfl) (by kernel_rfl) (by kernel_rfl) (fun _ _ _ h => h) hC rfl (fun w' hw' => x_val _ (.inl rfl) rfl) ?_
          try simp only [Act.put, List.setIfInBounds_toArray, List.set_cons_zero, List.set_cons_succ]
          refine held_in (v := (.int .i64 (s : Int))) 4 rfl (by kernel_rfl) (by kernel_rfl) (by kernel_rfl) (fun _ _ _ h => h) hC rfl (fun w' hw' => x_val _ (.inl rfl) rfl) ?_
          try simp only [Act.put, List.setIfInBounds_toArray, List.set_cons_zero, List.set_cons_succ]
          refine held_in (v := (.int .i64 ((L1.length - 1 - s : Nat) : Int))) 5 rfl (by kernel_rfl) (by kernel_rfl) (by kernel_rfl) (fun _ _ _ h => h) hC rfl (fun w' hw' => x_subI _ _ _ _ rfl rfl rfl (by rw [IntKind.wrap_i64]; omega)) ?_
          try simp only [Act.put, List.setIfInBounds_toArray, List.set_cons_zero, List.set_cons_succ]
          refine held_in (v := (.slice (some ⟨g8, 0, none⟩) L1.length c9)) 6 rfl (by kernel_rfl) (by kernel_rfl) (by kernel_rfl) (fun _ _ _ h => h) hC rfl (fun w' hw' => x_val _ (.inl rfl) rfl) ?_
          try simp only [Act.put, List.setIfInBounds_toArray, List.set_cons_zero, List.set_cons_succ]
          refine held_in (v := (.int .i64 ((L1.length - 1 : Nat) : Int))) 7 rfl (by kernel_rfl) (by kernel_rfl) (by kernel_rfl) (fun _ _ _ h => h) hC rfl (fun w' hw' => x_val _ (.inl rfl) rfl) ?_
          try simp only [Act.put, List.setIfInBounds_toArray, List.set_cons_zero, List.set_cons_succ]
          refine held_in (v := (.int .i64 (s : Int))) 8 rfl (by kernel_rfl) (by kernel_rfl) (by kernel_rfl) (fun _ _ _ h => h) hC rfl (fun w' hw' => x_val _ (.inl rfl) rfl) ?_
          try simp only [Act.put, List.setIfInBounds_toArray, List.set_cons_zero, List.set_cons_succ]
          refine held_in (v := (.int .i64 ((L1.length - 1 - s : Nat) : Int))) 9 rfl (by kernel_rfl) (by kernel_rfl) (by kernel_rfl) (fun _ _ _ h => h) hC rfl (fun w' hw' => x_subI _ _ _ _ rfl rfl rfl (by rw [IntKind.wrap_i64]; omega)) ?_
          try simp only [Act.put, List.setIfInBounds_toArray, List.set_cons_zero, List.set_cons_succ]
          refine held_in (v := (.pointer (some ⟨g8, L1.length - 1 - s, none⟩))) 10 rfl (by kernel_rfl) (by kernel_rfl) (by kernel_rfl) (fun _ _ _ h => h) hC rfl (fun w' hw' => x_idxI _ _ rfl rfl rfl hk2) ?_
          try simp only [Act.put, List.setIfInBounds_toArray, List.set_cons_zero, List.set_cons_succ]
          refine held_in (v := (.slice (some ⟨g8, 0, none⟩) L1.length c9)) 12 rfl (by kernel_rfl) (by kernel_rfl) (by kernel_rfl) (fun _ _ _ h => h) hC rfl (fun w' hw' => x_val _ (.inl rfl) rfl) ?_
          try simp only [Act.put, List.setIfInBounds_toArray, List.set_cons_zero, List.set_cons_succ]
          refine held_in (v := (.int .i64 ((L1.length - 1 : Nat) : Int))) 13 rfl (by kernel_rfl) (by kernel_rfl) (by kernel_rfl) (fun _ _ _ h => h) hC rfl (fun w' hw' => x_val _ (.inl rfl) rfl) ?_
          try simp only [Act.put, List.setIfInBounds_toArray, List.set_cons_zero, List.set_cons_succ]
          refine held_in (v := (.pointer (some ⟨g8, L1.length - 1, none⟩))) 14 rfl (by kernel_rfl) (by kernel_rfl) (by kernel_rfl) (fun _ _ _ h => h) hC rfl (fun w' hw' => x_idxI _ _ rfl rfl rfl hk1) ?_
          try simp only [Act.put, List.setIfInBounds_toArray, List.set_cons_zero, List.set_cons_succ]
          refine held_two 11 15 (by kernel_rfl) ?_ ?_
          · refine held_x (v := .int .i64 ((L1.getD (L1.length - 1 - s) 0 : Nat) : Int)) rfl rfl (x_ldI _ rfl rfl (HO17.out _ hD0) hk2 rfl) ?_
            refine ⟨hC, ?_⟩
            try simp only [Act.put, List.setIfInBounds_toArray, List.set_cons_zero, List.set_cons_succ]
            refine held_one 15 (by kernel_rfl) ?_
            refine held_x (v := .int .i64 ((L1.getD (L1.length - 1) 0 : Nat) : Int)) rfl rfl (x_ldI _ rfl rfl (HO17.out _ hD0) hk1 rfl) ?_
            refine ⟨hC, ?_⟩
            try simp only [Act.put, List.setIfInBounds_toArray, List.set_cons_zero, List.set_cons_succ]
            refine held_in (v := (.pointer (some ⟨g8, L1.length - 1, none⟩))) 16 rfl (by kernel_rfl) (by kernel_rfl) (by kernel_rfl) (fun _ _ _ h => h) hC rfl (fun w' hw' => x_idxI _ _ rfl rfl rfl hk1) ?_
            try simp only [Act.put, List.setIfInBounds_toArray, List.set_cons_zero, List.set_cons_succ]
            refine held_one 17 (by kernel_rfl) ?_
            refine held_stI (x := L1.getD (L1.length - 1 - s) 0) (k := L1.length - 1) (HO17.out _ hD0) hk1 rfl rfl rfl (by rfl) (by rfl) ?_
            intro u1 hO1 h1
            have hC1 := hC.trans hO1.tch
            refine ⟨hC1, ?_⟩
            try simp only [Act.put, List.setIfInBounds_toArray, List.set_cons_zero, List.set_cons_succ]
            refine held_in (v := (.pointer (some ⟨g8, L1.length - 1 - s, none⟩))) 18 rfl (by kernel_rfl) (by kernel_rfl) (by kernel_rfl) (fun _ _ _ h => h) hC1 rfl (fun w' hw' => x_idxI _ _ rfl rfl rfl hk2) ?_
            try simp only [Act.put, List.setIfInBounds_toArray, List.set_cons_zero, List.set_cons_succ]
            refine held_one 19 (by kernel_rfl) ?_
            refine held_stI (x := L1.getD (L1.length - 1) 0) (k := L1.length - 1 - s) h1 (by rw [List.length_set]; exact hk2) rfl rfl rfl (by rfl) (by rfl) ?_
            intro u2 hO2 h2
            have hC2 := hC1.trans hO2.tch
            refine ⟨hC2, ?_⟩
            have hO12 := (hD0.mono (cs := [g8]) (by simp)).trans (hO1.tch.trans hO2.tch)
            have HF := Lib.hid (And.intro (HM9.out.far hO12 (fun x hx hm => HD7.out x hx (by simpa [Value.ownBlock] using hm))) h2)
            have hTwA : Tch [] w u2 := Tch.fresh hTw9 hO12 (fun x hx => (HL9.out.lt x (by rw [List.mem_singleton.1 hx]; rfl)).1)
            clear h1 h2 hO1 hO2 hO12 hC2 hC1 hC HM9 HL9 hTw9
            refine wpAnyH_done (by kernel_rfl) ?_ _
            obtain ⟨L2, hL2⟩ : ∃ L, L = (L1.set (L1.length - 1) (L1.getD (L1.length - 1 - s) 0)).set (L1.length - 1 - s) (L1.getD (L1.length - 1) 0) := ⟨_, rfl⟩
            have hll : L2.length = L1.length := by rw [hL2, List.length_set, List.length_set]
            rw [← hL2] at HF HSL
            have HL9 := Lib.hid (show u2.ownsRow w.heap.size 3 1 (.slice (some ⟨g8, 0, none⟩) L2.length c9) L2.length (ni L2) from by rw [hll]; exact HF.out.2)
            have HM9 := Lib.hid HF.out.1
            clear hL2 HF
            have HLL := Lib.hid hll
            clear hll
            have hz := fun w' (h : Tch [] u2 w') => (len_any _ _ _ _ w' (HM9.out.call h)).mono (fun e w'' q => And.intro q.1 (q.2 ▸ h : Tch [] u2 w''))
            rw [wofs_len, HLL.out] at hz
            have HZ := Lib.hid hz
            clear hz
            go_upto_region 18 with (fail)
            try simp only [Act.put, List.setIfInBounds_toArray, List.set_cons_zero, List.set_cons_succ]
            refine k_seq (C := fun w' => Tch [] u2 w') (Tch.refl _ _) ?_
            refine k_val (v := .bool false) rfl _ (.inl rfl) rfl ?_; try simp only [Act.put, List.setIfInBounds_toArray, List.set_cons_zero, List.set_cons_succ]
            refine k_val (v := .int .i64 d) rfl _ (.inl rfl) rfl ?_; try simp only [Act.put, List.setIfInBounds_toArray, List.set_cons_zero, List.set_cons_succ]
            refine k_geqI (m := d) (n := 1) (t := false) rfl _ _ _ rfl rfl rfl (decide_eq_false (by omega)) ?_; try simp only [Act.put, List.setIfInBounds_toArray, List.set_cons_zero, List.set_cons_succ]
            refine k_val (v := .bool false) rfl _ (.inl rfl) rfl ?_; try simp only [Act.put, List.setIfInBounds_toArray, List.set_cons_zero, List.set_cons_succ]
            refine k_skip rfl rfl rfl rfl rfl ?_; try simp only [Act.put, List.setIfInBounds_toArray, List.set_cons_zero, List.set_cons_succ]
            refine k_skip rfl rfl rfl rfl rfl ?_; try simp only [Act.put, List.setIfInBounds_toArray, List.set_cons_zero, List.set_cons_succ]
            refine k_skip rfl rfl rfl rfl rfl ?_; try simp only [Act.put, List.setIfInBounds_toArray, List.set_cons_zero, List.set_cons_succ]
            refine k_pickF (t := false) rfl _ _ _ rfl rfl rfl ?_; try simp only [Act.put, List.setIfInBounds_toArray, List.set_cons_zero, List.set_cons_succ]
            refine k_neqB (s := false) (r := false) (t := false) rfl _ _ _ rfl rfl rfl rfl ?_; try simp only [Act.put, List.setIfInBounds_toArray, List.set_cons_zero, List.set_cons_succ]
            refine k_val (v := .bool false) rfl _ (.inl rfl) rfl ?_; try simp only [Act.put, List.setIfInBounds_toArray, List.set_cons_zero, List.set_cons_succ]
            refine k_val (v := .bool true) rfl _ (.inl rfl) rfl ?_; try simp only [Act.put, List.setIfInBounds_toArray, List.set_cons_zero, List.set_cons_succ]
            refine k_val (v := .int .i64 (s : Int)) rfl _ (.inl rfl) rfl ?_; try simp only [Act.put, List.setIfInBounds_toArray, List.set_cons_zero, List.set_cons_succ]
            refine k_geqI (m := (s : Int)) (n := 1) (t := true) rfl _ _ _ rfl rfl rfl (decide_eq_true (by omega)) ?_; try simp only [Act.put, List.setIfInBounds_toArray, List.set_cons_zero, List.set_cons_succ]
            refine k_val (v := .bool true) rfl _ (.inl rfl) rfl ?_; try simp only [Act.put, List.setIfInBounds_toArray, List.set_cons_zero, List.set_cons_succ]
            refine k_val (v := .int .i64 (s : Int)) rfl _ (.inl rfl) rfl ?_; try simp only [Act.put, List.setIfInBounds_toArray, List.set_cons_zero, List.set_cons_succ]
            refine k_val (v := .int .i64 ((L1.length - 1 : Nat) : Int)) rfl _ (.inl rfl) rfl ?_; try simp only [Act.put, List.setIfInBounds_toArray, List.set_cons_zero, List.set_cons_succ]
            refine k_leqI (m := (s : Int)) (n := ((L1.length - 1 : Nat) : Int)) (t := true) rfl _ _ _ rfl rfl rfl (decide_eq_true (by omega)) ?_; try simp only [Act.put, List.setIfInBounds_toArray, List.set_cons_zero, List.set_cons_succ]
            refine k_pickT (t := true) rfl _ _ _ rfl rfl rfl ?_; try simp only [Act.put, List.setIfInBounds_toArray, List.set_cons_zero, List.set_cons_succ]
            refine k_neqB (s := true) (r := true) (t := false) rfl _ _ _ rfl rfl rfl rfl ?_; try simp only [Act.put, List.setIfInBounds_toArray, List.set_cons_zero, List.set_cons_succ]
            refine k_pickF (t := false) rfl _ _ _ rfl rfl rfl ?_; try simp only [Act.put, List.setIfInBounds_toArray, List.set_cons_zero, List.set_cons_succ]
            refine k_val (v := .bool false) rfl _ (.inl rfl) rfl ?_; try simp only [Act.put, List.setIfInBounds_toArray, List.set_cons_zero, List.set_cons_succ]
            refine k_callC1 (v := .int .i64 (L1.length : Int)) rfl rfl rfl Try.call11 (fun w' h => HZ.out w' h) ?_; try simp only [Act.put, List.setIfInBounds_toArray, List.set_cons_zero, List.set_cons_succ]
            refine k_val (v := .slice (some ⟨g8, 0, none⟩) L1.length c9) rfl _ (.inl rfl) rfl ?_; try simp only [Act.put, List.setIfInBounds_toArray, List.set_cons_zero, List.set_cons_succ]
            refine k_lenI (p := (some ⟨g8, 0, none⟩)) (n := L1.length) (c := c9) rfl _ rfl rfl ?_; try simp only [Act.put, List.setIfInBounds_toArray, List.set_cons_zero, List.set_cons_succ]
            refine k_neqI (m := (L1.length : Int)) (n := (L1.length : Int)) (t := false) rfl _ _ _ rfl rfl rfl (decide_eq_false (by omega)) ?_; try simp only [Act.put, List.setIfInBounds_toArray, List.set_cons_zero, List.set_cons_succ]
            refine k_pickF (t := false) rfl _ _ _ rfl rfl rfl ?_; try simp only [Act.put, List.setIfInBounds_toArray, List.set_cons_zero, List.set_cons_succ]
            refine k_end ?_
            intro wA hTA
            have HMA := Lib.hid (HM9.out.call hTA)
            have HLA := Lib.hid (own_far HL9.out hTA (by simp))
            have hTwB := hTwA.trans hTA
            clear HM9 HL9 hTwA hTA HZ
            go_upto_region 20 with (fail)
            try simp only [Act.put, List.setIfInBounds_toArray, List.set_cons_zero, List.set_cons_succ]
            refine k_seq (C := fun w' => Tch [] wA w') (Tch.refl _ _) ?_
            refine k_val (v := .slice (some ⟨g8, 0, none⟩) L1.length c9) rfl _ (.inl rfl) rfl ?_; try simp only [Act.put, List.setIfInBounds_toArray, List.set_cons_zero, List.set_cons_succ]
            refine k_lenI (p := (some ⟨g8, 0, none⟩)) (n := L1.length) (c := c9) rfl _ rfl rfl ?_; try simp only [Act.put, List.setIfInBounds_toArray, List.set_cons_zero, List.set_cons_succ]
            refine k_sub (m := (L1.length : Int)) (n := 1) (s := (L1.length : Int) - 1) rfl _ _ _ _ rfl rfl rfl (by rw [IntKind.wrap_i64]; omega) ?_; try simp only [Act.put, List.setIfInBounds_toArray, List.set_cons_zero, List.set_cons_succ]
            refine k_val (v := .int .i64 ((L1.length : Int) - 1)) rfl _ (.inr rfl) rfl ?_; try simp only [Act.put, List.setIfInBounds_toArray, List.set_cons_zero, List.set_cons_succ]
            refine k_end ?_
            intro wB hTB
            have HMB := Lib.hid (HMA.out.call hTB)
            have HLB := Lib.hid (show wB.ownsRow w.heap.size 3 1 (.slice (some ⟨g8, 0, none⟩) L1.length c9) L1.length (ni L2) from by have := own_far HLA.out hTB (by simp); rwa [HLL.out] at this)
            have hTwC := hTwB.trans hTB
            clear HMA HLA hTwB hTB
            go_upto_region 21 with (fail)
            go_loopw [14] (fun i wr => ∃ m : Nat, i = .int .i64 ((m : Int) - 1) ∧ m ≤ L1.length ∧ Hid (∃ v, StkIn w.heap.size 29 wr b v ((wofs L2).take m) ∧ wr.ownsRow w.heap.size 3 1 (.slice (some ⟨g8, 0, none⟩) L1.length c9) L1.length (ni L2) ∧ DisI b v (.slice (some ⟨g8, 0, none⟩) L1.length c9)) ∧ Tch [] w wr) (fun i _ => (intOf i + 1).toNat)
            case atStart => exact ⟨L1.length, rfl, Nat.le_refl _, Lib.hid ⟨_, by rw [show L1.length = (wofs L2).length by rw [wofs_len, HLL.out], List.take_length]; exact HMB.out, HLB.out, HD7.out⟩, hTwC⟩
            case round =>
              clear HMB HLB hTwC HD7
              obtain ⟨m, rfl, hm, HR0, hTr⟩ := hrel
              obtain ⟨v, hR⟩ := HR0.out
              have HR := Lib.hid hR
              clear hR HR0
              by_cases hm0 : m = 0
              · subst hm0
                have hPp := pop_any w.heap.size b v ((wofs L2).take 0) 1 wr HR.out.1 (by simp) (by omega)
                rw [show popOk ((wofs L2).take 0) 1 = false from by rw [List.take_zero]; decide] at hPp
                have HPp := Lib.hid hPp
                clear hPp
                have hneg : ¬ (0 : Int) ≤ ((0 : Nat) : Int) - 1 := by omega
                go_wp2_with (go_at_call 12; go_must (refine HPp.out.mono ?_; rintro e wC ⟨vo, vC, rfl, hoC, hMC, hTC⟩; have hTf := Turned.fresh_tch hTr hTC (fun x hx => (HR.out.1.lt hx).1); clear hoC hMC hTC))
                go_ret
                exact ⟨rfl, hTf⟩
              · obtain ⟨m, rfl⟩ : ∃ j, m = j + 1 := ⟨m - 1, by omega⟩
                have hml : m < L2.length := by rw [HLL.out]; omega
                have htl : ((wofs L2).take (m + 1)).length = m + 1 := by rw [List.length_take, wofs_len]; exact Nat.min_eq_left hml
                have hPp := pop_any w.heap.size b v ((wofs L2).take (m + 1)) 1 wr HR.out.1 (by rw [htl]; omega) (by omega)
                rw [show popOk ((wofs L2).take (m + 1)) 1 = true from by unfold popOk; rw [htl]; exact decide_eq_true (by omega), show popOut ((wofs L2).take (m + 1)) 1 = [wof ((L2.getD m 0 : Nat) : Int)] from by
                  unfold popOut outL
                  rw [htl, if_pos (by omega)]
                  show [((wofs L2).take (m + 1)).getD (m + 1 - 1 - 0) []] = _
                  rw [show m + 1 - 1 - 0 = m by omega, List.getD_eq_getElem?_getD, List.getElem?_take_of_lt (by omega), ← List.getD_eq_getElem?_getD, wofs_getD hml], show popL ((wofs L2).take (m + 1)) 1 = (wofs L2).take m from by
                  unfold popL
                  rw [htl, if_pos (by omega), List.take_take]
                  congr 1
                  show min (m + 1 - 1) (m + 1) = m
                  omega] at hPp
                have hxl := getD_lt HSL.out (by decide) m
                have HXX := Lib.hid (show L2.getD m 0 = L2.getD m 0 from rfl)
                obtain ⟨x, hx⟩ : ∃ x, x = L2.getD m 0 := ⟨_, rfl⟩
                rw [← hx] at hPp hxl
                have HPp := Lib.hid hPp
                have HX := Lib.hid hx.symm
                have HO := Lib.hid (fun w' => rOfW_any (x : Int) (by omega) w')
                clear hPp hx HXX htl
                have hpos : (0 : Int) ≤ ((m + 1 : Nat) : Int) - 1 := by omega
                have hnx : ((m + 1 : Nat) : Int) - 1 = (m : Int) := by omega
                rw [hnx] at hpos ⊢
                skip
                go_upto_region 24 with (go_at_call 12; go_must (refine HPp.out.mono ?_; rintro e wC ⟨vo, vC, rfl, hoC, hMC, hTC⟩; have HC := Lib.hid (And.intro hoC (And.intro hMC hTC)); clear hoC hMC hTC))
                obtain ⟨po, co, rfl, _, hpo⟩ := own_sliceW HC.out.1
                obtain ⟨go', rfl⟩ := hpo (by simp)
                have HO1 := Lib.hid (fun w' (h : Tch [] wC w') => (own_far HC.out.1 h (by simp) : w'.ownsRow wr.heap.size 37 32 (.slice (some ⟨go', 0, none⟩) 1 co) 1 (wcs [wof (x : Int)])))
                have HL2 := Lib.hid (own_turned HR.out.2.1 HR.out.2.2 HC.out.2.2)
                have HO2 := Lib.hid (fun w' (h : Tch [] wC w') => own_far HL2.out h (by simp))
                try simp only [Act.put, List.setIfInBounds_toArray, List.set_cons_zero, List.set_cons_succ]
                refine k_region (C := fun w' => Tch [] wC w') (by kernel_rfl) (by kernel_rfl) ((Tch.refl _ _).drew) ?_
                refine k_val (v := .bool true) rfl _ (.inl rfl) rfl ?_; try simp only [Act.put, List.setIfInBounds_toArray, List.set_cons_zero, List.set_cons_succ]
                refine k_notV (s := true) (t := false) rfl _ _ rfl rfl rfl ?_; try simp only [Act.put, List.setIfInBounds_toArray, List.set_cons_zero, List.set_cons_succ]
                refine k_val (v := .bool false) rfl _ (.inl rfl) rfl ?_; try simp only [Act.put, List.setIfInBounds_toArray, List.set_cons_zero, List.set_cons_succ]
                refine k_val (v := .slice (some ⟨go', 0, none⟩) 1 co) rfl _ (.inl rfl) rfl ?_; try simp only [Act.put, List.setIfInBounds_toArray, List.set_cons_zero, List.set_cons_succ]
                refine k_lenW (p := (some ⟨go', 0, none⟩)) (n := 1) (c := co) rfl _ rfl rfl ?_; try simp only [Act.put, List.setIfInBounds_toArray, List.set_cons_zero, List.set_cons_succ]
                refine k_neqI (m := (1 : Int)) (n := 1) (t := false) rfl _ _ _ rfl rfl rfl (decide_eq_false (by omega)) ?_; try simp only [Act.put, List.setIfInBounds_toArray, List.set_cons_zero, List.set_cons_succ]
                refine k_pickF (t := false) rfl _ _ _ rfl rfl rfl ?_; try simp only [Act.put, List.setIfInBounds_toArray, List.set_cons_zero, List.set_cons_succ]
                refine k_val (v := .bool false) rfl _ (.inl rfl) rfl ?_; try simp only [Act.put, List.setIfInBounds_toArray, List.set_cons_zero, List.set_cons_succ]
                refine k_val (v := .slice (some ⟨go', 0, none⟩) 1 co) rfl _ (.inl rfl) rfl ?_; try simp only [Act.put, List.setIfInBounds_toArray, List.set_cons_zero, List.set_cons_succ]
                refine k_in (v := .pointer (some ⟨go', 0, none⟩)) rfl (fun w' h => x_idxW0 _ _ rfl rfl rfl (by decide)) ?_; try simp only [Act.put, List.setIfInBounds_toArray, List.set_cons_zero, List.set_cons_succ]
                refine k_in (v := .agg (wv (wof (x : Int)))) rfl (fun w' h => x_ldW0 _ rfl rfl (HO1.out w' h) (by simp) rfl) ?_; try simp only [Act.put, List.setIfInBounds_toArray, List.set_cons_zero, List.set_cons_succ]
                refine k_val (v := .slice (some ⟨g8, 0, none⟩) L1.length c9) rfl _ (.inl rfl) rfl ?_; try simp only [Act.put, List.setIfInBounds_toArray, List.set_cons_zero, List.set_cons_succ]
                refine k_val (v := .int .i64 (m : Int)) rfl _ (.inl rfl) rfl ?_; try simp only [Act.put, List.setIfInBounds_toArray, List.set_cons_zero, List.set_cons_succ]
                refine k_in (v := .pointer (some ⟨g8, m, none⟩)) rfl (fun w' h => x_idxI _ _ rfl rfl rfl (by omega)) ?_; try simp only [Act.put, List.setIfInBounds_toArray, List.set_cons_zero, List.set_cons_succ]
                refine k_in (v := .int .i64 (x : Int)) rfl (fun w' h => x_ldI _ rfl rfl (HO2.out w' h) hml HX.out) ?_; try simp only [Act.put, List.setIfInBounds_toArray, List.set_cons_zero, List.set_cons_succ]
                refine k_callC1 (v := .agg (wv (wof (x : Int)))) rfl rfl rfl Try.call17 (fun w' h => (HO.out w').mono (fun e w'' q => ⟨q.1, h.trans q.2⟩)) ?_; try simp only [Act.put, List.setIfInBounds_toArray, List.set_cons_zero, List.set_cons_succ]
                refine k_in (v := .bool false) rfl (fun w' h => x_neqW (wof_ok _) _ _ _ rfl rfl rfl) ?_; try simp only [Act.put, List.setIfInBounds_toArray, List.set_cons_zero, List.set_cons_succ]
                refine k_pickF (t := false) rfl _ _ _ rfl rfl rfl ?_; try simp only [Act.put, List.setIfInBounds_toArray, List.set_cons_zero, List.set_cons_succ]
                refine k_end ?_
                intro wD hTD
                have HFF := Lib.hid (show StkIn w.heap.size 29 wD b vC ((wofs L2).take m) ∧ wD.ownsRow w.heap.size 3 1 (.slice (some ⟨g8, 0, none⟩) L1.length c9) L1.length (ni L2) ∧ DisI b vC (.slice (some ⟨g8, 0, none⟩) L1.length c9) from ⟨HC.out.2.1.call hTD, HO2.out _ hTD, dis_turned HR.out.2.2 HC.out.2.2 (fun j hj => (HR.out.2.1.lt j hj).2)⟩)
                have hTf := (Turned.fresh_tch hTr HC.out.2.2 (fun x hx => (HR.out.1.lt hx).1)).trans hTD
                clear HC HO1 HL2 HO2 HR hTr hTD
                go_wp2
                go_roundw
                case rel => first | exact ⟨m, by go_num, by omega, Lib.hid ⟨vC, HFF.out⟩, hTf⟩ | exact ⟨m, rfl, by omega, Lib.hid ⟨vC, HFF.out⟩⟩
                case measure => first | (simp [intOf]; done) | (simp [intOf]; omega)
          · refine held_x (v := .int .i64 ((L1.getD (L1.length - 1) 0 : Nat) : Int)) rfl rfl (x_ldI _ rfl rfl (HO17.out _ hD0) hk1 rfl) ?_
            refine ⟨hC, ?_⟩
            try simp only [Act.put, List.setIfInBounds_toArray, List.set_cons_zero, List.set_cons_succ]
            refine held_one 11 (by kernel_rfl) ?_
            refine held_x (v := .int .i64 ((L1.getD (L1.length - 1 - s) 0 : Nat) : Int)) rfl rfl (x_ldI _ rfl rfl (HO17.out _ hD0) hk2 rfl) ?_
            refine ⟨hC, ?_⟩
            try simp only [Act.put, List.setIfInBounds_toArray, List.set_cons_zero, List.set_cons_succ]
            refine held_in (v := (.pointer (some ⟨g8, L1.length - 1, none⟩))) 16 rfl (by kernel_rfl) (by kernel_rfl) (by kernel_rfl) (fun _ _ _ h => h) hC rfl (fun w' hw' => x_idxI _ _ rfl rfl rfl hk1) ?_
            try simp only [Act.put, List.setIfInBounds_toArray, List.set_cons_zero, List.set_cons_succ]
            refine held_one 17 (by kernel_rfl) ?_
            refine held_stI (x := L1.getD (L1.length - 1 - s) 0) (k := L1.length - 1) (HO17.out _ hD0) hk1 rfl rfl rfl (by rfl) (by rfl) ?_
            intro u1 hO1 h1
            have hC1 := hC.trans hO1.tch
            refine ⟨hC1, ?_⟩
            try simp only [Act.put, List.setIfInBounds_toArray, List.set_cons_zero, List.set_cons_succ]
            refine held_in (v := (.pointer (some ⟨g8, L1.length - 1 - s, none⟩))) 18 rfl (by kernel_rfl) (by kernel_rfl) (by kernel_rfl) (fun _ _ _ h => h) hC1 rfl (fun w' hw' => x_idxI _ _ rfl rfl rfl hk2) ?_
            try simp only [Act.put, List.setIfInBounds_toArray, List.set_cons_zero, List.set_cons_succ]
            refine held_one 19 (by kernel_rfl) ?_
            refine held_stI (x := L1.getD (L1.length - 1) 0) (k := L1.length - 1 - s) h1 (by rw [List.length_set]; exact hk2) rfl rfl rfl (by rfl) (by rfl) ?_
            intro u2 hO2 h2
            have hC2 := hC1.trans hO2.tch
            refine ⟨hC2, ?_⟩
            have hO12 := (hD0.mono (cs := [g8]) (by simp)).trans (hO1.tch.trans hO2.tch)
            have HF := Lib.hid (And.intro (HM9.out.far hO12 (fun x hx hm => HD7.out x hx (by simpa [Value.ownBlock] using hm))) h2)
            have hTwA : Tch [] w u2 := Tch.fresh hTw9 hO12 (fun x hx => (HL9.out.lt x (by rw [List.mem_singleton.1 hx]; rfl)).1)
            clear h1 h2 hO1 hO2 hO12 hC2 hC1 hC HM9 HL9 hTw9
            refine wpAnyH_done (by kernel_rfl) ?_ _
            obtain ⟨L2, hL2⟩ : ∃ L, L = (L1.set (L1.length - 1) (L1.getD (L1.length - 1 - s) 0)).set (L1.length - 1 - s) (L1.getD (L1.length - 1) 0) := ⟨_, rfl⟩
            have hll : L2.length = L1.length := by rw [hL2, List.length_set, List.length_set]
            rw [← hL2] at HF HSL
            have HL9 := Lib.hid (show u2.ownsRow w.heap.size 3 1 (.slice (some ⟨g8, 0, none⟩) L2.length c9) L2.length (ni L2) from by rw [hll]; exact HF.out.2)
            have HM9 := Lib.hid HF.out.1
            clear hL2 HF
            have HLL := Lib.hid hll
            clear hll
            have hz := fun w' (h : Tch [] u2 w') => (len_any _ _ _ _ w' (HM9.out.call h)).mono (fun e w'' q => And.intro q.1 (q.2 ▸ h : Tch [] u2 w''))
            rw [wofs_len, HLL.out] at hz
            have HZ := Lib.hid hz
            clear hz
            go_upto_region 18 with (fail)
            try simp only [Act.put, List.setIfInBounds_toArray, List.set_cons_zero, List.set_cons_succ]
            refine k_seq (C := fun w' => Tch [] u2 w') (Tch.refl _ _) ?_
            refine k_val (v := .bool false) rfl _ (.inl rfl) rfl ?_; try simp only [Act.put, List.setIfInBounds_toArray, List.set_cons_zero, List.set_cons_succ]
            refine k_val (v := .int .i64 d) rfl _ (.inl rfl) rfl ?_; try simp only [Act.put, List.setIfInBounds_toArray, List.set_cons_zero, List.set_cons_succ]
            refine k_geqI (m := d) (n := 1) (t := false) rfl _ _ _ rfl rfl rfl (decide_eq_false (by omega)) ?_; try simp only [Act.put, List.setIfInBounds_toArray, List.set_cons_zero, List.set_cons_succ]
            refine k_val (v := .bool false) rfl _ (.inl rfl) rfl ?_; try simp only [Act.put, List.setIfInBounds_toArray, List.set_cons_zero, List.set_cons_succ]
            refine k_skip rfl rfl rfl rfl rfl ?_; try simp only [Act.put, List.setIfInBounds_toArray, List.set_cons_zero, List.set_cons_succ]
            refine k_skip rfl rfl rfl rfl rfl ?_; try simp only [Act.put, List.setIfInBounds_toArray, List.set_cons_zero, List.set_cons_succ]
            refine k_skip rfl rfl rfl rfl rfl ?_; try simp only [Act.put, List.setIfInBounds_toArray, List.set_cons_zero, List.set_cons_succ]
            refine k_pickF (t := false) rfl _ _ _ rfl rfl rfl ?_; try simp only [Act.put, List.setIfInBounds_toArray, List.set_cons_zero, List.set_cons_succ]
            refine k_neqB (s := false) (r := false) (t := false) rfl _ _ _ rfl rfl rfl rfl ?_; try simp only [Act.put, List.setIfInBounds_toArray, List.set_cons_zero, List.set_cons_succ]
            refine k_val (v := .bool false) rfl _ (.inl rfl) rfl ?_; try simp only [Act.put, List.setIfInBounds_toArray, List.set_cons_zero, List.set_cons_succ]
            refine k_val (v := .bool true) rfl _ (.inl rfl) rfl ?_; try simp only [Act.put, List.setIfInBounds_toArray, List.set_cons_zero, List.set_cons_succ]
            refine k_val (v := .int .i64 (s : Int)) rfl _ (.inl rfl) rfl ?_; try simp only [Act.put, List.setIfInBounds_toArray, List.set_cons_zero, List.set_cons_succ]
            refine k_geqI (m := (s : Int)) (n := 1) (t := true) rfl _ _ _ rfl rfl rfl (decide_eq_true (by omega)) ?_; try simp only [Act.put, List.setIfInBounds_toArray, List.set_cons_zero, List.set_cons_succ]
            refine k_val (v := .bool true) rfl _ (.inl rfl) rfl ?_; try simp only [Act.put, List.setIfInBounds_toArray, List.set_cons_zero, List.set_cons_succ]
            refine k_val (v := .int .i64 (s : Int)) rfl _ (.inl rfl) rfl ?_; try simp only [Act.put, List.setIfInBounds_toArray, List.set_cons_zero, List.set_cons_succ]
            refine k_val (v := .int .i64 ((L1.length - 1 : Nat) : Int)) rfl _ (.inl rfl) rfl ?_; try simp only [Act.put, List.setIfInBounds_toArray, List.set_cons_zero, List.set_cons_succ]
            refine k_leqI (m := (s : Int)) (n := ((L1.length - 1 : Nat) : Int)) (t := true) rfl _ _ _ rfl rfl rfl (decide_eq_true (by omega)) ?_; try simp only [Act.put, List.setIfInBounds_toArray, List.set_cons_zero, List.set_cons_succ]
            refine k_pickT (t := true) rfl _ _ _ rfl rfl rfl ?_; try simp only [Act.put, List.setIfInBounds_toArray, List.set_cons_zero, List.set_cons_succ]
            refine k_neqB (s := true) (r := true) (t := false) rfl _ _ _ rfl rfl rfl rfl ?_; try simp only [Act.put, List.setIfInBounds_toArray, List.set_cons_zero, List.set_cons_succ]
            refine k_pickF (t := false) rfl _ _ _ rfl rfl rfl ?_; try simp only [Act.put, List.setIfInBounds_toArray, List.set_cons_zero, List.set_cons_succ]
            refine k_val (v := .bool false) rfl _ (.inl rfl) rfl ?_; try simp only [Act.put, List.setIfInBounds_toArray, List.set_cons_zero, List.set_cons_succ]
            refine k_callC1 (v := .int .i64 (L1.length : Int)) rfl rfl rfl Try.call11 (fun w' h => HZ.out w' h) ?_; try simp only [Act.put, List.setIfInBounds_toArray, List.set_cons_zero, List.set_cons_succ]
            refine k_val (v := .slice (some ⟨g8, 0, none⟩) L1.length c9) rfl _ (.inl rfl) rfl ?_; try simp only [Act.put, List.setIfInBounds_toArray, List.set_cons_zero, List.set_cons_succ]
            refine k_lenI (p := (some ⟨g8, 0, none⟩)) (n := L1.length) (c := c9) rfl _ rfl rfl ?_; try simp only [Act.put, List.setIfInBounds_toArray, List.set_cons_zero, List.set_cons_succ]
            refine k_neqI (m := (L1.length : Int)) (n := (L1.length : Int)) (t := false) rfl _ _ _ rfl rfl rfl (decide_eq_false (by omega)) ?_; try simp only [Act.put, List.setIfInBounds_toArray, List.set_cons_zero, List.set_cons_succ]
            refine k_pickF (t := false) rfl _ _ _ rfl rfl rfl ?_; try simp only [Act.put, List.setIfInBounds_toArray, List.set_cons_zero, List.set_cons_succ]
            refine k_end ?_
            intro wA hTA
            have HMA := Lib.hid (HM9.out.call hTA)
            have HLA := Lib.hid (own_far HL9.out hTA (by simp))
            have hTwB := hTwA.trans hTA
            clear HM9 HL9 hTwA hTA HZ
            go_upto_region 20 with (fail)
            try simp only [Act.put, List.setIfInBounds_toArray, List.set_cons_zero, List.set_cons_succ]
            refine k_seq (C := fun w' => Tch [] wA w') (Tch.refl _ _) ?_
            refine k_val (v := .slice (some ⟨g8, 0, none⟩) L1.length c9) rfl _ (.inl rfl) rfl ?_; try simp only [Act.put, List.setIfInBounds_toArray, List.set_cons_zero, List.set_cons_succ]
            refine k_lenI (p := (some ⟨g8, 0, none⟩)) (n := L1.length) (c := c9) rfl _ rfl rfl ?_; try simp only [Act.put, List.setIfInBounds_toArray, List.set_cons_zero, List.set_cons_succ]
            refine k_sub (m := (L1.length : Int)) (n := 1) (s := (L1.length : Int) - 1) rfl _ _ _ _ rfl rfl rfl (by rw [IntKind.wrap_i64]; omega) ?_; try simp only [Act.put, List.setIfInBounds_toArray, List.set_cons_zero, List.set_cons_succ]
            refine k_val (v := .int .i64 ((L1.length : Int) - 1)) rfl _ (.inr rfl) rfl ?_; try simp only [Act.put, List.setIfInBounds_toArray, List.set_cons_zero, List.set_cons_succ]
            refine k_end ?_
            intro wB hTB
            have HMB := Lib.hid (HMA.out.call hTB)
            have HLB := Lib.hid (show wB.ownsRow w.heap.size 3 1 (.slice (some ⟨g8, 0, none⟩) L1.length c9) L1.length (ni L2) from by have := own_far HLA.out hTB (by simp); rwa [HLL.out] at this)
            have hTwC := hTwB.trans hTB
            clear HMA HLA hTwB hTB
            go_upto_region 21 with (fail)
            go_loopw [14] (fun i wr => ∃ m : Nat, i = .int .i64 ((m : Int) - 1) ∧ m ≤ L1.length ∧ Hid (∃ v, StkIn w.heap.size 29 wr b v ((wofs L2).take m) ∧ wr.ownsRow w.heap.size 3 1 (.slice (some ⟨g8, 0, none⟩) L1.length c9) L1.length (ni L2) ∧ DisI b v (.slice (some ⟨g8, 0, none⟩) L1.length c9)) ∧ Tch [] w wr) (fun i _ => (intOf i + 1).toNat)
            case atStart => exact ⟨L1.length, rfl, Nat.le_refl _, Lib.hid ⟨_, by rw [show L1.length = (wofs L2).length by rw [wofs_len, HLL.out], List.take_length]; exact HMB.out, HLB.out, HD7.out⟩, hTwC⟩
            case round =>
              clear HMB HLB hTwC HD7
              obtain ⟨m, rfl, hm, HR0, hTr⟩ := hrel
              obtain ⟨v, hR⟩ := HR0.out
              have HR := Lib.hid hR
              clear hR HR0
              by_cases hm0 : m = 0
              · subst hm0
                have hPp := pop_any w.heap.size b v ((wofs L2).take 0) 1 wr HR.out.1 (by simp) (by omega)
                rw [show popOk ((wofs L2).take 0) 1 = false from by rw [List.take_zero]; decide] at hPp
                have HPp := Lib.hid hPp
                clear hPp
                have hneg : ¬ (0 : Int) ≤ ((0 : Nat) : Int) - 1 := by omega
                go_wp2_with (go_at_call 12; go_must (refine HPp.out.mono ?_; rintro e wC ⟨vo, vC, rfl, hoC, hMC, hTC⟩; have hTf := Turned.fresh_tch hTr hTC (fun x hx => (HR.out.1.lt hx).1); clear hoC hMC hTC))
                go_ret
                exact ⟨rfl, hTf⟩
              · obtain ⟨m, rfl⟩ : ∃ j, m = j + 1 := ⟨m - 1, by omega⟩
                have hml : m < L2.length := by rw [HLL.out]; omega
                have htl : ((wofs L2).take (m + 1)).length = m + 1 := by rw [List.length_take, wofs_len]; exact Nat.min_eq_left hml
                have hPp := pop_any w.heap.size b v ((wofs L2).take (m + 1)) 1 wr HR.out.1 (by rw [htl]; omega) (by omega)
                rw [show popOk ((wofs L2).take (m + 1)) 1 = true from by unfold popOk; rw [htl]; exact decide_eq_true (by omega), show popOut ((wofs L2).take (m + 1)) 1 = [wof ((L2.getD m 0 : Nat) : Int)] from by
                  unfold popOut outL
                  rw [htl, if_pos (by omega)]
                  show [((wofs L2).take (m + 1)).getD (m + 1 - 1 - 0) []] = _
                  rw [show m + 1 - 1 - 0 = m by omega, List.getD_eq_getElem?_getD, List.getElem?_take_of_lt (by omega), ← List.getD_eq_getElem?_getD, wofs_getD hml], show popL ((wofs L2).take (m + 1)) 1 = (wofs L2).take m from by
                  unfold popL
                  rw [htl, if_pos (by omega), List.take_take]
                  congr 1
                  show min (m + 1 - 1) (m + 1) = m
                  omega] at hPp
                have hxl := getD_lt HSL.out (by decide) m
                have HXX := Lib.hid (show L2.getD m 0 = L2.getD m 0 from rfl)
                obtain ⟨x, hx⟩ : ∃ x, x = L2.getD m 0 := ⟨_, rfl⟩
                rw [← hx] at hPp hxl
                have HPp := Lib.hid hPp
                have HX := Lib.hid hx.symm
                have HO := Lib.hid (fun w' => rOfW_any (x : Int) (by omega) w')
                clear hPp hx HXX htl
                have hpos : (0 : Int) ≤ ((m + 1 : Nat) : Int) - 1 := by omega
                have hnx : ((m + 1 : Nat) : Int) - 1 = (m : Int) := by omega
                rw [hnx] at hpos ⊢
                skip
                go_upto_region 24 with (go_at_call 12; go_must (refine HPp.out.mono ?_; rintro e wC ⟨vo, vC, rfl, hoC, hMC, hTC⟩; have HC := Lib.hid (And.intro hoC (And.intro hMC hTC)); clear hoC hMC hTC))
                obtain ⟨po, co, rfl, _, hpo⟩ := own_sliceW HC.out.1
                obtain ⟨go', rfl⟩ := hpo (by simp)
                have HO1 := Lib.hid (fun w' (h : Tch [] wC w') => (own_far HC.out.1 h (by simp) : w'.ownsRow wr.heap.size 37 32 (.slice (some ⟨go', 0, none⟩) 1 co) 1 (wcs [wof (x : Int)])))
                have HL2 := Lib.hid (own_turned HR.out.2.1 HR.out.2.2 HC.out.2.2)
                have HO2 := Lib.hid (fun w' (h : Tch [] wC w') => own_far HL2.out h (by simp))
                try simp only [Act.put, List.setIfInBounds_toArray, List.set_cons_zero, List.set_cons_succ]
                refine k_region (C := fun w' => Tch [] wC w') (by kernel_rfl) (by kernel_rfl) ((Tch.refl _ _).drew) ?_
                refine k_val (v := .bool true) rfl _ (.inl rfl) rfl ?_; try simp only [Act.put, List.setIfInBounds_toArray, List.set_cons_zero, List.set_cons_succ]
                refine k_notV (s := true) (t := false) rfl _ _ rfl rfl rfl ?_; try simp only [Act.put, List.setIfInBounds_toArray, List.set_cons_zero, List.set_cons_succ]
                refine k_val (v := .bool false) rfl _ (.inl rfl) rfl ?_; try simp only [Act.put, List.setIfInBounds_toArray, List.set_cons_zero, List.set_cons_succ]
                refine k_val (v := .slice (some ⟨go', 0, none⟩) 1 co) rfl _ (.inl rfl) rfl ?_; try simp only [Act.put, List.setIfInBounds_toArray, List.set_cons_zero, List.set_cons_succ]
                refine k_lenW (p := (some ⟨go', 0, none⟩)) (n := 1) (c := co) rfl _ rfl rfl ?_; try simp only [Act.put, List.setIfInBounds_toArray, List.set_cons_zero, List.set_cons_succ]
                refine k_neqI (m := (1 : Int)) (n := 1) (t := false) rfl _ _ _ rfl rfl rfl (decide_eq_false (by omega)) ?_; try simp only [Act.put, List.setIfInBounds_toArray, List.set_cons_zero, List.set_cons_succ]
                refine k_pickF (t := false) rfl _ _ _ rfl rfl rfl ?_; try simp only [Act.put, List.setIfInBounds_toArray, List.set_cons_zero, List.set_cons_succ]
                refine k_val (v := .bool false) rfl _ (.inl rfl) rfl ?_; try simp only [Act.put, List.setIfInBounds_toArray, List.set_cons_zero, List.set_cons_succ]
                refine k_val (v := .slice (some ⟨go', 0, none⟩) 1 co) rfl _ (.inl rfl) rfl ?_; try simp only [Act.put, List.setIfInBounds_toArray, List.set_cons_zero, List.set_cons_succ]
                refine k_in (v := .pointer (some ⟨go', 0, none⟩)) rfl (fun w' h => x_idxW0 _ _ rfl rfl rfl (by decide)) ?_; try simp only [Act.put, List.setIfInBounds_toArray, List.set_cons_zero, List.set_cons_succ]
                refine k_in (v := .agg (wv (wof (x : Int)))) rfl (fun w' h => x_ldW0 _ rfl rfl (HO1.out w' h) (by simp) rfl) ?_; try simp only [Act.put, List.setIfInBounds_toArray, List.set_cons_zero, List.set_cons_succ]
                refine k_val (v := .slice (some ⟨g8, 0, none⟩) L1.length c9) rfl _ (.inl rfl) rfl ?_; try simp only [Act.put, List.setIfInBounds_toArray, List.set_cons_zero, List.set_cons_succ]
                refine k_val (v := .int .i64 (m : Int)) rfl _ (.inl rfl) rfl ?_; try simp only [Act.put, List.setIfInBounds_toArray, List.set_cons_zero, List.set_cons_succ]
                refine k_in (v := .pointer (some ⟨g8, m, none⟩)) rfl (fun w' h => x_idxI _ _ rfl rfl rfl (by omega)) ?_; try simp only [Act.put, List.setIfInBounds_toArray, List.set_cons_zero, List.set_cons_succ]
                refine k_in (v := .int .i64 (x : Int)) rfl (fun w' h => x_ldI _ rfl rfl (HO2.out w' h) hml HX.out) ?_; try simp only [Act.put, List.setIfInBounds_toArray, List.set_cons_zero, List.set_cons_succ]
                refine k_callC1 (v := .agg (wv (wof (x : Int)))) rfl rfl rfl Try.call17 (fun w' h => (HO.out w').mono (fun e w'' q => ⟨q.1, h.trans q.2⟩)) ?_; try simp only [Act.put, List.setIfInBounds_toArray, List.set_cons_zero, List.set_cons_succ]
                refine k_in (v := .bool false) rfl (fun w' h => x_neqW (wof_ok _) _ _ _ rfl rfl rfl) ?_; try simp only [Act.put, List.setIfInBounds_toArray, List.set_cons_zero, List.set_cons_succ]
                refine k_pickF (t := false) rfl _ _ _ rfl rfl rfl ?_; try simp only [Act.put, List.setIfInBounds_toArray, List.set_cons_zero, List.set_cons_succ]
                refine k_end ?_
                intro wD hTD
                have HFF := Lib.hid (show StkIn w.heap.size 29 wD b vC ((wofs L2).take m) ∧ wD.ownsRow w.heap.size 3 1 (.slice (some ⟨g8, 0, none⟩) L1.length c9) L1.length (ni L2) ∧ DisI b vC (.slice (some ⟨g8, 0, none⟩) L1.length c9) from ⟨HC.out.2.1.call hTD, HO2.out _ hTD, dis_turned HR.out.2.2 HC.out.2.2 (fun j hj => (HR.out.2.1.lt j hj).2)⟩)
                have hTf := (Turned.fresh_tch hTr HC.out.2.2 (fun x hx => (HR.out.1.lt hx).1)).trans hTD
                clear HC HO1 HL2 HO2 HR hTr hTD
                go_wp2
                go_roundw
                case rel => first | exact ⟨m, by go_num, by omega, Lib.hid ⟨vC, HFF.out⟩, hTf⟩ | exact ⟨m, rfl, by omega, Lib.hid ⟨vC, HFF.out⟩⟩
                case measure => first | (simp [intOf]; done) | (simp [intOf]; omega)
      by_cases g2 : (k : Int) < d
      · have hdo : dupOk (wofs (List.range k)) d = false := by unfold dupOk; rw [wofs_len, hRl]; exact decide_eq_false (by omega)
        have hdI : dupI (List.range k) d = List.range k := if_neg (by rw [hRl]; omega)
        rw [hdo] at hD
        rw [hdI] at hD hdl
        have HDD := Lib.hid hD
        have HDL := Lib.hid hdl
        clear hD hdl hdo hdI
        go_upto_region 12 with (go_at_call 21; go_must (refine HDD.out.mono ?_; rintro e w4 ⟨v4, rfl, hM4, hT4⟩; have HM4 := Lib.hid hM4; have HT4 := Lib.hid hT4; clear hM4 hT4))
        have HL4 := Lib.hid (own_turned HM.out.2.1 HM.out.2.2 HT4.out)
        have HD4 := Lib.hid (dis_turned HM.out.2.2 HT4.out (fun j hj => (HM.out.2.1.lt j hj).2))
        have hTw4 := Turned.fresh_tch hT HT4.out (fun x hx => (HM.out.1.lt hx).1)
        clear HDD HM HT4 hT
        try simp only [Act.put, List.setIfInBounds_toArray, List.set_cons_zero, List.set_cons_succ]
        refine k_seq (C := fun w' => Tch [] w4 w') (Tch.refl _ _) ?_
        refine k_val (v := .int .i64 d) rfl _ (.inl rfl) rfl ?_; try simp only [Act.put, List.setIfInBounds_toArray, List.set_cons_zero, List.set_cons_succ]
        refine k_geqI (m := d) (n := 1) (t := true) rfl _ _ _ rfl rfl rfl (decide_eq_true (by omega)) ?_; try simp only [Act.put, List.setIfInBounds_toArray, List.set_cons_zero, List.set_cons_succ]
        refine k_val (v := .bool true) rfl _ (.inl rfl) rfl ?_; try simp only [Act.put, List.setIfInBounds_toArray, List.set_cons_zero, List.set_cons_succ]
        refine k_val (v := .int .i64 d) rfl _ (.inl rfl) rfl ?_; try simp only [Act.put, List.setIfInBounds_toArray, List.set_cons_zero, List.set_cons_succ]
        refine k_val (v := .int .i64 (k : Int)) rfl _ (.inl rfl) rfl ?_; try simp only [Act.put, List.setIfInBounds_toArray, List.set_cons_zero, List.set_cons_succ]
        refine k_leqI (m := d) (n := (k : Int)) (t := false) rfl _ _ _ rfl rfl rfl (decide_eq_false (by omega)) ?_; try simp only [Act.put, List.setIfInBounds_toArray, List.set_cons_zero, List.set_cons_succ]
        refine k_pickT (t := false) rfl _ _ _ rfl rfl rfl ?_; try simp only [Act.put, List.setIfInBounds_toArray, List.set_cons_zero, List.set_cons_succ]
        refine k_end ?_
        intro w5 hT5
        have HM5 := Lib.hid (HM4.out.call hT5)
        have HL5 := Lib.hid (own_far HL4.out hT5 (by simp))
        have hTw5 := hTw4.trans hT5
        clear HM4 HL4 hTw4 hT5
        have H1 := Lib.hid (And.intro HM5.out (And.intro HL5.out (And.intro HD4.out HDL.out)))
        have hTw1 := hTw5
        have hL1 : (List.range k).length ≤ 41 := by rw [hRl]; omega
        clear HM5 HL5 HD4 HDL hTw5 hRlt
        have hu9 := own_sliceI H1.out.2.1
        obtain ⟨p9, c9, rfl, _, hp9⟩ := hu9
        generalize hLd : List.range k = L1 at *
        clear hLd
        subst hRl
        have hSw := swap_any w.heap.size b v4 (wofs L1) s w5 H1.out.1 (by rw [wofs_len]; omega) HS.out
        rw [swapI_wofs] at hSw
        have hsl := swapI_lt H1.out.2.2.2 (by decide) s
        have hsn := swapI_len L1 s
        by_cases e1 : s < 1
        · have hso : swapOk (wofs L1) s = false := by unfold swapOk; rw [wofs_len]; exact decide_eq_false (by omega)
          have hsI : swapI L1 s = L1 := if_neg (by omega)
          rw [hso] at hSw
          rw [hsI] at hSw hsl
          have HSW := Lib.hid hSw
          have HSL := Lib.hid hsl
          clear hSw hsl hso hsI hsn
          go_upto_region 15 with (go_at_call 23; go_must (refine HSW.out.mono ?_; rintro e w7 ⟨v7, rfl, hM7, hT7⟩; have HM7 := Lib.hid hM7; have HT7 := Lib.hid hT7; clear hM7 hT7))
          have HL7 := Lib.hid (own_turned H1.out.2.1 H1.out.2.2.1 HT7.out)
          have HD7 := Lib.hid (dis_turned H1.out.2.2.1 HT7.out (fun j hj => (H1.out.2.1.lt j hj).2))
          have hTw7 := Turned.fresh_tch hTw1 HT7.out (fun x hx => (H1.out.1.lt hx).1)
          clear HSW H1 HT7 hTw1
          try simp only [Act.put, List.setIfInBounds_toArray, List.set_cons_zero, List.set_cons_succ]
          refine k_seq (C := fun w' => Tch [] w7 w') (Tch.refl _ _) ?_
          refine k_val (v := .slice p9 L1.length c9) rfl _ (.inl rfl) rfl ?_; try simp only [Act.put, List.setIfInBounds_toArray, List.set_cons_zero, List.set_cons_succ]
          refine k_lenI (p := p9) (n := L1.length) (c := c9) rfl _ rfl rfl ?_; try simp only [Act.put, List.setIfInBounds_toArray, List.set_cons_zero, List.set_cons_succ]
          refine k_sub (m := (L1.length : Int)) (n := 1) (s := ((L1.length : Int) - 1)) rfl _ _ _ _ rfl rfl rfl (by rw [IntKind.wrap_i64]; omega) ?_; try simp only [Act.put, List.setIfInBounds_toArray, List.set_cons_zero, List.set_cons_succ]
          refine k_val (v := .int .i64 (((L1.length : Int) - 1))) rfl _ (.inr rfl) rfl ?_; try simp only [Act.put, List.setIfInBounds_toArray, List.set_cons_zero, List.set_cons_succ]
          refine k_end ?_
          intro w8 hT8
          go_upto_region 16 with (fail)
          try simp only [Act.put, List.setIfInBounds_toArray, List.set_cons_zero, List.set_cons_succ]
          refine k_seq (C := fun w' => Tch [] w8 w') (Tch.refl _ _) ?_
          refine k_val (v := .int .i64 s) rfl _ (.inl rfl) rfl ?_; try simp only [Act.put, List.setIfInBounds_toArray, List.set_cons_zero, List.set_cons_succ]
          refine k_geqI (m := s) (n := 1) (t := false) rfl _ _ _ rfl rfl rfl (decide_eq_false (by omega)) ?_; try simp only [Act.put, List.setIfInBounds_toArray, List.set_cons_zero, List.set_cons_succ]
          refine k_val (v := .bool false) rfl _ (.inl rfl) rfl ?_; try simp only [Act.put, List.setIfInBounds_toArray, List.set_cons_zero, List.set_cons_succ]
          refine k_skip rfl rfl rfl rfl rfl ?_; try simp only [Act.put, List.setIfInBounds_toArray, List.set_cons_zero, List.set_cons_succ]
          refine k_skip rfl rfl rfl rfl rfl ?_; try simp only [Act.put, List.setIfInBounds_toArray, List.set_cons_zero, List.set_cons_succ]
          refine k_skip rfl rfl rfl rfl rfl ?_; try simp only [Act.put, List.setIfInBounds_toArray, List.set_cons_zero, List.set_cons_succ]
          refine k_pickF (t := false) rfl _ _ _ rfl rfl rfl ?_; try simp only [Act.put, List.setIfInBounds_toArray, List.set_cons_zero, List.set_cons_succ]
          refine k_end ?_
          intro w9 hT9
          have HM9 := Lib.hid (HM7.out.call (hT8.trans hT9))
          have HL9 := Lib.hid (own_far HL7.out (hT8.trans hT9) (by simp))
          have hTw9 := hTw7.trans (hT8.trans hT9)
          clear HM7 HL7 hTw7 hT8 hT9
          have hz := fun w' (h : Tch [] w9 w') => (len_any _ _ _ _ w' (HM9.out.call h)).mono (fun e w'' q => And.intro q.1 (q.2 ▸ h : Tch [] w9 w''))
          rw [wofs_len] at hz
          have HZ := Lib.hid hz
          clear hz
          go_upto_region 18 with (fail)
          try simp only [Act.put, List.setIfInBounds_toArray, List.set_cons_zero, List.set_cons_succ]
          refine k_seq (C := fun w' => Tch [] w9 w') (Tch.refl _ _) ?_
          refine k_val (v := .bool false) rfl _ (.inl rfl) rfl ?_; try simp only [Act.put, List.setIfInBounds_toArray, List.set_cons_zero, List.set_cons_succ]
          refine k_val (v := .int .i64 d) rfl _ (.inl rfl) rfl ?_; try simp only [Act.put, List.setIfInBounds_toArray, List.set_cons_zero, List.set_cons_succ]
          refine k_geqI (m := d) (n := 1) (t := true) rfl _ _ _ rfl rfl rfl (decide_eq_true (by omega)) ?_; try simp only [Act.put, List.setIfInBounds_toArray, List.set_cons_zero, List.set_cons_succ]
          refine k_val (v := .bool true) rfl _ (.inl rfl) rfl ?_; try simp only [Act.put, List.setIfInBounds_toArray, List.set_cons_zero, List.set_cons_succ]
          refine k_val (v := .int .i64 d) rfl _ (.inl rfl) rfl ?_; try simp only [Act.put, List.setIfInBounds_toArray, List.set_cons_zero, List.set_cons_succ]
          refine k_val (v := .int .i64 (L1.length : Int)) rfl _ (.inl rfl) rfl ?_; try simp only [Act.put, List.setIfInBounds_toArray, List.set_cons_zero, List.set_cons_succ]
          refine k_leqI (m := d) (n := (L1.length : Int)) (t := false) rfl _ _ _ rfl rfl rfl (decide_eq_false (by omega)) ?_; try simp only [Act.put, List.setIfInBounds_toArray, List.set_cons_zero, List.set_cons_succ]
          refine k_pickT (t := false) rfl _ _ _ rfl rfl rfl ?_; try simp only [Act.put, List.setIfInBounds_toArray, List.set_cons_zero, List.set_cons_succ]
          refine k_neqB (s := false) (r := false) (t := false) rfl _ _ _ rfl rfl rfl rfl ?_; try simp only [Act.put, List.setIfInBounds_toArray, List.set_cons_zero, List.set_cons_succ]
          refine k_val (v := .bool false) rfl _ (.inl rfl) rfl ?_; try simp only [Act.put, List.setIfInBounds_toArray, List.set_cons_zero, List.set_cons_succ]
          refine k_val (v := .bool false) rfl _ (.inl rfl) rfl ?_; try simp only [Act.put, List.setIfInBounds_toArray, List.set_cons_zero, List.set_cons_succ]
          refine k_val (v := .int .i64 s) rfl _ (.inl rfl) rfl ?_; try simp only [Act.put, List.setIfInBounds_toArray, List.set_cons_zero, List.set_cons_succ]
          refine k_geqI (m := s) (n := 1) (t := false) rfl _ _ _ rfl rfl rfl (decide_eq_false (by omega)) ?_; try simp only [Act.put, List.setIfInBounds_toArray, List.set_cons_zero, List.set_cons_succ]
          refine k_val (v := .bool false) rfl _ (.inl rfl) rfl ?_; try simp only [Act.put, List.setIfInBounds_toArray, List.set_cons_zero, List.set_cons_succ]
          refine k_skip rfl rfl rfl rfl rfl ?_; try simp only [Act.put, List.setIfInBounds_toArray, List.set_cons_zero, List.set_cons_succ]
          refine k_skip rfl rfl rfl rfl rfl ?_; try simp only [Act.put, List.setIfInBounds_toArray, List.set_cons_zero, List.set_cons_succ]
          refine k_skip rfl rfl rfl rfl rfl ?_; try simp only [Act.put, List.setIfInBounds_toArray, List.set_cons_zero, List.set_cons_succ]
          refine k_pickF (t := false) rfl _ _ _ rfl rfl rfl ?_; try simp only [Act.put, List.setIfInBounds_toArray, List.set_cons_zero, List.set_cons_succ]
          refine k_neqB (s := false) (r := false) (t := false) rfl _ _ _ rfl rfl rfl rfl ?_; try simp only [Act.put, List.setIfInBounds_toArray, List.set_cons_zero, List.set_cons_succ]
          refine k_pickF (t := false) rfl _ _ _ rfl rfl rfl ?_; try simp only [Act.put, List.setIfInBounds_toArray, List.set_cons_zero, List.set_cons_succ]
          refine k_val (v := .bool false) rfl _ (.inl rfl) rfl ?_; try simp only [Act.put, List.setIfInBounds_toArray, List.set_cons_zero, List.set_cons_succ]
          refine k_callC1 (v := .int .i64 (L1.length : Int)) rfl rfl rfl Try.call11 (fun w' h => HZ.out w' h) ?_; try simp only [Act.put, List.setIfInBounds_toArray, List.set_cons_zero, List.set_cons_succ]
          refine k_val (v := .slice p9 L1.length c9) rfl _ (.inl rfl) rfl ?_; try simp only [Act.put, List.setIfInBounds_toArray, List.set_cons_zero, List.set_cons_succ]
          refine k_lenI (p := p9) (n := L1.length) (c := c9) rfl _ rfl rfl ?_; try simp only [Act.put, List.setIfInBounds_toArray, List.set_cons_zero, List.set_cons_succ]
          refine k_neqI (m := (L1.length : Int)) (n := (L1.length : Int)) (t := false) rfl _ _ _ rfl rfl rfl (decide_eq_false (by omega)) ?_; try simp only [Act.put, List.setIfInBounds_toArray, List.set_cons_zero, List.set_cons_succ]
          refine k_pickF (t := false) rfl _ _ _ rfl rfl rfl ?_; try simp only [Act.put, List.setIfInBounds_toArray, List.set_cons_zero, List.set_cons_succ]
          refine k_end ?_
          intro wA hTA
          have HMA := Lib.hid (HM9.out.call hTA)
          have HLA := Lib.hid (own_far HL9.out hTA (by simp))
          have hTwB := hTw9.trans hTA
          clear HM9 HL9 hTw9 hTA HZ
          go_upto_region 20 with (fail)
          try simp only [Act.put, List.setIfInBounds_toArray, List.set_cons_zero, List.set_cons_succ]
          refine k_seq (C := fun w' => Tch [] wA w') (Tch.refl _ _) ?_
          refine k_val (v := .slice p9 L1.length c9) rfl _ (.inl rfl) rfl ?_; try simp only [Act.put, List.setIfInBounds_toArray, List.set_cons_zero, List.set_cons_succ]
          refine k_lenI (p := p9) (n := L1.length) (c := c9) rfl _ rfl rfl ?_; try simp only [Act.put, List.setIfInBounds_toArray, List.set_cons_zero, List.set_cons_succ]
          refine k_sub (m := (L1.length : Int)) (n := 1) (s := (L1.length : Int) - 1) rfl _ _ _ _ rfl rfl rfl (by rw [IntKind.wrap_i64]; omega) ?_; try simp only [Act.put, List.setIfInBounds_toArray, List.set_cons_zero, List.set_cons_succ]
          refine k_val (v := .int .i64 ((L1.length : Int) - 1)) rfl _ (.inr rfl) rfl ?_; try simp only [Act.put, List.setIfInBounds_toArray, List.set_cons_zero, List.set_cons_succ]
          refine k_end ?_
          intro wB hTB
          have HMB := Lib.hid (HMA.out.call hTB)
          have HLB := Lib.hid (show wB.ownsRow w.heap.size 3 1 (.slice p9 L1.length c9) L1.length (ni L1) from by have := own_far HLA.out hTB (by simp); exact this)
          have hTwC := hTwB.trans hTB
          clear HMA HLA hTwB hTB
          go_upto_region 21 with (fail)
          go_loopw [14] (fun i wr => ∃ m : Nat, i = .int .i64 ((m : Int) - 1) ∧ m ≤ L1.length ∧ Hid (∃ v, StkIn w.heap.size 29 wr b v ((wofs L1).take m) ∧ wr.ownsRow w.heap.size 3 1 (.slice p9 L1.length c9) L1.length (ni L1) ∧ DisI b v (.slice p9 L1.length c9)) ∧ Tch [] w wr) (fun i _ => (intOf i + 1).toNat)
          case atStart => exact ⟨L1.length, rfl, Nat.le_refl _, Lib.hid ⟨_, by rw [show L1.length = (wofs L1).length by rw [wofs_len], List.take_length]; exact HMB.out, HLB.out, HD7.out⟩, hTwC⟩
          case round =>
            clear HMB HLB hTwC HD7
            obtain ⟨m, rfl, hm, HR0, hTr⟩ := hrel
            obtain ⟨v, hR⟩ := HR0.out
            have HR := Lib.hid hR
            clear hR HR0
            by_cases hm0 : m = 0
            · subst hm0
              have hPp := pop_any w.heap.size b v ((wofs L1).take 0) 1 wr HR.out.1 (by simp) (by omega)
              rw [show popOk ((wofs L1).take 0) 1 = false from by rw [List.take_zero]; decide] at hPp
              have HPp := Lib.hid hPp
              clear hPp
              have hneg : ¬ (0 : Int) ≤ ((0 : Nat) : Int) - 1 := by omega
              go_wp2_with (go_at_call 12; go_must (refine HPp.out.mono ?_; rintro e wC ⟨vo, vC, rfl, hoC, hMC, hTC⟩; have hTf := Turned.fresh_tch hTr hTC (fun x hx => (HR.out.1.lt hx).1); clear hoC hMC hTC))
              go_ret
              exact ⟨rfl, hTf⟩
            · obtain ⟨m, rfl⟩ : ∃ j, m = j + 1 := ⟨m - 1, by omega⟩
              have hml : m < L1.length := by omega
              have htl : ((wofs L1).take (m + 1)).length = m + 1 := by rw [List.length_take, wofs_len]; exact Nat.min_eq_left hml
              have hPp := pop_any w.heap.size b v ((wofs L1).take (m + 1)) 1 wr HR.out.1 (by rw [htl]; omega) (by omega)
              rw [show popOk ((wofs L1).take (m + 1)) 1 = true from by unfold popOk; rw [htl]; exact decide_eq_true (by omega), show popOut ((wofs L1).take (m + 1)) 1 = [wof ((L1.getD m 0 : Nat) : Int)] from by
                unfold popOut outL
                rw [htl, if_pos (by omega)]
                show [((wofs L1).take (m + 1)).getD (m + 1 - 1 - 0) []] = _
                rw [show m + 1 - 1 - 0 = m by omega, List.getD_eq_getElem?_getD, List.getElem?_take_of_lt (by omega), ← List.getD_eq_getElem?_getD, wofs_getD hml], show popL ((wofs L1).take (m + 1)) 1 = (wofs L1).take m from by
                unfold popL
                rw [htl, if_pos (by omega), List.take_take]
                congr 1
                show min (m + 1 - 1) (m + 1) = m
                omega] at hPp
              have hxl := getD_lt HSL.out (by decide) m
              have HXX := Lib.hid (show L1.getD m 0 = L1.getD m 0 from rfl)
              obtain ⟨x, hx⟩ : ∃ x, x = L1.getD m 0 := ⟨_, rfl⟩
              rw [← hx] at hPp hxl
              have HPp := Lib.hid hPp
              have HX := Lib.hid hx.symm
              have HO := Lib.hid (fun w' => rOfW_any (x : Int) (by omega) w')
              clear hPp hx HXX htl
              have hpos : (0 : Int) ≤ ((m + 1 : Nat) : Int) - 1 := by omega
              have hnx : ((m + 1 : Nat) : Int) - 1 = (m : Int) := by omega
              rw [hnx] at hpos ⊢
              obtain ⟨g8, rfl⟩ := hp9 (by omega)
              go_upto_region 24 with (go_at_call 12; go_must (refine HPp.out.mono ?_; rintro e wC ⟨vo, vC, rfl, hoC, hMC, hTC⟩; have HC := Lib.hid (And.intro hoC (And.intro hMC hTC)); clear hoC hMC hTC))
              obtain ⟨po, co, rfl, _, hpo⟩ := own_sliceW HC.out.1
              obtain ⟨go', rfl⟩ := hpo (by simp)
              have HO1 := Lib.hid (fun w' (h : Tch [] wC w') => (own_far HC.out.1 h (by simp) : w'.ownsRow wr.heap.size 37 32 (.slice (some ⟨go', 0, none⟩) 1 co) 1 (wcs [wof (x : Int)])))
              have HL2 := Lib.hid (own_turned HR.out.2.1 HR.out.2.2 HC.out.2.2)
              have HO2 := Lib.hid (fun w' (h : Tch [] wC w') => own_far HL2.out h (by simp))
              try simp only [Act.put, List.setIfInBounds_toArray, List.set_cons_zero, List.set_cons_succ]
              refine k_region (C := fun w' => Tch [] wC w') (by kernel_rfl) (by kernel_rfl) ((Tch.refl _ _).drew) ?_
              refine k_val (v := .bool true) rfl _ (.inl rfl) rfl ?_; try simp only [Act.put, List.setIfInBounds_toArray, List.set_cons_zero, List.set_cons_succ]
              refine k_notV (s := true) (t := false) rfl _ _ rfl rfl rfl ?_; try simp only [Act.put, List.setIfInBounds_toArray, List.set_cons_zero, List.set_cons_succ]
              refine k_val (v := .bool false) rfl _ (.inl rfl) rfl ?_; try simp only [Act.put, List.setIfInBounds_toArray, List.set_cons_zero, List.set_cons_succ]
              refine k_val (v := .slice (some ⟨go', 0, none⟩) 1 co) rfl _ (.inl rfl) rfl ?_; try simp only [Act.put, List.setIfInBounds_toArray, List.set_cons_zero, List.set_cons_succ]
              refine k_lenW (p := (some ⟨go', 0, none⟩)) (n := 1) (c := co) rfl _ rfl rfl ?_; try simp only [Act.put, List.setIfInBounds_toArray, List.set_cons_zero, List.set_cons_succ]
              refine k_neqI (m := (1 : Int)) (n := 1) (t := false) rfl _ _ _ rfl rfl rfl (decide_eq_false (by omega)) ?_; try simp only [Act.put, List.setIfInBounds_toArray, List.set_cons_zero, List.set_cons_succ]
              refine k_pickF (t := false) rfl _ _ _ rfl rfl rfl ?_; try simp only [Act.put, List.setIfInBounds_toArray, List.set_cons_zero, List.set_cons_succ]
              refine k_val (v := .bool false) rfl _ (.inl rfl) rfl ?_; try simp only [Act.put, List.setIfInBounds_toArray, List.set_cons_zero, List.set_cons_succ]
              refine k_val (v := .slice (some ⟨go', 0, none⟩) 1 co) rfl _ (.inl rfl) rfl ?_; try simp only [Act.put, List.setIfInBounds_toArray, List.set_cons_zero, List.set_cons_succ]
              refine k_in (v := .pointer (some ⟨go', 0, none⟩)) rfl (fun w' h => x_idxW0 _ _ rfl rfl rfl (by decide)) ?_; try simp only [Act.put, List.setIfInBounds_toArray, List.set_cons_zero, List.set_cons_succ]
              refine k_in (v := .agg (wv (wof (x : Int)))) rfl (fun w' h => x_ldW0 _ rfl rfl (HO1.out w' h) (by simp) rfl) ?_; try simp only [Act.put, List.setIfInBounds_toArray, List.set_cons_zero, List.set_cons_succ]
              refine k_val (v := .slice (some ⟨g8, 0, none⟩) L1.length c9) rfl _ (.inl rfl) rfl ?_; try simp only [Act.put, List.setIfInBounds_toArray, List.set_cons_zero, List.set_cons_succ]
              refine k_val (v := .int .i64 (m : Int)) rfl _ (.inl rfl) rfl ?_; try simp only [Act.put, List.setIfInBounds_toArray, List.set_cons_zero, List.set_cons_succ]
              refine k_in (v := .pointer (some ⟨g8, m, none⟩)) rfl (fun w' h => x_idxI _ _ rfl rfl rfl (by omega)) ?_; try simp only [Act.put, List.setIfInBounds_toArray, List.set_cons_zero, List.set_cons_succ]
              refine k_in (v := .int .i64 (x : Int)) rfl (fun w' h => x_ldI _ rfl rfl (HO2.out w' h) hml HX.out) ?_; try simp only [Act.put, List.setIfInBounds_toArray, List.set_cons_zero, List.set_cons_succ]
              refine k_callC1 (v := .agg (wv (wof (x : Int)))) rfl rfl rfl Try.call17 (fun w' h => (HO.out w').mono (fun e w'' q => ⟨q.1, h.trans q.2⟩)) ?_; try simp only [Act.put, List.setIfInBounds_toArray, List.set_cons_zero, List.set_cons_succ]
              refine k_in (v := .bool false) rfl (fun w' h => x_neqW (wof_ok _) _ _ _ rfl rfl rfl) ?_; try simp only [Act.put, List.setIfInBounds_toArray, List.set_cons_zero, List.set_cons_succ]
              refine k_pickF (t := false) rfl _ _ _ rfl rfl rfl ?_; try simp only [Act.put, List.setIfInBounds_toArray, List.set_cons_zero, List.set_cons_succ]
              refine k_end ?_
              intro wD hTD
              have HFF := Lib.hid (show StkIn w.heap.size 29 wD b vC ((wofs L1).take m) ∧ wD.ownsRow w.heap.size 3 1 (.slice (some ⟨g8, 0, none⟩) L1.length c9) L1.length (ni L1) ∧ DisI b vC (.slice (some ⟨g8, 0, none⟩) L1.length c9) from ⟨HC.out.2.1.call hTD, HO2.out _ hTD, dis_turned HR.out.2.2 HC.out.2.2 (fun j hj => (HR.out.2.1.lt j hj).2)⟩)
              have hTf := (Turned.fresh_tch hTr HC.out.2.2 (fun x hx => (HR.out.1.lt hx).1)).trans hTD
              clear HC HO1 HL2 HO2 HR hTr hTD
              go_wp2
              go_roundw
              case rel => first | exact ⟨m, by go_num, by omega, Lib.hid ⟨vC, HFF.out⟩, hTf⟩ | exact ⟨m, rfl, by omega, Lib.hid ⟨vC, HFF.out⟩⟩
              case measure => first | (simp [intOf]; done) | (simp [intOf]; omega)
        by_cases e2 : (L1.length : Int) - 1 < s
        · have hso : swapOk (wofs L1) s = false := by unfold swapOk; rw [wofs_len]; exact decide_eq_false (by omega)
          have hsI : swapI L1 s = L1 := if_neg (by omega)
          rw [hso] at hSw
          rw [hsI] at hSw hsl
          have HSW := Lib.hid hSw
          have HSL := Lib.hid hsl
          clear hSw hsl hso hsI hsn
          go_upto_region 15 with (go_at_call 23; go_must (refine HSW.out.mono ?_; rintro e w7 ⟨v7, rfl, hM7, hT7⟩; have HM7 := Lib.hid hM7; have HT7 := Lib.hid hT7; clear hM7 hT7))
          have HL7 := Lib.hid (own_turned H1.out.2.1 H1.out.2.2.1 HT7.out)
          have HD7 := Lib.hid (dis_turned H1.out.2.2.1 HT7.out (fun j hj => (H1.out.2.1.lt j hj).2))
          have hTw7 := Turned.fresh_tch hTw1 HT7.out (fun x hx => (H1.out.1.lt hx).1)
          clear HSW H1 HT7 hTw1
          try simp only [Act.put, List.setIfInBounds_toArray, List.set_cons_zero, List.set_cons_succ]
          refine k_seq (C := fun w' => Tch [] w7 w') (Tch.refl _ _) ?_
          refine k_val (v := .slice p9 L1.length c9) rfl _ (.inl rfl) rfl ?_; try simp only [Act.put, List.setIfInBounds_toArray, List.set_cons_zero, List.set_cons_succ]
          refine k_lenI (p := p9) (n := L1.length) (c := c9) rfl _ rfl rfl ?_; try simp only [Act.put, List.setIfInBounds_toArray, List.set_cons_zero, List.set_cons_succ]
          refine k_sub (m := (L1.length : Int)) (n := 1) (s := ((L1.length : Int) - 1)) rfl _ _ _ _ rfl rfl rfl (by rw [IntKind.wrap_i64]; omega) ?_; try simp only [Act.put, List.setIfInBounds_toArray, List.set_cons_zero, List.set_cons_succ]
          refine k_val (v := .int .i64 (((L1.length : Int) - 1))) rfl _ (.inr rfl) rfl ?_; try simp only [Act.put, List.setIfInBounds_toArray, List.set_cons_zero, List.set_cons_succ]
          refine k_end ?_
          intro w8 hT8
          go_upto_region 16 with (fail)
          try simp only [Act.put, List.setIfInBounds_toArray, List.set_cons_zero, List.set_cons_succ]
          refine k_seq (C := fun w' => Tch [] w8 w') (Tch.refl _ _) ?_
          refine k_val (v := .int .i64 s) rfl _ (.inl rfl) rfl ?_; try simp only [Act.put, List.setIfInBounds_toArray, List.set_cons_zero, List.set_cons_succ]
          refine k_geqI (m := s) (n := 1) (t := true) rfl _ _ _ rfl rfl rfl (decide_eq_true (by omega)) ?_; try simp only [Act.put, List.setIfInBounds_toArray, List.set_cons_zero, List.set_cons_succ]
          refine k_val (v := .bool true) rfl _ (.inl rfl) rfl ?_; try simp only [Act.put, List.setIfInBounds_toArray, List.set_cons_zero, List.set_cons_succ]
          refine k_val (v := .int .i64 s) rfl _ (.inl rfl) rfl ?_; try simp only [Act.put, List.setIfInBounds_toArray, List.set_cons_zero, List.set_cons_succ]
          refine k_val (v := .int .i64 ((L1.length : Int) - 1)) rfl _ (.inl rfl) rfl ?_; try simp only [Act.put, List.setIfInBounds_toArray, List.set_cons_zero, List.set_cons_succ]
          refine k_leqI (m := s) (n := ((L1.length : Int) - 1)) (t := false) rfl _ _ _ rfl rfl rfl (decide_eq_false (by omega)) ?_; try simp only [Act.put, List.setIfInBounds_toArray, List.set_cons_zero, List.set_cons_succ]
          refine k_pickT (t := false) rfl _ _ _ rfl rfl rfl ?_; try simp only [Act.put, List.setIfInBounds_toArray, List.set_cons_zero, List.set_cons_succ]
          refine k_end ?_
          intro w9 hT9
          have HM9 := Lib.hid (HM7.out.call (hT8.trans hT9))
          have HL9 := Lib.hid (own_far HL7.out (hT8.trans hT9) (by simp))
          have hTw9 := hTw7.trans (hT8.trans hT9)
          clear HM7 HL7 hTw7 hT8 hT9
          have hz := fun w' (h : Tch [] w9 w') => (len_any _ _ _ _ w' (HM9.out.call h)).mono (fun e w'' q => And.intro q.1 (q.2 ▸ h : Tch [] w9 w''))
          rw [wofs_len] at hz
          have HZ := Lib.hid hz
          clear hz
          go_upto_region 18 with (fail)
          try simp only [Act.put, List.setIfInBounds_toArray, List.set_cons_zero, List.set_cons_succ]
          refine k_seq (C := fun w' => Tch [] w9 w') (Tch.refl _ _) ?_
          refine k_val (v := .bool false) rfl _ (.inl rfl) rfl ?_; try simp only [Act.put, List.setIfInBounds_toArray, List.set_cons_zero, List.set_cons_succ]
          refine k_val (v := .int .i64 d) rfl _ (.inl rfl) rfl ?_; try simp only [Act.put, List.setIfInBounds_toArray, List.set_cons_zero, List.set_cons_succ]
          refine k_geqI (m := d) (n := 1) (t := true) rfl _ _ _ rfl rfl rfl (decide_eq_true (by omega)) ?_; try simp only [Act.put, List.setIfInBounds_toArray, List.set_cons_zero, List.set_cons_succ]
          refine k_val (v := .bool true) rfl _ (.inl rfl) rfl ?_; try simp only [Act.put, List.setIfInBounds_toArray, List.set_cons_zero, List.set_cons_succ]
          refine k_val (v := .int .i64 d) rfl _ (.inl rfl) rfl ?_; try simp only [Act.put, List.setIfInBounds_toArray, List.set_cons_zero, List.set_cons_succ]
          refine k_val (v := .int .i64 (L1.length : Int)) rfl _ (.inl rfl) rfl ?_; try simp only [Act.put, List.setIfInBounds_toArray, List.set_cons_zero, List.set_cons_succ]
          refine k_leqI (m := d) (n := (L1.length : Int)) (t := false) rfl _ _ _ rfl rfl rfl (decide_eq_false (by omega)) ?_; try simp only [Act.put, List.setIfInBounds_toArray, List.set_cons_zero, List.set_cons_succ]
          refine k_pickT (t := false) rfl _ _ _ rfl rfl rfl ?_; try simp only [Act.put, List.setIfInBounds_toArray, List.set_cons_zero, List.set_cons_succ]
          refine k_neqB (s := false) (r := false) (t := false) rfl _ _ _ rfl rfl rfl rfl ?_; try simp only [Act.put, List.setIfInBounds_toArray, List.set_cons_zero, List.set_cons_succ]
          refine k_val (v := .bool false) rfl _ (.inl rfl) rfl ?_; try simp only [Act.put, List.setIfInBounds_toArray, List.set_cons_zero, List.set_cons_succ]
          refine k_val (v := .bool false) rfl _ (.inl rfl) rfl ?_; try simp only [Act.put, List.setIfInBounds_toArray, List.set_cons_zero, List.set_cons_succ]
          refine k_val (v := .int .i64 s) rfl _ (.inl rfl) rfl ?_; try simp only [Act.put, List.setIfInBounds_toArray, List.set_cons_zero, List.set_cons_succ]
          refine k_geqI (m := s) (n := 1) (t := true) rfl _ _ _ rfl rfl rfl (decide_eq_true (by omega)) ?_; try simp only [Act.put, List.setIfInBounds_toArray, List.set_cons_zero, List.set_cons_succ]
          refine k_val (v := .bool true) rfl _ (.inl rfl) rfl ?_; try simp only [Act.put, List.setIfInBounds_toArray, List.set_cons_zero, List.set_cons_succ]
          refine k_val (v := .int .i64 s) rfl _ (.inl rfl) rfl ?_; try simp only [Act.put, List.setIfInBounds_toArray, List.set_cons_zero, List.set_cons_succ]
          refine k_val (v := .int .i64 ((L1.length : Int) - 1)) rfl _ (.inl rfl) rfl ?_; try simp only [Act.put, List.setIfInBounds_toArray, List.set_cons_zero, List.set_cons_succ]
          refine k_leqI (m := s) (n := ((L1.length : Int) - 1)) (t := false) rfl _ _ _ rfl rfl rfl (decide_eq_false (by omega)) ?_; try simp only [Act.put, List.setIfInBounds_toArray, List.set_cons_zero, List.set_cons_succ]
          refine k_pickT (t := false) rfl _ _ _ rfl rfl rfl ?_; try simp only [Act.put, List.setIfInBounds_toArray, List.set_cons_zero, List.set_cons_succ]
          refine k_neqB (s := false) (r := false) (t := false) rfl _ _ _ rfl rfl rfl rfl ?_; try simp only [Act.put, List.setIfInBounds_toArray, List.set_cons_zero, List.set_cons_succ]
          refine k_pickF (t := false) rfl _ _ _ rfl rfl rfl ?_; try simp only [Act.put, List.setIfInBounds_toArray, List.set_cons_zero, List.set_cons_succ]
          refine k_val (v := .bool false) rfl _ (.inl rfl) rfl ?_; try simp only [Act.put, List.setIfInBounds_toArray, List.set_cons_zero, List.set_cons_succ]
          refine k_callC1 (v := .int .i64 (L1.length : Int)) rfl rfl rfl Try.call11 (fun w' h => HZ.out w' h) ?_; try simp only [Act.put, List.setIfInBounds_toArray, List.set_cons_zero, List.set_cons_succ]
          refine k_val (v := .slice p9 L1.length c9) rfl _ (.inl rfl) rfl ?_; try simp only [Act.put, List.setIfInBounds_toArray, List.set_cons_zero, List.set_cons_succ]
          refine k_lenI (p := p9) (n := L1.length) (c := c9) rfl _ rfl rfl ?_; try simp only [Act.put, List.setIfInBounds_toArray, List.set_cons_zero, List.set_cons_succ]
          refine k_neqI (m := (L1.length : Int)) (n := (L1.length : Int)) (t := false) rfl _ _ _ rfl rfl rfl (decide_eq_false (by omega)) ?_; try simp only [Act.put, List.setIfInBounds_toArray, List.set_cons_zero, List.set_cons_succ]
          refine k_pickF (t := false) rfl _ _ _ rfl rfl rfl ?_; try simp only [Act.put, List.setIfInBounds_toArray, List.set_cons_zero, List.set_cons_succ]
          refine k_end ?_
          intro wA hTA
          have HMA := Lib.hid (HM9.out.call hTA)
          have HLA := Lib.hid (own_far HL9.out hTA (by simp))
          have hTwB := hTw9.trans hTA
          clear HM9 HL9 hTw9 hTA HZ
          go_upto_region 20 with (fail)
          try simp only [Act.put, List.setIfInBounds_toArray, List.set_cons_zero, List.set_cons_succ]
          refine k_seq (C := fun w' => Tch [] wA w') (Tch.refl _ _) ?_
          refine k_val (v := .slice p9 L1.length c9) rfl _ (.inl rfl) rfl ?_; try simp only [Act.put, List.setIfInBounds_toArray, List.set_cons_zero, List.set_cons_succ]
          refine k_lenI (p := p9) (n := L1.length) (c := c9) rfl _ rfl rfl ?_; try simp only [Act.put, List.setIfInBounds_toArray, List.set_cons_zero, List.set_cons_succ]
          refine k_sub (m := (L1.length : Int)) (n := 1) (s := (L1.length : Int) - 1) rfl _ _ _ _ rfl rfl rfl (by rw [IntKind.wrap_i64]; omega) ?_; try simp only [Act.put, List.setIfInBounds_toArray, List.set_cons_zero, List.set_cons_succ]
          refine k_val (v := .int .i64 ((L1.length : Int) - 1)) rfl _ (.inr rfl) rfl ?_; try simp only [Act.put, List.setIfInBounds_toArray, List.set_cons_zero, List.set_cons_succ]
          refine k_end ?_
          intro wB hTB
          have HMB := Lib.hid (HMA.out.call hTB)
          have HLB := Lib.hid (show wB.ownsRow w.heap.size 3 1 (.slice p9 L1.length c9) L1.length (ni L1) from by have := own_far HLA.out hTB (by simp); exact this)
          have hTwC := hTwB.trans hTB
          clear HMA HLA hTwB hTB
          go_upto_region 21 with (fail)
          go_loopw [14] (fun i wr => ∃ m : Nat, i = .int .i64 ((m : Int) - 1) ∧ m ≤ L1.length ∧ Hid (∃ v, StkIn w.heap.size 29 wr b v ((wofs L1).take m) ∧ wr.ownsRow w.heap.size 3 1 (.slice p9 L1.length c9) L1.length (ni L1) ∧ DisI b v (.slice p9 L1.length c9)) ∧ Tch [] w wr) (fun i _ => (intOf i + 1).toNat)
          case atStart => exact ⟨L1.length, rfl, Nat.le_refl _, Lib.hid ⟨_, by rw [show L1.length = (wofs L1).length by rw [wofs_len], List.take_length]; exact HMB.out, HLB.out, HD7.out⟩, hTwC⟩
          case round =>
            clear HMB HLB hTwC HD7
            obtain ⟨m, rfl, hm, HR0, hTr⟩ := hrel
            obtain ⟨v, hR⟩ := HR0.out
            have HR := Lib.hid hR
            clear hR HR0
            by_cases hm0 : m = 0
            · subst hm0
              have hPp := pop_any w.heap.size b v ((wofs L1).take 0) 1 wr HR.out.1 (by simp) (by omega)
              rw [show popOk ((wofs L1).take 0) 1 = false from by rw [List.take_zero]; decide] at hPp
              have HPp := Lib.hid hPp
              clear hPp
              have hneg : ¬ (0 : Int) ≤ ((0 : Nat) : Int) - 1 := by omega
              go_wp2_with (go_at_call 12; go_must (refine HPp.out.mono ?_; rintro e wC ⟨vo, vC, rfl, hoC, hMC, hTC⟩; have hTf := Turned.fresh_tch hTr hTC (fun x hx => (HR.out.1.lt hx).1); clear hoC hMC hTC))
              go_ret
              exact ⟨rfl, hTf⟩
            · obtain ⟨m, rfl⟩ : ∃ j, m = j + 1 := ⟨m - 1, by omega⟩
              have hml : m < L1.length := by omega
              have htl : ((wofs L1).take (m + 1)).length = m + 1 := by rw [List.length_take, wofs_len]; exact Nat.min_eq_left hml
              have hPp := pop_any w.heap.size b v ((wofs L1).take (m + 1)) 1 wr HR.out.1 (by rw [htl]; omega) (by omega)
              rw [show popOk ((wofs L1).take (m + 1)) 1 = true from by unfold popOk; rw [htl]; exact decide_eq_true (by omega), show popOut ((wofs L1).take (m + 1)) 1 = [wof ((L1.getD m 0 : Nat) : Int)] from by
                unfold popOut outL
                rw [htl, if_pos (by omega)]
                show [((wofs L1).take (m + 1)).getD (m + 1 - 1 - 0) []] = _
                rw [show m + 1 - 1 - 0 = m by omega, List.getD_eq_getElem?_getD, List.getElem?_take_of_lt (by omega), ← List.getD_eq_getElem?_getD, wofs_getD hml], show popL ((wofs L1).take (m + 1)) 1 = (wofs L1).take m from by
                unfold popL
                rw [htl, if_pos (by omega), List.take_take]
                congr 1
                show min (m + 1 - 1) (m + 1) = m
                omega] at hPp
              have hxl := getD_lt HSL.out (by decide) m
              have HXX := Lib.hid (show L1.getD m 0 = L1.getD m 0 from rfl)
              obtain ⟨x, hx⟩ : ∃ x, x = L1.getD m 0 := ⟨_, rfl⟩
              rw [← hx] at hPp hxl
              have HPp := Lib.hid hPp
              have HX := Lib.hid hx.symm
              have HO := Lib.hid (fun w' => rOfW_any (x : Int) (by omega) w')
              clear hPp hx HXX htl
              have hpos : (0 : Int) ≤ ((m + 1 : Nat) : Int) - 1 := by omega
              have hnx : ((m + 1 : Nat) : Int) - 1 = (m : Int) := by omega
              rw [hnx] at hpos ⊢
              obtain ⟨g8, rfl⟩ := hp9 (by omega)
              go_upto_region 24 with (go_at_call 12; go_must (refine HPp.out.mono ?_; rintro e wC ⟨vo, vC, rfl, hoC, hMC, hTC⟩; have HC := Lib.hid (And.intro hoC (And.intro hMC hTC)); clear hoC hMC hTC))
              obtain ⟨po, co, rfl, _, hpo⟩ := own_sliceW HC.out.1
              obtain ⟨go', rfl⟩ := hpo (by simp)
              have HO1 := Lib.hid (fun w' (h : Tch [] wC w') => (own_far HC.out.1 h (by simp) : w'.ownsRow wr.heap.size 37 32 (.slice (some ⟨go', 0, none⟩) 1 co) 1 (wcs [wof (x : Int)])))
              have HL2 := Lib.hid (own_turned HR.out.2.1 HR.out.2.2 HC.out.2.2)
              have HO2 := Lib.hid (fun w' (h : Tch [] wC w') => own_far HL2.out h (by simp))
              try simp only [Act.put, List.setIfInBounds_toArray, List.set_cons_zero, List.set_cons_succ]
              refine k_region (C := fun w' => Tch [] wC w') (by kernel_rfl) (by kernel_rfl) ((Tch.refl _ _).drew) ?_
              refine k_val (v := .bool true) rfl _ (.inl rfl) rfl ?_; try simp only [Act.put, List.setIfInBounds_toArray, List.set_cons_zero, List.set_cons_succ]
              refine k_notV (s := true) (t := false) rfl _ _ rfl rfl rfl ?_; try simp only [Act.put, List.setIfInBounds_toArray, List.set_cons_zero, List.set_cons_succ]
              refine k_val (v := .bool false) rfl _ (.inl rfl) rfl ?_; try simp only [Act.put, List.setIfInBounds_toArray, List.set_cons_zero, List.set_cons_succ]
              refine k_val (v := .slice (some ⟨go', 0, none⟩) 1 co) rfl _ (.inl rfl) rfl ?_; try simp only [Act.put, List.setIfInBounds_toArray, List.set_cons_zero, List.set_cons_succ]
              refine k_lenW (p := (some ⟨go', 0, none⟩)) (n := 1) (c := co) rfl _ rfl rfl ?_; try simp only [Act.put, List.setIfInBounds_toArray, List.set_cons_zero, List.set_cons_succ]
              refine k_neqI (m := (1 : Int)) (n := 1) (t := false) rfl _ _ _ rfl rfl rfl (decide_eq_false (by omega)) ?_; try simp only [Act.put, List.setIfInBounds_toArray, List.set_cons_zero, List.set_cons_succ]
              refine k_pickF (t := false) rfl _ _ _ rfl rfl rfl ?_; try simp only [Act.put, List.setIfInBounds_toArray, List.set_cons_zero, List.set_cons_succ]
              refine k_val (v := .bool false) rfl _ (.inl rfl) rfl ?_; try simp only [Act.put, List.setIfInBounds_toArray, List.set_cons_zero, List.set_cons_succ]
              refine k_val (v := .slice (some ⟨go', 0, none⟩) 1 co) rfl _ (.inl rfl) rfl ?_; try simp only [Act.put, List.setIfInBounds_toArray, List.set_cons_zero, List.set_cons_succ]
              refine k_in (v := .pointer (some ⟨go', 0, none⟩)) rfl (fun w' h => x_idxW0 _ _ rfl rfl rfl (by decide)) ?_; try simp only [Act.put, List.setIfInBounds_toArray, List.set_cons_zero, List.set_cons_succ]
              refine k_in (v := .agg (wv (wof (x : Int)))) rfl (fun w' h => x_ldW0 _ rfl rfl (HO1.out w' h) (by simp) rfl) ?_; try simp only [Act.put, List.setIfInBounds_toArray, List.set_cons_zero, List.set_cons_succ]
              refine k_val (v := .slice (some ⟨g8, 0, none⟩) L1.length c9) rfl _ (.inl rfl) rfl ?_; try simp only [Act.put, List.setIfInBounds_toArray, List.set_cons_zero, List.set_cons_succ]
              refine k_val (v := .int .i64 (m : Int)) rfl _ (.inl rfl) rfl ?_; try simp only [Act.put, List.setIfInBounds_toArray, List.set_cons_zero, List.set_cons_succ]
              refine k_in (v := .pointer (some ⟨g8, m, none⟩)) rfl (fun w' h => x_idxI _ _ rfl rfl rfl (by omega)) ?_; try simp only [Act.put, List.setIfInBounds_toArray, List.set_cons_zero, List.set_cons_succ]
              refine k_in (v := .int .i64 (x : Int)) rfl (fun w' h => x_ldI _ rfl rfl (HO2.out w' h) hml HX.out) ?_; try simp only [Act.put, List.setIfInBounds_toArray, List.set_cons_zero, List.set_cons_succ]
              refine k_callC1 (v := .agg (wv (wof (x : Int)))) rfl rfl rfl Try.call17 (fun w' h => (HO.out w').mono (fun e w'' q => ⟨q.1, h.trans q.2⟩)) ?_; try simp only [Act.put, List.setIfInBounds_toArray, List.set_cons_zero, List.set_cons_succ]
              refine k_in (v := .bool false) rfl (fun w' h => x_neqW (wof_ok _) _ _ _ rfl rfl rfl) ?_; try simp only [Act.put, List.setIfInBounds_toArray, List.set_cons_zero, List.set_cons_succ]
              refine k_pickF (t := false) rfl _ _ _ rfl rfl rfl ?_; try simp only [Act.put, List.setIfInBounds_toArray, List.set_cons_zero, List.set_cons_succ]
              refine k_end ?_
              intro wD hTD
              have HFF := Lib.hid (show StkIn w.heap.size 29 wD b vC ((wofs L1).take m) ∧ wD.ownsRow w.heap.size 3 1 (.slice (some ⟨g8, 0, none⟩) L1.length c9) L1.length (ni L1) ∧ DisI b vC (.slice (some ⟨g8, 0, none⟩) L1.length c9) from ⟨HC.out.2.1.call hTD, HO2.out _ hTD, dis_turned HR.out.2.2 HC.out.2.2 (fun j hj => (HR.out.2.1.lt j hj).2)⟩)
              have hTf := (Turned.fresh_tch hTr HC.out.2.2 (fun x hx => (HR.out.1.lt hx).1)).trans hTD
              clear HC HO1 HL2 HO2 HR hTr hTD
              go_wp2
              go_roundw
              case rel => first | exact ⟨m, by go_num, by omega, Lib.hid ⟨vC, HFF.out⟩, hTf⟩ | exact ⟨m, rfl, by omega, Lib.hid ⟨vC, HFF.out⟩⟩
              case measure => first | (simp [intOf]; done) | (simp [intOf]; omega)
        · have hso : swapOk (wofs L1) s = true := by unfold swapOk; rw [wofs_len]; exact decide_eq_true (by omega)
          obtain ⟨s, rfl⟩ : ∃ m : Nat, s = m := ⟨s.toNat, by omega⟩
          have hsI : swapI L1 (s : Int) = (L1.set (L1.length - 1) (L1.getD (L1.length - 1 - s) 0)).set (L1.length - 1 - s) (L1.getD (L1.length - 1) 0) := by
            unfold swapI; rw [if_pos (by omega), Int.toNat_natCast]
          have hk1 : L1.length - 1 < L1.length := by omega
          have hk2 : L1.length - 1 - s < L1.length := by omega
          obtain ⟨g8, rfl⟩ := hp9 (by omega)
          rw [hso] at hSw
          rw [hsI] at hSw hsl
          have HSW := Lib.hid hSw
          have HSL := Lib.hid hsl
          clear hSw hsl hso hsI hsn
          go_upto_region 15 with (go_at_call 23; go_must (refine HSW.out.mono ?_; rintro e w7 ⟨v7, rfl, hM7, hT7⟩; have HM7 := Lib.hid hM7; have HT7 := Lib.hid hT7; clear hM7 hT7))
          have HL7 := Lib.hid (own_turned H1.out.2.1 H1.out.2.2.1 HT7.out)
          have HD7 := Lib.hid (dis_turned H1.out.2.2.1 HT7.out (fun j hj => (H1.out.2.1.lt j hj).2))
          have hTw7 := Turned.fresh_tch hTw1 HT7.out (fun x hx => (H1.out.1.lt hx).1)
          clear HSW H1 HT7 hTw1
          try simp only [Act.put, List.setIfInBounds_toArray, List.set_cons_zero, List.set_cons_succ]
          refine k_seq (C := fun w' => Tch [] w7 w') (Tch.refl _ _) ?_
          refine k_val (v := .slice (some ⟨g8, 0, none⟩) L1.length c9) rfl _ (.inl rfl) rfl ?_; try simp only [Act.put, List.setIfInBounds_toArray, List.set_cons_zero, List.set_cons_succ]
          refine k_lenI (p := (some ⟨g8, 0, none⟩)) (n := L1.length) (c := c9) rfl _ rfl rfl ?_; try simp only [Act.put, List.setIfInBounds_toArray, List.set_cons_zero, List.set_cons_succ]
          refine k_sub (m := (L1.length : Int)) (n := 1) (s := ((L1.length - 1 : Nat) : Int)) rfl _ _ _ _ rfl rfl rfl (by rw [IntKind.wrap_i64]; omega) ?_; try simp only [Act.put, List.setIfInBounds_toArray, List.set_cons_zero, List.set_cons_succ]
          refine k_val (v := .int .i64 (((L1.length - 1 : Nat) : Int))) rfl _ (.inr rfl) rfl ?_; try simp only [Act.put, List.setIfInBounds_toArray, List.set_cons_zero, List.set_cons_succ]
          refine k_end ?_
          intro w8 hT8
          go_upto_region 16 with (fail)
          try simp only [Act.put, List.setIfInBounds_toArray, List.set_cons_zero, List.set_cons_succ]
          refine k_seq (C := fun w' => Tch [] w8 w') (Tch.refl _ _) ?_
          refine k_val (v := .int .i64 (s : Int)) rfl _ (.inl rfl) rfl ?_; try simp only [Act.put, List.setIfInBounds_toArray, List.set_cons_zero, List.set_cons_succ]
          refine k_geqI (m := (s : Int)) (n := 1) (t := true) rfl _ _ _ rfl rfl rfl (decide_eq_true (by omega)) ?_; try simp only [Act.put, List.setIfInBounds_toArray, List.set_cons_zero, List.set_cons_succ]
          refine k_val (v := .bool true) rfl _ (.inl rfl) rfl ?_; try simp only [Act.put, List.setIfInBounds_toArray, List.set_cons_zero, List.set_cons_succ]
          refine k_val (v := .int .i64 (s : Int)) rfl _ (.inl rfl) rfl ?_; try simp only [Act.put, List.setIfInBounds_toArray, List.set_cons_zero, List.set_cons_succ]
          refine k_val (v := .int .i64 ((L1.length - 1 : Nat) : Int)) rfl _ (.inl rfl) rfl ?_; try simp only [Act.put, List.setIfInBounds_toArray, List.set_cons_zero, List.set_cons_succ]
          refine k_leqI (m := (s : Int)) (n := ((L1.length - 1 : Nat) : Int)) (t := true) rfl _ _ _ rfl rfl rfl (decide_eq_true (by omega)) ?_; try simp only [Act.put, List.setIfInBounds_toArray, List.set_cons_zero, List.set_cons_succ]
          refine k_pickT (t := true) rfl _ _ _ rfl rfl rfl ?_; try simp only [Act.put, List.setIfInBounds_toArray, List.set_cons_zero, List.set_cons_succ]
          refine k_end ?_
          intro w9 hT9
          have HM9 := Lib.hid (HM7.out.call (hT8.trans hT9))
          have HL9 := Lib.hid (own_far HL7.out (hT8.trans hT9) (by simp))
          have hTw9 := hTw7.trans (hT8.trans hT9)
          clear HM7 HL7 hTw7 hT8 hT9
          go_upto_region 17 with (fail)
          try simp only [Act.put, List.setIfInBounds_toArray, List.set_cons_zero, List.set_cons_succ]
          have HO17 := Lib.hid (fun w' (h : Tch [] w9 w') => own_far HL9.out h (by simp))
          refine wp_region_held_drew (S := fun w' => Tch [g8] w9 w') (by kernel_rfl) ((Tch.refl _ _).drew) (fun hC => ?_)
          have hD0 : Tch [] w9 w9.drew := (Tch.refl [] w9).drew
          generalize World.drew w9 = u0 at hC hD0 ⊢
          refine held_in (v := (.slice (some ⟨g8, 0, none⟩) L1.length c9)) 0 rfl (by kernel_rfl) (by kernel_rfl) (by kernel_rfl) (fun _ _ _ h => h) hC rfl (fun w' hw' => x_val _ (.inl rfl) rfl) ?_
          try simp only [Act.put, List.setIfInBounds_toArray, List.set_cons_zero, List.set_cons_succ]
          refine held_in (v := (.int .i64 ((L1.length - 1 : Nat) : Int))) 1 rfl (by kernel_rfl) (by kernel_rfl) (by kernel_rfl) (fun _ _ _ h => h) hC rfl (fun w' hw' => x_val _ (.inl rfl) rfl) ?_
          try simp only [Act.put, List.setIfInBounds_toArray, List.set_cons_zero, List.set_cons_succ]
          refine held_in (v := (.slice (some ⟨g8, 0, none⟩) L1.length c9)) 2 rfl (by kernel_rfl) (by kernel_rfl) (by kernel_rfl) (fun _ _ _ h => h) hC rfl (fun w' hw' => x_val _ (.inl rfl) rfl) ?_
          try simp only [Act.put, List.setIfInBounds_toArray, List.set_cons_zero, List.set_cons_succ]
          refine held_in (v := (.int .i64 ((L1.length - 1 : Nat) : Int))) 3 rfl (by kernel_rfl) (by kernel_rfl) (by kernel_rfl) (fun _ _ _ h => h) hC rfl (fun w' hw' => x_val _ (.inl rfl) rfl) ?_
          try simp only [Act.put, List.setIfInBounds_toArray, List.set_cons_zero, List.set_cons_succ]
          refine held_in (v := (.int .i64 (s : Int))) 4 rfl (by kernel_rfl) (by kernel_rfl) (by kernel_rfl) (fun _ _ _ h => h) hC rfl (fun w' hw' => x_val _ (.inl rfl) rfl) ?_
          try simp only [Act.put, List.setIfInBounds_toArray, List.set_cons_zero, List.set_cons_succ]
          refine held_in (v := (.int .i64 ((L1.length - 1 - s : Nat) : Int))) 5 rfl (by kernel_rfl) (by kernel_rfl) (by kernel_rfl) (fun _ _ _ h => h) hC rfl (fun w' hw' => x_subI _ _ _ _ rfl rfl rfl (by rw [IntKind.wrap_i64]; omega)) ?_
          try simp only [Act.put, List.setIfInBounds_toArray, List.set_cons_zero, List.set_cons_succ]
          refine held_in (v := (.slice (some ⟨g8, 0, none⟩) L1.length c9)) 6 rfl (by kernel_rfl) (by kernel_rfl) (by kernel_rfl) (fun _ _ _ h => h) hC rfl (fun w' hw' => x_val _ (.inl rfl) rfl) ?_
          try simp only [Act.put, List.setIfInBounds_toArray, List.set_cons_zero, List.set_cons_succ]
          refine held_in (v := (.int .i64 ((L1.length - 1 : Nat) : Int))) 7 rfl (by kernel_rfl) (by kernel_rfl) (by kernel_rfl) (fun _ _ _ h => h) hC rfl (fun w' hw' => x_val _ (.inl rfl) rfl) ?_
          try simp only [Act.put, List.setIfInBounds_toArray, List.set_cons_zero, List.set_cons_succ]
          refine held_in (v := (.int .i64 (s : Int))) 8 rfl (by kernel_rfl) (by kernel_rfl) (by kernel_rfl) (fun _ _ _ h => h) hC rfl (fun w' hw' => x_val _ (.inl rfl) rfl) ?_
          try simp only [Act.put, List.setIfInBounds_toArray, List.set_cons_zero, List.set_cons_succ]
          refine held_in (v := (.int .i64 ((L1.length - 1 - s : Nat) : Int))) 9 rfl (by kernel_rfl) (by kernel_rfl) (by kernel_rfl) (fun _ _ _ h => h) hC rfl (fun w' hw' => x_subI _ _ _ _ rfl rfl rfl (by rw [IntKind.wrap_i64]; omega)) ?_
          try simp only [Act.put, List.setIfInBounds_toArray, List.set_cons_zero, List.set_cons_succ]
          refine held_in (v := (.pointer (some ⟨g8, L1.length - 1 - s, none⟩))) 10 rfl (by kernel_rfl) (by kernel_rfl) (by kernel_rfl) (fun _ _ _ h => h) hC rfl (fun w' hw' => x_idxI _ _ rfl rfl rfl hk2) ?_
          try simp only [Act.put, List.setIfInBounds_toArray, List.set_cons_zero, List.set_cons_succ]
          refine held_in (v := (.slice (some ⟨g8, 0, none⟩) L1.length c9)) 12 rfl (by kernel_rfl) (by kernel_rfl) (by kernel_rfl) (fun _ _ _ h => h) hC rfl (fun w' hw' => x_val _ (.inl rfl) rfl) ?_
          try simp only [Act.put, List.setIfInBounds_toArray, List.set_cons_zero, List.set_cons_succ]
          refine held_in (v := (.int .i64 ((L1.length - 1 : Nat) : Int))) 13 rfl (by kernel_rfl) (by kernel_rfl) (by kernel_rfl) (fun _ _ _ h => h) hC rfl (fun w' hw' => x_val _ (.inl rfl) rfl) ?_
          try simp only [Act.put, List.setIfInBounds_toArray, List.set_cons_zero, List.set_cons_succ]
          refine held_in (v := (.pointer (some ⟨g8, L1.length - 1, none⟩))) 14 rfl (by kernel_rfl) (by kernel_rfl) (by kernel_rfl) (fun _ _ _ h => h) hC rfl (fun w' hw' => x_idxI _ _ rfl rfl rfl hk1) ?_
          try simp only [Act.put, List.setIfInBounds_toArray, List.set_cons_zero, List.set_cons_succ]
          refine held_two 11 15 (by kernel_rfl) ?_ ?_
          · refine held_x (v := .int .i64 ((L1.getD (L1.length - 1 - s) 0 : Nat) : Int)) rfl rfl (x_ldI _ rfl rfl (HO17.out _ hD0) hk2 rfl) ?_
            refine ⟨hC, ?_⟩
            try simp only [Act.put, List.setIfInBounds_toArray, List.set_cons_zero, List.set_cons_succ]
            refine held_one 15 (by kernel_rfl) ?_
            refine held_x (v := .int .i64 ((L1.getD (L1.length - 1) 0 : Nat) : Int)) rfl rfl (x_ldI _ rfl rfl (HO17.out _ hD0) hk1 rfl) ?_
            refine ⟨hC, ?_⟩
            try simp only [Act.put, List.setIfInBounds_toArray, List.set_cons_zero, List.set_cons_succ]
            refine held_in (v := (.pointer (some ⟨g8, L1.length - 1, none⟩))) 16 rfl (by kernel_rfl) (by kernel_rfl) (by kernel_rfl) (fun _ _ _ h => h) hC rfl (fun w' hw' => x_idxI _ _ rfl rfl rfl hk1) ?_
            try simp only [Act.put, List.setIfInBounds_toArray, List.set_cons_zero, List.set_cons_succ]
            refine held_one 17 (by kernel_rfl) ?_
            refine held_stI (x := L1.getD (L1.length - 1 - s) 0) (k := L1.length - 1) (HO17.out _ hD0) hk1 rfl rfl rfl (by rfl) (by rfl) ?_
            intro u1 hO1 h1
            have hC1 := hC.trans hO1.tch
            refine ⟨hC1, ?_⟩
            try simp only [Act.put, List.setIfInBounds_toArray, List.set_cons_zero, List.set_cons_succ]
            refine held_in (v := (.pointer (some ⟨g8, L1.length - 1 - s, none⟩))) 18 rfl (by kernel_rfl) (by kernel_rfl) (by kernel_rfl) (fun _ _ _ h => h) hC1 rfl (fun w' hw' => x_idxI _ _ rfl rfl rfl hk2) ?_
            try simp only [Act.put, List.setIfInBounds_toArray, List.set_cons_zero, List.set_cons_succ]
            refine held_one 19 (by kernel_rfl) ?_
            refine held_stI (x := L1.getD (L1.length - 1) 0) (k := L1.length - 1 - s) h1 (by rw [List.length_set]; exact hk2) rfl rfl rfl (by rfl) (by rfl) ?_
            intro u2 hO2 h2
            have hC2 := hC1.trans hO2.tch
            refine ⟨hC2, ?_⟩
            have hO12 := (hD0.mono (cs := [g8]) (by simp)).trans (hO1.tch.trans hO2.tch)
            have HF := Lib.hid (And.intro (HM9.out.far hO12 (fun x hx hm => HD7.out x hx (by simpa [Value.ownBlock] using hm))) h2)
            have hTwA : Tch [] w u2 := Tch.fresh hTw9 hO12 (fun x hx => (HL9.out.lt x (by rw [List.mem_singleton.1 hx]; rfl)).1)
            clear h1 h2 hO1 hO2 hO12 hC2 hC1 hC HM9 HL9 hTw9
            refine wpAnyH_done (by kernel_rfl) ?_ _
            obtain ⟨L2, hL2⟩ : ∃ L, L = (L1.set (L1.length - 1) (L1.getD (L1.length - 1 - s) 0)).set (L1.length - 1 - s) (L1.getD (L1.length - 1) 0) := ⟨_, rfl⟩
            have hll : L2.length = L1.length := by rw [hL2, List.length_set, List.length_set]
            rw [← hL2] at HF HSL
            have HL9 := Lib.hid (show u2.ownsRow w.heap.size 3 1 (.slice (some ⟨g8, 0, none⟩) L2.length c9) L2.length (ni L2) from by rw [hll]; exact HF.out.2)
            have HM9 := Lib.hid HF.out.1
            clear hL2 HF
            have HLL := Lib.hid hll
            clear hll
            have hz := fun w' (h : Tch [] u2 w') => (len_any _ _ _ _ w' (HM9.out.call h)).mono (fun e w'' q => And.intro q.1 (q.2 ▸ h : Tch [] u2 w''))
            rw [wofs_len, HLL.out] at hz
            have HZ := Lib.hid hz
            clear hz
            go_upto_region 18 with (fail)
            try simp only [Act.put, List.setIfInBounds_toArray, List.set_cons_zero, List.set_cons_succ]
            refine k_seq (C := fun w' => Tch [] u2 w') (Tch.refl _ _) ?_
            refine k_val (v := .bool false) rfl _ (.inl rfl) rfl ?_; try simp only [Act.put, List.setIfInBounds_toArray, List.set_cons_zero, List.set_cons_succ]
            refine k_val (v := .int .i64 d) rfl _ (.inl rfl) rfl ?_; try simp only [Act.put, List.setIfInBounds_toArray, List.set_cons_zero, List.set_cons_succ]
            refine k_geqI (m := d) (n := 1) (t := true) rfl _ _ _ rfl rfl rfl (decide_eq_true (by omega)) ?_; try simp only [Act.put, List.setIfInBounds_toArray, List.set_cons_zero, List.set_cons_succ]
            refine k_val (v := .bool true) rfl _ (.inl rfl) rfl ?_; try simp only [Act.put, List.setIfInBounds_toArray, List.set_cons_zero, List.set_cons_succ]
            refine k_val (v := .int .i64 d) rfl _ (.inl rfl) rfl ?_; try simp only [Act.put, List.setIfInBounds_toArray, List.set_cons_zero, List.set_cons_succ]
            refine k_val (v := .int .i64 (L1.length : Int)) rfl _ (.inl rfl) rfl ?_; try simp only [Act.put, List.setIfInBounds_toArray, List.set_cons_zero, List.set_cons_succ]
            refine k_leqI (m := d) (n := (L1.length : Int)) (t := false) rfl _ _ _ rfl rfl rfl (decide_eq_false (by omega)) ?_; try simp only [Act.put, List.setIfInBounds_toArray, List.set_cons_zero, List.set_cons_succ]
            refine k_pickT (t := false) rfl _ _ _ rfl rfl rfl ?_; try simp only [Act.put, List.setIfInBounds_toArray, List.set_cons_zero, List.set_cons_succ]
            refine k_neqB (s := false) (r := false) (t := false) rfl _ _ _ rfl rfl rfl rfl ?_; try simp only [Act.put, List.setIfInBounds_toArray, List.set_cons_zero, List.set_cons_succ]
            refine k_val (v := .bool false) rfl _ (.inl rfl) rfl ?_; try simp only [Act.put, List.setIfInBounds_toArray, List.set_cons_zero, List.set_cons_succ]
            refine k_val (v := .bool true) rfl _ (.inl rfl) rfl ?_; try simp only [Act.put, List.setIfInBounds_toArray, List.set_cons_zero, List.set_cons_succ]
            refine k_val (v := .int .i64 (s : Int)) rfl _ (.inl rfl) rfl ?_; try simp only [Act.put, List.setIfInBounds_toArray, List.set_cons_zero, List.set_cons_succ]
            refine k_geqI (m := (s : Int)) (n := 1) (t := true) rfl _ _ _ rfl rfl rfl (decide_eq_true (by omega)) ?_; try simp only [Act.put, List.setIfInBounds_toArray, List.set_cons_zero, List.set_cons_succ]
            refine k_val (v := .bool true) rfl _ (.inl rfl) rfl ?_; try simp only [Act.put, List.setIfInBounds_toArray, List.set_cons_zero, List.set_cons_succ]
            refine k_val (v := .int .i64 (s : Int)) rfl _ (.inl rfl) rfl ?_; try simp only [Act.put, List.setIfInBounds_toArray, List.set_cons_zero, List.set_cons_succ]
            refine k_val (v := .int .i64 ((L1.length - 1 : Nat) : Int)) rfl _ (.inl rfl) rfl ?_; try simp only [Act.put, List.setIfInBounds_toArray, List.set_cons_zero, List.set_cons_succ]
            refine k_leqI (m := (s : Int)) (n := ((L1.length - 1 : Nat) : Int)) (t := true) rfl _ _ _ rfl rfl rfl (decide_eq_true (by omega)) ?_; try simp only [Act.put, List.setIfInBounds_toArray, List.set_cons_zero, List.set_cons_succ]
            refine k_pickT (t := true) rfl _ _ _ rfl rfl rfl ?_; try simp only [Act.put, List.setIfInBounds_toArray, List.set_cons_zero, List.set_cons_succ]
            refine k_neqB (s := true) (r := true) (t := false) rfl _ _ _ rfl rfl rfl rfl ?_; try simp only [Act.put, List.setIfInBounds_toArray, List.set_cons_zero, List.set_cons_succ]
            refine k_pickF (t := false) rfl _ _ _ rfl rfl rfl ?_; try simp only [Act.put, List.setIfInBounds_toArray, List.set_cons_zero, List.set_cons_succ]
            refine k_val (v := .bool false) rfl _ (.inl rfl) rfl ?_; try simp only [Act.put, List.setIfInBounds_toArray, List.set_cons_zero, List.set_cons_succ]
            refine k_callC1 (v := .int .i64 (L1.length : Int)) rfl rfl rfl Try.call11 (fun w' h => HZ.out w' h) ?_; try simp only [Act.put, List.setIfInBounds_toArray, List.set_cons_zero, List.set_cons_succ]
            refine k_val (v := .slice (some ⟨g8, 0, none⟩) L1.length c9) rfl _ (.inl rfl) rfl ?_; try simp only [Act.put, List.setIfInBounds_toArray, List.set_cons_zero, List.set_cons_succ]
            refine k_lenI (p := (some ⟨g8, 0, none⟩)) (n := L1.length) (c := c9) rfl _ rfl rfl ?_; try simp only [Act.put, List.setIfInBounds_toArray, List.set_cons_zero, List.set_cons_succ]
            refine k_neqI (m := (L1.length : Int)) (n := (L1.length : Int)) (t := false) rfl _ _ _ rfl rfl rfl (decide_eq_false (by omega)) ?_; try simp only [Act.put, List.setIfInBounds_toArray, List.set_cons_zero, List.set_cons_succ]
            refine k_pickF (t := false) rfl _ _ _ rfl rfl rfl ?_; try simp only [Act.put, List.setIfInBounds_toArray, List.set_cons_zero, List.set_cons_succ]
            refine k_end ?_
            intro wA hTA
            have HMA := Lib.hid (HM9.out.call hTA)
            have HLA := Lib.hid (own_far HL9.out hTA (by simp))
            have hTwB := hTwA.trans hTA
            clear HM9 HL9 hTwA hTA HZ
            go_upto_region 20 with (fail)
            try simp only [Act.put, List.setIfInBounds_toArray, List.set_cons_zero, List.set_cons_succ]
            refine k_seq (C := fun w' => Tch [] wA w') (Tch.refl _ _) ?_
            refine k_val (v := .slice (some ⟨g8, 0, none⟩) L1.length c9) rfl _ (.inl rfl) rfl ?_; try simp only [Act.put, List.setIfInBounds_toArray, List.set_cons_zero, List.set_cons_succ]
            refine k_lenI (p := (some ⟨g8, 0, none⟩)) (n := L1.length) (c := c9) rfl _ rfl rfl ?_; try simp only [Act.put, List.setIfInBounds_toArray, List.set_cons_zero, List.set_cons_succ]
            refine k_sub (m := (L1.length : Int)) (n := 1) (s := (L1.length : Int) - 1) rfl _ _ _ _ rfl rfl rfl (by rw [IntKind.wrap_i64]; omega) ?_; try simp only [Act.put, List.setIfInBounds_toArray, List.set_cons_zero, List.set_cons_succ]
            refine k_val (v := .int .i64 ((L1.length : Int) - 1)) rfl _ (.inr rfl) rfl ?_; try simp only [Act.put, List.setIfInBounds_toArray, List.set_cons_zero, List.set_cons_succ]
            refine k_end ?_
            intro wB hTB
            have HMB := Lib.hid (HMA.out.call hTB)
            have HLB := Lib.hid (show wB.ownsRow w.heap.size 3 1 (.slice (some ⟨g8, 0, none⟩) L1.length c9) L1.length (ni L2) from by have := own_far HLA.out hTB (by simp); rwa [HLL.out] at this)
            have hTwC := hTwB.trans hTB
            clear HMA HLA hTwB hTB
            go_upto_region 21 with (fail)
            go_loopw [14] (fun i wr => ∃ m : Nat, i = .int .i64 ((m : Int) - 1) ∧ m ≤ L1.length ∧ Hid (∃ v, StkIn w.heap.size 29 wr b v ((wofs L2).take m) ∧ wr.ownsRow w.heap.size 3 1 (.slice (some ⟨g8, 0, none⟩) L1.length c9) L1.length (ni L2) ∧ DisI b v (.slice (some ⟨g8, 0, none⟩) L1.length c9)) ∧ Tch [] w wr) (fun i _ => (intOf i + 1).toNat)
            case atStart => exact ⟨L1.length, rfl, Nat.le_refl _, Lib.hid ⟨_, by rw [show L1.length = (wofs L2).length by rw [wofs_len, HLL.out], List.take_length]; exact HMB.out, HLB.out, HD7.out⟩, hTwC⟩
            case round =>
              clear HMB HLB hTwC HD7
              obtain ⟨m, rfl, hm, HR0, hTr⟩ := hrel
              obtain ⟨v, hR⟩ := HR0.out
              have HR := Lib.hid hR
              clear hR HR0
              by_cases hm0 : m = 0
              · subst hm0
                have hPp := pop_any w.heap.size b v ((wofs L2).take 0) 1 wr HR.out.1 (by simp) (by omega)
                rw [show popOk ((wofs L2).take 0) 1 = false from by rw [List.take_zero]; decide] at hPp
                have HPp := Lib.hid hPp
                clear hPp
                have hneg : ¬ (0 : Int) ≤ ((0 : Nat) : Int) - 1 := by omega
                go_wp2_with (go_at_call 12; go_must (refine HPp.out.mono ?_; rintro e wC ⟨vo, vC, rfl, hoC, hMC, hTC⟩; have hTf := Turned.fresh_tch hTr hTC (fun x hx => (HR.out.1.lt hx).1); clear hoC hMC hTC))
                go_ret
                exact ⟨rfl, hTf⟩
              · obtain ⟨m, rfl⟩ : ∃ j, m = j + 1 := ⟨m - 1, by omega⟩
                have hml : m < L2.length := by rw [HLL.out]; omega
                have htl : ((wofs L2).take (m + 1)).length = m + 1 := by rw [List.length_take, wofs_len]; exact Nat.min_eq_left hml
                have hPp := pop_any w.heap.size b v ((wofs L2).take (m + 1)) 1 wr HR.out.1 (by rw [htl]; omega) (by omega)
                rw [show popOk ((wofs L2).take (m + 1)) 1 = true from by unfold popOk; rw [htl]; exact decide_eq_true (by omega), show popOut ((wofs L2).take (m + 1)) 1 = [wof ((L2.getD m 0 : Nat) : Int)] from by
                  unfold popOut outL
                  rw [htl, if_pos (by omega)]
                  show [((wofs L2).take (m + 1)).getD (m + 1 - 1 - 0) []] = _
                  rw [show m + 1 - 1 - 0 = m by omega, List.getD_eq_getElem?_getD, List.getElem?_take_of_lt (by omega), ← List.getD_eq_getElem?_getD, wofs_getD hml], show popL ((wofs L2).take (m + 1)) 1 = (wofs L2).take m from by
                  unfold popL
                  rw [htl, if_pos (by omega), List.take_take]
                  congr 1
                  show min (m + 1 - 1) (m + 1) = m
                  omega] at hPp
                have hxl := getD_lt HSL.out (by decide) m
                have HXX := Lib.hid (show L2.getD m 0 = L2.getD m 0 from rfl)
                obtain ⟨x, hx⟩ : ∃ x, x = L2.getD m 0 := ⟨_, rfl⟩
                rw [← hx] at hPp hxl
                have HPp := Lib.hid hPp
                have HX := Lib.hid hx.symm
                have HO := Lib.hid (fun w' => rOfW_any (x : Int) (by omega) w')
                clear hPp hx HXX htl
                have hpos : (0 : Int) ≤ ((m + 1 : Nat) : Int) - 1 := by omega
                have hnx : ((m + 1 : Nat) : Int) - 1 = (m : Int) := by omega
                rw [hnx] at hpos ⊢
                skip
                go_upto_region 24 with (go_at_call 12; go_must (refine HPp.out.mono ?_; rintro e wC ⟨vo, vC, rfl, hoC, hMC, hTC⟩; have HC := Lib.hid (And.intro hoC (And.intro hMC hTC)); clear hoC hMC hTC))
                obtain ⟨po, co, rfl, _, hpo⟩ := own_sliceW HC.out.1
                obtain ⟨go', rfl⟩ := hpo (by simp)
                have HO1 := Lib.hid (fun w' (h : Tch [] wC w') => (own_far HC.out.1 h (by simp) : w'.ownsRow wr.heap.size 37 32 (.slice (some ⟨go', 0, none⟩) 1 co) 1 (wcs [wof (x : Int)])))
                have HL2 := Lib.hid (own_turned HR.out.2.1 HR.out.2.2 HC.out.2.2)
                have HO2 := Lib.hid (fun w' (h : Tch [] wC w') => own_far HL2.out h (by simp))
                try simp only [Act.put, List.setIfInBounds_toArray, List.set_cons_zero, List.set_cons_succ]
                refine k_region (C := fun w' => Tch [] wC w') (by kernel_rfl) (by kernel_rfl) ((Tch.refl _ _).drew) ?_
                refine k_val (v := .bool true) rfl _ (.inl rfl) rfl ?_; try simp only [Act.put, List.setIfInBounds_toArray, List.set_cons_zero, List.set_cons_succ]
                refine k_notV (s := true) (t := false) rfl _ _ rfl rfl rfl ?_; try simp only [Act.put, List.setIfInBounds_toArray, List.set_cons_zero, List.set_cons_succ]
                refine k_val (v := .bool false) rfl _ (.inl rfl) rfl ?_; try simp only [Act.put, List.setIfInBounds_toArray, List.set_cons_zero, List.set_cons_succ]
                refine k_val (v := .slice (some ⟨go', 0, none⟩) 1 co) rfl _ (.inl rfl) rfl ?_; try simp only [Act.put, List.setIfInBounds_toArray, List.set_cons_zero, List.set_cons_succ]
                refine k_lenW (p := (some ⟨go', 0, none⟩)) (n := 1) (c := co) rfl _ rfl rfl ?_; try simp only [Act.put, List.setIfInBounds_toArray, List.set_cons_zero, List.set_cons_succ]
                refine k_neqI (m := (1 : Int)) (n := 1) (t := false) rfl _ _ _ rfl rfl rfl (decide_eq_false (by omega)) ?_; try simp only [Act.put, List.setIfInBounds_toArray, List.set_cons_zero, List.set_cons_succ]
                refine k_pickF (t := false) rfl _ _ _ rfl rfl rfl ?_; try simp only [Act.put, List.setIfInBounds_toArray, List.set_cons_zero, List.set_cons_succ]
                refine k_val (v := .bool false) rfl _ (.inl rfl) rfl ?_; try simp only [Act.put, List.setIfInBounds_toArray, List.set_cons_zero, List.set_cons_succ]
                refine k_val (v := .slice (some ⟨go', 0, none⟩) 1 co) rfl _ (.inl rfl) rfl ?_; try simp only [Act.put, List.setIfInBounds_toArray, List.set_cons_zero, List.set_cons_succ]
                refine k_in (v := .pointer (some ⟨go', 0, none⟩)) rfl (fun w' h => x_idxW0 _ _ rfl rfl rfl (by decide)) ?_; try simp only [Act.put, List.setIfInBounds_toArray, List.set_cons_zero, List.set_cons_succ]
                refine k_in (v := .agg (wv (wof (x : Int)))) rfl (fun w' h => x_ldW0 _ rfl rfl (HO1.out w' h) (by simp) rfl) ?_; try simp only [Act.put, List.setIfInBounds_toArray, List.set_cons_zero, List.set_cons_succ]
                refine k_val (v := .slice (some ⟨g8, 0, none⟩) L1.length c9) rfl _ (.inl rfl) rfl ?_; try simp only [Act.put, List.setIfInBounds_toArray, List.set_cons_zero, List.set_cons_succ]
                refine k_val (v := .int .i64 (m : Int)) rfl _ (.inl rfl) rfl ?_; try simp only [Act.put, List.setIfInBounds_toArray, List.set_cons_zero, List.set_cons_succ]
                refine k_in (v := .pointer (some ⟨g8, m, none⟩)) rfl (fun w' h => x_idxI _ _ rfl rfl rfl (by omega)) ?_; try simp only [Act.put, List.setIfInBounds_toArray, List.set_cons_zero, List.set_cons_succ]
                refine k_in (v := .int .i64 (x : Int)) rfl (fun w' h => x_ldI _ rfl rfl (HO2.out w' h) hml HX.out) ?_; try simp only [Act.put, List.setIfInBounds_toArray, List.set_cons_zero, List.set_cons_succ]
                refine k_callC1 (v := .agg (wv (wof (x : Int)))) rfl rfl rfl Try.call17 (fun w' h => (HO.out w').mono (fun e w'' q => ⟨q.1, h.trans q.2⟩)) ?_; try simp only [Act.put, List.setIfInBounds_toArray, List.set_cons_zero, List.set_cons_succ]
                refine k_in (v := .bool false) rfl (fun w' h => x_neqW (wof_ok _) _ _ _ rfl rfl rfl) ?_; try simp only [Act.put, List.setIfInBounds_toArray, List.set_cons_zero, List.set_cons_succ]
                refine k_pickF (t := false) rfl _ _ _ rfl rfl rfl ?_; try simp only [Act.put, List.setIfInBounds_toArray, List.set_cons_zero, List.set_cons_succ]
                refine k_end ?_
                intro wD hTD
                have HFF := Lib.hid (show StkIn w.heap.size 29 wD b vC ((wofs L2).take m) ∧ wD.ownsRow w.heap.size 3 1 (.slice (some ⟨g8, 0, none⟩) L1.length c9) L1.length (ni L2) ∧ DisI b vC (.slice (some ⟨g8, 0, none⟩) L1.length c9) from ⟨HC.out.2.1.call hTD, HO2.out _ hTD, dis_turned HR.out.2.2 HC.out.2.2 (fun j hj => (HR.out.2.1.lt j hj).2)⟩)
                have hTf := (Turned.fresh_tch hTr HC.out.2.2 (fun x hx => (HR.out.1.lt hx).1)).trans hTD
                clear HC HO1 HL2 HO2 HR hTr hTD
                go_wp2
                go_roundw
                case rel => first | exact ⟨m, by go_num, by omega, Lib.hid ⟨vC, HFF.out⟩, hTf⟩ | exact ⟨m, rfl, by omega, Lib.hid ⟨vC, HFF.out⟩⟩
                case measure => first | (simp [intOf]; done) | (simp [intOf]; omega)
          · refine held_x (v := .int .i64 ((L1.getD (L1.length - 1) 0 : Nat) : Int)) rfl rfl (x_ldI _ rfl rfl (HO17.out _ hD0) hk1 rfl) ?_
            refine ⟨hC, ?_⟩
            try simp only [Act.put, List.setIfInBounds_toArray, List.set_cons_zero, List.set_cons_succ]
            refine held_one 11 (by kernel_rfl) ?_
            refine held_x (v := .int .i64 ((L1.getD (L1.length - 1 - s) 0 : Nat) : Int)) rfl rfl (x_ldI _ rfl rfl (HO17.out _ hD0) hk2 rfl) ?_
            refine ⟨hC, ?_⟩
            try simp only [Act.put, List.setIfInBounds_toArray, List.set_cons_zero, List.set_cons_succ]
            refine held_in (v := (.pointer (some ⟨g8, L1.length - 1, none⟩))) 16 rfl (by kernel_rfl) (by kernel_rfl) (by kernel_rfl) (fun _ _ _ h => h) hC rfl (fun w' hw' => x_idxI _ _ rfl rfl rfl hk1) ?_
            try simp only [Act.put, List.setIfInBounds_toArray, List.set_cons_zero, List.set_cons_succ]
            refine held_one 17 (by kernel_rfl) ?_
            refine held_stI (x := L1.getD (L1.length - 1 - s) 0) (k := L1.length - 1) (HO17.out _ hD0) hk1 rfl rfl rfl (by rfl) (by rfl) ?_
            intro u1 hO1 h1
            have hC1 := hC.trans hO1.tch
            refine ⟨hC1, ?_⟩
            try simp only [Act.put, List.setIfInBounds_toArray, List.set_cons_zero, List.set_cons_succ]
            refine held_in (v := (.pointer (some ⟨g8, L1.length - 1 - s, none⟩))) 18 rfl (by kernel_rfl) (by kernel_rfl) (by kernel_rfl) (fun _ _ _ h => h) hC1 rfl (fun w' hw' => x_idxI _ _ rfl rfl rfl hk2) ?_
            try simp only [Act.put, List.setIfInBounds_toArray, List.set_cons_zero, List.set_cons_succ]
            refine held_one 19 (by kernel_rfl) ?_
            refine held_stI (x := L1.getD (L1.length - 1) 0) (k := L1.length - 1 - s) h1 (by rw [List.length_set]; exact hk2) rfl rfl rfl (by rfl) (by rfl) ?_
            intro u2 hO2 h2
            have hC2 := hC1.trans hO2.tch
            refine ⟨hC2, ?_⟩
            have hO12 := (hD0.mono (cs := [g8]) (by simp)).trans (hO1.tch.trans hO2.tch)
            have HF := Lib.hid (And.intro (HM9.out.far hO12 (fun x hx hm => HD7.out x hx (by simpa [Value.ownBlock] using hm))) h2)
            have hTwA : Tch [] w u2 := Tch.fresh hTw9 hO12 (fun x hx => (HL9.out.lt x (by rw [List.mem_singleton.1 hx]; rfl)).1)
            clear h1 h2 hO1 hO2 hO12 hC2 hC1 hC HM9 HL9 hTw9
            refine wpAnyH_done (by kernel_rfl) ?_ _
            obtain ⟨L2, hL2⟩ : ∃ L, L = (L1.set (L1.length - 1) (L1.getD (L1.length - 1 - s) 0)).set (L1.length - 1 - s) (L1.getD (L1.length - 1) 0) := ⟨_, rfl⟩
            have hll : L2.length = L1.length := by rw [hL2, List.length_set, List.length_set]
            rw [← hL2] at HF HSL
            have HL9 := Lib.hid (show u2.ownsRow w.heap.size 3 1 (.slice (some ⟨g8, 0, none⟩) L2.length c9) L2.length (ni L2) from by rw [hll]; exact HF.out.2)
            have HM9 := Lib.hid HF.out.1
            clear hL2 HF
            have HLL := Lib.hid hll
            clear hll
            have hz := fun w' (h : Tch [] u2 w') => (len_any _ _ _ _ w' (HM9.out.call h)).mono (fun e w'' q => And.intro q.1 (q.2 ▸ h : Tch [] u2 w''))
            rw [wofs_len, HLL.out] at hz
            have HZ := Lib.hid hz
            clear hz
            go_upto_region 18 with (fail)
            try simp only [Act.put, List.setIfInBounds_toArray, List.set_cons_zero, List.set_cons_succ]
            refine k_seq (C := fun w' => Tch [] u2 w') (Tch.refl _ _) ?_
            refine k_val (v := .bool false) rfl _ (.inl rfl) rfl ?_; try simp only [Act.put, List.setIfInBounds_toArray, List.set_cons_zero, List.set_cons_succ]
            refine k_val (v := .int .i64 d) rfl _ (.inl rfl) rfl ?_; try simp only [Act.put, List.setIfInBounds_toArray, List.set_cons_zero, List.set_cons_succ]
            refine k_geqI (m := d) (n := 1) (t := true) rfl _ _ _ rfl rfl rfl (decide_eq_true (by omega)) ?_; try simp only [Act.put, List.setIfInBounds_toArray, List.set_cons_zero, List.set_cons_succ]
            refine k_val (v := .bool true) rfl _ (.inl rfl) rfl ?_; try simp only [Act.put, List.setIfInBounds_toArray, List.set_cons_zero, List.set_cons_succ]
            refine k_val (v := .int .i64 d) rfl _ (.inl rfl) rfl ?_; try simp only [Act.put, List.setIfInBounds_toArray, List.set_cons_zero, List.set_cons_succ]
            refine k_val (v := .int .i64 (L1.length : Int)) rfl _ (.inl rfl) rfl ?_; try simp only [Act.put, List.setIfInBounds_toArray, List.set_cons_zero, List.set_cons_succ]
            refine k_leqI (m := d) (n := (L1.length : Int)) (t := false) rfl _ _ _ rfl rfl rfl (decide_eq_false (by omega)) ?_; try simp only [Act.put, List.setIfInBounds_toArray, List.set_cons_zero, List.set_cons_succ]
            refine k_pickT (t := false) rfl _ _ _ rfl rfl rfl ?_; try simp only [Act.put, List.setIfInBounds_toArray, List.set_cons_zero, List.set_cons_succ]
            refine k_neqB (s := false) (r := false) (t := false) rfl _ _ _ rfl rfl rfl rfl ?_; try simp only [Act.put, List.setIfInBounds_toArray, List.set_cons_zero, List.set_cons_succ]
            refine k_val (v := .bool false) rfl _ (.inl rfl) rfl ?_; try simp only [Act.put, List.setIfInBounds_toArray, List.set_cons_zero, List.set_cons_succ]
            refine k_val (v := .bool true) rfl _ (.inl rfl) rfl ?_; try simp only [Act.put, List.setIfInBounds_toArray, List.set_cons_zero, List.set_cons_succ]
            refine k_val (v := .int .i64 (s : Int)) rfl _ (.inl rfl) rfl ?_; try simp only [Act.put, List.setIfInBounds_toArray, List.set_cons_zero, List.set_cons_succ]
            refine k_geqI (m := (s : Int)) (n := 1) (t := true) rfl _ _ _ rfl rfl rfl (decide_eq_true (by omega)) ?_; try simp only [Act.put, List.setIfInBounds_toArray, List.set_cons_zero, List.set_cons_succ]
            refine k_val (v := .bool true) rfl _ (.inl rfl) rfl ?_; try simp only [Act.put, List.setIfInBounds_toArray, List.set_cons_zero, List.set_cons_succ]
            refine k_val (v := .int .i64 (s : Int)) rfl _ (.inl rfl) rfl ?_; try simp only [Act.put, List.setIfInBounds_toArray, List.set_cons_zero, List.set_cons_succ]
            refine k_val (v := .int .i64 ((L1.length - 1 : Nat) : Int)) rfl _ (.inl rfl) rfl ?_; try simp only [Act.put, List.setIfInBounds_toArray, List.set_cons_zero, List.set_cons_succ]
            refine k_leqI (m := (s : Int)) (n := ((L1.length - 1 : Nat) : Int)) (t := true) rfl _ _ _ rfl rfl rfl (decide_eq_true (by omega)) ?_; try simp only [Act.put, List.setIfInBounds_toArray, List.set_cons_zero, List.set_cons_succ]
            refine k_pickT (t := true) rfl _ _ _ rfl rfl rfl ?_; try simp only [Act.put, List.setIfInBounds_toArray, List.set_cons_zero, List.set_cons_succ]
            refine k_neqB (s := true) (r := true) (t := false) rfl _ _ _ rfl rfl rfl rfl ?_; try simp only [Act.put, List.setIfInBounds_toArray, List.set_cons_zero, List.set_cons_succ]
            refine k_pickF (t := false) rfl _ _ _ rfl rfl rfl ?_; try simp only [Act.put, List.setIfInBounds_toArray, List.set_cons_zero, List.set_cons_succ]
            refine k_val (v := .bool false) rfl _ (.inl rfl) rfl ?_; try simp only [Act.put, List.setIfInBounds_toArray, List.set_cons_zero, List.set_cons_succ]
            refine k_callC1 (v := .int .i64 (L1.length : Int)) rfl rfl rfl Try.call11 (fun w' h => HZ.out w' h) ?_; try simp only [Act.put, List.setIfInBounds_toArray, List.set_cons_zero, List.set_cons_succ]
            refine k_val (v := .slice (some ⟨g8, 0, none⟩) L1.length c9) rfl _ (.inl rfl) rfl ?_; try simp only [Act.put, List.setIfInBounds_toArray, List.set_cons_zero, List.set_cons_succ]
            refine k_lenI (p := (some ⟨g8, 0, none⟩)) (n := L1.length) (c := c9) rfl _ rfl rfl ?_; try simp only [Act.put, List.setIfInBounds_toArray, List.set_cons_zero, List.set_cons_succ]
            refine k_neqI (m := (L1.length : Int)) (n := (L1.length : Int)) (t := false) rfl _ _ _ rfl rfl rfl (decide_eq_false (by omega)) ?_; try simp only [Act.put, List.setIfInBounds_toArray, List.set_cons_zero, List.set_cons_succ]
            refine k_pickF (t := false) rfl _ _ _ rfl rfl rfl ?_; try simp only [Act.put, List.setIfInBounds_toArray, List.set_cons_zero, List.set_cons_succ]
            refine k_end ?_
            intro wA hTA
            have HMA := Lib.hid (HM9.out.call hTA)
            have HLA := Lib.hid (own_far HL9.out hTA (by simp))
            have hTwB := hTwA.trans hTA
            clear HM9 HL9 hTwA hTA HZ
            go_upto_region 20 with (fail)
            try simp only [Act.put, List.setIfInBounds_toArray, List.set_cons_zero, List.set_cons_succ]
            refine k_seq (C := fun w' => Tch [] wA w') (Tch.refl _ _) ?_
            refine k_val (v := .slice (some ⟨g8, 0, none⟩) L1.length c9) rfl _ (.inl rfl) rfl ?_; try simp only [Act.put, List.setIfInBounds_toArray, List.set_cons_zero, List.set_cons_succ]
            refine k_lenI (p := (some ⟨g8, 0, none⟩)) (n := L1.length) (c := c9) rfl _ rfl rfl ?_; try simp only [Act.put, List.setIfInBounds_toArray, List.set_cons_zero, List.set_cons_succ]
            refine k_sub (m := (L1.length : Int)) (n := 1) (s := (L1.length : Int) - 1) rfl _ _ _ _ rfl rfl rfl (by rw [IntKind.wrap_i64]; omega) ?_; try simp only [Act.put, List.setIfInBounds_toArray, List.set_cons_zero, List.set_cons_succ]
            refine k_val (v := .int .i64 ((L1.length : Int) - 1)) rfl _ (.inr rfl) rfl ?_; try simp only [Act.put, List.setIfInBounds_toArray, List.set_cons_zero, List.set_cons_succ]
            refine k_end ?_
            intro wB hTB
            have HMB := Lib.hid (HMA.out.call hTB)
            have HLB := Lib.hid (show wB.ownsRow w.heap.size 3 1 (.slice (some ⟨g8, 0, none⟩) L1.length c9) L1.length (ni L2) from by have := own_far HLA.out hTB (by simp); rwa [HLL.out] at this)
            have hTwC := hTwB.trans hTB
            clear HMA HLA hTwB hTB
            go_upto_region 21 with (fail)
            go_loopw [14] (fun i wr => ∃ m : Nat, i = .int .i64 ((m : Int) - 1) ∧ m ≤ L1.length ∧ Hid (∃ v, StkIn w.heap.size 29 wr b v ((wofs L2).take m) ∧ wr.ownsRow w.heap.size 3 1 (.slice (some ⟨g8, 0, none⟩) L1.length c9) L1.length (ni L2) ∧ DisI b v (.slice (some ⟨g8, 0, none⟩) L1.length c9)) ∧ Tch [] w wr) (fun i _ => (intOf i + 1).toNat)
            case atStart => exact ⟨L1.length, rfl, Nat.le_refl _, Lib.hid ⟨_, by rw [show L1.length = (wofs L2).length by rw [wofs_len, HLL.out], List.take_length]; exact HMB.out, HLB.out, HD7.out⟩, hTwC⟩
            case round =>
              clear HMB HLB hTwC HD7
              obtain ⟨m, rfl, hm, HR0, hTr⟩ := hrel
              obtain ⟨v, hR⟩ := HR0.out
              have HR := Lib.hid hR
              clear hR HR0
              by_cases hm0 : m = 0
              · subst hm0
                have hPp := pop_any w.heap.size b v ((wofs L2).take 0) 1 wr HR.out.1 (by simp) (by omega)
                rw [show popOk ((wofs L2).take 0) 1 = false from by rw [List.take_zero]; decide] at hPp
                have HPp := Lib.hid hPp
                clear hPp
                have hneg : ¬ (0 : Int) ≤ ((0 : Nat) : Int) - 1 := by omega
                go_wp2_with (go_at_call 12; go_must (refine HPp.out.mono ?_; rintro e wC ⟨vo, vC, rfl, hoC, hMC, hTC⟩; have hTf := Turned.fresh_tch hTr hTC (fun x hx => (HR.out.1.lt hx).1); clear hoC hMC hTC))
                go_ret
                exact ⟨rfl, hTf⟩
              · obtain ⟨m, rfl⟩ : ∃ j, m = j + 1 := ⟨m - 1, by omega⟩
                have hml : m < L2.length := by rw [HLL.out]; omega
                have htl : ((wofs L2).take (m + 1)).length = m + 1 := by rw [List.length_take, wofs_len]; exact Nat.min_eq_left hml
                have hPp := pop_any w.heap.size b v ((wofs L2).take (m + 1)) 1 wr HR.out.1 (by rw [htl]; omega) (by omega)
                rw [show popOk ((wofs L2).take (m + 1)) 1 = true from by unfold popOk; rw [htl]; exact decide_eq_true (by omega), show popOut ((wofs L2).take (m + 1)) 1 = [wof ((L2.getD m 0 : Nat) : Int)] from by
                  unfold popOut outL
                  rw [htl, if_pos (by omega)]
                  show [((wofs L2).take (m + 1)).getD (m + 1 - 1 - 0) []] = _
                  rw [show m + 1 - 1 - 0 = m by omega, List.getD_eq_getElem?_getD, List.getElem?_take_of_lt (by omega), ← List.getD_eq_getElem?_getD, wofs_getD hml], show popL ((wofs L2).take (m + 1)) 1 = (wofs L2).take m from by
                  unfold popL
                  rw [htl, if_pos (by omega), List.take_take]
                  congr 1
                  show min (m + 1 - 1) (m + 1) = m
                  omega] at hPp
                have hxl := getD_lt HSL.out (by decide) m
                have HXX := Lib.hid (show L2.getD m 0 = L2.getD m 0 from rfl)
                obtain ⟨x, hx⟩ : ∃ x, x = L2.getD m 0 := ⟨_, rfl⟩
                rw [← hx] at hPp hxl
                have HPp := Lib.hid hPp
                have HX := Lib.hid hx.symm
                have HO := Lib.hid (fun w' => rOfW_any (x : Int) (by omega) w')
                clear hPp hx HXX htl
                have hpos : (0 : Int) ≤ ((m + 1 : Nat) : Int) - 1 := by omega
                have hnx : ((m + 1 : Nat) : Int) - 1 = (m : Int) := by omega
                rw [hnx] at hpos ⊢
                skip
                go_upto_region 24 with (go_at_call 12; go_must (refine HPp.out.mono ?_; rintro e wC ⟨vo, vC, rfl, hoC, hMC, hTC⟩; have HC := Lib.hid (And.intro hoC (And.intro hMC hTC)); clear hoC hMC hTC))
                obtain ⟨po, co, rfl, _, hpo⟩ := own_sliceW HC.out.1
                obtain ⟨go', rfl⟩ := hpo (by simp)
                have HO1 := Lib.hid (fun w' (h : Tch [] wC w') => (own_far HC.out.1 h (by simp) : w'.ownsRow wr.heap.size 37 32 (.slice (some ⟨go', 0, none⟩) 1 co) 1 (wcs [wof (x : Int)])))
                have HL2 := Lib.hid (own_turned HR.out.2.1 HR.out.2.2 HC.out.2.2)
                have HO2 := Lib.hid (fun w' (h : Tch [] wC w') => own_far HL2.out h (by simp))
                try simp only [Act.put, List.setIfInBounds_toArray, List.set_cons_zero, List.set_cons_succ]
                refine k_region (C := fun w' => Tch [] wC w') (by kernel_rfl) (by kernel_rfl) ((Tch.refl _ _).drew) ?_
                refine k_val (v := .bool true) rfl _ (.inl rfl) rfl ?_; try simp only [Act.put, List.setIfInBounds_toArray, List.set_cons_zero, List.set_cons_succ]
                refine k_notV (s := true) (t := false) rfl _ _ rfl rfl rfl ?_; try simp only [Act.put, List.setIfInBounds_toArray, List.set_cons_zero, List.set_cons_succ]
                refine k_val (v := .bool false) rfl _ (.inl rfl) rfl ?_; try simp only [Act.put, List.setIfInBounds_toArray, List.set_cons_zero, List.set_cons_succ]
                refine k_val (v := .slice (some ⟨go', 0, none⟩) 1 co) rfl _ (.inl rfl) rfl ?_; try simp only [Act.put, List.setIfInBounds_toArray, List.set_cons_zero, List.set_cons_succ]
                refine k_lenW (p := (some ⟨go', 0, none⟩)) (n := 1) (c := co) rfl _ rfl rfl ?_; try simp only [Act.put, List.setIfInBounds_toArray, List.set_cons_zero, List.set_cons_succ]
                refine k_neqI (m := (1 : Int)) (n := 1) (t := false) rfl _ _ _ rfl rfl rfl (decide_eq_false (by omega)) ?_; try simp only [Act.put, List.setIfInBounds_toArray, List.set_cons_zero, List.set_cons_succ]
                refine k_pickF (t := false) rfl _ _ _ rfl rfl rfl ?_; try simp only [Act.put, List.setIfInBounds_toArray, List.set_cons_zero, List.set_cons_succ]
                refine k_val (v := .bool false) rfl _ (.inl rfl) rfl ?_; try simp only [Act.put, List.setIfInBounds_toArray, List.set_cons_zero, List.set_cons_succ]
                refine k_val (v := .slice (some ⟨go', 0, none⟩) 1 co) rfl _ (.inl rfl) rfl ?_; try simp only [Act.put, List.setIfInBounds_toArray, List.set_cons_zero, List.set_cons_succ]
                refine k_in (v := .pointer (some ⟨go', 0, none⟩)) rfl (fun w' h => x_idxW0 _ _ rfl rfl rfl (by decide)) ?_; try simp only [Act.put, List.setIfInBounds_toArray, List.set_cons_zero, List.set_cons_succ]
                refine k_in (v := .agg (wv (wof (x : Int)))) rfl (fun w' h => x_ldW0 _ rfl rfl (HO1.out w' h) (by simp) rfl) ?_; try simp only [Act.put, List.setIfInBounds_toArray, List.set_cons_zero, List.set_cons_succ]
                refine k_val (v := .slice (some ⟨g8, 0, none⟩) L1.length c9) rfl _ (.inl rfl) rfl ?_; try simp only [Act.put, List.setIfInBounds_toArray, List.set_cons_zero, List.set_cons_succ]
                refine k_val (v := .int .i64 (m : Int)) rfl _ (.inl rfl) rfl ?_; try simp only [Act.put, List.setIfInBounds_toArray, List.set_cons_zero, List.set_cons_succ]
                refine k_in (v := .pointer (some ⟨g8, m, none⟩)) rfl (fun w' h => x_idxI _ _ rfl rfl rfl (by omega)) ?_; try simp only [Act.put, List.setIfInBounds_toArray, List.set_cons_zero, List.set_cons_succ]
                refine k_in (v := .int .i64 (x : Int)) rfl (fun w' h => x_ldI _ rfl rfl (HO2.out w' h) hml HX.out) ?_; try simp only [Act.put, List.setIfInBounds_toArray, List.set_cons_zero, List.set_cons_succ]
                refine k_callC1 (v := .agg (wv (wof (x : Int)))) rfl rfl rfl Try.call17 (fun w' h => (HO.out w').mono (fun e w'' q => ⟨q.1, h.trans q.2⟩)) ?_; try simp only [Act.put, List.setIfInBounds_toArray, List.set_cons_zero, List.set_cons_succ]
                refine k_in (v := .bool false) rfl (fun w' h => x_neqW (wof_ok _) _ _ _ rfl rfl rfl) ?_; try simp only [Act.put, List.setIfInBounds_toArray, List.set_cons_zero, List.set_cons_succ]
                refine k_pickF (t := false) rfl _ _ _ rfl rfl rfl ?_; try simp only [Act.put, List.setIfInBounds_toArray, List.set_cons_zero, List.set_cons_succ]
                refine k_end ?_
                intro wD hTD
                have HFF := Lib.hid (show StkIn w.heap.size 29 wD b vC ((wofs L2).take m) ∧ wD.ownsRow w.heap.size 3 1 (.slice (some ⟨g8, 0, none⟩) L1.length c9) L1.length (ni L2) ∧ DisI b vC (.slice (some ⟨g8, 0, none⟩) L1.length c9) from ⟨HC.out.2.1.call hTD, HO2.out _ hTD, dis_turned HR.out.2.2 HC.out.2.2 (fun j hj => (HR.out.2.1.lt j hj).2)⟩)
                have hTf := (Turned.fresh_tch hTr HC.out.2.2 (fun x hx => (HR.out.1.lt hx).1)).trans hTD
                clear HC HO1 HL2 HO2 HR hTr hTD
                go_wp2
                go_roundw
                case rel => first | exact ⟨m, by go_num, by omega, Lib.hid ⟨vC, HFF.out⟩, hTf⟩ | exact ⟨m, rfl, by omega, Lib.hid ⟨vC, HFF.out⟩⟩
                case measure => first | (simp [intOf]; done) | (simp [intOf]; omega)
      · have hdo : dupOk (wofs (List.range k)) d = true := by unfold dupOk; rw [wofs_len, hRl]; exact decide_eq_true (by omega)
        obtain ⟨d, rfl⟩ : ∃ m : Nat, d = m := ⟨d.toNat, by omega⟩
        have hdI : dupI (List.range k) (d : Int) = List.range k ++ [(List.range k).getD (k - d) 0] := by
          unfold dupI; rw [hRl, if_pos (by omega), Int.toNat_natCast]
        have hkd : k - d < k := by omega
        have hkd2 : k - d < (List.range k).length := by rw [hRl]; exact hkd
        rw [hdo] at hD
        rw [hdI] at hD hdl
        have HDD := Lib.hid hD
        have HDL := Lib.hid hdl
        clear hD hdl hdo hdI
        go_upto_region 12 with (go_at_call 21; go_must (refine HDD.out.mono ?_; rintro e w4 ⟨v4, rfl, hM4, hT4⟩; have HM4 := Lib.hid hM4; have HT4 := Lib.hid hT4; clear hM4 hT4))
        have HL4 := Lib.hid (own_turned HM.out.2.1 HM.out.2.2 HT4.out)
        have HD4 := Lib.hid (dis_turned HM.out.2.2 HT4.out (fun j hj => (HM.out.2.1.lt j hj).2))
        have hTw4 := Turned.fresh_tch hT HT4.out (fun x hx => (HM.out.1.lt hx).1)
        clear HDD HM HT4 hT
        have hu9 := own_sliceI HL4.out
        rw [hRl] at hu9
        obtain ⟨p9, c9, rfl, _, hp9⟩ := hu9
        obtain ⟨g9, rfl⟩ := hp9 (by omega)
        clear hp9
        try simp only [Act.put, List.setIfInBounds_toArray, List.set_cons_zero, List.set_cons_succ]
        refine k_seq (C := fun w' => Tch [] w4 w') (Tch.refl _ _) ?_
        refine k_val (v := .int .i64 (d : Int)) rfl _ (.inl rfl) rfl ?_; try simp only [Act.put, List.setIfInBounds_toArray, List.set_cons_zero, List.set_cons_succ]
        refine k_geqI (m := (d : Int)) (n := 1) (t := true) rfl _ _ _ rfl rfl rfl (decide_eq_true (by omega)) ?_; try simp only [Act.put, List.setIfInBounds_toArray, List.set_cons_zero, List.set_cons_succ]
        refine k_val (v := .bool true) rfl _ (.inl rfl) rfl ?_; try simp only [Act.put, List.setIfInBounds_toArray, List.set_cons_zero, List.set_cons_succ]
        refine k_val (v := .int .i64 (d : Int)) rfl _ (.inl rfl) rfl ?_; try simp only [Act.put, List.setIfInBounds_toArray, List.set_cons_zero, List.set_cons_succ]
        refine k_val (v := .int .i64 (k : Int)) rfl _ (.inl rfl) rfl ?_; try simp only [Act.put, List.setIfInBounds_toArray, List.set_cons_zero, List.set_cons_succ]
        refine k_leqI (m := (d : Int)) (n := (k : Int)) (t := true) rfl _ _ _ rfl rfl rfl (decide_eq_true (by omega)) ?_; try simp only [Act.put, List.setIfInBounds_toArray, List.set_cons_zero, List.set_cons_succ]
        refine k_pickT (t := true) rfl _ _ _ rfl rfl rfl ?_; try simp only [Act.put, List.setIfInBounds_toArray, List.set_cons_zero, List.set_cons_succ]
        refine k_end ?_
        intro w5 hT5
        have HM5 := Lib.hid (HM4.out.call hT5)
        have HL5 := Lib.hid (own_far HL4.out hT5 (by simp))
        have hTw5 := hTw4.trans hT5
        clear HM4 HL4 hTw4 hT5
        obtain ⟨x9, hx9⟩ : ∃ x, x = (List.range k).getD (k - d) 0 := ⟨_, rfl⟩
        rw [← hx9] at HM5 HDL
        have HX9 := Lib.hid hx9.symm
        have hq9 : IntKind.i64.wrap ((k : Int) - (d : Int)) = ((k - d : Nat) : Int) := by rw [IntKind.wrap_i64]; omega
        have hrl : (List.range k).length ≤ 100000000 := by rw [hRl]; omega
        have hb5 := hTw5.size
        clear hx9
        go_upto_region 14 with (first
          | (refine st_x (v := .pointer (some ⟨g9, k - d, none⟩)) rfl (x_idxI (.tmp 53) (.tmp 56) rfl rfl rfl hkd) ?_)
          | (refine st_x (v := .int .i64 (x9 : Int)) rfl (x_ldI (.tmp 57) rfl rfl (hRl ▸ HL5.out) hkd2 HX9.out) ?_)
          | (at_builtin; go_must (refine st_appIF (w := w5.alloc (.cells #[.int .i64 (x9 : Int)] 3)) (B := w.heap.size) (v := .slice (some ⟨g9, 0, none⟩) k c9) (l := List.range k) (x := x9) (b := w5.heap.size) (t := 3) rfl _ _ rfl rfl rfl (Blk.new _ _ _) (HL5.out.alloc _) (by simp; omega) hrl ?_; intro v6 w6 hown6 hT6 hf6; have H6 := Lib.hid (And.intro hown6 (And.intro hT6 hf6)); clear hown6 hT6 hf6)))
        have hTa : Tch [] w5 (w5.alloc (.cells #[.int .i64 (x9 : Int)] 3)) := (Tch.refl _ _).alloc _
        have H1 := Lib.hid (And.intro ((HM5.out.call hTa).far H6.out.2.1 HD4.out) (And.intro H6.out.1 (And.intro (dis_fresh HD4.out (fun x hx => Nat.lt_of_lt_of_le (HM5.out.lt hx).2 hTa.size) H6.out.2.2) HDL.out)))
        have hTw1 : Tch [] w w6 := Tch.fresh (hTw5.trans hTa) H6.out.2.1 (fun x hx => (HL5.out.lt x (by simpa using hx)).1)
        have hL1 : (List.range k ++ [x9]).length ≤ 41 := by rw [List.length_append, hRl]; simp; omega
        have hu9 := own_sliceI H1.out.2.1
        obtain ⟨p8, c8, rfl, _, hp8⟩ := hu9
        clear HM5 HL5 HD4 HDL H6 hTa hTw5 hRlt hkd2 hq9 HX9 hrl
        generalize hLd : List.range k ++ [x9] = L1 at *
        clear hLd
        have hSw := swap_any w.heap.size b v4 (wofs L1) s w6 H1.out.1 (by rw [wofs_len]; omega) HS.out
        rw [swapI_wofs] at hSw
        have hsl := swapI_lt H1.out.2.2.2 (by decide) s
        have hsn := swapI_len L1 s
        by_cases e1 : s < 1
        · have hso : swapOk (wofs L1) s = false := by unfold swapOk; rw [wofs_len]; exact decide_eq_false (by omega)
          have hsI : swapI L1 s = L1 := if_neg (by omega)
          rw [hso] at hSw
          rw [hsI] at hSw hsl
          have HSW := Lib.hid hSw
          have HSL := Lib.hid hsl
          clear hSw hsl hso hsI hsn
          go_upto_region 15 with (go_at_call 23; go_must (refine HSW.out.mono ?_; rintro e w7 ⟨v7, rfl, hM7, hT7⟩; have HM7 := Lib.hid hM7; have HT7 := Lib.hid hT7; clear hM7 hT7))
          have HL7 := Lib.hid (own_turned H1.out.2.1 H1.out.2.2.1 HT7.out)
          have HD7 := Lib.hid (dis_turned H1.out.2.2.1 HT7.out (fun j hj => (H1.out.2.1.lt j hj).2))
          have hTw7 := Turned.fresh_tch hTw1 HT7.out (fun x hx => (H1.out.1.lt hx).1)
          clear HSW H1 HT7 hTw1
          try simp only [Act.put, List.setIfInBounds_toArray, List.set_cons_zero, List.set_cons_succ]
          refine k_seq (C := fun w' => Tch [] w7 w') (Tch.refl _ _) ?_
          refine k_val (v := .slice p8 L1.length c8) rfl _ (.inl rfl) rfl ?_; try simp only [Act.put, List.setIfInBounds_toArray, List.set_cons_zero, List.set_cons_succ]
          refine k_lenI (p := p8) (n := L1.length) (c := c8) rfl _ rfl rfl ?_; try simp only [Act.put, List.setIfInBounds_toArray, List.set_cons_zero, List.set_cons_succ]
          refine k_sub (m := (L1.length : Int)) (n := 1) (s := ((L1.length : Int) - 1)) rfl _ _ _ _ rfl rfl rfl (by rw [IntKind.wrap_i64]; omega) ?_; try simp only [Act.put, List.setIfInBounds_toArray, List.set_cons_zero, List.set_cons_succ]
          refine k_val (v := .int .i64 (((L1.length : Int) - 1))) rfl _ (.inr rfl) rfl ?_; try simp only [Act.put, List.setIfInBounds_toArray, List.set_cons_zero, List.set_cons_succ]
          refine k_end ?_
          intro w8 hT8
          go_upto_region 16 with (fail)
          try simp only [Act.put, List.setIfInBounds_toArray, List.set_cons_zero, List.set_cons_succ]
          refine k_seq (C := fun w' => Tch [] w8 w') (Tch.refl _ _) ?_
          refine k_val (v := .int .i64 s) rfl _ (.inl rfl) rfl ?_; try simp only [Act.put, List.setIfInBounds_toArray, List.set_cons_zero, List.set_cons_succ]
          refine k_geqI (m := s) (n := 1) (t := false) rfl _ _ _ rfl rfl rfl (decide_eq_false (by omega)) ?_; try simp only [Act.put, List.setIfInBounds_toArray, List.set_cons_zero, List.set_cons_succ]
          refine k_val (v := .bool false) rfl _ (.inl rfl) rfl ?_; try simp only [Act.put, List.setIfInBounds_toArray, List.set_cons_zero, List.set_cons_succ]
          refine k_skip rfl rfl rfl rfl rfl ?_; try simp only [Act.put, List.setIfInBounds_toArray, List.set_cons_zero, List.set_cons_succ]
          refine k_skip rfl rfl rfl rfl rfl ?_; try simp only [Act.put, List.setIfInBounds_toArray, List.set_cons_zero, List.set_cons_succ]
          refine k_skip rfl rfl rfl rfl rfl ?_; try simp only [Act.put, List.setIfInBounds_toArray, List.set_cons_zero, List.set_cons_succ]
          refine k_pickF (t := false) rfl _ _ _ rfl rfl rfl ?_; try simp only [Act.put, List.setIfInBounds_toArray, List.set_cons_zero, List.set_cons_succ]
          refine k_end ?_
          intro w9 hT9
          have HM9 := Lib.hid (HM7.out.call (hT8.trans hT9))
          have HL9 := Lib.hid (own_far HL7.out (hT8.trans hT9) (by simp))
          have hTw9 := hTw7.trans (hT8.trans hT9)
          clear HM7 HL7 hTw7 hT8 hT9
          have hz := fun w' (h : Tch [] w9 w') => (len_any _ _ _ _ w' (HM9.out.call h)).mono (fun e w'' q => And.intro q.1 (q.2 ▸ h : Tch [] w9 w''))
          rw [wofs_len] at hz
          have HZ := Lib.hid hz
          clear hz
          go_upto_region 18 with (fail)
          try simp only [Act.put, List.setIfInBounds_toArray, List.set_cons_zero, List.set_cons_succ]
          refine k_seq (C := fun w' => Tch [] w9 w') (Tch.refl _ _) ?_
          refine k_val (v := .bool true) rfl _ (.inl rfl) rfl ?_; try simp only [Act.put, List.setIfInBounds_toArray, List.set_cons_zero, List.set_cons_succ]
          refine k_val (v := .int .i64 (d : Int)) rfl _ (.inl rfl) rfl ?_; try simp only [Act.put, List.setIfInBounds_toArray, List.set_cons_zero, List.set_cons_succ]
          refine k_geqI (m := (d : Int)) (n := 1) (t := true) rfl _ _ _ rfl rfl rfl (decide_eq_true (by omega)) ?_; try simp only [Act.put, List.setIfInBounds_toArray, List.set_cons_zero, List.set_cons_succ]
          refine k_val (v := .bool true) rfl _ (.inl rfl) rfl ?_; try simp only [Act.put, List.setIfInBounds_toArray, List.set_cons_zero, List.set_cons_succ]
          refine k_val (v := .int .i64 (d : Int)) rfl _ (.inl rfl) rfl ?_; try simp only [Act.put, List.setIfInBounds_toArray, List.set_cons_zero, List.set_cons_succ]
          refine k_val (v := .int .i64 (k : Int)) rfl _ (.inl rfl) rfl ?_; try simp only [Act.put, List.setIfInBounds_toArray, List.set_cons_zero, List.set_cons_succ]
          refine k_leqI (m := (d : Int)) (n := (k : Int)) (t := true) rfl _ _ _ rfl rfl rfl (decide_eq_true (by omega)) ?_; try simp only [Act.put, List.setIfInBounds_toArray, List.set_cons_zero, List.set_cons_succ]
          refine k_pickT (t := true) rfl _ _ _ rfl rfl rfl ?_; try simp only [Act.put, List.setIfInBounds_toArray, List.set_cons_zero, List.set_cons_succ]
          refine k_neqB (s := true) (r := true) (t := false) rfl _ _ _ rfl rfl rfl rfl ?_; try simp only [Act.put, List.setIfInBounds_toArray, List.set_cons_zero, List.set_cons_succ]
          refine k_val (v := .bool false) rfl _ (.inl rfl) rfl ?_; try simp only [Act.put, List.setIfInBounds_toArray, List.set_cons_zero, List.set_cons_succ]
          refine k_val (v := .bool false) rfl _ (.inl rfl) rfl ?_; try simp only [Act.put, List.setIfInBounds_toArray, List.set_cons_zero, List.set_cons_succ]
          refine k_val (v := .int .i64 s) rfl _ (.inl rfl) rfl ?_; try simp only [Act.put, List.setIfInBounds_toArray, List.set_cons_zero, List.set_cons_succ]
          refine k_geqI (m := s) (n := 1) (t := false) rfl _ _ _ rfl rfl rfl (decide_eq_false (by omega)) ?_; try simp only [Act.put, List.setIfInBounds_toArray, List.set_cons_zero, List.set_cons_succ]
          refine k_val (v := .bool false) rfl _ (.inl rfl) rfl ?_; try simp only [Act.put, List.setIfInBounds_toArray, List.set_cons_zero, List.set_cons_succ]
          refine k_skip rfl rfl rfl rfl rfl ?_; try simp only [Act.put, List.setIfInBounds_toArray, List.set_cons_zero, List.set_cons_succ]
          refine k_skip rfl rfl rfl rfl rfl ?_; try simp only [Act.put, List.setIfInBounds_toArray, List.set_cons_zero, List.set_cons_succ]
          refine k_skip rfl rfl rfl rfl rfl ?_; try simp only [Act.put, List.setIfInBounds_toArray, List.set_cons_zero, List.set_cons_succ]
          refine k_pickF (t := false) rfl _ _ _ rfl rfl rfl ?_; try simp only [Act.put, List.setIfInBounds_toArray, List.set_cons_zero, List.set_cons_succ]
          refine k_neqB (s := false) (r := false) (t := false) rfl _ _ _ rfl rfl rfl rfl ?_; try simp only [Act.put, List.setIfInBounds_toArray, List.set_cons_zero, List.set_cons_succ]
          refine k_pickF (t := false) rfl _ _ _ rfl rfl rfl ?_; try simp only [Act.put, List.setIfInBounds_toArray, List.set_cons_zero, List.set_cons_succ]
          refine k_val (v := .bool false) rfl _ (.inl rfl) rfl ?_; try simp only [Act.put, List.setIfInBounds_toArray, List.set_cons_zero, List.set_cons_succ]
          refine k_callC1 (v := .int .i64 (L1.length : Int)) rfl rfl rfl Try.call11 (fun w' h => HZ.out w' h) ?_; try simp only [Act.put, List.setIfInBounds_toArray, List.set_cons_zero, List.set_cons_succ]
          refine k_val (v := .slice p8 L1.length c8) rfl _ (.inl rfl) rfl ?_; try simp only [Act.put, List.setIfInBounds_toArray, List.set_cons_zero, List.set_cons_succ]
          refine k_lenI (p := p8) (n := L1.length) (c := c8) rfl _ rfl rfl ?_; try simp only [Act.put, List.setIfInBounds_toArray, List.set_cons_zero, List.set_cons_succ]
          refine k_neqI (m := (L1.length : Int)) (n := (L1.length : Int)) (t := false) rfl _ _ _ rfl rfl rfl (decide_eq_false (by omega)) ?_; try simp only [Act.put, List.setIfInBounds_toArray, List.set_cons_zero, List.set_cons_succ]
          refine k_pickF (t := false) rfl _ _ _ rfl rfl rfl ?_; try simp only [Act.put, List.setIfInBounds_toArray, List.set_cons_zero, List.set_cons_succ]
          refine k_end ?_
          intro wA hTA
          have HMA := Lib.hid (HM9.out.call hTA)
          have HLA := Lib.hid (own_far HL9.out hTA (by simp))
          have hTwB := hTw9.trans hTA
          clear HM9 HL9 hTw9 hTA HZ
          go_upto_region 20 with (fail)
          try simp only [Act.put, List.setIfInBounds_toArray, List.set_cons_zero, List.set_cons_succ]
          refine k_seq (C := fun w' => Tch [] wA w') (Tch.refl _ _) ?_
          refine k_val (v := .slice p8 L1.length c8) rfl _ (.inl rfl) rfl ?_; try simp only [Act.put, List.setIfInBounds_toArray, List.set_cons_zero, List.set_cons_succ]
          refine k_lenI (p := p8) (n := L1.length) (c := c8) rfl _ rfl rfl ?_; try simp only [Act.put, List.setIfInBounds_toArray, List.set_cons_zero, List.set_cons_succ]
          refine k_sub (m := (L1.length : Int)) (n := 1) (s := (L1.length : Int) - 1) rfl _ _ _ _ rfl rfl rfl (by rw [IntKind.wrap_i64]; omega) ?_; try simp only [Act.put, List.setIfInBounds_toArray, List.set_cons_zero, List.set_cons_succ]
          refine k_val (v := .int .i64 ((L1.length : Int) - 1)) rfl _ (.inr rfl) rfl ?_; try simp only [Act.put, List.setIfInBounds_toArray, List.set_cons_zero, List.set_cons_succ]
          refine k_end ?_
          intro wB hTB
          have HMB := Lib.hid (HMA.out.call hTB)
          have HLB := Lib.hid (show wB.ownsRow w.heap.size 3 1 (.slice p8 L1.length c8) L1.length (ni L1) from by have := own_far HLA.out hTB (by simp); exact this)
          have hTwC := hTwB.trans hTB
          clear HMA HLA hTwB hTB
          go_upto_region 21 with (fail)
          go_loopw [14] (fun i wr => ∃ m : Nat, i = .int .i64 ((m : Int) - 1) ∧ m ≤ L1.length ∧ Hid (∃ v, StkIn w.heap.size 29 wr b v ((wofs L1).take m) ∧ wr.ownsRow w.heap.size 3 1 (.slice p8 L1.length c8) L1.length (ni L1) ∧ DisI b v (.slice p8 L1.length c8)) ∧ Tch [] w wr) (fun i _ => (intOf i + 1).toNat)
          case atStart => exact ⟨L1.length, rfl, Nat.le_refl _, Lib.hid ⟨_, by rw [show L1.length = (wofs L1).length by rw [wofs_len], List.take_length]; exact HMB.out, HLB.out, HD7.out⟩, hTwC⟩
          case round =>
            clear HMB HLB hTwC HD7
            obtain ⟨m, rfl, hm, HR0, hTr⟩ := hrel
            obtain ⟨v, hR⟩ := HR0.out
            have HR := Lib.hid hR
            clear hR HR0
            by_cases hm0 : m = 0
            · subst hm0
              have hPp := pop_any w.heap.size b v ((wofs L1).take 0) 1 wr HR.out.1 (by simp) (by omega)
              rw [show popOk ((wofs L1).take 0) 1 = false from by rw [List.take_zero]; decide] at hPp
              have HPp := Lib.hid hPp
              clear hPp
              have hneg : ¬ (0 : Int) ≤ ((0 : Nat) : Int) - 1 := by omega
              go_wp2_with (go_at_call 12; go_must (refine HPp.out.mono ?_; rintro e wC ⟨vo, vC, rfl, hoC, hMC, hTC⟩; have hTf := Turned.fresh_tch hTr hTC (fun x hx => (HR.out.1.lt hx).1); clear hoC hMC hTC))
              go_ret
              exact ⟨rfl, hTf⟩
            · obtain ⟨m, rfl⟩ : ∃ j, m = j + 1 := ⟨m - 1, by omega⟩
              have hml : m < L1.length := by omega
              have htl : ((wofs L1).take (m + 1)).length = m + 1 := by rw [List.length_take, wofs_len]; exact Nat.min_eq_left hml
              have hPp := pop_any w.heap.size b v ((wofs L1).take (m + 1)) 1 wr HR.out.1 (by rw [htl]; omega) (by omega)
              rw [show popOk ((wofs L1).take (m + 1)) 1 = true from by unfold popOk; rw [htl]; exact decide_eq_true (by omega), show popOut ((wofs L1).take (m + 1)) 1 = [wof ((L1.getD m 0 : Nat) : Int)] from by
                unfold popOut outL
                rw [htl, if_pos (by omega)]
                show [((wofs L1).take (m + 1)).getD (m + 1 - 1 - 0) []] = _
                rw [show m + 1 - 1 - 0 = m by omega, List.getD_eq_getElem?_getD, List.getElem?_take_of_lt (by omega), ← List.getD_eq_getElem?_getD, wofs_getD hml], show popL ((wofs L1).take (m + 1)) 1 = (wofs L1).take m from by
                unfold popL
                rw [htl, if_pos (by omega), List.take_take]
                congr 1
                show min (m + 1 - 1) (m + 1) = m
                omega] at hPp
              have hxl := getD_lt HSL.out (by decide) m
              have HXX := Lib.hid (show L1.getD m 0 = L1.getD m 0 from rfl)
              obtain ⟨x, hx⟩ : ∃ x, x = L1.getD m 0 := ⟨_, rfl⟩
              rw [← hx] at hPp hxl
              have HPp := Lib.hid hPp
              have HX := Lib.hid hx.symm
              have HO := Lib.hid (fun w' => rOfW_any (x : Int) (by omega) w')
              clear hPp hx HXX htl
              have hpos : (0 : Int) ≤ ((m + 1 : Nat) : Int) - 1 := by omega
              have hnx : ((m + 1 : Nat) : Int) - 1 = (m : Int) := by omega
              rw [hnx] at hpos ⊢
              obtain ⟨g8, rfl⟩ := hp8 (by omega)
              go_upto_region 24 with (go_at_call 12; go_must (refine HPp.out.mono ?_; rintro e wC ⟨vo, vC, rfl, hoC, hMC, hTC⟩; have HC := Lib.hid (And.intro hoC (And.intro hMC hTC)); clear hoC hMC hTC))
              obtain ⟨po, co, rfl, _, hpo⟩ := own_sliceW HC.out.1
              obtain ⟨go', rfl⟩ := hpo (by simp)
              have HO1 := Lib.hid (fun w' (h : Tch [] wC w') => (own_far HC.out.1 h (by simp) : w'.ownsRow wr.heap.size 37 32 (.slice (some ⟨go', 0, none⟩) 1 co) 1 (wcs [wof (x : Int)])))
              have HL2 := Lib.hid (own_turned HR.out.2.1 HR.out.2.2 HC.out.2.2)
              have HO2 := Lib.hid (fun w' (h : Tch [] wC w') => own_far HL2.out h (by simp))
              try simp only [Act.put, List.setIfInBounds_toArray, List.set_cons_zero, List.set_cons_succ]
              refine k_region (C := fun w' => Tch [] wC w') (by kernel_rfl) (by kernel_rfl) ((Tch.refl _ _).drew) ?_
              refine k_val (v := .bool true) rfl _ (.inl rfl) rfl ?_; try simp only [Act.put, List.setIfInBounds_toArray, List.set_cons_zero, List.set_cons_succ]
              refine k_notV (s := true) (t := false) rfl _ _ rfl rfl rfl ?_; try simp only [Act.put, List.setIfInBounds_toArray, List.set_cons_zero, List.set_cons_succ]
              refine k_val (v := .bool false) rfl _ (.inl rfl) rfl ?_; try simp only [Act.put, List.setIfInBounds_toArray, List.set_cons_zero, List.set_cons_succ]
              refine k_val (v := .slice (some ⟨go', 0, none⟩) 1 co) rfl _ (.inl rfl) rfl ?_; try simp only [Act.put, List.setIfInBounds_toArray, List.set_cons_zero, List.set_cons_succ]
              refine k_lenW (p := (some ⟨go', 0, none⟩)) (n := 1) (c := co) rfl _ rfl rfl ?_; try simp only [Act.put, List.setIfInBounds_toArray, List.set_cons_zero, List.set_cons_succ]
              refine k_neqI (m := (1 : Int)) (n := 1) (t := false) rfl _ _ _ rfl rfl rfl (decide_eq_false (by omega)) ?_; try simp only [Act.put, List.setIfInBounds_toArray, List.set_cons_zero, List.set_cons_succ]
              refine k_pickF (t := false) rfl _ _ _ rfl rfl rfl ?_; try simp only [Act.put, List.setIfInBounds_toArray, List.set_cons_zero, List.set_cons_succ]
              refine k_val (v := .bool false) rfl _ (.inl rfl) rfl ?_; try simp only [Act.put, List.setIfInBounds_toArray, List.set_cons_zero, List.set_cons_succ]
              refine k_val (v := .slice (some ⟨go', 0, none⟩) 1 co) rfl _ (.inl rfl) rfl ?_; try simp only [Act.put, List.setIfInBounds_toArray, List.set_cons_zero, List.set_cons_succ]
              refine k_in (v := .pointer (some ⟨go', 0, none⟩)) rfl (fun w' h => x_idxW0 _ _ rfl rfl rfl (by decide)) ?_; try simp only [Act.put, List.setIfInBounds_toArray, List.set_cons_zero, List.set_cons_succ]
              refine k_in (v := .agg (wv (wof (x : Int)))) rfl (fun w' h => x_ldW0 _ rfl rfl (HO1.out w' h) (by simp) rfl) ?_; try simp only [Act.put, List.setIfInBounds_toArray, List.set_cons_zero, List.set_cons_succ]
              refine k_val (v := .slice (some ⟨g8, 0, none⟩) L1.length c8) rfl _ (.inl rfl) rfl ?_; try simp only [Act.put, List.setIfInBounds_toArray, List.set_cons_zero, List.set_cons_succ]
              refine k_val (v := .int .i64 (m : Int)) rfl _ (.inl rfl) rfl ?_; try simp only [Act.put, List.setIfInBounds_toArray, List.set_cons_zero, List.set_cons_succ]
              refine k_in (v := .pointer (some ⟨g8, m, none⟩)) rfl (fun w' h => x_idxI _ _ rfl rfl rfl (by omega)) ?_; try simp only [Act.put, List.setIfInBounds_toArray, List.set_cons_zero, List.set_cons_succ]
              refine k_in (v := .int .i64 (x : Int)) rfl (fun w' h => x_ldI _ rfl rfl (HO2.out w' h) hml HX.out) ?_; try simp only [Act.put, List.setIfInBounds_toArray, List.set_cons_zero, List.set_cons_succ]
              refine k_callC1 (v := .agg (wv (wof (x : Int)))) rfl rfl rfl Try.call17 (fun w' h => (HO.out w').mono (fun e w'' q => ⟨q.1, h.trans q.2⟩)) ?_; try simp only [Act.put, List.setIfInBounds_toArray, List.set_cons_zero, List.set_cons_succ]
              refine k_in (v := .bool false) rfl (fun w' h => x_neqW (wof_ok _) _ _ _ rfl rfl rfl) ?_; try simp only [Act.put, List.setIfInBounds_toArray, List.set_cons_zero, List.set_cons_succ]
              refine k_pickF (t := false) rfl _ _ _ rfl rfl rfl ?_; try simp only [Act.put, List.setIfInBounds_toArray, List.set_cons_zero, List.set_cons_succ]
              refine k_end ?_
              intro wD hTD
              have HFF := Lib.hid (show StkIn w.heap.size 29 wD b vC ((wofs L1).take m) ∧ wD.ownsRow w.heap.size 3 1 (.slice (some ⟨g8, 0, none⟩) L1.length c8) L1.length (ni L1) ∧ DisI b vC (.slice (some ⟨g8, 0, none⟩) L1.length c8) from ⟨HC.out.2.1.call hTD, HO2.out _ hTD, dis_turned HR.out.2.2 HC.out.2.2 (fun j hj => (HR.out.2.1.lt j hj).2)⟩)
              have hTf := (Turned.fresh_tch hTr HC.out.2.2 (fun x hx => (HR.out.1.lt hx).1)).trans hTD
              clear HC HO1 HL2 HO2 HR hTr hTD
              go_wp2
              go_roundw
              case rel => first | exact ⟨m, by go_num, by omega, Lib.hid ⟨vC, HFF.out⟩, hTf⟩ | exact ⟨m, rfl, by omega, Lib.hid ⟨vC, HFF.out⟩⟩
              case measure => first | (simp [intOf]; done) | (simp [intOf]; omega)
        by_cases e2 : (L1.length : Int) - 1 < s
        · have hso : swapOk (wofs L1) s = false := by unfold swapOk; rw [wofs_len]; exact decide_eq_false (by omega)
          have hsI : swapI L1 s = L1 := if_neg (by omega)
          rw [hso] at hSw
          rw [hsI] at hSw hsl
          have HSW := Lib.hid hSw
          have HSL := Lib.hid hsl
          clear hSw hsl hso hsI hsn
          go_upto_region 15 with (go_at_call 23; go_must (refine HSW.out.mono ?_; rintro e w7 ⟨v7, rfl, hM7, hT7⟩; have HM7 := Lib.hid hM7; have HT7 := Lib.hid hT7; clear hM7 hT7))
          have HL7 := Lib.hid (own_turned H1.out.2.1 H1.out.2.2.1 HT7.out)
          have HD7 := Lib.hid (dis_turned H1.out.2.2.1 HT7.out (fun j hj => (H1.out.2.1.lt j hj).2))
          have hTw7 := Turned.fresh_tch hTw1 HT7.out (fun x hx => (H1.out.1.lt hx).1)
          clear HSW H1 HT7 hTw1
          try simp only [Act.put, List.setIfInBounds_toArray, List.set_cons_zero, List.set_cons_succ]
          refine k_seq (C := fun w' => Tch [] w7 w') (Tch.refl _ _) ?_
          refine k_val (v := .slice p8 L1.length c8) rfl _ (.inl rfl) rfl ?_; try simp only [Act.put, List.setIfInBounds_toArray, List.set_cons_zero, List.set_cons_succ]
          refine k_lenI (p := p8) (n := L1.length) (c := c8) rfl _ rfl rfl ?_; try simp only [Act.put, List.setIfInBounds_toArray, List.set_cons_zero, List.set_cons_succ]
          refine k_sub (m := (L1.length : Int)) (n := 1) (s := ((L1.length : Int) - 1)) rfl _ _ _ _ rfl rfl rfl (by rw [IntKind.wrap_i64]; omega) ?_; try simp only [Act.put, List.setIfInBounds_toArray, List.set_cons_zero, List.set_cons_succ]
          refine k_val (v := .int .i64 (((L1.length : Int) - 1))) rfl _ (.inr rfl) rfl ?_; try simp only [Act.put, List.setIfInBounds_toArray, List.set_cons_zero, List.set_cons_succ]
          refine k_end ?_
          intro w8 hT8
          go_upto_region 16 with (fail)
          try simp only [Act.put, List.setIfInBounds_toArray, List.set_cons_zero, List.set_cons_succ]
          refine k_seq (C := fun w' => Tch [] w8 w') (Tch.refl _ _) ?_
          refine k_val (v := .int .i64 s) rfl _ (.inl rfl) rfl ?_; try simp only [Act.put, List.setIfInBounds_toArray, List.set_cons_zero, List.set_cons_succ]
          refine k_geqI (m := s) (n := 1) (t := true) rfl _ _ _ rfl rfl rfl (decide_eq_true (by omega)) ?_; try simp only [Act.put, List.setIfInBounds_toArray, List.set_cons_zero, List.set_cons_succ]
          refine k_val (v := .bool true) rfl _ (.inl rfl) rfl ?_; try simp only [Act.put, List.setIfInBounds_toArray, List.set_cons_zero, List.set_cons_succ]
          refine k_val (v := .int .i64 s) rfl _ (.inl rfl) rfl ?_; try simp only [Act.put, List.setIfInBounds_toArray, List.set_cons_zero, List.set_cons_succ]
          refine k_val (v := .int .i64 ((L1.length : Int) - 1)) rfl _ (.inl rfl) rfl ?_; try simp only [Act.put, List.setIfInBounds_toArray, List.set_cons_zero, List.set_cons_succ]
          refine k_leqI (m := s) (n := ((L1.length : Int) - 1)) (t := false) rfl _ _ _ rfl rfl rfl (decide_eq_false (by omega)) ?_; try simp only [Act.put, List.setIfInBounds_toArray, List.set_cons_zero, List.set_cons_succ]
          refine k_pickT (t := false) rfl _ _ _ rfl rfl rfl ?_; try simp only [Act.put, List.setIfInBounds_toArray, List.set_cons_zero, List.set_cons_succ]
          refine k_end ?_
          intro w9 hT9
          have HM9 := Lib.hid (HM7.out.call (hT8.trans hT9))
          have HL9 := Lib.hid (own_far HL7.out (hT8.trans hT9) (by simp))
          have hTw9 := hTw7.trans (hT8.trans hT9)
          clear HM7 HL7 hTw7 hT8 hT9
          have hz := fun w' (h : Tch [] w9 w') => (len_any _ _ _ _ w' (HM9.out.call h)).mono (fun e w'' q => And.intro q.1 (q.2 ▸ h : Tch [] w9 w''))
          rw [wofs_len] at hz
          have HZ := Lib.hid hz
          clear hz
          go_upto_region 18 with (fail)
          try simp only [Act.put, List.setIfInBounds_toArray, List.set_cons_zero, List.set_cons_succ]
          refine k_seq (C := fun w' => Tch [] w9 w') (Tch.refl _ _) ?_
          refine k_val (v := .bool true) rfl _ (.inl rfl) rfl ?_; try simp only [Act.put, List.setIfInBounds_toArray, List.set_cons_zero, List.set_cons_succ]
          refine k_val (v := .int .i64 (d : Int)) rfl _ (.inl rfl) rfl ?_; try simp only [Act.put, List.setIfInBounds_toArray, List.set_cons_zero, List.set_cons_succ]
          refine k_geqI (m := (d : Int)) (n := 1) (t := true) rfl _ _ _ rfl rfl rfl (decide_eq_true (by omega)) ?_; try simp only [Act.put, List.setIfInBounds_toArray, List.set_cons_zero, List.set_cons_succ]
          refine k_val (v := .bool true) rfl _ (.inl rfl) rfl ?_; try simp only [Act.put, List.setIfInBounds_toArray, List.set_cons_zero, List.set_cons_succ]
          refine k_val (v := .int .i64 (d : Int)) rfl _ (.inl rfl) rfl ?_; try simp only [Act.put, List.setIfInBounds_toArray, List.set_cons_zero, List.set_cons_succ]
          refine k_val (v := .int .i64 (k : Int)) rfl _ (.inl rfl) rfl ?_; try simp only [Act.put, List.setIfInBounds_toArray, List.set_cons_zero, List.set_cons_succ]
          refine k_leqI (m := (d : Int)) (n := (k : Int)) (t := true) rfl _ _ _ rfl rfl rfl (decide_eq_true (by omega)) ?_; try simp only [Act.put, List.setIfInBounds_toArray, List.set_cons_zero, List.set_cons_succ]
          refine k_pickT (t := true) rfl _ _ _ rfl rfl rfl ?_; try simp only [Act.put, List.setIfInBounds_toArray, List.set_cons_zero, List.set_cons_succ]
          refine k_neqB (s := true) (r := true) (t := false) rfl _ _ _ rfl rfl rfl rfl ?_; try simp only [Act.put, List.setIfInBounds_toArray, List.set_cons_zero, List.set_cons_succ]
          refine k_val (v := .bool false) rfl _ (.inl rfl) rfl ?_; try simp only [Act.put, List.setIfInBounds_toArray, List.set_cons_zero, List.set_cons_succ]
          refine k_val (v := .bool false) rfl _ (.inl rfl) rfl ?_; try simp only [Act.put, List.setIfInBounds_toArray, List.set_cons_zero, List.set_cons_succ]
          refine k_val (v := .int .i64 s) rfl _ (.inl rfl) rfl ?_; try simp only [Act.put, List.setIfInBounds_toArray, List.set_cons_zero, List.set_cons_succ]
          refine k_geqI (m := s) (n := 1) (t := true) rfl _ _ _ rfl rfl rfl (decide_eq_true (by omega)) ?_; try simp only [Act.put, List.setIfInBounds_toArray, List.set_cons_zero, List.set_cons_succ]
          refine k_val (v := .bool true) rfl _ (.inl rfl) rfl ?_; try simp only [Act.put, List.setIfInBounds_toArray, List.set_cons_zero, List.set_cons_succ]
          refine k_val (v := .int .i64 s) rfl _ (.inl rfl) rfl ?_; try simp only [Act.put, List.setIfInBounds_toArray, List.set_cons_zero, List.set_cons_succ]
          refine k_val (v := .int .i64 ((L1.length : Int) - 1)) rfl _ (.inl rfl) rfl ?_; try simp only [Act.put, List.setIfInBounds_toArray, List.set_cons_zero, List.set_cons_succ]
          refine k_leqI (m := s) (n := ((L1.length : Int) - 1)) (t := false) rfl _ _ _ rfl rfl rfl (decide_eq_false (by omega)) ?_; try simp only [Act.put, List.setIfInBounds_toArray, List.set_cons_zero, List.set_cons_succ]
          refine k_pickT (t := false) rfl _ _ _ rfl rfl rfl ?_; try simp only [Act.put, List.setIfInBounds_toArray, List.set_cons_zero, List.set_cons_succ]
          refine k_neqB (s := false) (r := false) (t := false) rfl _ _ _ rfl rfl rfl rfl ?_; try simp only [Act.put, List.setIfInBounds_toArray, List.set_cons_zero, List.set_cons_succ]
          refine k_pickF (t := false) rfl _ _ _ rfl rfl rfl ?_; try simp only [Act.put, List.setIfInBounds_toArray, List.set_cons_zero, List.set_cons_succ]
          refine k_val (v := .bool false) rfl _ (.inl rfl) rfl ?_; try simp only [Act.put, List.setIfInBounds_toArray, List.set_cons_zero, List.set_cons_succ]
          refine k_callC1 (v := .int .i64 (L1.length : Int)) rfl rfl rfl Try.call11 (fun w' h => HZ.out w' h) ?_; try simp only [Act.put, List.setIfInBounds_toArray, List.set_cons_zero, List.set_cons_succ]
          refine k_val (v := .slice p8 L1.length c8) rfl _ (.inl rfl) rfl ?_; try simp only [Act.put, List.setIfInBounds_toArray, List.set_cons_zero, List.set_cons_succ]
          refine k_lenI (p := p8) (n := L1.length) (c := c8) rfl _ rfl rfl ?_; try simp only [Act.put, List.setIfInBounds_toArray, List.set_cons_zero, List.set_cons_succ]
          refine k_neqI (m := (L1.length : Int)) (n := (L1.length : Int)) (t := false) rfl _ _ _ rfl rfl rfl (decide_eq_false (by omega)) ?_; try simp only [Act.put, List.setIfInBounds_toArray, List.set_cons_zero, List.set_cons_succ]
          refine k_pickF (t := false) rfl _ _ _ rfl rfl rfl ?_; try simp only [Act.put, List.setIfInBounds_toArray, List.set_cons_zero, List.set_cons_succ]
          refine k_end ?_
          intro wA hTA
          have HMA := Lib.hid (HM9.out.call hTA)
          have HLA := Lib.hid (own_far HL9.out hTA (by simp))
          have hTwB := hTw9.trans hTA
          clear HM9 HL9 hTw9 hTA HZ
          go_upto_region 20 with (fail)
          try simp only [Act.put, List.setIfInBounds_toArray, List.set_cons_zero, List.set_cons_succ]
          refine k_seq (C := fun w' => Tch [] wA w') (Tch.refl _ _) ?_
          refine k_val (v := .slice p8 L1.length c8) rfl _ (.inl rfl) rfl ?_; try simp only [Act.put, List.setIfInBounds_toArray, List.set_cons_zero, List.set_cons_succ]
          refine k_lenI (p := p8) (n := L1.length) (c := c8) rfl _ rfl rfl ?_; try simp only [Act.put, List.setIfInBounds_toArray, List.set_cons_zero, List.set_cons_succ]
          refine k_sub (m := (L1.length : Int)) (n := 1) (s := (L1.length : Int) - 1) rfl _ _ _ _ rfl rfl rfl (by rw [IntKind.wrap_i64]; omega) ?_; try simp only [Act.put, List.setIfInBounds_toArray, List.set_cons_zero, List.set_cons_succ]
          refine k_val (v := .int .i64 ((L1.length : Int) - 1)) rfl _ (.inr rfl) rfl ?_; try simp only [Act.put, List.setIfInBounds_toArray, List.set_cons_zero, List.set_cons_succ]
          refine k_end ?_
          intro wB hTB
          have HMB := Lib.hid (HMA.out.call hTB)
          have HLB := Lib.hid (show wB.ownsRow w.heap.size 3 1 (.slice p8 L1.length c8) L1.length (ni L1) from by have := own_far HLA.out hTB (by simp); exact this)
          have hTwC := hTwB.trans hTB
          clear HMA HLA hTwB hTB
          go_upto_region 21 with (fail)
          go_loopw [14] (fun i wr => ∃ m : Nat, i = .int .i64 ((m : Int) - 1) ∧ m ≤ L1.length ∧ Hid (∃ v, StkIn w.heap.size 29 wr b v ((wofs L1).take m) ∧ wr.ownsRow w.heap.size 3 1 (.slice p8 L1.length c8) L1.length (ni L1) ∧ DisI b v (.slice p8 L1.length c8)) ∧ Tch [] w wr) (fun i _ => (intOf i + 1).toNat)
          case atStart => exact ⟨L1.length, rfl, Nat.le_refl _, Lib.hid ⟨_, by rw [show L1.length = (wofs L1).length by rw [wofs_len], List.take_length]; exact HMB.out, HLB.out, HD7.out⟩, hTwC⟩
          case round =>
            clear HMB HLB hTwC HD7
            obtain ⟨m, rfl, hm, HR0, hTr⟩ := hrel
            obtain ⟨v, hR⟩ := HR0.out
            have HR := Lib.hid hR
            clear hR HR0
            by_cases hm0 : m = 0
            · subst hm0
              have hPp := pop_any w.heap.size b v ((wofs L1).take 0) 1 wr HR.out.1 (by simp) (by omega)
              rw [show popOk ((wofs L1).take 0) 1 = false from by rw [List.take_zero]; decide] at hPp
              have HPp := Lib.hid hPp
              clear hPp
              have hneg : ¬ (0 : Int) ≤ ((0 : Nat) : Int) - 1 := by omega
              go_wp2_with (go_at_call 12; go_must (refine HPp.out.mono ?_; rintro e wC ⟨vo, vC, rfl, hoC, hMC, hTC⟩; have hTf := Turned.fresh_tch hTr hTC (fun x hx => (HR.out.1.lt hx).1); clear hoC hMC hTC))
              go_ret
              exact ⟨rfl, hTf⟩
            · obtain ⟨m, rfl⟩ : ∃ j, m = j + 1 := ⟨m - 1, by omega⟩
              have hml : m < L1.length := by omega
              have htl : ((wofs L1).take (m + 1)).length = m + 1 := by rw [List.length_take, wofs_len]; exact Nat.min_eq_left hml
              have hPp := pop_any w.heap.size b v ((wofs L1).take (m + 1)) 1 wr HR.out.1 (by rw [htl]; omega) (by omega)
              rw [show popOk ((wofs L1).take (m + 1)) 1 = true from by unfold popOk; rw [htl]; exact decide_eq_true (by omega), show popOut ((wofs L1).take (m + 1)) 1 = [wof ((L1.getD m 0 : Nat) : Int)] from by
                unfold popOut outL
                rw [htl, if_pos (by omega)]
                show [((wofs L1).take (m + 1)).getD (m + 1 - 1 - 0) []] = _
                rw [show m + 1 - 1 - 0 = m by omega, List.getD_eq_getElem?_getD, List.getElem?_take_of_lt (by omega), ← List.getD_eq_getElem?_getD, wofs_getD hml], show popL ((wofs L1).take (m + 1)) 1 = (wofs L1).take m from by
                unfold popL
                rw [htl, if_pos (by omega), List.take_take]
                congr 1
                show min (m + 1 - 1) (m + 1) = m
                omega] at hPp
              have hxl := getD_lt HSL.out (by decide) m
              have HXX := Lib.hid (show L1.getD m 0 = L1.getD m 0 from rfl)
              obtain ⟨x, hx⟩ : ∃ x, x = L1.getD m 0 := ⟨_, rfl⟩
              rw [← hx] at hPp hxl
              have HPp := Lib.hid hPp
              have HX := Lib.hid hx.symm
              have HO := Lib.hid (fun w' => rOfW_any (x : Int) (by omega) w')
              clear hPp hx HXX htl
              have hpos : (0 : Int) ≤ ((m + 1 : Nat) : Int) - 1 := by omega
              have hnx : ((m + 1 : Nat) : Int) - 1 = (m : Int) := by omega
              rw [hnx] at hpos ⊢
              obtain ⟨g8, rfl⟩ := hp8 (by omega)
              go_upto_region 24 with (go_at_call 12; go_must (refine HPp.out.mono ?_; rintro e wC ⟨vo, vC, rfl, hoC, hMC, hTC⟩; have HC := Lib.hid (And.intro hoC (And.intro hMC hTC)); clear hoC hMC hTC))
              obtain ⟨po, co, rfl, _, hpo⟩ := own_sliceW HC.out.1
              obtain ⟨go', rfl⟩ := hpo (by simp)
              have HO1 := Lib.hid (fun w' (h : Tch [] wC w') => (own_far HC.out.1 h (by simp) : w'.ownsRow wr.heap.size 37 32 (.slice (some ⟨go', 0, none⟩) 1 co) 1 (wcs [wof (x : Int)])))
              have HL2 := Lib.hid (own_turned HR.out.2.1 HR.out.2.2 HC.out.2.2)
              have HO2 := Lib.hid (fun w' (h : Tch [] wC w') => own_far HL2.out h (by simp))
              try simp only [Act.put, List.setIfInBounds_toArray, List.set_cons_zero, List.set_cons_succ]
              refine k_region (C := fun w' => Tch [] wC w') (by kernel_rfl) (by kernel_rfl) ((Tch.refl _ _).drew) ?_
              refine k_val (v := .bool true) rfl _ (.inl rfl) rfl ?_; try simp only [Act.put, List.setIfInBounds_toArray, List.set_cons_zero, List.set_cons_succ]
              refine k_notV (s := true) (t := false) rfl _ _ rfl rfl rfl ?_; try simp only [Act.put, List.setIfInBounds_toArray, List.set_cons_zero, List.set_cons_succ]
              refine k_val (v := .bool false) rfl _ (.inl rfl) rfl ?_; try simp only [Act.put, List.setIfInBounds_toArray, List.set_cons_zero, List.set_cons_succ]
              refine k_val (v := .slice (some ⟨go', 0, none⟩) 1 co) rfl _ (.inl rfl) rfl ?_; try simp only [Act.put, List.setIfInBounds_toArray, List.set_cons_zero, List.set_cons_succ]
              refine k_lenW (p := (some ⟨go', 0, none⟩)) (n := 1) (c := co) rfl _ rfl rfl ?_; try simp only [Act.put, List.setIfInBounds_toArray, List.set_cons_zero, List.set_cons_succ]
              refine k_neqI (m := (1 : Int)) (n := 1) (t := false) rfl _ _ _ rfl rfl rfl (decide_eq_false (by omega)) ?_; try simp only [Act.put, List.setIfInBounds_toArray, List.set_cons_zero, List.set_cons_succ]
              refine k_pickF (t := false) rfl _ _ _ rfl rfl rfl ?_; try simp only [Act.put, List.setIfInBounds_toArray, List.set_cons_zero, List.set_cons_succ]
              refine k_val (v := .bool false) rfl _ (.inl rfl) rfl ?_; try simp only [Act.put, List.setIfInBounds_toArray, List.set_cons_zero, List.set_cons_succ]
              refine k_val (v := .slice (some ⟨go', 0, none⟩) 1 co) rfl _ (.inl rfl) rfl ?_; try simp only [Act.put, List.setIfInBounds_toArray, List.set_cons_zero, List.set_cons_succ]
              refine k_in (v := .pointer (some ⟨go', 0, none⟩)) rfl (fun w' h => x_idxW0 _ _ rfl rfl rfl (by decide)) ?_; try simp only [Act.put, List.setIfInBounds_toArray, List.set_cons_zero, List.set_cons_succ]
              refine k_in (v := .agg (wv (wof (x : Int)))) rfl (fun w' h => x_ldW0 _ rfl rfl (HO1.out w' h) (by simp) rfl) ?_; try simp only [Act.put, List.setIfInBounds_toArray, List.set_cons_zero, List.set_cons_succ]
              refine k_val (v := .slice (some ⟨g8, 0, none⟩) L1.length c8) rfl _ (.inl rfl) rfl ?_; try simp only [Act.put, List.setIfInBounds_toArray, List.set_cons_zero, List.set_cons_succ]
              refine k_val (v := .int .i64 (m : Int)) rfl _ (.inl rfl) rfl ?_; try simp only [Act.put, List.setIfInBounds_toArray, List.set_cons_zero, List.set_cons_succ]
              refine k_in (v := .pointer (some ⟨g8, m, none⟩)) rfl (fun w' h => x_idxI _ _ rfl rfl rfl (by omega)) ?_; try simp only [Act.put, List.setIfInBounds_toArray, List.set_cons_zero, List.set_cons_succ]
              refine k_in (v := .int .i64 (x : Int)) rfl (fun w' h => x_ldI _ rfl rfl (HO2.out w' h) hml HX.out) ?_; try simp only [Act.put, List.setIfInBounds_toArray, List.set_cons_zero, List.set_cons_succ]
              refine k_callC1 (v := .agg (wv (wof (x : Int)))) rfl rfl rfl Try.call17 (fun w' h => (HO.out w').mono (fun e w'' q => ⟨q.1, h.trans q.2⟩)) ?_; try simp only [Act.put, List.setIfInBounds_toArray, List.set_cons_zero, List.set_cons_succ]
              refine k_in (v := .bool false) rfl (fun w' h => x_neqW (wof_ok _) _ _ _ rfl rfl rfl) ?_; try simp only [Act.put, List.setIfInBounds_toArray, List.set_cons_zero, List.set_cons_succ]
              refine k_pickF (t := false) rfl _ _ _ rfl rfl rfl ?_; try simp only [Act.put, List.setIfInBounds_toArray, List.set_cons_zero, List.set_cons_succ]
              refine k_end ?_
              intro wD hTD
              have HFF := Lib.hid (show StkIn w.heap.size 29 wD b vC ((wofs L1).take m) ∧ wD.ownsRow w.heap.size 3 1 (.slice (some ⟨g8, 0, none⟩) L1.length c8) L1.length (ni L1) ∧ DisI b vC (.slice (some ⟨g8, 0, none⟩) L1.length c8) from ⟨HC.out.2.1.call hTD, HO2.out _ hTD, dis_turned HR.out.2.2 HC.out.2.2 (fun j hj => (HR.out.2.1.lt j hj).2)⟩)
              have hTf := (Turned.fresh_tch hTr HC.out.2.2 (fun x hx => (HR.out.1.lt hx).1)).trans hTD
              clear HC HO1 HL2 HO2 HR hTr hTD
              go_wp2
              go_roundw
              case rel => first | exact ⟨m, by go_num, by omega, Lib.hid ⟨vC, HFF.out⟩, hTf⟩ | exact ⟨m, rfl, by omega, Lib.hid ⟨vC, HFF.out⟩⟩
              case measure => first | (simp [intOf]; done) | (simp [intOf]; omega)
        · have hso : swapOk (wofs L1) s = true := by unfold swapOk; rw [wofs_len]; exact decide_eq_true (by omega)
          obtain ⟨s, rfl⟩ : ∃ m : Nat, s = m := ⟨s.toNat, by omega⟩
          have hsI : swapI L1 (s : Int) = (L1.set (L1.length - 1) (L1.getD (L1.length - 1 - s) 0)).set (L1.length - 1 - s) (L1.getD (L1.length - 1) 0) := by
            unfold swapI; rw [if_pos (by omega), Int.toNat_natCast]
          have hk1 : L1.length - 1 < L1.length := by omega
          have hk2 : L1.length - 1 - s < L1.length := by omega
          obtain ⟨g8, rfl⟩ := hp8 (by omega)
          rw [hso] at hSw
          rw [hsI] at hSw hsl
          have HSW := Lib.hid hSw
          have HSL := Lib.hid hsl
          clear hSw hsl hso hsI hsn
          go_upto_region 15 with (go_at_call 23; go_must (refine HSW.out.mono ?_; rintro e w7 ⟨v7, rfl, hM7, hT7⟩; have HM7 := Lib.hid hM7; have HT7 := Lib.hid hT7; clear hM7 hT7))
          have HL7 := Lib.hid (own_turned H1.out.2.1 H1.out.2.2.1 HT7.out)
          have HD7 := Lib.hid (dis_turned H1.out.2.2.1 HT7.out (fun j hj => (H1.out.2.1.lt j hj).2))
          have hTw7 := Turned.fresh_tch hTw1 HT7.out (fun x hx => (H1.out.1.lt hx).1)
          clear HSW H1 HT7 hTw1
          try simp only [Act.put, List.setIfInBounds_toArray, List.set_cons_zero, List.set_cons_succ]
          refine k_seq (C := fun w' => Tch [] w7 w') (Tch.refl _ _) ?_
          refine k_val (v := .slice (some ⟨g8, 0, none⟩) L1.length c8) rfl _ (.inl rfl) rfl ?_; try simp only [Act.put, List.setIfInBounds_toArray, List.set_cons_zero, List.set_cons_succ]
          refine k_lenI (p := (some ⟨g8, 0, none⟩)) (n := L1.length) (c := c8) rfl _ rfl rfl ?_; try simp only [Act.put, List.setIfInBounds_toArray, List.set_cons_zero, List.set_cons_succ]
          refine k_sub (m := (L1.length : Int)) (n := 1) (s := ((L1.length - 1 : Nat) : Int)) rfl _ _ _ _ rfl rfl rfl (by rw [IntKind.wrap_i64]; omega) ?_; try simp only [Act.put, List.setIfInBounds_toArray, List.set_cons_zero, List.set_cons_succ]
          refine k_val (v := .int .i64 (((L1.length - 1 : Nat) : Int))) rfl _ (.inr rfl) rfl ?_; try simp only [Act.put, List.setIfInBounds_toArray, List.set_cons_zero, List.set_cons_succ]
          refine k_end ?_
          intro w8 hT8
          go_upto_region 16 with (fail)
          try simp only [Act.put, List.setIfInBounds_toArray, List.set_cons_zero, List.set_cons_succ]
          refine k_seq (C := fun w' => Tch [] w8 w') (Tch.refl _ _) ?_
          refine k_val (v := .int .i64 (s : Int)) rfl _ (.inl rfl) rfl ?_; try simp only [Act.put, List.setIfInBounds_toArray, List.set_cons_zero, List.set_cons_succ]
          refine k_geqI (m := (s : Int)) (n := 1) (t := true) rfl _ _ _ rfl rfl rfl (decide_eq_true (by omega)) ?_; try simp only [Act.put, List.setIfInBounds_toArray, List.set_cons_zero, List.set_cons_succ]
          refine k_val (v := .bool true) rfl _ (.inl rfl) rfl ?_; try simp only [Act.put, List.setIfInBounds_toArray, List.set_cons_zero, List.set_cons_succ]
          refine k_val (v := .int .i64 (s : Int)) rfl _ (.inl rfl) rfl ?_; try simp only [Act.put, List.setIfInBounds_toArray, List.set_cons_zero, List.set_cons_succ]
          refine k_val (v := .int .i64 ((L1.length - 1 : Nat) : Int)) rfl _ (.inl rfl) rfl ?_; try simp only [Act.put, List.setIfInBounds_toArray, List.set_cons_zero, List.set_cons_succ]
          refine k_leqI (m := (s : Int)) (n := ((L1.length - 1 : Nat) : Int)) (t := true) rfl _ _ _ rfl rfl rfl (decide_eq_true (by omega)) ?_; try simp only [Act.put, List.setIfInBounds_toArray, List.set_cons_zero, List.set_cons_succ]
          refine k_pickT (t := true) rfl _ _ _ rfl rfl rfl ?_; try simp only [Act.put, List.setIfInBounds_toArray, List.set_cons_zero, List.set_cons_succ]
          refine k_end ?_
          intro w9 hT9
          have HM9 := Lib.hid (HM7.out.call (hT8.trans hT9))
          have HL9 := Lib.hid (own_far HL7.out (hT8.trans hT9) (by simp))
          have hTw9 := hTw7.trans (hT8.trans hT9)
          clear HM7 HL7 hTw7 hT8 hT9
          go_upto_region 17 with (fail)
          try simp only [Act.put, List.setIfInBounds_toArray, List.set_cons_zero, List.set_cons_succ]
          have HO17 := Lib.hid (fun w' (h : Tch [] w9 w') => own_far HL9.out h (by simp))
          refine wp_region_held_drew (S := fun w' => Tch [g8] w9 w') (by kernel_rfl) ((Tch.refl _ _).drew) (fun hC => ?_)
          have hD0 : Tch [] w9 w9.drew := (Tch.refl [] w9).drew
          generalize World.drew w9 = u0 at hC hD0 ⊢
          refine held_in (v := (.slice (some ⟨g8, 0, none⟩) L1.length c8)) 0 rfl (by kernel_rfl) (by kernel_rfl) (by kernel_rfl) (fun _ _ _ h => h) hC rfl (fun w' hw' => x_val _ (.inl rfl) rfl) ?_
          try simp only [Act.put, List.setIfInBounds_toArray, List.set_cons_zero, List.set_cons_succ]
          refine held_in (v := (.int .i64 ((L1.length - 1 : Nat) : Int))) 1 rfl (by kernel_rfl) (by kernel_rfl) (by kernel_rfl) (fun _ _ _ h => h) hC rfl (fun w' hw' => x_val _ (.inl rfl) rfl) ?_
          try simp only [Act.put, List.setIfInBounds_toArray, List.set_cons_zero, List.set_cons_succ]
          refine held_in (v := (.slice (some ⟨g8, 0, none⟩) L1.length c8)) 2 rfl (by kernel_rfl) (by kernel_rfl) (by kernel_rfl) (fun _ _ _ h => h) hC rfl (fun w' hw' => x_val _ (.inl rfl) rfl) ?_
          try simp only [Act.put, List.setIfInBounds_toArray, List.set_cons_zero, List.set_cons_succ]
          refine held_in (v := (.int .i64 ((L1.length - 1 : Nat) : Int))) 3 rfl (by kernel_rfl) (by kernel_rfl) (by kernel_rfl) (fun _ _ _ h => h) hC rfl (fun w' hw' => x_val _ (.inl rfl) rfl) ?_
          try simp only [Act.put, List.setIfInBounds_toArray, List.set_cons_zero, List.set_cons_succ]
          refine held_in (v := (.int .i64 (s : Int))) 4 rfl (by kernel_rfl) (by kernel_rfl) (by kernel_rfl) (fun _ _ _ h => h) hC rfl (fun w' hw' => x_val _ (.inl rfl) rfl) ?_
          try simp only [Act.put, List.setIfInBounds_toArray, List.set_cons_zero, List.set_cons_succ]
          refine held_in (v := (.int .i64 ((L1.length - 1 - s : Nat) : Int))) 5 rfl (by kernel_rfl) (by kernel_rfl) (by kernel_rfl) (fun _ _ _ h => h) hC rfl (fun w' hw' => x_subI _ _ _ _ rfl rfl rfl (by rw [IntKind.wrap_i64]; omega)) ?_
          try simp only [Act.put, List.setIfInBounds_toArray, List.set_cons_zero, List.set_cons_succ]
          refine held_in (v := (.slice (some ⟨g8, 0, none⟩) L1.length c8)) 6 rfl (by kernel_rfl) (by kernel_rfl) (by kernel_rfl) (fun _ _ _ h => h) hC rfl (fun w' hw' => x_val _ (.inl rfl) rfl) ?_
          try simp only [Act.put, List.setIfInBounds_toArray, List.set_cons_zero, List.set_cons_succ]
          refine held_in (v := (.int .i64 ((L1.length - 1 : Nat) : Int))) 7 rfl (by kernel_rfl) (by kernel_rfl) (by kernel_rfl) (fun _ _ _ h => h) hC rfl (fun w' hw' => x_val _ (.inl rfl) rfl) ?_
          try simp only [Act.put, List.setIfInBounds_toArray, List.set_cons_zero, List.set_cons_succ]
          refine held_in (v := (.int .i64 (s : Int))) 8 rfl (by kernel_rfl) (by kernel_rfl) (by kernel_rfl) (fun _ _ _ h => h) hC rfl (fun w' hw' => x_val _ (.inl rfl) rfl) ?_
          try simp only [Act.put, List.setIfInBounds_toArray, List.set_cons_zero, List.set_cons_succ]
          refine held_in (v := (.int .i64 ((L1.length - 1 - s : Nat) : Int))) 9 rfl (by kernel_rfl) (by kernel_rfl) (by kernel_rfl) (fun _ _ _ h => h) hC rfl (fun w' hw' => x_subI _ _ _ _ rfl rfl rfl (by rw [IntKind.wrap_i64]; omega)) ?_
          try simp only [Act.put, List.setIfInBounds_toArray, List.set_cons_zero, List.set_cons_succ]
          refine held_in (v := (.pointer (some ⟨g8, L1.length - 1 - s, none⟩))) 10 rfl (by kernel_rfl) (by kernel_rfl) (by kernel_rfl) (fun _ _ _ h => h) hC rfl (fun w' hw' => x_idxI _ _ rfl rfl rfl hk2) ?_
          try simp only [Act.put, List.setIfInBounds_toArray, List.set_cons_zero, List.set_cons_succ]
          refine held_in (v := (.slice (some ⟨g8, 0, none⟩) L1.length c8)) 12 rfl (by kernel_rfl) (by kernel_rfl) (by kernel_rfl) (fun _ _ _ h => h) hC rfl (fun w' hw' => x_val _ (.inl rfl) rfl) ?_
          try simp only [Act.put, List.setIfInBounds_toArray, List.set_cons_zero, List.set_cons_succ]
          refine held_in (v := (.int .i64 ((L1.length - 1 : Nat) : Int))) 13 rfl (by kernel_rfl) (by kernel_rfl) (by kernel_rfl) (fun _ _ _ h => h) hC rfl (fun w' hw' => x_val _ (.inl rfl) rfl) ?_
          try simp only [Act.put, List.setIfInBounds_toArray, List.set_cons_zero, List.set_cons_succ]
          refine held_in (v := (.pointer (some ⟨g8, L1.length - 1, none⟩))) 14 rfl (by kernel_rfl) (by kernel_rfl) (by kernel_rfl) (fun _ _ _ h => h) hC rfl (fun w' hw' => x_idxI _ _ rfl rfl rfl hk1) ?_
          try simp only [Act.put, List.setIfInBounds_toArray, List.set_cons_zero, List.set_cons_succ]
          refine held_two 11 15 (by kernel_rfl) ?_ ?_
          · refine held_x (v := .int .i64 ((L1.getD (L1.length - 1 - s) 0 : Nat) : Int)) rfl rfl (x_ldI _ rfl rfl (HO17.out _ hD0) hk2 rfl) ?_
            refine ⟨hC, ?_⟩
            try simp only [Act.put, List.setIfInBounds_toArray, List.set_cons_zero, List.set_cons_succ]
            refine held_one 15 (by kernel_rfl) ?_
            refine held_x (v := .int .i64 ((L1.getD (L1.length - 1) 0 : Nat) : Int)) rfl rfl (x_ldI _ rfl rfl (HO17.out _ hD0) hk1 rfl) ?_
            refine ⟨hC, ?_⟩
            try simp only [Act.put, List.setIfInBounds_toArray, List.set_cons_zero, List.set_cons_succ]
            refine held_in (v := (.pointer (some ⟨g8, L1.length - 1, none⟩))) 16 rfl (by kernel_rfl) (by kernel_rfl) (by kernel_rfl) (fun _ _ _ h => h) hC rfl (fun w' hw' => x_idxI _ _ rfl rfl rfl hk1) ?_
            try simp only [Act.put, List.setIfInBounds_toArray, List.set_cons_zero, List.set_cons_succ]
            refine held_one 17 (by kernel_rfl) ?_
            refine held_stI (x := L1.getD (L1.length - 1 - s) 0) (k := L1.length - 1) (HO17.out _ hD0) hk1 rfl rfl rfl (by rfl) (by rfl) ?_
            intro u1 hO1 h1
            have hC1 := hC.trans hO1.tch
            refine ⟨hC1, ?_⟩
            try simp only [Act.put, List.setIfInBounds_toArray, List.set_cons_zero, List.set_cons_succ]
            refine held_in (v := (.pointer (some ⟨g8, L1.length - 1 - s, none⟩))) 18 rfl (by kernel_rfl) (by kernel_rfl) (by kernel_rfl) (fun _ _ _ h => h) hC1 rfl (fun w' hw' => x_idxI _ _ rfl rfl rfl hk2) ?_
            try simp only [Act.put, List.setIfInBounds_toArray, List.set_cons_zero, List.set_cons_succ]
            refine held_one 19 (by kernel_rfl) ?_
            refine held_stI (x := L1.getD (L1.length - 1) 0) (k := L1.length - 1 - s) h1 (by rw [List.length_set]; exact hk2) rfl rfl rfl (by rfl) (by rfl) ?_
            intro u2 hO2 h2
            have hC2 := hC1.trans hO2.tch
            refine ⟨hC2, ?_⟩
            have hO12 := (hD0.mono (cs := [g8]) (by simp)).trans (hO1.tch.trans hO2.tch)
            have HF := Lib.hid (And.intro (HM9.out.far hO12 (fun x hx hm => HD7.out x hx (by simpa [Value.ownBlock] using hm))) h2)
            have hTwA : Tch [] w u2 := Tch.fresh hTw9 hO12 (fun x hx => (HL9.out.lt x (by rw [List.mem_singleton.1 hx]; rfl)).1)
            clear h1 h2 hO1 hO2 hO12 hC2 hC1 hC HM9 HL9 hTw9
            refine wpAnyH_done (by kernel_rfl) ?_ _
            obtain ⟨L2, hL2⟩ : ∃ L, L = (L1.set (L1.length - 1) (L1.getD (L1.length - 1 - s) 0)).set (L1.length - 1 - s) (L1.getD (L1.length - 1) 0) := ⟨_, rfl⟩
            have hll : L2.length = L1.length := by rw [hL2, List.length_set, List.length_set]
            rw [← hL2] at HF HSL
            have HL9 := Lib.hid (show u2.ownsRow w.heap.size 3 1 (.slice (some ⟨g8, 0, none⟩) L2.length c8) L2.length (ni L2) from by rw [hll]; exact HF.out.2)
            have HM9 := Lib.hid HF.out.1
            clear hL2 HF
            have HLL := Lib.hid hll
            clear hll
            have hz := fun w' (h : Tch [] u2 w') => (len_any _ _ _ _ w' (HM9.out.call h)).mono (fun e w'' q => And.intro q.1 (q.2 ▸ h : Tch [] u2 w''))
            rw [wofs_len, HLL.out] at hz
            have HZ := Lib.hid hz
            clear hz
            go_upto_region 18 with (fail)
            try simp only [Act.put, List.setIfInBounds_toArray, List.set_cons_zero, List.set_cons_succ]
            refine k_seq (C := fun w' => Tch [] u2 w') (Tch.refl _ _) ?_
            refine k_val (v := .bool true) rfl _ (.inl rfl) rfl ?_; try simp only [Act.put, List.setIfInBounds_toArray, List.set_cons_zero, List.set_cons_succ]
            refine k_val (v := .int .i64 (d : Int)) rfl _ (.inl rfl) rfl ?_; try simp only [Act.put, List.setIfInBounds_toArray, List.set_cons_zero, List.set_cons_succ]
            refine k_geqI (m := (d : Int)) (n := 1) (t := true) rfl _ _ _ rfl rfl rfl (decide_eq_true (by omega)) ?_; try simp only [Act.put, List.setIfInBounds_toArray, List.set_cons_zero, List.set_cons_succ]
            refine k_val (v := .bool true) rfl _ (.inl rfl) rfl ?_; try simp only [Act.put, List.setIfInBounds_toArray, List.set_cons_zero, List.set_cons_succ]
            refine k_val (v := .int .i64 (d : Int)) rfl _ (.inl rfl) rfl ?_; try simp only [Act.put, List.setIfInBounds_toArray, List.set_cons_zero, List.set_cons_succ]
            refine k_val (v := .int .i64 (k : Int)) rfl _ (.inl rfl) rfl ?_; try simp only [Act.put, List.setIfInBounds_toArray, List.set_cons_zero, List.set_cons_succ]
            refine k_leqI (m := (d : Int)) (n := (k : Int)) (t := true) rfl _ _ _ rfl rfl rfl (decide_eq_true (by omega)) ?_; try simp only [Act.put, List.setIfInBounds_toArray, List.set_cons_zero, List.set_cons_succ]
            refine k_pickT (t := true) rfl _ _ _ rfl rfl rfl ?_; try simp only [Act.put, List.setIfInBounds_toArray, List.set_cons_zero, List.set_cons_succ]
            refine k_neqB (s := true) (r := true) (t := false) rfl _ _ _ rfl rfl rfl rfl ?_; try simp only [Act.put, List.setIfInBounds_toArray, List.set_cons_zero, List.set_cons_succ]
            refine k_val (v := .bool false) rfl _ (.inl rfl) rfl ?_; try simp only [Act.put, List.setIfInBounds_toArray, List.set_cons_zero, List.set_cons_succ]
            refine k_val (v := .bool true) rfl _ (.inl rfl) rfl ?_; try simp only [Act.put, List.setIfInBounds_toArray, List.set_cons_zero, List.set_cons_succ]
            refine k_val (v := .int .i64 (s : Int)) rfl _ (.inl rfl) rfl ?_; try simp only [Act.put, List.setIfInBounds_toArray, List.set_cons_zero, List.set_cons_succ]
            refine k_geqI (m := (s : Int)) (n := 1) (t := true) rfl _ _ _ rfl rfl rfl (decide_eq_true (by omega)) ?_; try simp only [Act.put, List.setIfInBounds_toArray, List.set_cons_zero, List.set_cons_succ]
            refine k_val (v := .bool true) rfl _ (.inl rfl) rfl ?_; try simp only [Act.put, List.setIfInBounds_toArray, List.set_cons_zero, List.set_cons_succ]
            refine k_val (v := .int .i64 (s : Int)) rfl _ (.inl rfl) rfl ?_; try simp only [Act.put, List.setIfInBounds_toArray, List.set_cons_zero, List.set_cons_succ]
            refine k_val (v := .int .i64 ((L1.length - 1 : Nat) : Int)) rfl _ (.inl rfl) rfl ?_; try simp only [Act.put, List.setIfInBounds_toArray, List.set_cons_zero, List.set_cons_succ]
            refine k_leqI (m := (s : Int)) (n := ((L1.length - 1 : Nat) : Int)) (t := true) rfl _ _ _ rfl rfl rfl (decide_eq_true (by omega)) ?_; try simp only [Act.put, List.setIfInBounds_toArray, List.set_cons_zero, List.set_cons_succ]
            refine k_pickT (t := true) rfl _ _ _ rfl rfl rfl ?_; try simp only [Act.put, List.setIfInBounds_toArray, List.set_cons_zero, List.set_cons_succ]
            refine k_neqB (s := true) (r := true) (t := false) rfl _ _ _ rfl rfl rfl rfl ?_; try simp only [Act.put, List.setIfInBounds_toArray, List.set_cons_zero, List.set_cons_succ]
            refine k_pickF (t := false) rfl _ _ _ rfl rfl rfl ?_; try simp only [Act.put, List.setIfInBounds_toArray, List.set_cons_zero, List.set_cons_succ]
            refine k_val (v := .bool false) rfl _ (.inl rfl) rfl ?_; try simp only [Act.put, List.setIfInBounds_toArray, List.set_cons_zero, List.set_cons_succ]
            refine k_callC1 (v := .int .i64 (L1.length : Int)) rfl rfl rfl Try.call11 (fun w' h => HZ.out w' h) ?_; try simp only [Act.put, List.setIfInBounds_toArray, List.set_cons_zero, List.set_cons_succ]
            refine k_val (v := .slice (some ⟨g8, 0, none⟩) L1.length c8) rfl _ (.inl rfl) rfl ?_; try simp only [Act.put, List.setIfInBounds_toArray, List.set_cons_zero, List.set_cons_succ]
            refine k_lenI (p := (some ⟨g8, 0, none⟩)) (n := L1.length) (c := c8) rfl _ rfl rfl ?_; try simp only [Act.put, List.setIfInBounds_toArray, List.set_cons_zero, List.set_cons_succ]
            refine k_neqI (m := (L1.length : Int)) (n := (L1.length : Int)) (t := false) rfl _ _ _ rfl rfl rfl (decide_eq_false (by omega)) ?_; try simp only [Act.put, List.setIfInBounds_toArray, List.set_cons_zero, List.set_cons_succ]
            refine k_pickF (t := false) rfl _ _ _ rfl rfl rfl ?_; try simp only [Act.put, List.setIfInBounds_toArray, List.set_cons_zero, List.set_cons_succ]
            refine k_end ?_
            intro wA hTA
            have HMA := Lib.hid (HM9.out.call hTA)
            have HLA := Lib.hid (own_far HL9.out hTA (by simp))
            have hTwB := hTwA.trans hTA
            clear HM9 HL9 hTwA hTA HZ
            go_upto_region 20 with (fail)
            try simp only [Act.put, List.setIfInBounds_toArray, List.set_cons_zero, List.set_cons_succ]
            refine k_seq (C := fun w' => Tch [] wA w') (Tch.refl _ _) ?_
            refine k_val (v := .slice (some ⟨g8, 0, none⟩) L1.length c8) rfl _ (.inl rfl) rfl ?_; try simp only [Act.put, List.setIfInBounds_toArray, List.set_cons_zero, List.set_cons_succ]
            refine k_lenI (p := (some ⟨g8, 0, none⟩)) (n := L1.length) (c := c8) rfl _ rfl rfl ?_; try simp only [Act.put, List.setIfInBounds_toArray, List.set_cons_zero, List.set_cons_succ]
            refine k_sub (m := (L1.length : Int)) (n := 1) (s := (L1.length : Int) - 1) rfl _ _ _ _ rfl rfl rfl (by rw [IntKind.wrap_i64]; omega) ?_; try simp only [Act.put, List.setIfInBounds_toArray, List.set_cons_zero, List.set_cons_succ]
            refine k_val (v := .int .i64 ((L1.length : Int) - 1)) rfl _ (.inr rfl) rfl ?_; try simp only [Act.put, List.setIfInBounds_toArray, List.set_cons_zero, List.set_cons_succ]
            refine k_end ?_
            intro wB hTB
            have HMB := Lib.hid (HMA.out.call hTB)
            have HLB := Lib.hid (show wB.ownsRow w.heap.size 3 1 (.slice (some ⟨g8, 0, none⟩) L1.length c8) L1.length (ni L2) from by have := own_far HLA.out hTB (by simp); rwa [HLL.out] at this)
            have hTwC := hTwB.trans hTB
            clear HMA HLA hTwB hTB
            go_upto_region 21 with (fail)
            go_loopw [14] (fun i wr => ∃ m : Nat, i = .int .i64 ((m : Int) - 1) ∧ m ≤ L1.length ∧ Hid (∃ v, StkIn w.heap.size 29 wr b v ((wofs L2).take m) ∧ wr.ownsRow w.heap.size 3 1 (.slice (some ⟨g8, 0, none⟩) L1.length c8) L1.length (ni L2) ∧ DisI b v (.slice (some ⟨g8, 0, none⟩) L1.length c8)) ∧ Tch [] w wr) (fun i _ => (intOf i + 1).toNat)
            case atStart => exact ⟨L1.length, rfl, Nat.le_refl _, Lib.hid ⟨_, by rw [show L1.length = (wofs L2).length by rw [wofs_len, HLL.out], List.take_length]; exact HMB.out, HLB.out, HD7.out⟩, hTwC⟩
            case round =>
              clear HMB HLB hTwC HD7
              obtain ⟨m, rfl, hm, HR0, hTr⟩ := hrel
              obtain ⟨v, hR⟩ := HR0.out
              have HR := Lib.hid hR
              clear hR HR0
              by_cases hm0 : m = 0
              · subst hm0
                have hPp := pop_any w.heap.size b v ((wofs L2).take 0) 1 wr HR.out.1 (by simp) (by omega)
                rw [show popOk ((wofs L2).take 0) 1 = false from by rw [List.take_zero]; decide] at hPp
                have HPp := Lib.hid hPp
                clear hPp
                have hneg : ¬ (0 : Int) ≤ ((0 : Nat) : Int) - 1 := by omega
                go_wp2_with (go_at_call 12; go_must (refine HPp.out.mono ?_; rintro e wC ⟨vo, vC, rfl, hoC, hMC, hTC⟩; have hTf := Turned.fresh_tch hTr hTC (fun x hx => (HR.out.1.lt hx).1); clear hoC hMC hTC))
                go_ret
                exact ⟨rfl, hTf⟩
              · obtain ⟨m, rfl⟩ : ∃ j, m = j + 1 := ⟨m - 1, by omega⟩
                have hml : m < L2.length := by rw [HLL.out]; omega
                have htl : ((wofs L2).take (m + 1)).length = m + 1 := by rw [List.length_take, wofs_len]; exact Nat.min_eq_left hml
                have hPp := pop_any w.heap.size b v ((wofs L2).take (m + 1)) 1 wr HR.out.1 (by rw [htl]; omega) (by omega)
                rw [show popOk ((wofs L2).take (m + 1)) 1 = true from by unfold popOk; rw [htl]; exact decide_eq_true (by omega), show popOut ((wofs L2).take (m + 1)) 1 = [wof ((L2.getD m 0 : Nat) : Int)] from by
                  unfold popOut outL
                  rw [htl, if_pos (by omega)]
                  show [((wofs L2).take (m + 1)).getD (m + 1 - 1 - 0) []] = _
                  rw [show m + 1 - 1 - 0 = m by omega, List.getD_eq_getElem?_getD, List.getElem?_take_of_lt (by omega), ← List.getD_eq_getElem?_getD, wofs_getD hml], show popL ((wofs L2).take (m + 1)) 1 = (wofs L2).take m from by
                  unfold popL
                  rw [htl, if_pos (by omega), List.take_take]
                  congr 1
                  show min (m + 1 - 1) (m + 1) = m
                  omega] at hPp
                have hxl := getD_lt HSL.out (by decide) m
                have HXX := Lib.hid (show L2.getD m 0 = L2.getD m 0 from rfl)
                obtain ⟨x, hx⟩ : ∃ x, x = L2.getD m 0 := ⟨_, rfl⟩
                rw [← hx] at hPp hxl
                have HPp := Lib.hid hPp
                have HX := Lib.hid hx.symm
                have HO := Lib.hid (fun w' => rOfW_any (x : Int) (by omega) w')
                clear hPp hx HXX htl
                have hpos : (0 : Int) ≤ ((m + 1 : Nat) : Int) - 1 := by omega
                have hnx : ((m + 1 : Nat) : Int) - 1 = (m : Int) := by omega
                rw [hnx] at hpos ⊢
                skip
                go_upto_region 24 with (go_at_call 12; go_must (refine HPp.out.mono ?_; rintro e wC ⟨vo, vC, rfl, hoC, hMC, hTC⟩; have HC := Lib.hid (And.intro hoC (And.intro hMC hTC)); clear hoC hMC hTC))
                obtain ⟨po, co, rfl, _, hpo⟩ := own_sliceW HC.out.1
                obtain ⟨go', rfl⟩ := hpo (by simp)
                have HO1 := Lib.hid (fun w' (h : Tch [] wC w') => (own_far HC.out.1 h (by simp) : w'.ownsRow wr.heap.size 37 32 (.slice (some ⟨go', 0, none⟩) 1 co) 1 (wcs [wof (x : Int)])))
                have HL2 := Lib.hid (own_turned HR.out.2.1 HR.out.2.2 HC.out.2.2)
                have HO2 := Lib.hid (fun w' (h : Tch [] wC w') => own_far HL2.out h (by simp))
                try simp only [Act.put, List.setIfInBounds_toArray, List.set_cons_zero, List.set_cons_succ]
                refine k_region (C := fun w' => Tch [] wC w') (by kernel_rfl) (by kernel_rfl) ((Tch.refl _ _).drew) ?_
                refine k_val (v := .bool true) rfl _ (.inl rfl) rfl ?_; try simp only [Act.put, List.setIfInBounds_toArray, List.set_cons_zero, List.set_cons_succ]
                refine k_notV (s := true) (t := false) rfl _ _ rfl rfl rfl ?_; try simp only [Act.put, List.setIfInBounds_toArray, List.set_cons_zero, List.set_cons_succ]
                refine k_val (v := .bool false) rfl _ (.inl rfl) rfl ?_; try simp only [Act.put, List.setIfInBounds_toArray, List.set_cons_zero, List.set_cons_succ]
                refine k_val (v := .slice (some ⟨go', 0, none⟩) 1 co) rfl _ (.inl rfl) rfl ?_; try simp only [Act.put, List.setIfInBounds_toArray, List.set_cons_zero, List.set_cons_succ]
                refine k_lenW (p := (some ⟨go', 0, none⟩)) (n := 1) (c := co) rfl _ rfl rfl ?_; try simp only [Act.put, List.setIfInBounds_toArray, List.set_cons_zero, List.set_cons_succ]
                refine k_neqI (m := (1 : Int)) (n := 1) (t := false) rfl _ _ _ rfl rfl rfl (decide_eq_false (by omega)) ?_; try simp only [Act.put, List.setIfInBounds_toArray, List.set_cons_zero, List.set_cons_succ]
                refine k_pickF (t := false) rfl _ _ _ rfl rfl rfl ?_; try simp only [Act.put, List.setIfInBounds_toArray, List.set_cons_zero, List.set_cons_succ]
                refine k_val (v := .bool false) rfl _ (.inl rfl) rfl ?_; try simp only [Act.put, List.setIfInBounds_toArray, List.set_cons_zero, List.set_cons_succ]
                refine k_val (v := .slice (some ⟨go', 0, none⟩) 1 co) rfl _ (.inl rfl) rfl ?_; try simp only [Act.put, List.setIfInBounds_toArray, List.set_cons_zero, List.set_cons_succ]
                refine k_in (v := .pointer (some ⟨go', 0, none⟩)) rfl (fun w' h => x_idxW0 _ _ rfl rfl rfl (by decide)) ?_; try simp only [Act.put, List.setIfInBounds_toArray, List.set_cons_zero, List.set_cons_succ]
                refine k_in (v := .agg (wv (wof (x : Int)))) rfl (fun w' h => x_ldW0 _ rfl rfl (HO1.out w' h) (by simp) rfl) ?_; try simp only [Act.put, List.setIfInBounds_toArray, List.set_cons_zero, List.set_cons_succ]
                refine k_val (v := .slice (some ⟨g8, 0, none⟩) L1.length c8) rfl _ (.inl rfl) rfl ?_; try simp only [Act.put, List.setIfInBounds_toArray, List.set_cons_zero, List.set_cons_succ]
                refine k_val (v := .int .i64 (m : Int)) rfl _ (.inl rfl) rfl ?_; try simp only [Act.put, List.setIfInBounds_toArray, List.set_cons_zero, List.set_cons_succ]
                refine k_in (v := .pointer (some ⟨g8, m, none⟩)) rfl (fun w' h => x_idxI _ _ rfl rfl rfl (by omega)) ?_; try simp only [Act.put, List.setIfInBounds_toArray, List.set_cons_zero, List.set_cons_succ]
                refine k_in (v := .int .i64 (x : Int)) rfl (fun w' h => x_ldI _ rfl rfl (HO2.out w' h) hml HX.out) ?_; try simp only [Act.put, List.setIfInBounds_toArray, List.set_cons_zero, List.set_cons_succ]
                refine k_callC1 (v := .agg (wv (wof (x : Int)))) rfl rfl rfl Try.call17 (fun w' h => (HO.out w').mono (fun e w'' q => ⟨q.1, h.trans q.2⟩)) ?_; try simp only [Act.put, List.setIfInBounds_toArray, List.set_cons_zero, List.set_cons_succ]
                refine k_in (v := .bool false) rfl (fun w' h => x_neqW (wof_ok _) _ _ _ rfl rfl rfl) ?_; try simp only [Act.put, List.setIfInBounds_toArray, List.set_cons_zero, List.set_cons_succ]
                refine k_pickF (t := false) rfl _ _ _ rfl rfl rfl ?_; try simp only [Act.put, List.setIfInBounds_toArray, List.set_cons_zero, List.set_cons_succ]
                refine k_end ?_
                intro wD hTD
                have HFF := Lib.hid (show StkIn w.heap.size 29 wD b vC ((wofs L2).take m) ∧ wD.ownsRow w.heap.size 3 1 (.slice (some ⟨g8, 0, none⟩) L1.length c8) L1.length (ni L2) ∧ DisI b vC (.slice (some ⟨g8, 0, none⟩) L1.length c8) from ⟨HC.out.2.1.call hTD, HO2.out _ hTD, dis_turned HR.out.2.2 HC.out.2.2 (fun j hj => (HR.out.2.1.lt j hj).2)⟩)
                have hTf := (Turned.fresh_tch hTr HC.out.2.2 (fun x hx => (HR.out.1.lt hx).1)).trans hTD
                clear HC HO1 HL2 HO2 HR hTr hTD
                go_wp2
                go_roundw
                case rel => first | exact ⟨m, by go_num, by omega, Lib.hid ⟨vC, HFF.out⟩, hTf⟩ | exact ⟨m, rfl, by omega, Lib.hid ⟨vC, HFF.out⟩⟩
                case measure => first | (simp [intOf]; done) | (simp [intOf]; omega)
          · refine held_x (v := .int .i64 ((L1.getD (L1.length - 1) 0 : Nat) : Int)) rfl rfl (x_ldI _ rfl rfl (HO17.out _ hD0) hk1 rfl) ?_
            refine ⟨hC, ?_⟩
            try simp only [Act.put, List.setIfInBounds_toArray, List.set_cons_zero, List.set_cons_succ]
            refine held_one 11 (by kernel_rfl) ?_
            refine held_x (v := .int .i64 ((L1.getD (L1.length - 1 - s) 0 : Nat) : Int)) rfl rfl (x_ldI _ rfl rfl (HO17.out _ hD0) hk2 rfl) ?_
            refine ⟨hC, ?_⟩
            try simp only [Act.put, List.setIfInBounds_toArray, List.set_cons_zero, List.set_cons_succ]
            refine held_in (v := (.pointer (some ⟨g8, L1.length - 1, none⟩))) 16 rfl (by kernel_rfl) (by kernel_rfl) (by kernel_rfl) (fun _ _ _ h => h) hC rfl (fun w' hw' => x_idxI _ _ rfl rfl rfl hk1) ?_
            try simp only [Act.put, List.setIfInBounds_toArray, List.set_cons_zero, List.set_cons_succ]
            refine held_one 17 (by kernel_rfl) ?_
            refine held_stI (x := L1.getD (L1.length - 1 - s) 0) (k := L1.length - 1) (HO17.out _ hD0) hk1 rfl rfl rfl (by rfl) (by rfl) ?_
            intro u1 hO1 h1
            have hC1 := hC.trans hO1.tch
            refine ⟨hC1, ?_⟩
            try simp only [Act.put, List.setIfInBounds_toArray, List.set_cons_zero, List.set_cons_succ]
            refine held_in (v := (.pointer (some ⟨g8, L1.length - 1 - s, none⟩))) 18 rfl (by kernel_rfl) (by kernel_rfl) (by kernel_rfl) (fun _ _ _ h => h) hC1 rfl (fun w' hw' => x_idxI _ _ rfl rfl rfl hk2) ?_
            try simp only [Act.put, List.setIfInBounds_toArray, List.set_cons_zero, List.set_cons_succ]
            refine held_one 19 (by kernel_rfl) ?_
            refine held_stI (x := L1.getD (L1.length - 1) 0) (k := L1.length - 1 - s) h1 (by rw [List.length_set]; exact hk2) rfl rfl rfl (by rfl) (by rfl) ?_
            intro u2 hO2 h2
            have hC2 := hC1.trans hO2.tch
            refine ⟨hC2, ?_⟩
            have hO12 := (hD0.mono (cs := [g8]) (by simp)).trans (hO1.tch.trans hO2.tch)
            have HF := Lib.hid (And.intro (HM9.out.far hO12 (fun x hx hm => HD7.out x hx (by simpa [Value.ownBlock] using hm))) h2)
            have hTwA : Tch [] w u2 := Tch.fresh hTw9 hO12 (fun x hx => (HL9.out.lt x (by rw [List.mem_singleton.1 hx]; rfl)).1)
            clear h1 h2 hO1 hO2 hO12 hC2 hC1 hC HM9 HL9 hTw9
            refine wpAnyH_done (by kernel_rfl) ?_ _
            obtain ⟨L2, hL2⟩ : ∃ L, L = (L1.set (L1.length - 1) (L1.getD (L1.length - 1 - s) 0)).set (L1.length - 1 - s) (L1.getD (L1.length - 1) 0) := ⟨_, rfl⟩
            have hll : L2.length = L1.length := by rw [hL2, List.length_set, List.length_set]
            rw [← hL2] at HF HSL
            have HL9 := Lib.hid (show u2.ownsRow w.heap.size 3 1 (.slice (some ⟨g8, 0, none⟩) L2.length c8) L2.length (ni L2) from by rw [hll]; exact HF.out.2)
            have HM9 := Lib.hid HF.out.1
            clear hL2 HF
            have HLL := Lib.hid hll
            clear hll
            have hz := fun w' (h : Tch [] u2 w') => (len_any _ _ _ _ w' (HM9.out.call h)).mono (fun e w'' q => And.intro q.1 (q.2 ▸ h : Tch [] u2 w''))
            rw [wofs_len, HLL.out] at hz
            have HZ := Lib.hid hz
            clear hz
            go_upto_region 18 with (fail)
            try simp only [Act.put, List.setIfInBounds_toArray, List.set_cons_zero, List.set_cons_succ]
            refine k_seq (C := fun w' => Tch [] u2 w') (Tch.refl _ _) ?_
            refine k_val (v := .bool true) rfl _ (.inl rfl) rfl ?_; try simp only [Act.put, List.setIfInBounds_toArray, List.set_cons_zero, List.set_cons_succ]
            refine k_val (v := .int .i64 (d : Int)) rfl _ (.inl rfl) rfl ?_; try simp only [Act.put, List.setIfInBounds_toArray, List.set_cons_zero, List.set_cons_succ]
            refine k_geqI (m := (d : Int)) (n := 1) (t := true) rfl _ _ _ rfl rfl rfl (decide_eq_true (by omega)) ?_; try simp only [Act.put, List.setIfInBounds_toArray, List.set_cons_zero, List.set_cons_succ]
            refine k_val (v := .bool true) rfl _ (.inl rfl) rfl ?_; try simp only [Act.put, List.setIfInBounds_toArray, List.set_cons_zero, List.set_cons_succ]
            refine k_val (v := .int .i64 (d : Int)) rfl _ (.inl rfl) rfl ?_; try simp only [Act.put, List.setIfInBounds_toArray, List.set_cons_zero, List.set_cons_succ]
            refine k_val (v := .int .i64 (k : Int)) rfl _ (.inl rfl) rfl ?_; try simp only [Act.put, List.setIfInBounds_toArray, List.set_cons_zero, List.set_cons_succ]
            refine k_leqI (m := (d : Int)) (n := (k : Int)) (t := true) rfl _ _ _ rfl rfl rfl (decide_eq_true (by omega)) ?_; try simp only [Act.put, List.setIfInBounds_toArray, List.set_cons_zero, List.set_cons_succ]
            refine k_pickT (t := true) rfl _ _ _ rfl rfl rfl ?_; try simp only [Act.put, List.setIfInBounds_toArray, List.set_cons_zero, List.set_cons_succ]
            refine k_neqB (s := true) (r := true) (t := false) rfl _ _ _ rfl rfl rfl rfl ?_; try simp only [Act.put, List.setIfInBounds_toArray, List.set_cons_zero, List.set_cons_succ]
            refine k_val (v := .bool false) rfl _ (.inl rfl) rfl ?_; try simp only [Act.put, List.setIfInBounds_toArray, List.set_cons_zero, List.set_cons_succ]
            refine k_val (v := .bool true) rfl _ (.inl rfl) rfl ?_; try simp only [Act.put, List.setIfInBounds_toArray, List.set_cons_zero, List.set_cons_succ]
            refine k_val (v := .int .i64 (s : Int)) rfl _ (.inl rfl) rfl ?_; try simp only [Act.put, List.setIfInBounds_toArray, List.set_cons_zero, List.set_cons_succ]
            refine k_geqI (m := (s : Int)) (n := 1) (t := true) rfl _ _ _ rfl rfl rfl (decide_eq_true (by omega)) ?_; try simp only [Act.put, List.setIfInBounds_toArray, List.set_cons_zero, List.set_cons_succ]
            refine k_val (v := .bool true) rfl _ (.inl rfl) rfl ?_; try simp only [Act.put, List.setIfInBounds_toArray, List.set_cons_zero, List.set_cons_succ]
            refine k_val (v := .int .i64 (s : Int)) rfl _ (.inl rfl) rfl ?_; try simp only [Act.put, List.setIfInBounds_toArray, List.set_cons_zero, List.set_cons_succ]
            refine k_val (v := .int .i64 ((L1.length - 1 : Nat) : Int)) rfl _ (.inl rfl) rfl ?_; try simp only [Act.put, List.setIfInBounds_toArray, List.set_cons_zero, List.set_cons_succ]
            refine k_leqI (m := (s : Int)) (n := ((L1.length - 1 : Nat) : Int)) (t := true) rfl _ _ _ rfl rfl rfl (decide_eq_true (by omega)) ?_; try simp only [Act.put, List.setIfInBounds_toArray, List.set_cons_zero, List.set_cons_succ]
            refine k_pickT (t := true) rfl _ _ _ rfl rfl rfl ?_; try simp only [Act.put, List.setIfInBounds_toArray, List.set_cons_zero, List.set_cons_succ]
            refine k_neqB (s := true) (r := true) (t := false) rfl _ _ _ rfl rfl rfl rfl ?_; try simp only [Act.put, List.setIfInBounds_toArray, List.set_cons_zero, List.set_cons_succ]
            refine k_pickF (t := false) rfl _ _ _ rfl rfl rfl ?_; try simp only [Act.put, List.setIfInBounds_toArray, List.set_cons_zero, List.set_cons_succ]
            refine k_val (v := .bool false) rfl _ (.inl rfl) rfl ?_; try simp only [Act.put, List.setIfInBounds_toArray, List.set_cons_zero, List.set_cons_succ]
            refine k_callC1 (v := .int .i64 (L1.length : Int)) rfl rfl rfl Try.call11 (fun w' h => HZ.out w' h) ?_; try simp only [Act.put, List.setIfInBounds_toArray, List.set_cons_zero, List.set_cons_succ]
            refine k_val (v := .slice (some ⟨g8, 0, none⟩) L1.length c8) rfl _ (.inl rfl) rfl ?_; try simp only [Act.put, List.setIfInBounds_toArray, List.set_cons_zero, List.set_cons_succ]
            refine k_lenI (p := (some ⟨g8, 0, none⟩)) (n := L1.length) (c := c8) rfl _ rfl rfl ?_; try simp only [Act.put, List.setIfInBounds_toArray, List.set_cons_zero, List.set_cons_succ]
            refine k_neqI (m := (L1.length : Int)) (n := (L1.length : Int)) (t := false) rfl _ _ _ rfl rfl rfl (decide_eq_false (by omega)) ?_; try simp only [Act.put, List.setIfInBounds_toArray, List.set_cons_zero, List.set_cons_succ]
            refine k_pickF (t := false) rfl _ _ _ rfl rfl rfl ?_; try simp only [Act.put, List.setIfInBounds_toArray, List.set_cons_zero, List.set_cons_succ]
            refine k_end ?_
            intro wA hTA
            have HMA := Lib.hid (HM9.out.call hTA)
            have HLA := Lib.hid (own_far HL9.out hTA (by simp))
            have hTwB := hTwA.trans hTA
            clear HM9 HL9 hTwA hTA HZ
            go_upto_region 20 with (fail)
            try simp only [Act.put, List.setIfInBounds_toArray, List.set_cons_zero, List.set_cons_succ]
            refine k_seq (C := fun w' => Tch [] wA w') (Tch.refl _ _) ?_
            refine k_val (v := .slice (some ⟨g8, 0, none⟩) L1.length c8) rfl _ (.inl rfl) rfl ?_; try simp only [Act.put, List.setIfInBounds_toArray, List.set_cons_zero, List.set_cons_succ]
            refine k_lenI (p := (some ⟨g8, 0, none⟩)) (n := L1.length) (c := c8) rfl _ rfl rfl ?_; try simp only [Act.put, List.setIfInBounds_toArray, List.set_cons_zero, List.set_cons_succ]
            refine k_sub (m := (L1.length : Int)) (n := 1) (s := (L1.length : Int) - 1) rfl _ _ _ _ rfl rfl rfl (by rw [IntKind.wrap_i64]; omega) ?_; try simp only [Act.put, List.setIfInBounds_toArray, List.set_cons_zero, List.set_cons_succ]
            refine k_val (v := .int .i64 ((L1.length : Int) - 1)) rfl _ (.inr rfl) rfl ?_; try simp only [Act.put, List.setIfInBounds_toArray, List.set_cons_zero, List.set_cons_succ]
            refine k_end ?_
            intro wB hTB
            have HMB := Lib.hid (HMA.out.call hTB)
            have HLB := Lib.hid (show wB.ownsRow w.heap.size 3 1 (.slice (some ⟨g8, 0, none⟩) L1.length c8) L1.length (ni L2) from by have := own_far HLA.out hTB (by simp); rwa [HLL.out] at this)
            have hTwC := hTwB.trans hTB
            clear HMA HLA hTwB hTB
            go_upto_region 21 with (fail)
            go_loopw [14] (fun i wr => ∃ m : Nat, i = .int .i64 ((m : Int) - 1) ∧ m ≤ L1.length ∧ Hid (∃ v, StkIn w.heap.size 29 wr b v ((wofs L2).take m) ∧ wr.ownsRow w.heap.size 3 1 (.slice (some ⟨g8, 0, none⟩) L1.length c8) L1.length (ni L2) ∧ DisI b v (.slice (some ⟨g8, 0, none⟩) L1.length c8)) ∧ Tch [] w wr) (fun i _ => (intOf i + 1).toNat)
            case atStart => exact ⟨L1.length, rfl, Nat.le_refl _, Lib.hid ⟨_, by rw [show L1.length = (wofs L2).length by rw [wofs_len, HLL.out], List.take_length]; exact HMB.out, HLB.out, HD7.out⟩, hTwC⟩
            case round =>
              clear HMB HLB hTwC HD7
              obtain ⟨m, rfl, hm, HR0, hTr⟩ := hrel
              obtain ⟨v, hR⟩ := HR0.out
              have HR := Lib.hid hR
              clear hR HR0
              by_cases hm0 : m = 0
              · subst hm0
                have hPp := pop_any w.heap.size b v ((wofs L2).take 0) 1 wr HR.out.1 (by simp) (by omega)
                rw [show popOk ((wofs L2).take 0) 1 = false from by rw [List.take_zero]; decide] at hPp
                have HPp := Lib.hid hPp
                clear hPp
                have hneg : ¬ (0 : Int) ≤ ((0 : Nat) : Int) - 1 := by omega
                go_wp2_with (go_at_call 12; go_must (refine HPp.out.mono ?_; rintro e wC ⟨vo, vC, rfl, hoC, hMC, hTC⟩; have hTf := Turned.fresh_tch hTr hTC (fun x hx => (HR.out.1.lt hx).1); clear hoC hMC hTC))
                go_ret
                exact ⟨rfl, hTf⟩
              · obtain ⟨m, rfl⟩ : ∃ j, m = j + 1 := ⟨m - 1, by omega⟩
                have hml : m < L2.length := by rw [HLL.out]; omega
                have htl : ((wofs L2).take (m + 1)).length = m + 1 := by rw [List.length_take, wofs_len]; exact Nat.min_eq_left hml
                have hPp := pop_any w.heap.size b v ((wofs L2).take (m + 1)) 1 wr HR.out.1 (by rw [htl]; omega) (by omega)
                rw [show popOk ((wofs L2).take (m + 1)) 1 = true from by unfold popOk; rw [htl]; exact decide_eq_true (by omega), show popOut ((wofs L2).take (m + 1)) 1 = [wof ((L2.getD m 0 : Nat) : Int)] from by
                  unfold popOut outL
                  rw [htl, if_pos (by omega)]
                  show [((wofs L2).take (m + 1)).getD (m + 1 - 1 - 0) []] = _
                  rw [show m + 1 - 1 - 0 = m by omega, List.getD_eq_getElem?_getD, List.getElem?_take_of_lt (by omega), ← List.getD_eq_getElem?_getD, wofs_getD hml], show popL ((wofs L2).take (m + 1)) 1 = (wofs L2).take m from by
                  unfold popL
                  rw [htl, if_pos (by omega), List.take_take]
                  congr 1
                  show min (m + 1 - 1) (m + 1) = m
                  omega] at hPp
                have hxl := getD_lt HSL.out (by decide) m
                have HXX := Lib.hid (show L2.getD m 0 = L2.getD m 0 from rfl)
                obtain ⟨x, hx⟩ : ∃ x, x = L2.getD m 0 := ⟨_, rfl⟩
                rw [← hx] at hPp hxl
                have HPp := Lib.hid hPp
                have HX := Lib.hid hx.symm
                have HO := Lib.hid (fun w' => rOfW_any (x : Int) (by omega) w')
                clear hPp hx HXX htl
                have hpos : (0 : Int) ≤ ((m + 1 : Nat) : Int) - 1 := by omega
                have hnx : ((m + 1 : Nat) : Int) - 1 = (m : Int) := by omega
                rw [hnx] at hpos ⊢
                skip
                go_upto_region 24 with (go_at_call 12; go_must (refine HPp.out.mono ?_; rintro e wC ⟨vo, vC, rfl, hoC, hMC, hTC⟩; have HC := Lib.hid (And.intro hoC (And.intro hMC hTC)); clear hoC hMC hTC))
                obtain ⟨po, co, rfl, _, hpo⟩ := own_sliceW HC.out.1
                obtain ⟨go', rfl⟩ := hpo (by simp)
                have HO1 := Lib.hid (fun w' (h : Tch [] wC w') => (own_far HC.out.1 h (by simp) : w'.ownsRow wr.heap.size 37 32 (.slice (some ⟨go', 0, none⟩) 1 co) 1 (wcs [wof (x : Int)])))
                have HL2 := Lib.hid (own_turned HR.out.2.1 HR.out.2.2 HC.out.2.2)
                have HO2 := Lib.hid (fun w' (h : Tch [] wC w') => own_far HL2.out h (by simp))
                try simp only [Act.put, List.setIfInBounds_toArray, List.set_cons_zero, List.set_cons_succ]
                refine k_region (C := fun w' => Tch [] wC w') (by kernel_rfl) (by kernel_rfl) ((Tch.refl _ _).drew) ?_
                refine k_val (v := .bool true) rfl _ (.inl rfl) rfl ?_; try simp only [Act.put, List.setIfInBounds_toArray, List.set_cons_zero, List.set_cons_succ]
                refine k_notV (s := true) (t := false) rfl _ _ rfl rfl rfl ?_; try simp only [Act.put, List.setIfInBounds_toArray, List.set_cons_zero, List.set_cons_succ]
                refine k_val (v := .bool false) rfl _ (.inl rfl) rfl ?_; try simp only [Act.put, List.setIfInBounds_toArray, List.set_cons_zero, List.set_cons_succ]
                refine k_val (v := .slice (some ⟨go', 0, none⟩) 1 co) rfl _ (.inl rfl) rfl ?_; try simp only [Act.put, List.setIfInBounds_toArray, List.set_cons_zero, List.set_cons_succ]
                refine k_lenW (p := (some ⟨go', 0, none⟩)) (n := 1) (c := co) rfl _ rfl rfl ?_; try simp only [Act.put, List.setIfInBounds_toArray, List.set_cons_zero, List.set_cons_succ]
                refine k_neqI (m := (1 : Int)) (n := 1) (t := false) rfl _ _ _ rfl rfl rfl (decide_eq_false (by omega)) ?_; try simp only [Act.put, List.setIfInBounds_toArray, List.set_cons_zero, List.set_cons_succ]
                refine k_pickF (t := false) rfl _ _ _ rfl rfl rfl ?_; try simp only [Act.put, List.setIfInBounds_toArray, List.set_cons_zero, List.set_cons_succ]
                refine k_val (v := .bool false) rfl _ (.inl rfl) rfl ?_; try simp only [Act.put, List.setIfInBounds_toArray, List.set_cons_zero, List.set_cons_succ]
                refine k_val (v := .slice (some ⟨go', 0, none⟩) 1 co) rfl _ (.inl rfl) rfl ?_; try simp only [Act.put, List.setIfInBounds_toArray, List.set_cons_zero, List.set_cons_succ]
                refine k_in (v := .pointer (some ⟨go', 0, none⟩)) rfl (fun w' h => x_idxW0 _ _ rfl rfl rfl (by decide)) ?_; try simp only [Act.put, List.setIfInBounds_toArray, List.set_cons_zero, List.set_cons_succ]
                refine k_in (v := .agg (wv (wof (x : Int)))) rfl (fun w' h => x_ldW0 _ rfl rfl (HO1.out w' h) (by simp) rfl) ?_; try simp only [Act.put, List.setIfInBounds_toArray, List.set_cons_zero, List.set_cons_succ]
                refine k_val (v := .slice (some ⟨g8, 0, none⟩) L1.length c8) rfl _ (.inl rfl) rfl ?_; try simp only [Act.put, List.setIfInBounds_toArray, List.set_cons_zero, List.set_cons_succ]
                refine k_val (v := .int .i64 (m : Int)) rfl _ (.inl rfl) rfl ?_; try simp only [Act.put, List.setIfInBounds_toArray, List.set_cons_zero, List.set_cons_succ]
                refine k_in (v := .pointer (some ⟨g8, m, none⟩)) rfl (fun w' h => x_idxI _ _ rfl rfl rfl (by omega)) ?_; try simp only [Act.put, List.setIfInBounds_toArray, List.set_cons_zero, List.set_cons_succ]
                refine k_in (v := .int .i64 (x : Int)) rfl (fun w' h => x_ldI _ rfl rfl (HO2.out w' h) hml HX.out) ?_; try simp only [Act.put, List.setIfInBounds_toArray, List.set_cons_zero, List.set_cons_succ]
                refine k_callC1 (v := .agg (wv (wof (x : Int)))) rfl rfl rfl Try.call17 (fun w' h => (HO.out w').mono (fun e w'' q => ⟨q.1, h.trans q.2⟩)) ?_; try simp only [Act.put, List.setIfInBounds_toArray, List.set_cons_zero, List.set_cons_succ]
                refine k_in (v := .bool false) rfl (fun w' h => x_neqW (wof_ok _) _ _ _ rfl rfl rfl) ?_; try simp only [Act.put, List.setIfInBounds_toArray, List.set_cons_zero, List.set_cons_succ]
                refine k_pickF (t := false) rfl _ _ _ rfl rfl rfl ?_; try simp only [Act.put, List.setIfInBounds_toArray, List.set_cons_zero, List.set_cons_succ]
                refine k_end ?_
                intro wD hTD
                have HFF := Lib.hid (show StkIn w.heap.size 29 wD b vC ((wofs L2).take m) ∧ wD.ownsRow w.heap.size 3 1 (.slice (some ⟨g8, 0, none⟩) L1.length c8) L1.length (ni L2) ∧ DisI b vC (.slice (some ⟨g8, 0, none⟩) L1.length c8) from ⟨HC.out.2.1.call hTD, HO2.out _ hTD, dis_turned HR.out.2.2 HC.out.2.2 (fun j hj => (HR.out.2.1.lt j hj).2)⟩)
                have hTf := (Turned.fresh_tch hTr HC.out.2.2 (fun x hx => (HR.out.1.lt hx).1)).trans hTD
                clear HC HO1 HL2 HO2 HR hTr hTD
                go_wp2
                go_roundw
                case rel => first | exact ⟨m, by go_num, by omega, Lib.hid ⟨vC, HFF.out⟩, hTf⟩ | exact ⟨m, rfl, by omega, Lib.hid ⟨vC, HFF.out⟩⟩
                case measure => first | (simp [intOf]; done) | (simp [intOf]; omega)
end Go.Proofs.Ytlliidfkjlmadaa
