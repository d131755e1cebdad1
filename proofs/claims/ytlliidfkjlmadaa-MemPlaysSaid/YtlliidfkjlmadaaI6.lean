/- (*Mem).Grow, the document's. -/
import Derived.Test.YtlliidfkjlmadaaI5
set_option linter.unusedVariables false
set_option linter.unusedSimpArgs false
namespace Go.Proofs.Ytlliidfkjlmadaa
open Go.RowKit
set_option maxRecDepth 100000
set_option maxHeartbeats 8000000

theorem rgrow_any (B b : Nat) (v : Value) (L A N : List Nat) (k : Nat) (w : World) (h : MemIn B 32 w b v L) (hL : L.length = 32 * k) (hk : k ≤ 32768) (hA : Wd A) (hN : Wd N) :
    Calls Try.prog 24 #[.pointer (some ⟨b, 0, none⟩), .agg (wv A), .agg (wv N)] w (GrowP B 32 w b v (growG L A N) (growOk A N) (growL L A N)) := by
  obtain ⟨p, c, hv, hc⟩ := h.slice
  have PA := Lib.hid (fun w' => rInt_any A w' hA.1 hA.2)
  have PN := Lib.hid (fun w' => rInt_any N w' hN.1 hN.2)
  unfold IntP at PA PN
  have HE := Lib.hid (fun w' (o : Oper) (a : Act) xo yo yt h1 h2 h3 => x_eqW (o := o) (a := a) (w := w') hN zs32_ok xo yo yt h1 h2 h3)
  have SA : (wv A).size = 32 := bc_size _ _
  have SN : (wv N).size = 32 := bc_size _ _
  have HX := Lib.hid (fun w' (o : Oper) (a : Act) h1 => x_buildW (o := o) (a := a) (w := w') h1)
  unfold growL growG growOk
  have HH := Lib.hid h
  have hS := St.one h.blk
  clear h hA hN
  have hsl : wds L.length = k := by unfold wds; omega
  rw [hsl]
  have HL := Lib.hid hL
  have hL1 : L.length ≤ 1048576 := by omega
  clear hL hsl
  have hbe : behN A N = match wInt A, wInt N with
    | some a, some n => if a + n ≤ 1048576 then some (a + n) else none
    | _, _ => none := rfl
  have ha := @wInt_lt A
  have hn := @wInt_lt N
  generalize wv A = ca at *
  generalize wv N = cn at *
  generalize wv zs32 = cz at *
  subst hv
  by_cases h0 : N = zs32
  · simp only [if_pos h0, h0, decide_true, Bool.true_or] at HE ⊢
    clear h0 hbe ha hn PA PN
    go_enter Try.func24, Try.ntmps24
    go_wp2_with (first
      | (have _t := b1; clear _t; refine st_box hS rfl 37 _ rfl rfl ?_; clear hS; intro w2 b2 hS)
      | (refine st_box hS rfl 37 _ rfl rfl ?_; clear hS; intro w1 b1 hS)
      | (refine st_load (b := b2) hS rfl 37 _ rfl rfl .head wordN_type rfl wordN_size SN ?_)
      | (refine st_x rfl (HX.out _ _ _ rfl) ?_)
      | (refine st_x rfl (HE.out _ _ _ _ _ _ rfl rfl rfl) ?_))
    go_ret2
    obtain ⟨h1, h2⟩ := HH.out.kept hS (.tail (.tail .head))
    exact GrowP.mk rfl h1 h2
  simp only [if_neg h0, h0, decide_false, Bool.false_or, if_false] at HE ⊢
  clear h0
  cases h1 : wInt A with
  | none =>
    rw [h1] at PA hbe
    simp only at hbe
    rw [hbe]
    simp only [Option.getD_none, Option.isSome_none] at PA ⊢
    clear ha hn hbe
    generalize (wInt N).getD 0 = n at *
    generalize (wInt N).isSome = nb at *
    go_enter Try.func24, Try.ntmps24
    go_upto_region 5 with (first
      | (have _t := b1; clear _t; refine st_box hS rfl 37 _ rfl rfl ?_; clear hS; intro w2 b2 hS)
      | (refine st_box hS rfl 37 _ rfl rfl ?_; clear hS; intro w1 b1 hS)
      | (refine st_load (b := b2) hS rfl 37 _ rfl rfl .head wordN_type rfl wordN_size SN ?_)
      | (refine st_load (b := b1) hS rfl 37 _ rfl rfl (.tail .head) wordN_type rfl wordN_size SA ?_)
      | (refine st_cell1 (v := .slice p L.length c) hS rfl 24 _ rfl rfl (.tail (.tail .head)) rfl bytes_aggI ?_)
      | (refine st_x rfl (HX.out _ _ _ rfl) ?_)
      | (refine st_x rfl (HE.out _ _ _ _ _ _ rfl rfl rfl) ?_)
      | (have _t := w3; clear _t; go_at_call 32; go_must (refine (PN.out _).mono ?_; rintro e w4 ⟨rfl, hT4⟩; replace hS := hS.call hT4; clear hT4))
      | (go_at_call 32; go_must (refine (PA.out _).mono ?_; rintro e w3 ⟨rfl, hT3⟩; replace hS := hS.call hT3; clear hT3))
      | (go_at_call 33; go_must (refine (HW2.out _).mono ?_; rintro e w5 ⟨rfl, hw5⟩; subst hw5)))
    obtain ⟨hM4, hT4⟩ := HH.out.kept hS (.tail (.tail .head))
    have HF4 := Lib.hid (And.intro hM4 hT4)
    clear hM4 hT4
    try simp only [Act.put, List.setIfInBounds_toArray, List.set_cons_zero, List.set_cons_succ]
    refine k_seq (C := fun w' => Tch [] w4 w') (Tch.refl _ _) ?_
    refine k_val (v := .bool false) rfl _ (.inl rfl) rfl ?_; try simp only [Act.put, List.setIfInBounds_toArray, List.set_cons_zero, List.set_cons_succ]
    refine k_notV (s := false) (t := true) rfl _ _ rfl rfl rfl ?_; try simp only [Act.put, List.setIfInBounds_toArray, List.set_cons_zero, List.set_cons_succ]
    refine k_val (v := .bool true) rfl _ (.inl rfl) rfl ?_; try simp only [Act.put, List.setIfInBounds_toArray, List.set_cons_zero, List.set_cons_succ]
    refine k_skip rfl rfl rfl rfl rfl ?_; try simp only [Act.put, List.setIfInBounds_toArray, List.set_cons_zero, List.set_cons_succ]
    refine k_skip rfl rfl rfl rfl rfl ?_; try simp only [Act.put, List.setIfInBounds_toArray, List.set_cons_zero, List.set_cons_succ]
    refine k_pickT (t := true) rfl _ _ _ rfl rfl rfl ?_; try simp only [Act.put, List.setIfInBounds_toArray, List.set_cons_zero, List.set_cons_succ]
    refine k_val (v := .bool true) rfl _ (.inl rfl) rfl ?_; try simp only [Act.put, List.setIfInBounds_toArray, List.set_cons_zero, List.set_cons_succ]
    refine k_skip rfl rfl rfl rfl rfl ?_; try simp only [Act.put, List.setIfInBounds_toArray, List.set_cons_zero, List.set_cons_succ]
    refine k_skip rfl rfl rfl rfl rfl ?_; try simp only [Act.put, List.setIfInBounds_toArray, List.set_cons_zero, List.set_cons_succ]
    refine k_pickT (t := true) rfl _ _ _ rfl rfl rfl ?_; try simp only [Act.put, List.setIfInBounds_toArray, List.set_cons_zero, List.set_cons_succ]
    refine k_val (v := .bool true) rfl _ (.inl rfl) rfl ?_; try simp only [Act.put, List.setIfInBounds_toArray, List.set_cons_zero, List.set_cons_succ]
    refine k_skip rfl rfl rfl rfl rfl ?_; try simp only [Act.put, List.setIfInBounds_toArray, List.set_cons_zero, List.set_cons_succ]
    refine k_skip rfl rfl rfl rfl rfl ?_; try simp only [Act.put, List.setIfInBounds_toArray, List.set_cons_zero, List.set_cons_succ]
    refine k_pickT (t := true) rfl _ _ _ rfl rfl rfl ?_; try simp only [Act.put, List.setIfInBounds_toArray, List.set_cons_zero, List.set_cons_succ]
    refine k_val (v := .bool true) rfl _ (.inl rfl) rfl ?_; try simp only [Act.put, List.setIfInBounds_toArray, List.set_cons_zero, List.set_cons_succ]
    refine k_skip rfl rfl rfl rfl rfl ?_; try simp only [Act.put, List.setIfInBounds_toArray, List.set_cons_zero, List.set_cons_succ]
    refine k_skip rfl rfl rfl rfl rfl ?_; try simp only [Act.put, List.setIfInBounds_toArray, List.set_cons_zero, List.set_cons_succ]
    refine k_skip rfl rfl rfl rfl rfl ?_; try simp only [Act.put, List.setIfInBounds_toArray, List.set_cons_zero, List.set_cons_succ]
    refine k_skip rfl rfl rfl rfl rfl ?_; try simp only [Act.put, List.setIfInBounds_toArray, List.set_cons_zero, List.set_cons_succ]
    refine k_pickT (t := true) rfl _ _ _ rfl rfl rfl ?_; try simp only [Act.put, List.setIfInBounds_toArray, List.set_cons_zero, List.set_cons_succ]
    refine k_end ?_
    intro w6 hT6
    go_wp2
    go_ret2
    exact GrowP.mk rfl (HF4.out.1.call hT6) (HF4.out.2.trans (Turned.of_tch hT6 _ _))
  | some a =>
  have ha1 := ha h1
  cases h2 : wInt N with
  | none =>
    rw [h1] at PA hbe
    rw [h2] at PN hbe
    simp only at hbe
    rw [hbe]
    simp only [Option.getD_none, Option.isSome_none, Option.getD_some, Option.isSome_some] at PA PN ⊢
    clear ha hn hbe
    go_enter Try.func24, Try.ntmps24
    go_upto_region 5 with (first
      | (have _t := b1; clear _t; refine st_box hS rfl 37 _ rfl rfl ?_; clear hS; intro w2 b2 hS)
      | (refine st_box hS rfl 37 _ rfl rfl ?_; clear hS; intro w1 b1 hS)
      | (refine st_load (b := b2) hS rfl 37 _ rfl rfl .head wordN_type rfl wordN_size SN ?_)
      | (refine st_load (b := b1) hS rfl 37 _ rfl rfl (.tail .head) wordN_type rfl wordN_size SA ?_)
      | (refine st_cell1 (v := .slice p L.length c) hS rfl 24 _ rfl rfl (.tail (.tail .head)) rfl bytes_aggI ?_)
      | (refine st_x rfl (HX.out _ _ _ rfl) ?_)
      | (refine st_x rfl (HE.out _ _ _ _ _ _ rfl rfl rfl) ?_)
      | (have _t := w3; clear _t; go_at_call 32; go_must (refine (PN.out _).mono ?_; rintro e w4 ⟨rfl, hT4⟩; replace hS := hS.call hT4; clear hT4))
      | (go_at_call 32; go_must (refine (PA.out _).mono ?_; rintro e w3 ⟨rfl, hT3⟩; replace hS := hS.call hT3; clear hT3))
      | (go_at_call 33; go_must (refine (HW2.out _).mono ?_; rintro e w5 ⟨rfl, hw5⟩; subst hw5)))
    obtain ⟨hM4, hT4⟩ := HH.out.kept hS (.tail (.tail .head))
    have HF4 := Lib.hid (And.intro hM4 hT4)
    clear hM4 hT4
    try simp only [Act.put, List.setIfInBounds_toArray, List.set_cons_zero, List.set_cons_succ]
    refine k_seq (C := fun w' => Tch [] w4 w') (Tch.refl _ _) ?_
    refine k_val (v := .bool true) rfl _ (.inl rfl) rfl ?_; try simp only [Act.put, List.setIfInBounds_toArray, List.set_cons_zero, List.set_cons_succ]
    refine k_notV (s := true) (t := false) rfl _ _ rfl rfl rfl ?_; try simp only [Act.put, List.setIfInBounds_toArray, List.set_cons_zero, List.set_cons_succ]
    refine k_val (v := .bool false) rfl _ (.inl rfl) rfl ?_; try simp only [Act.put, List.setIfInBounds_toArray, List.set_cons_zero, List.set_cons_succ]
    refine k_val (v := .bool false) rfl _ (.inl rfl) rfl ?_; try simp only [Act.put, List.setIfInBounds_toArray, List.set_cons_zero, List.set_cons_succ]
    refine k_notV (s := false) (t := true) rfl _ _ rfl rfl rfl ?_; try simp only [Act.put, List.setIfInBounds_toArray, List.set_cons_zero, List.set_cons_succ]
    refine k_pickF (t := true) rfl _ _ _ rfl rfl rfl ?_; try simp only [Act.put, List.setIfInBounds_toArray, List.set_cons_zero, List.set_cons_succ]
    refine k_val (v := .bool true) rfl _ (.inl rfl) rfl ?_; try simp only [Act.put, List.setIfInBounds_toArray, List.set_cons_zero, List.set_cons_succ]
    refine k_skip rfl rfl rfl rfl rfl ?_; try simp only [Act.put, List.setIfInBounds_toArray, List.set_cons_zero, List.set_cons_succ]
    refine k_skip rfl rfl rfl rfl rfl ?_; try simp only [Act.put, List.setIfInBounds_toArray, List.set_cons_zero, List.set_cons_succ]
    refine k_pickT (t := true) rfl _ _ _ rfl rfl rfl ?_; try simp only [Act.put, List.setIfInBounds_toArray, List.set_cons_zero, List.set_cons_succ]
    refine k_val (v := .bool true) rfl _ (.inl rfl) rfl ?_; try simp only [Act.put, List.setIfInBounds_toArray, List.set_cons_zero, List.set_cons_succ]
    refine k_skip rfl rfl rfl rfl rfl ?_; try simp only [Act.put, List.setIfInBounds_toArray, List.set_cons_zero, List.set_cons_succ]
    refine k_skip rfl rfl rfl rfl rfl ?_; try simp only [Act.put, List.setIfInBounds_toArray, List.set_cons_zero, List.set_cons_succ]
    refine k_pickT (t := true) rfl _ _ _ rfl rfl rfl ?_; try simp only [Act.put, List.setIfInBounds_toArray, List.set_cons_zero, List.set_cons_succ]
    refine k_val (v := .bool true) rfl _ (.inl rfl) rfl ?_; try simp only [Act.put, List.setIfInBounds_toArray, List.set_cons_zero, List.set_cons_succ]
    refine k_skip rfl rfl rfl rfl rfl ?_; try simp only [Act.put, List.setIfInBounds_toArray, List.set_cons_zero, List.set_cons_succ]
    refine k_skip rfl rfl rfl rfl rfl ?_; try simp only [Act.put, List.setIfInBounds_toArray, List.set_cons_zero, List.set_cons_succ]
    refine k_skip rfl rfl rfl rfl rfl ?_; try simp only [Act.put, List.setIfInBounds_toArray, List.set_cons_zero, List.set_cons_succ]
    refine k_skip rfl rfl rfl rfl rfl ?_; try simp only [Act.put, List.setIfInBounds_toArray, List.set_cons_zero, List.set_cons_succ]
    refine k_pickT (t := true) rfl _ _ _ rfl rfl rfl ?_; try simp only [Act.put, List.setIfInBounds_toArray, List.set_cons_zero, List.set_cons_succ]
    refine k_end ?_
    intro w6 hT6
    go_wp2
    go_ret2
    exact GrowP.mk rfl (HF4.out.1.call hT6) (HF4.out.2.trans (Turned.of_tch hT6 _ _))
  | some n =>
  have hn1 := hn h2
  rw [h1] at PA hbe
  rw [h2] at PN hbe
  simp only at hbe
  simp only [Option.getD_some, Option.isSome_some] at PA PN
  clear ha hn h1 h2
  by_cases hs : a + n ≤ 1048576
  · rw [if_pos hs] at hbe
    rw [hbe]
    simp only [Option.isSome_some]
    clear hbe
    have HW2 := Lib.hid (fun w' => rwords_any (a + n) w' hs)
    rw [show (a + n + 31) / 32 = wds (a + n) from rfl] at HW2
    have hwe : wds (a + n) ≤ 32768 := by unfold wds; omega
    rw [Int.natCast_add] at HW2
    generalize hse : wds (a + n) = se at *
    clear hse
    have hqa : IntKind.i64.wrap ((a : Int) + n) = (a : Int) + n := by rw [IntKind.wrap_i64]; omega
    have hqL : (L.length : Int).tdiv 32 = (k : Int) := by rw [Int.tdiv_eq_ediv_of_nonneg (by omega), HL.out]; omega
    have hqL2 : (L.length : Int) / 32 = (k : Int) := by rw [HL.out]; omega
    by_cases hle : se ≤ k
    · rw [if_pos hle, show (se - k) * 32 = 0 by omega, List.replicate_zero, List.append_nil]
      have hle' : (se : Int) ≤ (k : Int) := by omega
      go_enter Try.func24, Try.ntmps24
      go_upto_region 5 with (first
        | (have _t := b1; clear _t; refine st_box hS rfl 37 _ rfl rfl ?_; clear hS; intro w2 b2 hS)
        | (refine st_box hS rfl 37 _ rfl rfl ?_; clear hS; intro w1 b1 hS)
        | (refine st_load (b := b2) hS rfl 37 _ rfl rfl .head wordN_type rfl wordN_size SN ?_)
        | (refine st_load (b := b1) hS rfl 37 _ rfl rfl (.tail .head) wordN_type rfl wordN_size SA ?_)
        | (refine st_cell1 (v := .slice p L.length c) hS rfl 24 _ rfl rfl (.tail (.tail .head)) rfl bytes_aggI ?_)
        | (refine st_x rfl (HX.out _ _ _ rfl) ?_)
        | (refine st_x rfl (HE.out _ _ _ _ _ _ rfl rfl rfl) ?_)
        | (have _t := w3; clear _t; go_at_call 32; go_must (refine (PN.out _).mono ?_; rintro e w4 ⟨rfl, hT4⟩; replace hS := hS.call hT4; clear hT4))
        | (go_at_call 32; go_must (refine (PA.out _).mono ?_; rintro e w3 ⟨rfl, hT3⟩; replace hS := hS.call hT3; clear hT3))
        | (go_at_call 33; go_must (refine (HW2.out _).mono ?_; rintro e w5 ⟨rfl, hw5⟩; subst hw5)))
      obtain ⟨hM4, hT4⟩ := HH.out.kept hS (.tail (.tail .head))
      have HF4 := Lib.hid (And.intro hM4 hT4)
      clear hM4 hT4
      try simp only [Act.put, List.setIfInBounds_toArray, List.set_cons_zero, List.set_cons_succ]
      refine k_seq (C := fun w' => Tch [] w4 w') (Tch.refl _ _) ?_
      refine k_val (v := .bool true) rfl _ (.inl rfl) rfl ?_; try simp only [Act.put, List.setIfInBounds_toArray, List.set_cons_zero, List.set_cons_succ]
      refine k_notV (s := true) (t := false) rfl _ _ rfl rfl rfl ?_; try simp only [Act.put, List.setIfInBounds_toArray, List.set_cons_zero, List.set_cons_succ]
      refine k_val (v := .bool false) rfl _ (.inl rfl) rfl ?_; try simp only [Act.put, List.setIfInBounds_toArray, List.set_cons_zero, List.set_cons_succ]
      refine k_val (v := .bool true) rfl _ (.inl rfl) rfl ?_; try simp only [Act.put, List.setIfInBounds_toArray, List.set_cons_zero, List.set_cons_succ]
      refine k_notV (s := true) (t := false) rfl _ _ rfl rfl rfl ?_; try simp only [Act.put, List.setIfInBounds_toArray, List.set_cons_zero, List.set_cons_succ]
      refine k_pickF (t := false) rfl _ _ _ rfl rfl rfl ?_; try simp only [Act.put, List.setIfInBounds_toArray, List.set_cons_zero, List.set_cons_succ]
      refine k_val (v := .bool false) rfl _ (.inl rfl) rfl ?_; try simp only [Act.put, List.setIfInBounds_toArray, List.set_cons_zero, List.set_cons_succ]
      refine k_val (v := .int .i64 (a : Int)) rfl _ (.inl rfl) rfl ?_; try simp only [Act.put, List.setIfInBounds_toArray, List.set_cons_zero, List.set_cons_succ]
      refine k_gtr (m := (a : Int)) (n := 1048576) (t := false) rfl _ _ _ rfl rfl rfl (decide_eq_false (by omega)) ?_; try simp only [Act.put, List.setIfInBounds_toArray, List.set_cons_zero, List.set_cons_succ]
      refine k_pickF (t := false) rfl _ _ _ rfl rfl rfl ?_; try simp only [Act.put, List.setIfInBounds_toArray, List.set_cons_zero, List.set_cons_succ]
      refine k_val (v := .bool false) rfl _ (.inl rfl) rfl ?_; try simp only [Act.put, List.setIfInBounds_toArray, List.set_cons_zero, List.set_cons_succ]
      refine k_val (v := .int .i64 (n : Int)) rfl _ (.inl rfl) rfl ?_; try simp only [Act.put, List.setIfInBounds_toArray, List.set_cons_zero, List.set_cons_succ]
      refine k_gtr (m := (n : Int)) (n := 1048576) (t := false) rfl _ _ _ rfl rfl rfl (decide_eq_false (by omega)) ?_; try simp only [Act.put, List.setIfInBounds_toArray, List.set_cons_zero, List.set_cons_succ]
      refine k_pickF (t := false) rfl _ _ _ rfl rfl rfl ?_; try simp only [Act.put, List.setIfInBounds_toArray, List.set_cons_zero, List.set_cons_succ]
      refine k_val (v := .bool false) rfl _ (.inl rfl) rfl ?_; try simp only [Act.put, List.setIfInBounds_toArray, List.set_cons_zero, List.set_cons_succ]
      refine k_val (v := .int .i64 (a : Int)) rfl _ (.inl rfl) rfl ?_; try simp only [Act.put, List.setIfInBounds_toArray, List.set_cons_zero, List.set_cons_succ]
      refine k_val (v := .int .i64 (n : Int)) rfl _ (.inl rfl) rfl ?_; try simp only [Act.put, List.setIfInBounds_toArray, List.set_cons_zero, List.set_cons_succ]
      refine k_add (m := (a : Int)) (n := (n : Int)) (s := (a : Int) + n) rfl _ _ _ _ rfl rfl rfl (by rw [IntKind.wrap_i64]; omega) ?_; try simp only [Act.put, List.setIfInBounds_toArray, List.set_cons_zero, List.set_cons_succ]
      refine k_gtr (m := ((a : Int) + n)) (n := 1048576) (t := false) rfl _ _ _ rfl rfl rfl (decide_eq_false (by omega)) ?_; try simp only [Act.put, List.setIfInBounds_toArray, List.set_cons_zero, List.set_cons_succ]
      refine k_pickF (t := false) rfl _ _ _ rfl rfl rfl ?_; try simp only [Act.put, List.setIfInBounds_toArray, List.set_cons_zero, List.set_cons_succ]
      refine k_end ?_
      intro w6 hT6
      have hS6 := hS.call hT6
      clear hS
      have hS := hS6
      clear hS6
      go_wp2_with (first
        | (have _t := b1; clear _t; refine st_box hS rfl 37 _ rfl rfl ?_; clear hS; intro w2 b2 hS)
        | (refine st_box hS rfl 37 _ rfl rfl ?_; clear hS; intro w1 b1 hS)
        | (refine st_load (b := b2) hS rfl 37 _ rfl rfl .head wordN_type rfl wordN_size SN ?_)
        | (refine st_load (b := b1) hS rfl 37 _ rfl rfl (.tail .head) wordN_type rfl wordN_size SA ?_)
        | (refine st_cell1 (v := .slice p L.length c) hS rfl 24 _ rfl rfl (.tail (.tail .head)) rfl bytes_aggI ?_)
        | (refine st_x rfl (HX.out _ _ _ rfl) ?_)
        | (refine st_x rfl (HE.out _ _ _ _ _ _ rfl rfl rfl) ?_)
        | (have _t := w3; clear _t; go_at_call 32; go_must (refine (PN.out _).mono ?_; rintro e w4 ⟨rfl, hT4⟩; replace hS := hS.call hT4; clear hT4))
        | (go_at_call 32; go_must (refine (PA.out _).mono ?_; rintro e w3 ⟨rfl, hT3⟩; replace hS := hS.call hT3; clear hT3))
        | (go_at_call 33; go_must (refine (HW2.out _).mono ?_; rintro e w5 ⟨rfl, hw5⟩; subst hw5)))
      go_ret2
      obtain ⟨h1, h2⟩ := HH.out.kept hS (.tail (.tail .head))
      exact GrowP.mk rfl h1 h2
    · rw [if_neg hle]
      have hle' : ¬ (se : Int) ≤ (k : Int) := by omega
      have hq : IntKind.i64.wrap ((se : Int) - k) = ((se - k : Nat) : Int) := by rw [IntKind.wrap_i64]; omega
      have hq2 : IntKind.i64.wrap (32 * ((se - k : Nat) : Int)) = (((se - k) * 32 : Nat) : Int) := by rw [IntKind.wrap_i64]; omega
      have hm0 : 0 < (se - k) * 32 := by omega
      have hm1 : (se - k) * 32 ≤ 2000000 := by omega
      have hcm := costN_mono (show k ≤ se by omega)
      have hct : costN se ≤ 10000000000 := Nat.le_trans (costN_mono (show se ≤ 1048576 by omega)) (by rw [costN_top]; decide)
      have HC1 := Lib.hid (fun w' => rcost_any (se : Int) w')
      have HC2 := Lib.hid (fun w' => rcost_any (k : Int) w')
      rw [show capN (se : Int) = se by unfold capN; omega] at HC1
      rw [show capN (k : Int) = k by unfold capN; omega] at HC2
      have hq3 : IntKind.i64.wrap ((costN se : Int) - costN k) = ((costN se - costN k : Nat) : Int) := by rw [IntKind.wrap_i64]; omega
      generalize costN se = ke at *
      generalize costN k = kl at *
      generalize (se - k) * 32 = m at *
      go_enter Try.func24, Try.ntmps24
      go_upto_region 5 with (first
        | (have _t := b1; clear _t; refine st_box hS rfl 37 _ rfl rfl ?_; clear hS; intro w2 b2 hS)
        | (refine st_box hS rfl 37 _ rfl rfl ?_; clear hS; intro w1 b1 hS)
        | (refine st_load (b := b2) hS rfl 37 _ rfl rfl .head wordN_type rfl wordN_size SN ?_)
        | (refine st_load (b := b1) hS rfl 37 _ rfl rfl (.tail .head) wordN_type rfl wordN_size SA ?_)
        | (refine st_cell1 (v := .slice p L.length c) hS rfl 24 _ rfl rfl (.tail (.tail .head)) rfl bytes_aggI ?_)
        | (refine st_x rfl (HX.out _ _ _ rfl) ?_)
        | (refine st_x rfl (HE.out _ _ _ _ _ _ rfl rfl rfl) ?_)
        | (have _t := w3; clear _t; go_at_call 32; go_must (refine (PN.out _).mono ?_; rintro e w4 ⟨rfl, hT4⟩; replace hS := hS.call hT4; clear hT4))
        | (go_at_call 32; go_must (refine (PA.out _).mono ?_; rintro e w3 ⟨rfl, hT3⟩; replace hS := hS.call hT3; clear hT3))
        | (go_at_call 33; go_must (refine (HW2.out _).mono ?_; rintro e w5 ⟨rfl, hw5⟩; subst hw5)))
      obtain ⟨hM4, hT4⟩ := HH.out.kept hS (.tail (.tail .head))
      have HF4 := Lib.hid (And.intro hM4 hT4)
      clear hM4 hT4
      try simp only [Act.put, List.setIfInBounds_toArray, List.set_cons_zero, List.set_cons_succ]
      refine k_seq (C := fun w' => Tch [] w4 w') (Tch.refl _ _) ?_
      refine k_val (v := .bool true) rfl _ (.inl rfl) rfl ?_; try simp only [Act.put, List.setIfInBounds_toArray, List.set_cons_zero, List.set_cons_succ]
      refine k_notV (s := true) (t := false) rfl _ _ rfl rfl rfl ?_; try simp only [Act.put, List.setIfInBounds_toArray, List.set_cons_zero, List.set_cons_succ]
      refine k_val (v := .bool false) rfl _ (.inl rfl) rfl ?_; try simp only [Act.put, List.setIfInBounds_toArray, List.set_cons_zero, List.set_cons_succ]
      refine k_val (v := .bool true) rfl _ (.inl rfl) rfl ?_; try simp only [Act.put, List.setIfInBounds_toArray, List.set_cons_zero, List.set_cons_succ]
      refine k_notV (s := true) (t := false) rfl _ _ rfl rfl rfl ?_; try simp only [Act.put, List.setIfInBounds_toArray, List.set_cons_zero, List.set_cons_succ]
      refine k_pickF (t := false) rfl _ _ _ rfl rfl rfl ?_; try simp only [Act.put, List.setIfInBounds_toArray, List.set_cons_zero, List.set_cons_succ]
      refine k_val (v := .bool false) rfl _ (.inl rfl) rfl ?_; try simp only [Act.put, List.setIfInBounds_toArray, List.set_cons_zero, List.set_cons_succ]
      refine k_val (v := .int .i64 (a : Int)) rfl _ (.inl rfl) rfl ?_; try simp only [Act.put, List.setIfInBounds_toArray, List.set_cons_zero, List.set_cons_succ]
      refine k_gtr (m := (a : Int)) (n := 1048576) (t := false) rfl _ _ _ rfl rfl rfl (decide_eq_false (by omega)) ?_; try simp only [Act.put, List.setIfInBounds_toArray, List.set_cons_zero, List.set_cons_succ]
      refine k_pickF (t := false) rfl _ _ _ rfl rfl rfl ?_; try simp only [Act.put, List.setIfInBounds_toArray, List.set_cons_zero, List.set_cons_succ]
      refine k_val (v := .bool false) rfl _ (.inl rfl) rfl ?_; try simp only [Act.put, List.setIfInBounds_toArray, List.set_cons_zero, List.set_cons_succ]
      refine k_val (v := .int .i64 (n : Int)) rfl _ (.inl rfl) rfl ?_; try simp only [Act.put, List.setIfInBounds_toArray, List.set_cons_zero, List.set_cons_succ]
      refine k_gtr (m := (n : Int)) (n := 1048576) (t := false) rfl _ _ _ rfl rfl rfl (decide_eq_false (by omega)) ?_; try simp only [Act.put, List.setIfInBounds_toArray, List.set_cons_zero, List.set_cons_succ]
      refine k_pickF (t := false) rfl _ _ _ rfl rfl rfl ?_; try simp only [Act.put, List.setIfInBounds_toArray, List.set_cons_zero, List.set_cons_succ]
      refine k_val (v := .bool false) rfl _ (.inl rfl) rfl ?_; try simp only [Act.put, List.setIfInBounds_toArray, List.set_cons_zero, List.set_cons_succ]
      refine k_val (v := .int .i64 (a : Int)) rfl _ (.inl rfl) rfl ?_; try simp only [Act.put, List.setIfInBounds_toArray, List.set_cons_zero, List.set_cons_succ]
      refine k_val (v := .int .i64 (n : Int)) rfl _ (.inl rfl) rfl ?_; try simp only [Act.put, List.setIfInBounds_toArray, List.set_cons_zero, List.set_cons_succ]
      refine k_add (m := (a : Int)) (n := (n : Int)) (s := (a : Int) + n) rfl _ _ _ _ rfl rfl rfl (by rw [IntKind.wrap_i64]; omega) ?_; try simp only [Act.put, List.setIfInBounds_toArray, List.set_cons_zero, List.set_cons_succ]
      refine k_gtr (m := ((a : Int) + n)) (n := 1048576) (t := false) rfl _ _ _ rfl rfl rfl (decide_eq_false (by omega)) ?_; try simp only [Act.put, List.setIfInBounds_toArray, List.set_cons_zero, List.set_cons_succ]
      refine k_pickF (t := false) rfl _ _ _ rfl rfl rfl ?_; try simp only [Act.put, List.setIfInBounds_toArray, List.set_cons_zero, List.set_cons_succ]
      refine k_end ?_
      intro w6 hT6
      have hS6 := hS.call hT6
      clear hS
      have hS := hS6
      clear hS6
      go_upto_region 11 with (first
        | (have _t := b1; clear _t; refine st_box hS rfl 37 _ rfl rfl ?_; clear hS; intro w2 b2 hS)
        | (refine st_box hS rfl 37 _ rfl rfl ?_; clear hS; intro w1 b1 hS)
        | (refine st_load (b := b2) hS rfl 37 _ rfl rfl .head wordN_type rfl wordN_size SN ?_)
        | (refine st_load (b := b1) hS rfl 37 _ rfl rfl (.tail .head) wordN_type rfl wordN_size SA ?_)
        | (refine st_cell1 (v := .slice p L.length c) hS rfl 24 _ rfl rfl (.tail (.tail .head)) rfl bytes_aggI ?_)
        | (refine st_x rfl (HX.out _ _ _ rfl) ?_)
        | (refine st_x rfl (HE.out _ _ _ _ _ _ rfl rfl rfl) ?_)
        | (have _t := w3; clear _t; go_at_call 32; go_must (refine (PN.out _).mono ?_; rintro e w4 ⟨rfl, hT4⟩; replace hS := hS.call hT4; clear hT4))
        | (go_at_call 32; go_must (refine (PA.out _).mono ?_; rintro e w3 ⟨rfl, hT3⟩; replace hS := hS.call hT3; clear hT3))
        | (go_at_call 33; go_must (refine (HW2.out _).mono ?_; rintro e w5 ⟨rfl, hw5⟩; subst hw5)))
      obtain ⟨hM5, hT5⟩ := HH.out.kept hS (.tail (.tail .head))
      have hb5 : b ∉ (Value.slice p L.length c).ownBlock.toList := fun hm => hM5.apart (by simpa using hm)
      have hB5 : B ≤ w5.heap.size := Nat.le_trans hM5.base (Nat.le_of_lt hM5.blk.lt)
      have hL2 : L.length ≤ 2000000 := by omega
      have HM := Lib.hid hM5
      go_upto_region 12 with (first
        | (refine st_cell1 (v := .slice p L.length c) hS rfl 24 _ rfl rfl (.tail (.tail .head)) rfl bytes_aggI ?_)
        | (at_builtin; go_must (refine st_growZ (B := B) (v := .slice p L.length c) (l := L) (m := m) rfl _ _ rfl rfl rfl HM.out.own hB5 hm0 hm1 hL2 ?_; intro v6 w6 hown6 hT6 hf6; have hv6 := own_one hown6; have HO6 := Lib.hid hown6; clear hown6))
        | (refine st_storeV (v := .slice p L.length c) (v' := v6) (hT6.blk HM.out.blk hb5) rfl _ _ rfl rfl rfl hv6 bytes_sizeI ?_; intro w7 hB7 hO7))
      obtain ⟨h1, h2⟩ := RowIn.stored HM.out HO6.out hT6 hf6 hB7 hO7
      have HF := Lib.hid (And.intro h1 (hT5.trans h2))
      clear h1 h2 hB7 hO7 hT6 hf6 hT5 hM5 hS
      go_wp2_with (first
        | (have _t := w8; clear _t; go_at_call 19; go_must (refine (HC2.out _).mono ?_; rintro e w9 ⟨rfl, hw9⟩; subst hw9))
        | (go_at_call 19; go_must (refine (HC1.out _).mono ?_; rintro e w8 ⟨rfl, hw8⟩; have HW8 := Lib.hid hw8)))
      go_ret2
      exact GrowP.mk rfl HF.out.1 HF.out.2
  · rw [if_neg hs] at hbe
    rw [hbe]
    simp only [Option.isSome_none]
    clear hbe
    by_cases hba : 1048576 < a
    · go_enter Try.func24, Try.ntmps24
      go_upto_region 5 with (first
        | (have _t := b1; clear _t; refine st_box hS rfl 37 _ rfl rfl ?_; clear hS; intro w2 b2 hS)
        | (refine st_box hS rfl 37 _ rfl rfl ?_; clear hS; intro w1 b1 hS)
        | (refine st_load (b := b2) hS rfl 37 _ rfl rfl .head wordN_type rfl wordN_size SN ?_)
        | (refine st_load (b := b1) hS rfl 37 _ rfl rfl (.tail .head) wordN_type rfl wordN_size SA ?_)
        | (refine st_cell1 (v := .slice p L.length c) hS rfl 24 _ rfl rfl (.tail (.tail .head)) rfl bytes_aggI ?_)
        | (refine st_x rfl (HX.out _ _ _ rfl) ?_)
        | (refine st_x rfl (HE.out _ _ _ _ _ _ rfl rfl rfl) ?_)
        | (have _t := w3; clear _t; go_at_call 32; go_must (refine (PN.out _).mono ?_; rintro e w4 ⟨rfl, hT4⟩; replace hS := hS.call hT4; clear hT4))
        | (go_at_call 32; go_must (refine (PA.out _).mono ?_; rintro e w3 ⟨rfl, hT3⟩; replace hS := hS.call hT3; clear hT3))
        | (go_at_call 33; go_must (refine (HW2.out _).mono ?_; rintro e w5 ⟨rfl, hw5⟩; subst hw5)))
      obtain ⟨hM4, hT4⟩ := HH.out.kept hS (.tail (.tail .head))
      have HF4 := Lib.hid (And.intro hM4 hT4)
      clear hM4 hT4
      try simp only [Act.put, List.setIfInBounds_toArray, List.set_cons_zero, List.set_cons_succ]
      refine k_seq (C := fun w' => Tch [] w4 w') (Tch.refl _ _) ?_
      refine k_val (v := .bool true) rfl _ (.inl rfl) rfl ?_; try simp only [Act.put, List.setIfInBounds_toArray, List.set_cons_zero, List.set_cons_succ]
      refine k_notV (s := true) (t := false) rfl _ _ rfl rfl rfl ?_; try simp only [Act.put, List.setIfInBounds_toArray, List.set_cons_zero, List.set_cons_succ]
      refine k_val (v := .bool false) rfl _ (.inl rfl) rfl ?_; try simp only [Act.put, List.setIfInBounds_toArray, List.set_cons_zero, List.set_cons_succ]
      refine k_val (v := .bool true) rfl _ (.inl rfl) rfl ?_; try simp only [Act.put, List.setIfInBounds_toArray, List.set_cons_zero, List.set_cons_succ]
      refine k_notV (s := true) (t := false) rfl _ _ rfl rfl rfl ?_; try simp only [Act.put, List.setIfInBounds_toArray, List.set_cons_zero, List.set_cons_succ]
      refine k_pickF (t := false) rfl _ _ _ rfl rfl rfl ?_; try simp only [Act.put, List.setIfInBounds_toArray, List.set_cons_zero, List.set_cons_succ]
      refine k_val (v := .bool false) rfl _ (.inl rfl) rfl ?_; try simp only [Act.put, List.setIfInBounds_toArray, List.set_cons_zero, List.set_cons_succ]
      refine k_val (v := .int .i64 (a : Int)) rfl _ (.inl rfl) rfl ?_; try simp only [Act.put, List.setIfInBounds_toArray, List.set_cons_zero, List.set_cons_succ]
      refine k_gtr (m := (a : Int)) (n := 1048576) (t := true) rfl _ _ _ rfl rfl rfl (decide_eq_true (by omega)) ?_; try simp only [Act.put, List.setIfInBounds_toArray, List.set_cons_zero, List.set_cons_succ]
      refine k_pickF (t := true) rfl _ _ _ rfl rfl rfl ?_; try simp only [Act.put, List.setIfInBounds_toArray, List.set_cons_zero, List.set_cons_succ]
      refine k_val (v := .bool true) rfl _ (.inl rfl) rfl ?_; try simp only [Act.put, List.setIfInBounds_toArray, List.set_cons_zero, List.set_cons_succ]
      refine k_skip rfl rfl rfl rfl rfl ?_; try simp only [Act.put, List.setIfInBounds_toArray, List.set_cons_zero, List.set_cons_succ]
      refine k_skip rfl rfl rfl rfl rfl ?_; try simp only [Act.put, List.setIfInBounds_toArray, List.set_cons_zero, List.set_cons_succ]
      refine k_pickT (t := true) rfl _ _ _ rfl rfl rfl ?_; try simp only [Act.put, List.setIfInBounds_toArray, List.set_cons_zero, List.set_cons_succ]
      refine k_val (v := .bool true) rfl _ (.inl rfl) rfl ?_; try simp only [Act.put, List.setIfInBounds_toArray, List.set_cons_zero, List.set_cons_succ]
      refine k_skip rfl rfl rfl rfl rfl ?_; try simp only [Act.put, List.setIfInBounds_toArray, List.set_cons_zero, List.set_cons_succ]
      refine k_skip rfl rfl rfl rfl rfl ?_; try simp only [Act.put, List.setIfInBounds_toArray, List.set_cons_zero, List.set_cons_succ]
      refine k_skip rfl rfl rfl rfl rfl ?_; try simp only [Act.put, List.setIfInBounds_toArray, List.set_cons_zero, List.set_cons_succ]
      refine k_skip rfl rfl rfl rfl rfl ?_; try simp only [Act.put, List.setIfInBounds_toArray, List.set_cons_zero, List.set_cons_succ]
      refine k_pickT (t := true) rfl _ _ _ rfl rfl rfl ?_; try simp only [Act.put, List.setIfInBounds_toArray, List.set_cons_zero, List.set_cons_succ]
      refine k_end ?_
      intro w6 hT6
      go_wp2
      go_ret2
      exact GrowP.mk rfl (HF4.out.1.call hT6) (HF4.out.2.trans (Turned.of_tch hT6 _ _))
    by_cases hbn : 1048576 < n
    · go_enter Try.func24, Try.ntmps24
      go_upto_region 5 with (first
        | (have _t := b1; clear _t; refine st_box hS rfl 37 _ rfl rfl ?_; clear hS; intro w2 b2 hS)
        | (refine st_box hS rfl 37 _ rfl rfl ?_; clear hS; intro w1 b1 hS)
        | (refine st_load (b := b2) hS rfl 37 _ rfl rfl .head wordN_type rfl wordN_size SN ?_)
        | (refine st_load (b := b1) hS rfl 37 _ rfl rfl (.tail .head) wordN_type rfl wordN_size SA ?_)
        | (refine st_cell1 (v := .slice p L.length c) hS rfl 24 _ rfl rfl (.tail (.tail .head)) rfl bytes_aggI ?_)
        | (refine st_x rfl (HX.out _ _ _ rfl) ?_)
        | (refine st_x rfl (HE.out _ _ _ _ _ _ rfl rfl rfl) ?_)
        | (have _t := w3; clear _t; go_at_call 32; go_must (refine (PN.out _).mono ?_; rintro e w4 ⟨rfl, hT4⟩; replace hS := hS.call hT4; clear hT4))
        | (go_at_call 32; go_must (refine (PA.out _).mono ?_; rintro e w3 ⟨rfl, hT3⟩; replace hS := hS.call hT3; clear hT3))
        | (go_at_call 33; go_must (refine (HW2.out _).mono ?_; rintro e w5 ⟨rfl, hw5⟩; subst hw5)))
      obtain ⟨hM4, hT4⟩ := HH.out.kept hS (.tail (.tail .head))
      have HF4 := Lib.hid (And.intro hM4 hT4)
      clear hM4 hT4
      try simp only [Act.put, List.setIfInBounds_toArray, List.set_cons_zero, List.set_cons_succ]
      refine k_seq (C := fun w' => Tch [] w4 w') (Tch.refl _ _) ?_
      refine k_val (v := .bool true) rfl _ (.inl rfl) rfl ?_; try simp only [Act.put, List.setIfInBounds_toArray, List.set_cons_zero, List.set_cons_succ]
      refine k_notV (s := true) (t := false) rfl _ _ rfl rfl rfl ?_; try simp only [Act.put, List.setIfInBounds_toArray, List.set_cons_zero, List.set_cons_succ]
      refine k_val (v := .bool false) rfl _ (.inl rfl) rfl ?_; try simp only [Act.put, List.setIfInBounds_toArray, List.set_cons_zero, List.set_cons_succ]
      refine k_val (v := .bool true) rfl _ (.inl rfl) rfl ?_; try simp only [Act.put, List.setIfInBounds_toArray, List.set_cons_zero, List.set_cons_succ]
      refine k_notV (s := true) (t := false) rfl _ _ rfl rfl rfl ?_; try simp only [Act.put, List.setIfInBounds_toArray, List.set_cons_zero, List.set_cons_succ]
      refine k_pickF (t := false) rfl _ _ _ rfl rfl rfl ?_; try simp only [Act.put, List.setIfInBounds_toArray, List.set_cons_zero, List.set_cons_succ]
      refine k_val (v := .bool false) rfl _ (.inl rfl) rfl ?_; try simp only [Act.put, List.setIfInBounds_toArray, List.set_cons_zero, List.set_cons_succ]
      refine k_val (v := .int .i64 (a : Int)) rfl _ (.inl rfl) rfl ?_; try simp only [Act.put, List.setIfInBounds_toArray, List.set_cons_zero, List.set_cons_succ]
      refine k_gtr (m := (a : Int)) (n := 1048576) (t := false) rfl _ _ _ rfl rfl rfl (decide_eq_false (by omega)) ?_; try simp only [Act.put, List.setIfInBounds_toArray, List.set_cons_zero, List.set_cons_succ]
      refine k_pickF (t := false) rfl _ _ _ rfl rfl rfl ?_; try simp only [Act.put, List.setIfInBounds_toArray, List.set_cons_zero, List.set_cons_succ]
      refine k_val (v := .bool false) rfl _ (.inl rfl) rfl ?_; try simp only [Act.put, List.setIfInBounds_toArray, List.set_cons_zero, List.set_cons_succ]
      refine k_val (v := .int .i64 (n : Int)) rfl _ (.inl rfl) rfl ?_; try simp only [Act.put, List.setIfInBounds_toArray, List.set_cons_zero, List.set_cons_succ]
      refine k_gtr (m := (n : Int)) (n := 1048576) (t := true) rfl _ _ _ rfl rfl rfl (decide_eq_true (by omega)) ?_; try simp only [Act.put, List.setIfInBounds_toArray, List.set_cons_zero, List.set_cons_succ]
      refine k_pickF (t := true) rfl _ _ _ rfl rfl rfl ?_; try simp only [Act.put, List.setIfInBounds_toArray, List.set_cons_zero, List.set_cons_succ]
      refine k_val (v := .bool true) rfl _ (.inl rfl) rfl ?_; try simp only [Act.put, List.setIfInBounds_toArray, List.set_cons_zero, List.set_cons_succ]
      refine k_skip rfl rfl rfl rfl rfl ?_; try simp only [Act.put, List.setIfInBounds_toArray, List.set_cons_zero, List.set_cons_succ]
      refine k_skip rfl rfl rfl rfl rfl ?_; try simp only [Act.put, List.setIfInBounds_toArray, List.set_cons_zero, List.set_cons_succ]
      refine k_skip rfl rfl rfl rfl rfl ?_; try simp only [Act.put, List.setIfInBounds_toArray, List.set_cons_zero, List.set_cons_succ]
      refine k_skip rfl rfl rfl rfl rfl ?_; try simp only [Act.put, List.setIfInBounds_toArray, List.set_cons_zero, List.set_cons_succ]
      refine k_pickT (t := true) rfl _ _ _ rfl rfl rfl ?_; try simp only [Act.put, List.setIfInBounds_toArray, List.set_cons_zero, List.set_cons_succ]
      refine k_end ?_
      intro w6 hT6
      go_wp2
      go_ret2
      exact GrowP.mk rfl (HF4.out.1.call hT6) (HF4.out.2.trans (Turned.of_tch hT6 _ _))
    go_enter Try.func24, Try.ntmps24
    go_upto_region 5 with (first
      | (have _t := b1; clear _t; refine st_box hS rfl 37 _ rfl rfl ?_; clear hS; intro w2 b2 hS)
      | (refine st_box hS rfl 37 _ rfl rfl ?_; clear hS; intro w1 b1 hS)
      | (refine st_load (b := b2) hS rfl 37 _ rfl rfl .head wordN_type rfl wordN_size SN ?_)
      | (refine st_load (b := b1) hS rfl 37 _ rfl rfl (.tail .head) wordN_type rfl wordN_size SA ?_)
      | (refine st_cell1 (v := .slice p L.length c) hS rfl 24 _ rfl rfl (.tail (.tail .head)) rfl bytes_aggI ?_)
      | (refine st_x rfl (HX.out _ _ _ rfl) ?_)
      | (refine st_x rfl (HE.out _ _ _ _ _ _ rfl rfl rfl) ?_)
      | (have _t := w3; clear _t; go_at_call 32; go_must (refine (PN.out _).mono ?_; rintro e w4 ⟨rfl, hT4⟩; replace hS := hS.call hT4; clear hT4))
      | (go_at_call 32; go_must (refine (PA.out _).mono ?_; rintro e w3 ⟨rfl, hT3⟩; replace hS := hS.call hT3; clear hT3))
      | (go_at_call 33; go_must (refine (HW2.out _).mono ?_; rintro e w5 ⟨rfl, hw5⟩; subst hw5)))
    obtain ⟨hM4, hT4⟩ := HH.out.kept hS (.tail (.tail .head))
    have HF4 := Lib.hid (And.intro hM4 hT4)
    clear hM4 hT4
    try simp only [Act.put, List.setIfInBounds_toArray, List.set_cons_zero, List.set_cons_succ]
    refine k_seq (C := fun w' => Tch [] w4 w') (Tch.refl _ _) ?_
    refine k_val (v := .bool true) rfl _ (.inl rfl) rfl ?_; try simp only [Act.put, List.setIfInBounds_toArray, List.set_cons_zero, List.set_cons_succ]
    refine k_notV (s := true) (t := false) rfl _ _ rfl rfl rfl ?_; try simp only [Act.put, List.setIfInBounds_toArray, List.set_cons_zero, List.set_cons_succ]
    refine k_val (v := .bool false) rfl _ (.inl rfl) rfl ?_; try simp only [Act.put, List.setIfInBounds_toArray, List.set_cons_zero, List.set_cons_succ]
    refine k_val (v := .bool true) rfl _ (.inl rfl) rfl ?_; try simp only [Act.put, List.setIfInBounds_toArray, List.set_cons_zero, List.set_cons_succ]
    refine k_notV (s := true) (t := false) rfl _ _ rfl rfl rfl ?_; try simp only [Act.put, List.setIfInBounds_toArray, List.set_cons_zero, List.set_cons_succ]
    refine k_pickF (t := false) rfl _ _ _ rfl rfl rfl ?_; try simp only [Act.put, List.setIfInBounds_toArray, List.set_cons_zero, List.set_cons_succ]
    refine k_val (v := .bool false) rfl _ (.inl rfl) rfl ?_; try simp only [Act.put, List.setIfInBounds_toArray, List.set_cons_zero, List.set_cons_succ]
    refine k_val (v := .int .i64 (a : Int)) rfl _ (.inl rfl) rfl ?_; try simp only [Act.put, List.setIfInBounds_toArray, List.set_cons_zero, List.set_cons_succ]
    refine k_gtr (m := (a : Int)) (n := 1048576) (t := false) rfl _ _ _ rfl rfl rfl (decide_eq_false (by omega)) ?_; try simp only [Act.put, List.setIfInBounds_toArray, List.set_cons_zero, List.set_cons_succ]
    refine k_pickF (t := false) rfl _ _ _ rfl rfl rfl ?_; try simp only [Act.put, List.setIfInBounds_toArray, List.set_cons_zero, List.set_cons_succ]
    refine k_val (v := .bool false) rfl _ (.inl rfl) rfl ?_; try simp only [Act.put, List.setIfInBounds_toArray, List.set_cons_zero, List.set_cons_succ]
    refine k_val (v := .int .i64 (n : Int)) rfl _ (.inl rfl) rfl ?_; try simp only [Act.put, List.setIfInBounds_toArray, List.set_cons_zero, List.set_cons_succ]
    refine k_gtr (m := (n : Int)) (n := 1048576) (t := false) rfl _ _ _ rfl rfl rfl (decide_eq_false (by omega)) ?_; try simp only [Act.put, List.setIfInBounds_toArray, List.set_cons_zero, List.set_cons_succ]
    refine k_pickF (t := false) rfl _ _ _ rfl rfl rfl ?_; try simp only [Act.put, List.setIfInBounds_toArray, List.set_cons_zero, List.set_cons_succ]
    refine k_val (v := .bool false) rfl _ (.inl rfl) rfl ?_; try simp only [Act.put, List.setIfInBounds_toArray, List.set_cons_zero, List.set_cons_succ]
    refine k_val (v := .int .i64 (a : Int)) rfl _ (.inl rfl) rfl ?_; try simp only [Act.put, List.setIfInBounds_toArray, List.set_cons_zero, List.set_cons_succ]
    refine k_val (v := .int .i64 (n : Int)) rfl _ (.inl rfl) rfl ?_; try simp only [Act.put, List.setIfInBounds_toArray, List.set_cons_zero, List.set_cons_succ]
    refine k_add (m := (a : Int)) (n := (n : Int)) (s := (a : Int) + n) rfl _ _ _ _ rfl rfl rfl (by rw [IntKind.wrap_i64]; omega) ?_; try simp only [Act.put, List.setIfInBounds_toArray, List.set_cons_zero, List.set_cons_succ]
    refine k_gtr (m := ((a : Int) + n)) (n := 1048576) (t := true) rfl _ _ _ rfl rfl rfl (decide_eq_true (by omega)) ?_; try simp only [Act.put, List.setIfInBounds_toArray, List.set_cons_zero, List.set_cons_succ]
    refine k_pickF (t := true) rfl _ _ _ rfl rfl rfl ?_; try simp only [Act.put, List.setIfInBounds_toArray, List.set_cons_zero, List.set_cons_succ]
    refine k_end ?_
    intro w6 hT6
    go_wp2
    go_ret2
    exact GrowP.mk rfl (HF4.out.1.call hT6) (HF4.out.2.trans (Turned.of_tch hT6 _ _))
end Go.Proofs.Ytlliidfkjlmadaa
