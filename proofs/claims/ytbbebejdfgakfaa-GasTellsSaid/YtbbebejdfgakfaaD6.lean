/- GasTells: the walk. -/
import Derived.Test.YtbbebejdfgakfaaD5
import Derived.Test.YtbbebejdfgakfaaIK
set_option linter.unusedVariables false
set_option linter.unusedSimpArgs false
namespace Go.Proofs.Ytbbebejdfgakfaa
open Go.RowKit
set_option maxRecDepth 100000
set_option maxHeartbeats 8000000

theorem tells_walk (c : Array Value) (m : Bool) (v : Value) (L U V : List Nat) (n tp : Int) (va th : Bool) (w : World) (h : TxIn w c m v L) (hU : Wd U) (hV : Wd V) :
    Calls Try.prog 3 #[.agg c, .agg (wv U), .agg (wv V), .int .i64 n, .int .i64 tp, .bool va, .bool th] w fun e w' => e = .returned (.bool true) ∧ Tch [] w w' := by
  have SU : (wv U).size = 32 := bc_size _ _
  have SV : (wv V).size = 32 := bc_size _ _
  have HI := Lib.hid h
  obtain ⟨hsz, _, hv, hR⟩ := h
  obtain ⟨p, cc, rfl, _, _, _⟩ := hR
  have hS := St.start w
  have HU := Lib.hid (And.intro hU hV)
  clear hU hV
  have E1 := Lib.hid (fun w' => pstoreG_any U V HU.out.1 HU.out.2 w')
  have E2 := Lib.hid (fun w' => rstoreG_any U V HU.out.1 HU.out.2 w')
  have E3 := Lib.hid (fun w' => expW_p U HU.out.1 w')
  have E4 := Lib.hid (fun w' => expW_r U HU.out.1 w')
  generalize wv U = cu at *
  generalize wv V = cv at *
  by_cases hlong : 3000 < L.length
  · clear HI E1 E2 E3 E4 HU
    go_enter Try.func3, Try.ntmps3
    go_upto_region 2 with (first
      | (have _t := b2; clear _t; refine st_box hS rfl 25 _ rfl rfl ?_; clear hS; intro w3 b3 hS)
      | (have _t := b1; clear _t; refine st_box hS rfl 25 _ rfl rfl ?_; clear hS; intro w2 b2 hS)
      | (refine st_box hS rfl 28 _ rfl rfl ?_; clear hS; intro w1 b1 hS)
      | (go_at_call 5; go_must (refine (alive14 _).mono ?_; rintro e w4 ⟨rfl, hT4⟩; replace hS := hS.call hT4; clear hT4)))
    try simp only [Act.put, List.setIfInBounds_toArray, List.set_cons_zero, List.set_cons_succ]
    refine k_seq (C := fun w' => St [] w w' [(b3, 25, cv), (b2, 25, cu), (b1, 28, c)]) hS ?_
    refine k_val (v := .bool true) rfl _ (.inl rfl) rfl ?_; try simp only [Act.put, List.setIfInBounds_toArray, List.set_cons_zero, List.set_cons_succ]
    refine k_notV (s := true) (t := false) rfl _ _ rfl rfl rfl ?_; try simp only [Act.put, List.setIfInBounds_toArray, List.set_cons_zero, List.set_cons_succ]
    refine k_val (v := .bool false) rfl _ (.inl rfl) rfl ?_; try simp only [Act.put, List.setIfInBounds_toArray, List.set_cons_zero, List.set_cons_succ]
    refine k_faI rfl rfl rfl (fa_txD b1) ?_; try simp only [Act.put, List.setIfInBounds_toArray, List.set_cons_zero, List.set_cons_succ]
    refine k_cell (b := b1) (j := 76) (v := .slice p L.length cc) (c := c) rfl _ _ rfl rfl (.tail (.tail .head)) hv bytes_aggI ?_; try simp only [Act.put, List.setIfInBounds_toArray, List.set_cons_zero, List.set_cons_succ]
    refine k_lenSl (p := p) (n := L.length) (c := cc) rfl _ rfl rfl ?_; try simp only [Act.put, List.setIfInBounds_toArray, List.set_cons_zero, List.set_cons_succ]
    refine k_gtr (m := (L.length : Int)) (n := 3000) (t := true) rfl _ _ _ rfl rfl rfl (decide_eq_true (by omega)) ?_; try simp only [Act.put, List.setIfInBounds_toArray, List.set_cons_zero, List.set_cons_succ]
    refine k_pickF (t := true) rfl _ _ _ rfl rfl rfl ?_; try simp only [Act.put, List.setIfInBounds_toArray, List.set_cons_zero, List.set_cons_succ]
    refine k_val (v := .bool true) rfl _ (.inl rfl) rfl ?_; try simp only [Act.put, List.setIfInBounds_toArray, List.set_cons_zero, List.set_cons_succ]
    refine k_skip rfl rfl rfl rfl rfl ?_; try simp only [Act.put, List.setIfInBounds_toArray, List.set_cons_zero, List.set_cons_succ]
    refine k_skip rfl rfl rfl rfl rfl ?_; try simp only [Act.put, List.setIfInBounds_toArray, List.set_cons_zero, List.set_cons_succ]
    refine k_pickT (t := true) rfl _ _ _ rfl rfl rfl ?_; try simp only [Act.put, List.setIfInBounds_toArray, List.set_cons_zero, List.set_cons_succ]
    refine k_end ?_
    clear hS
    intro w5 hS
    go_wp2
    go_ret
    exact ⟨rfl, hS.frame⟩
  by_cases hbig : 1125899906842624 < n
  · clear HI E1 E2 E3 E4 HU
    go_enter Try.func3, Try.ntmps3
    go_upto_region 2 with (first
      | (have _t := b2; clear _t; refine st_box hS rfl 25 _ rfl rfl ?_; clear hS; intro w3 b3 hS)
      | (have _t := b1; clear _t; refine st_box hS rfl 25 _ rfl rfl ?_; clear hS; intro w2 b2 hS)
      | (refine st_box hS rfl 28 _ rfl rfl ?_; clear hS; intro w1 b1 hS)
      | (go_at_call 5; go_must (refine (alive14 _).mono ?_; rintro e w4 ⟨rfl, hT4⟩; replace hS := hS.call hT4; clear hT4)))
    try simp only [Act.put, List.setIfInBounds_toArray, List.set_cons_zero, List.set_cons_succ]
    refine k_seq (C := fun w' => St [] w w' [(b3, 25, cv), (b2, 25, cu), (b1, 28, c)]) hS ?_
    refine k_val (v := .bool true) rfl _ (.inl rfl) rfl ?_; try simp only [Act.put, List.setIfInBounds_toArray, List.set_cons_zero, List.set_cons_succ]
    refine k_notV (s := true) (t := false) rfl _ _ rfl rfl rfl ?_; try simp only [Act.put, List.setIfInBounds_toArray, List.set_cons_zero, List.set_cons_succ]
    refine k_val (v := .bool false) rfl _ (.inl rfl) rfl ?_; try simp only [Act.put, List.setIfInBounds_toArray, List.set_cons_zero, List.set_cons_succ]
    refine k_faI rfl rfl rfl (fa_txD b1) ?_; try simp only [Act.put, List.setIfInBounds_toArray, List.set_cons_zero, List.set_cons_succ]
    refine k_cell (b := b1) (j := 76) (v := .slice p L.length cc) (c := c) rfl _ _ rfl rfl (.tail (.tail .head)) hv bytes_aggI ?_; try simp only [Act.put, List.setIfInBounds_toArray, List.set_cons_zero, List.set_cons_succ]
    refine k_lenSl (p := p) (n := L.length) (c := cc) rfl _ rfl rfl ?_; try simp only [Act.put, List.setIfInBounds_toArray, List.set_cons_zero, List.set_cons_succ]
    refine k_gtr (m := (L.length : Int)) (n := 3000) (t := false) rfl _ _ _ rfl rfl rfl (decide_eq_false (by omega)) ?_; try simp only [Act.put, List.setIfInBounds_toArray, List.set_cons_zero, List.set_cons_succ]
    refine k_pickF (t := false) rfl _ _ _ rfl rfl rfl ?_; try simp only [Act.put, List.setIfInBounds_toArray, List.set_cons_zero, List.set_cons_succ]
    refine k_val (v := .bool false) rfl _ (.inl rfl) rfl ?_; try simp only [Act.put, List.setIfInBounds_toArray, List.set_cons_zero, List.set_cons_succ]
    refine k_val (v := .int .i64 n) rfl _ (.inl rfl) rfl ?_; try simp only [Act.put, List.setIfInBounds_toArray, List.set_cons_zero, List.set_cons_succ]
    refine k_gtr (m := n) (n := 1125899906842624) (t := true) rfl _ _ _ rfl rfl rfl (decide_eq_true (by omega)) ?_; try simp only [Act.put, List.setIfInBounds_toArray, List.set_cons_zero, List.set_cons_succ]
    refine k_pickF (t := true) rfl _ _ _ rfl rfl rfl ?_; try simp only [Act.put, List.setIfInBounds_toArray, List.set_cons_zero, List.set_cons_succ]
    refine k_end ?_
    clear hS
    intro w5 hS
    go_wp2
    go_ret
    exact ⟨rfl, hS.frame⟩
  by_cases hneg : n < 0
  · have hl : logG n = 0 := if_pos hneg
    go_enter Try.func3, Try.ntmps3
    go_upto_region 2 with (first
      | (have _t := b2; clear _t; refine st_box hS rfl 25 _ rfl rfl ?_; clear hS; intro w3 b3 hS)
      | (have _t := b1; clear _t; refine st_box hS rfl 25 _ rfl rfl ?_; clear hS; intro w2 b2 hS)
      | (refine st_box hS rfl 28 _ rfl rfl ?_; clear hS; intro w1 b1 hS)
      | (go_at_call 5; go_must (refine (alive14 _).mono ?_; rintro e w4 ⟨rfl, hT4⟩; replace hS := hS.call hT4; clear hT4)))
    try simp only [Act.put, List.setIfInBounds_toArray, List.set_cons_zero, List.set_cons_succ]
    refine k_seq (C := fun w' => St [] w w' [(b3, 25, cv), (b2, 25, cu), (b1, 28, c)]) hS ?_
    refine k_val (v := .bool true) rfl _ (.inl rfl) rfl ?_; try simp only [Act.put, List.setIfInBounds_toArray, List.set_cons_zero, List.set_cons_succ]
    refine k_notV (s := true) (t := false) rfl _ _ rfl rfl rfl ?_; try simp only [Act.put, List.setIfInBounds_toArray, List.set_cons_zero, List.set_cons_succ]
    refine k_val (v := .bool false) rfl _ (.inl rfl) rfl ?_; try simp only [Act.put, List.setIfInBounds_toArray, List.set_cons_zero, List.set_cons_succ]
    refine k_faI rfl rfl rfl (fa_txD b1) ?_; try simp only [Act.put, List.setIfInBounds_toArray, List.set_cons_zero, List.set_cons_succ]
    refine k_cell (b := b1) (j := 76) (v := .slice p L.length cc) (c := c) rfl _ _ rfl rfl (.tail (.tail .head)) hv bytes_aggI ?_; try simp only [Act.put, List.setIfInBounds_toArray, List.set_cons_zero, List.set_cons_succ]
    refine k_lenSl (p := p) (n := L.length) (c := cc) rfl _ rfl rfl ?_; try simp only [Act.put, List.setIfInBounds_toArray, List.set_cons_zero, List.set_cons_succ]
    refine k_gtr (m := (L.length : Int)) (n := 3000) (t := false) rfl _ _ _ rfl rfl rfl (decide_eq_false (by omega)) ?_; try simp only [Act.put, List.setIfInBounds_toArray, List.set_cons_zero, List.set_cons_succ]
    refine k_pickF (t := false) rfl _ _ _ rfl rfl rfl ?_; try simp only [Act.put, List.setIfInBounds_toArray, List.set_cons_zero, List.set_cons_succ]
    refine k_val (v := .bool false) rfl _ (.inl rfl) rfl ?_; try simp only [Act.put, List.setIfInBounds_toArray, List.set_cons_zero, List.set_cons_succ]
    refine k_val (v := .int .i64 n) rfl _ (.inl rfl) rfl ?_; try simp only [Act.put, List.setIfInBounds_toArray, List.set_cons_zero, List.set_cons_succ]
    refine k_gtr (m := n) (n := 1125899906842624) (t := false) rfl _ _ _ rfl rfl rfl (decide_eq_false (by omega)) ?_; try simp only [Act.put, List.setIfInBounds_toArray, List.set_cons_zero, List.set_cons_succ]
    refine k_pickF (t := false) rfl _ _ _ rfl rfl rfl ?_; try simp only [Act.put, List.setIfInBounds_toArray, List.set_cons_zero, List.set_cons_succ]
    refine k_end ?_
    clear hS
    intro w5 hS
    go_upto_region 7 with (fail)
    try simp only [Act.put, List.setIfInBounds_toArray, List.set_cons_zero, List.set_cons_succ]
    refine k_region (C := fun w' => St [] w w' [(b3, 25, cv), (b2, 25, cu), (b1, 28, c)]) (by kernel_rfl) (by kernel_rfl) hS.drew ?_
    have H1 := Lib.hid (fun w' (h : St [] w w' [(b3, 25, cv), (b2, 25, cu), (b1, 28, c)]) => show Calls Try.prog 6 #[.int .i64 n] w' (fun e w2 => e = .returned (.int .i64 (wordsG n)) ∧ St [] w w2 [(b3, 25, cv), (b2, 25, cu), (b1, 28, c)]) from (pwordsG_any n w' (by omega)).mono (fun e w2 he => ⟨he.1, by rw [he.2]; exact h⟩))
    have H2 := Lib.hid (fun w' (h : St [] w w' [(b3, 25, cv), (b2, 25, cu), (b1, 28, c)]) => show Calls Try.prog 7 #[.int .i64 n] w' (fun e w2 => e = .returned (.int .i64 (wordsG n)) ∧ St [] w w2 [(b3, 25, cv), (b2, 25, cu), (b1, 28, c)]) from (rwordsG_any n w' (by omega)).mono (fun e w2 he => ⟨he.1, by rw [he.2]; exact h⟩))
    have H3 := Lib.hid (fun w' (h : St [] w w' [(b3, 25, cv), (b2, 25, cu), (b1, 28, c)]) => show Calls Try.prog 8 #[.agg c] w' (fun e w2 => e = .returned (.int .i64 (intrG m L)) ∧ St [] w w2 [(b3, 25, cv), (b2, 25, cu), (b1, 28, c)]) from (pintrG_any c m _ L w' (HI.out.tch h.frame) (by omega)).mono (fun e w2 he => ⟨he.1, h.call he.2⟩))
    have H4 := Lib.hid (fun w' (h : St [] w w' [(b3, 25, cv), (b2, 25, cu), (b1, 28, c)]) => show Calls Try.prog 9 #[.agg c] w' (fun e w2 => e = .returned (.int .i64 (intrG m L)) ∧ St [] w w2 [(b3, 25, cv), (b2, 25, cu), (b1, 28, c)]) from (rintrG_any c m _ L w' (HI.out.tch h.frame) (by omega)).mono (fun e w2 he => ⟨he.1, h.call he.2⟩))
    have H5 := Lib.hid (fun w' (h : St [] w w' [(b3, 25, cv), (b2, 25, cu), (b1, 28, c)]) => show Calls Try.prog 10 #[.agg cu, .agg cv] w' (fun e w2 => e = .returned (.int .i64 (storeG U V)) ∧ St [] w w2 [(b3, 25, cv), (b2, 25, cu), (b1, 28, c)]) from (E1.out w').mono (fun e w2 he => ⟨he.1, h.call he.2⟩))
    have H6 := Lib.hid (fun w' (h : St [] w w' [(b3, 25, cv), (b2, 25, cu), (b1, 28, c)]) => show Calls Try.prog 11 #[.agg cu, .agg cv] w' (fun e w2 => e = .returned (.int .i64 (storeG U V)) ∧ St [] w w2 [(b3, 25, cv), (b2, 25, cu), (b1, 28, c)]) from (E2.out w').mono (fun e w2 he => ⟨he.1, h.call he.2⟩))
    have H7 := Lib.hid (fun w' (h : St [] w w' [(b3, 25, cv), (b2, 25, cu), (b1, 28, c)]) => show Calls Try.prog 12 #[.agg cu] w' (fun e w2 => e = .returned (.int .i64 (expG (bval U))) ∧ St [] w w2 [(b3, 25, cv), (b2, 25, cu), (b1, 28, c)]) from (E3.out w').mono (fun e w2 he => ⟨he.1, h.call he.2⟩))
    have H8 := Lib.hid (fun w' (h : St [] w w' [(b3, 25, cv), (b2, 25, cu), (b1, 28, c)]) => show Calls Try.prog 13 #[.agg cu] w' (fun e w2 => e = .returned (.int .i64 (expG (bval U))) ∧ St [] w w2 [(b3, 25, cv), (b2, 25, cu), (b1, 28, c)]) from (E4.out w').mono (fun e w2 he => ⟨he.1, h.call he.2⟩))
    have H9 := Lib.hid (fun w' (h : St [] w w' [(b3, 25, cv), (b2, 25, cu), (b1, 28, c)]) => show Calls Try.prog 14 #[.int .i64 n] w' (fun e w2 => e = .returned (.int .i64 (shareG n)) ∧ St [] w w2 [(b3, 25, cv), (b2, 25, cu), (b1, 28, c)]) from (pshareG_any n w' (by omega)).mono (fun e w2 he => ⟨he.1, by rw [he.2]; exact h⟩))
    have H10 := Lib.hid (fun w' (h : St [] w w' [(b3, 25, cv), (b2, 25, cu), (b1, 28, c)]) => show Calls Try.prog 15 #[.int .i64 n] w' (fun e w2 => e = .returned (.int .i64 (shareG n)) ∧ St [] w w2 [(b3, 25, cv), (b2, 25, cu), (b1, 28, c)]) from (rshareG_any n w' (by omega)).mono (fun e w2 he => ⟨he.1, by rw [he.2]; exact h⟩))
    have H11 := Lib.hid (fun w' (h : St [] w w' [(b3, 25, cv), (b2, 25, cu), (b1, 28, c)]) => show Calls Try.prog 16 #[.bool va, .bool th] w' (fun e w2 => e = .returned (.int .i64 (callG va th)) ∧ St [] w w2 [(b3, 25, cv), (b2, 25, cu), (b1, 28, c)]) from (pcallG_any va th w').mono (fun e w2 he => ⟨he.1, by rw [he.2]; exact h⟩))
    have H12 := Lib.hid (fun w' (h : St [] w w' [(b3, 25, cv), (b2, 25, cu), (b1, 28, c)]) => show Calls Try.prog 17 #[.bool va, .bool th] w' (fun e w2 => e = .returned (.int .i64 (callG va th)) ∧ St [] w w2 [(b3, 25, cv), (b2, 25, cu), (b1, 28, c)]) from (rcallG_any va th w').mono (fun e w2 he => ⟨he.1, by rw [he.2]; exact h⟩))
    have H13 := Lib.hid (fun w' (h : St [] w w' [(b3, 25, cv), (b2, 25, cu), (b1, 28, c)]) => show Calls Try.prog 18 #[.int .i64 tp, .int .i64 n] w' (fun e w2 => e = .returned (.int .i64 (logG n)) ∧ St [] w w2 [(b3, 25, cv), (b2, 25, cu), (b1, 28, c)]) from (plogG_any tp n w' (by omega)).mono (fun e w2 he => ⟨he.1, by rw [he.2]; exact h⟩))
    refine k_val (v := .int .i64 n) rfl _ (.inl rfl) rfl ?_; try simp only [Act.put, List.setIfInBounds_toArray, List.set_cons_zero, List.set_cons_succ]
    refine k_callC1 (v := .int .i64 (wordsG n)) rfl rfl rfl Try.call6 (fun w' h => H1.out w' h) ?_; try simp only [Act.put, List.setIfInBounds_toArray, List.set_cons_zero, List.set_cons_succ]
    refine k_val (v := .int .i64 n) rfl _ (.inl rfl) rfl ?_; try simp only [Act.put, List.setIfInBounds_toArray, List.set_cons_zero, List.set_cons_succ]
    refine k_callC1 (v := .int .i64 (wordsG n)) rfl rfl rfl Try.call7 (fun w' h => H2.out w' h) ?_; try simp only [Act.put, List.setIfInBounds_toArray, List.set_cons_zero, List.set_cons_succ]
    refine k_eqlI (m := (wordsG n)) (n := (wordsG n)) (t := true) rfl _ _ _ rfl rfl rfl (decide_eq_true (by omega)) ?_; try simp only [Act.put, List.setIfInBounds_toArray, List.set_cons_zero, List.set_cons_succ]
    refine k_val (v := .bool true) rfl _ (.inl rfl) rfl ?_; try simp only [Act.put, List.setIfInBounds_toArray, List.set_cons_zero, List.set_cons_succ]
    refine k_loadT (b := b1) (c := c) rfl _ rfl rfl (.tail (.tail .head)) hsz ?_; try simp only [Act.put, List.setIfInBounds_toArray, List.set_cons_zero, List.set_cons_succ]
    refine k_callC1 (v := .int .i64 (intrG m L)) rfl rfl rfl Try.call8 (fun w' h => H3.out w' h) ?_; try simp only [Act.put, List.setIfInBounds_toArray, List.set_cons_zero, List.set_cons_succ]
    refine k_loadT (b := b1) (c := c) rfl _ rfl rfl (.tail (.tail .head)) hsz ?_; try simp only [Act.put, List.setIfInBounds_toArray, List.set_cons_zero, List.set_cons_succ]
    refine k_callC1 (v := .int .i64 (intrG m L)) rfl rfl rfl Try.call9 (fun w' h => H4.out w' h) ?_; try simp only [Act.put, List.setIfInBounds_toArray, List.set_cons_zero, List.set_cons_succ]
    refine k_eqlI (m := (intrG m L)) (n := (intrG m L)) (t := true) rfl _ _ _ rfl rfl rfl (decide_eq_true (by omega)) ?_; try simp only [Act.put, List.setIfInBounds_toArray, List.set_cons_zero, List.set_cons_succ]
    refine k_pickT (t := true) rfl _ _ _ rfl rfl rfl ?_; try simp only [Act.put, List.setIfInBounds_toArray, List.set_cons_zero, List.set_cons_succ]
    refine k_val (v := .bool true) rfl _ (.inl rfl) rfl ?_; try simp only [Act.put, List.setIfInBounds_toArray, List.set_cons_zero, List.set_cons_succ]
    refine k_load (b := b2) (c := cu) rfl _ _ rfl rfl (.tail .head) wordN_type wordN_size SU ?_; try simp only [Act.put, List.setIfInBounds_toArray, List.set_cons_zero, List.set_cons_succ]
    refine k_load (b := b3) (c := cv) rfl _ _ rfl rfl .head wordN_type wordN_size SV ?_; try simp only [Act.put, List.setIfInBounds_toArray, List.set_cons_zero, List.set_cons_succ]
    refine k_callC2 (v := .int .i64 (storeG U V)) rfl rfl rfl rfl Try.call10 (fun w' h => H5.out w' h) ?_; try simp only [Act.put, List.setIfInBounds_toArray, List.set_cons_zero, List.set_cons_succ]
    refine k_load (b := b2) (c := cu) rfl _ _ rfl rfl (.tail .head) wordN_type wordN_size SU ?_; try simp only [Act.put, List.setIfInBounds_toArray, List.set_cons_zero, List.set_cons_succ]
    refine k_load (b := b3) (c := cv) rfl _ _ rfl rfl .head wordN_type wordN_size SV ?_; try simp only [Act.put, List.setIfInBounds_toArray, List.set_cons_zero, List.set_cons_succ]
    refine k_callC2 (v := .int .i64 (storeG U V)) rfl rfl rfl rfl Try.call11 (fun w' h => H6.out w' h) ?_; try simp only [Act.put, List.setIfInBounds_toArray, List.set_cons_zero, List.set_cons_succ]
    refine k_eqlI (m := (storeG U V)) (n := (storeG U V)) (t := true) rfl _ _ _ rfl rfl rfl (decide_eq_true (by omega)) ?_; try simp only [Act.put, List.setIfInBounds_toArray, List.set_cons_zero, List.set_cons_succ]
    refine k_pickT (t := true) rfl _ _ _ rfl rfl rfl ?_; try simp only [Act.put, List.setIfInBounds_toArray, List.set_cons_zero, List.set_cons_succ]
    refine k_val (v := .bool true) rfl _ (.inl rfl) rfl ?_; try simp only [Act.put, List.setIfInBounds_toArray, List.set_cons_zero, List.set_cons_succ]
    refine k_load (b := b2) (c := cu) rfl _ _ rfl rfl (.tail .head) wordN_type wordN_size SU ?_; try simp only [Act.put, List.setIfInBounds_toArray, List.set_cons_zero, List.set_cons_succ]
    refine k_callC1 (v := .int .i64 (expG (bval U))) rfl rfl rfl Try.call12 (fun w' h => H7.out w' h) ?_; try simp only [Act.put, List.setIfInBounds_toArray, List.set_cons_zero, List.set_cons_succ]
    refine k_load (b := b2) (c := cu) rfl _ _ rfl rfl (.tail .head) wordN_type wordN_size SU ?_; try simp only [Act.put, List.setIfInBounds_toArray, List.set_cons_zero, List.set_cons_succ]
    refine k_callC1 (v := .int .i64 (expG (bval U))) rfl rfl rfl Try.call13 (fun w' h => H8.out w' h) ?_; try simp only [Act.put, List.setIfInBounds_toArray, List.set_cons_zero, List.set_cons_succ]
    refine k_eqlI (m := (expG (bval U))) (n := (expG (bval U))) (t := true) rfl _ _ _ rfl rfl rfl (decide_eq_true (by omega)) ?_; try simp only [Act.put, List.setIfInBounds_toArray, List.set_cons_zero, List.set_cons_succ]
    refine k_pickT (t := true) rfl _ _ _ rfl rfl rfl ?_; try simp only [Act.put, List.setIfInBounds_toArray, List.set_cons_zero, List.set_cons_succ]
    refine k_val (v := .bool true) rfl _ (.inl rfl) rfl ?_; try simp only [Act.put, List.setIfInBounds_toArray, List.set_cons_zero, List.set_cons_succ]
    refine k_val (v := .int .i64 n) rfl _ (.inl rfl) rfl ?_; try simp only [Act.put, List.setIfInBounds_toArray, List.set_cons_zero, List.set_cons_succ]
    refine k_callC1 (v := .int .i64 (shareG n)) rfl rfl rfl Try.call14 (fun w' h => H9.out w' h) ?_; try simp only [Act.put, List.setIfInBounds_toArray, List.set_cons_zero, List.set_cons_succ]
    refine k_val (v := .int .i64 n) rfl _ (.inl rfl) rfl ?_; try simp only [Act.put, List.setIfInBounds_toArray, List.set_cons_zero, List.set_cons_succ]
    refine k_callC1 (v := .int .i64 (shareG n)) rfl rfl rfl Try.call15 (fun w' h => H10.out w' h) ?_; try simp only [Act.put, List.setIfInBounds_toArray, List.set_cons_zero, List.set_cons_succ]
    refine k_eqlI (m := (shareG n)) (n := (shareG n)) (t := true) rfl _ _ _ rfl rfl rfl (decide_eq_true (by omega)) ?_; try simp only [Act.put, List.setIfInBounds_toArray, List.set_cons_zero, List.set_cons_succ]
    refine k_pickT (t := true) rfl _ _ _ rfl rfl rfl ?_; try simp only [Act.put, List.setIfInBounds_toArray, List.set_cons_zero, List.set_cons_succ]
    refine k_val (v := .bool true) rfl _ (.inl rfl) rfl ?_; try simp only [Act.put, List.setIfInBounds_toArray, List.set_cons_zero, List.set_cons_succ]
    refine k_val (v := .bool va) rfl _ (.inl rfl) rfl ?_; try simp only [Act.put, List.setIfInBounds_toArray, List.set_cons_zero, List.set_cons_succ]
    refine k_val (v := .bool th) rfl _ (.inl rfl) rfl ?_; try simp only [Act.put, List.setIfInBounds_toArray, List.set_cons_zero, List.set_cons_succ]
    refine k_callC2 (v := .int .i64 (callG va th)) rfl rfl rfl rfl Try.call16 (fun w' h => H11.out w' h) ?_; try simp only [Act.put, List.setIfInBounds_toArray, List.set_cons_zero, List.set_cons_succ]
    refine k_val (v := .bool va) rfl _ (.inl rfl) rfl ?_; try simp only [Act.put, List.setIfInBounds_toArray, List.set_cons_zero, List.set_cons_succ]
    refine k_val (v := .bool th) rfl _ (.inl rfl) rfl ?_; try simp only [Act.put, List.setIfInBounds_toArray, List.set_cons_zero, List.set_cons_succ]
    refine k_callC2 (v := .int .i64 (callG va th)) rfl rfl rfl rfl Try.call17 (fun w' h => H12.out w' h) ?_; try simp only [Act.put, List.setIfInBounds_toArray, List.set_cons_zero, List.set_cons_succ]
    refine k_eqlI (m := (callG va th)) (n := (callG va th)) (t := true) rfl _ _ _ rfl rfl rfl (decide_eq_true (by omega)) ?_; try simp only [Act.put, List.setIfInBounds_toArray, List.set_cons_zero, List.set_cons_succ]
    refine k_pickT (t := true) rfl _ _ _ rfl rfl rfl ?_; try simp only [Act.put, List.setIfInBounds_toArray, List.set_cons_zero, List.set_cons_succ]
    refine k_val (v := .bool true) rfl _ (.inl rfl) rfl ?_; try simp only [Act.put, List.setIfInBounds_toArray, List.set_cons_zero, List.set_cons_succ]
    refine k_val (v := .int .i64 tp) rfl _ (.inl rfl) rfl ?_; try simp only [Act.put, List.setIfInBounds_toArray, List.set_cons_zero, List.set_cons_succ]
    refine k_val (v := .int .i64 n) rfl _ (.inl rfl) rfl ?_; try simp only [Act.put, List.setIfInBounds_toArray, List.set_cons_zero, List.set_cons_succ]
    refine k_callC2 (v := .int .i64 (logG n)) rfl rfl rfl rfl Try.call18 (fun w' h => H13.out w' h) ?_; try simp only [Act.put, List.setIfInBounds_toArray, List.set_cons_zero, List.set_cons_succ]
    refine k_val (v := .int .i64 (0)) rfl _ (.inl rfl) rfl ?_; try simp only [Act.put, List.setIfInBounds_toArray, List.set_cons_zero, List.set_cons_succ]
    refine k_eqlI (m := (logG n)) (n := (0)) (t := true) rfl _ _ _ rfl rfl rfl (decide_eq_true (by omega)) ?_; try simp only [Act.put, List.setIfInBounds_toArray, List.set_cons_zero, List.set_cons_succ]
    refine k_pickT (t := true) rfl _ _ _ rfl rfl rfl ?_; try simp only [Act.put, List.setIfInBounds_toArray, List.set_cons_zero, List.set_cons_succ]
    refine k_val (v := .bool true) rfl _ (.inr rfl) rfl ?_; try simp only [Act.put, List.setIfInBounds_toArray, List.set_cons_zero, List.set_cons_succ]
    refine k_end ?_
    clear hS
    intro w6 hS
    go_wp2
    go_ret
    exact ⟨rfl, hS.frame⟩
  · have hl : logG n = 8 * n := if_neg hneg
    have hwr : wrap64 (8 * n) = 8 * n := IntWalk.wrap64_in _ (by omega)
    go_enter Try.func3, Try.ntmps3
    go_upto_region 2 with (first
      | (have _t := b2; clear _t; refine st_box hS rfl 25 _ rfl rfl ?_; clear hS; intro w3 b3 hS)
      | (have _t := b1; clear _t; refine st_box hS rfl 25 _ rfl rfl ?_; clear hS; intro w2 b2 hS)
      | (refine st_box hS rfl 28 _ rfl rfl ?_; clear hS; intro w1 b1 hS)
      | (go_at_call 5; go_must (refine (alive14 _).mono ?_; rintro e w4 ⟨rfl, hT4⟩; replace hS := hS.call hT4; clear hT4)))
    try simp only [Act.put, List.setIfInBounds_toArray, List.set_cons_zero, List.set_cons_succ]
    refine k_seq (C := fun w' => St [] w w' [(b3, 25, cv), (b2, 25, cu), (b1, 28, c)]) hS ?_
    refine k_val (v := .bool true) rfl _ (.inl rfl) rfl ?_; try simp only [Act.put, List.setIfInBounds_toArray, List.set_cons_zero, List.set_cons_succ]
    refine k_notV (s := true) (t := false) rfl _ _ rfl rfl rfl ?_; try simp only [Act.put, List.setIfInBounds_toArray, List.set_cons_zero, List.set_cons_succ]
    refine k_val (v := .bool false) rfl _ (.inl rfl) rfl ?_; try simp only [Act.put, List.setIfInBounds_toArray, List.set_cons_zero, List.set_cons_succ]
    refine k_faI rfl rfl rfl (fa_txD b1) ?_; try simp only [Act.put, List.setIfInBounds_toArray, List.set_cons_zero, List.set_cons_succ]
    refine k_cell (b := b1) (j := 76) (v := .slice p L.length cc) (c := c) rfl _ _ rfl rfl (.tail (.tail .head)) hv bytes_aggI ?_; try simp only [Act.put, List.setIfInBounds_toArray, List.set_cons_zero, List.set_cons_succ]
    refine k_lenSl (p := p) (n := L.length) (c := cc) rfl _ rfl rfl ?_; try simp only [Act.put, List.setIfInBounds_toArray, List.set_cons_zero, List.set_cons_succ]
    refine k_gtr (m := (L.length : Int)) (n := 3000) (t := false) rfl _ _ _ rfl rfl rfl (decide_eq_false (by omega)) ?_; try simp only [Act.put, List.setIfInBounds_toArray, List.set_cons_zero, List.set_cons_succ]
    refine k_pickF (t := false) rfl _ _ _ rfl rfl rfl ?_; try simp only [Act.put, List.setIfInBounds_toArray, List.set_cons_zero, List.set_cons_succ]
    refine k_val (v := .bool false) rfl _ (.inl rfl) rfl ?_; try simp only [Act.put, List.setIfInBounds_toArray, List.set_cons_zero, List.set_cons_succ]
    refine k_val (v := .int .i64 n) rfl _ (.inl rfl) rfl ?_; try simp only [Act.put, List.setIfInBounds_toArray, List.set_cons_zero, List.set_cons_succ]
    refine k_gtr (m := n) (n := 1125899906842624) (t := false) rfl _ _ _ rfl rfl rfl (decide_eq_false (by omega)) ?_; try simp only [Act.put, List.setIfInBounds_toArray, List.set_cons_zero, List.set_cons_succ]
    refine k_pickF (t := false) rfl _ _ _ rfl rfl rfl ?_; try simp only [Act.put, List.setIfInBounds_toArray, List.set_cons_zero, List.set_cons_succ]
    refine k_end ?_
    clear hS
    intro w5 hS
    go_upto_region 7 with (fail)
    try simp only [Act.put, List.setIfInBounds_toArray, List.set_cons_zero, List.set_cons_succ]
    refine k_region (C := fun w' => St [] w w' [(b3, 25, cv), (b2, 25, cu), (b1, 28, c)]) (by kernel_rfl) (by kernel_rfl) hS.drew ?_
    have H1 := Lib.hid (fun w' (h : St [] w w' [(b3, 25, cv), (b2, 25, cu), (b1, 28, c)]) => show Calls Try.prog 6 #[.int .i64 n] w' (fun e w2 => e = .returned (.int .i64 (wordsG n)) ∧ St [] w w2 [(b3, 25, cv), (b2, 25, cu), (b1, 28, c)]) from (pwordsG_any n w' (by omega)).mono (fun e w2 he => ⟨he.1, by rw [he.2]; exact h⟩))
    have H2 := Lib.hid (fun w' (h : St [] w w' [(b3, 25, cv), (b2, 25, cu), (b1, 28, c)]) => show Calls Try.prog 7 #[.int .i64 n] w' (fun e w2 => e = .returned (.int .i64 (wordsG n)) ∧ St [] w w2 [(b3, 25, cv), (b2, 25, cu), (b1, 28, c)]) from (rwordsG_any n w' (by omega)).mono (fun e w2 he => ⟨he.1, by rw [he.2]; exact h⟩))
    have H3 := Lib.hid (fun w' (h : St [] w w' [(b3, 25, cv), (b2, 25, cu), (b1, 28, c)]) => show Calls Try.prog 8 #[.agg c] w' (fun e w2 => e = .returned (.int .i64 (intrG m L)) ∧ St [] w w2 [(b3, 25, cv), (b2, 25, cu), (b1, 28, c)]) from (pintrG_any c m _ L w' (HI.out.tch h.frame) (by omega)).mono (fun e w2 he => ⟨he.1, h.call he.2⟩))
    have H4 := Lib.hid (fun w' (h : St [] w w' [(b3, 25, cv), (b2, 25, cu), (b1, 28, c)]) => show Calls Try.prog 9 #[.agg c] w' (fun e w2 => e = .returned (.int .i64 (intrG m L)) ∧ St [] w w2 [(b3, 25, cv), (b2, 25, cu), (b1, 28, c)]) from (rintrG_any c m _ L w' (HI.out.tch h.frame) (by omega)).mono (fun e w2 he => ⟨he.1, h.call he.2⟩))
    have H5 := Lib.hid (fun w' (h : St [] w w' [(b3, 25, cv), (b2, 25, cu), (b1, 28, c)]) => show Calls Try.prog 10 #[.agg cu, .agg cv] w' (fun e w2 => e = .returned (.int .i64 (storeG U V)) ∧ St [] w w2 [(b3, 25, cv), (b2, 25, cu), (b1, 28, c)]) from (E1.out w').mono (fun e w2 he => ⟨he.1, h.call he.2⟩))
    have H6 := Lib.hid (fun w' (h : St [] w w' [(b3, 25, cv), (b2, 25, cu), (b1, 28, c)]) => show Calls Try.prog 11 #[.agg cu, .agg cv] w' (fun e w2 => e = .returned (.int .i64 (storeG U V)) ∧ St [] w w2 [(b3, 25, cv), (b2, 25, cu), (b1, 28, c)]) from (E2.out w').mono (fun e w2 he => ⟨he.1, h.call he.2⟩))
    have H7 := Lib.hid (fun w' (h : St [] w w' [(b3, 25, cv), (b2, 25, cu), (b1, 28, c)]) => show Calls Try.prog 12 #[.agg cu] w' (fun e w2 => e = .returned (.int .i64 (expG (bval U))) ∧ St [] w w2 [(b3, 25, cv), (b2, 25, cu), (b1, 28, c)]) from (E3.out w').mono (fun e w2 he => ⟨he.1, h.call he.2⟩))
    have H8 := Lib.hid (fun w' (h : St [] w w' [(b3, 25, cv), (b2, 25, cu), (b1, 28, c)]) => show Calls Try.prog 13 #[.agg cu] w' (fun e w2 => e = .returned (.int .i64 (expG (bval U))) ∧ St [] w w2 [(b3, 25, cv), (b2, 25, cu), (b1, 28, c)]) from (E4.out w').mono (fun e w2 he => ⟨he.1, h.call he.2⟩))
    have H9 := Lib.hid (fun w' (h : St [] w w' [(b3, 25, cv), (b2, 25, cu), (b1, 28, c)]) => show Calls Try.prog 14 #[.int .i64 n] w' (fun e w2 => e = .returned (.int .i64 (shareG n)) ∧ St [] w w2 [(b3, 25, cv), (b2, 25, cu), (b1, 28, c)]) from (pshareG_any n w' (by omega)).mono (fun e w2 he => ⟨he.1, by rw [he.2]; exact h⟩))
    have H10 := Lib.hid (fun w' (h : St [] w w' [(b3, 25, cv), (b2, 25, cu), (b1, 28, c)]) => show Calls Try.prog 15 #[.int .i64 n] w' (fun e w2 => e = .returned (.int .i64 (shareG n)) ∧ St [] w w2 [(b3, 25, cv), (b2, 25, cu), (b1, 28, c)]) from (rshareG_any n w' (by omega)).mono (fun e w2 he => ⟨he.1, by rw [he.2]; exact h⟩))
    have H11 := Lib.hid (fun w' (h : St [] w w' [(b3, 25, cv), (b2, 25, cu), (b1, 28, c)]) => show Calls Try.prog 16 #[.bool va, .bool th] w' (fun e w2 => e = .returned (.int .i64 (callG va th)) ∧ St [] w w2 [(b3, 25, cv), (b2, 25, cu), (b1, 28, c)]) from (pcallG_any va th w').mono (fun e w2 he => ⟨he.1, by rw [he.2]; exact h⟩))
    have H12 := Lib.hid (fun w' (h : St [] w w' [(b3, 25, cv), (b2, 25, cu), (b1, 28, c)]) => show Calls Try.prog 17 #[.bool va, .bool th] w' (fun e w2 => e = .returned (.int .i64 (callG va th)) ∧ St [] w w2 [(b3, 25, cv), (b2, 25, cu), (b1, 28, c)]) from (rcallG_any va th w').mono (fun e w2 he => ⟨he.1, by rw [he.2]; exact h⟩))
    have H13 := Lib.hid (fun w' (h : St [] w w' [(b3, 25, cv), (b2, 25, cu), (b1, 28, c)]) => show Calls Try.prog 18 #[.int .i64 tp, .int .i64 n] w' (fun e w2 => e = .returned (.int .i64 (logG n)) ∧ St [] w w2 [(b3, 25, cv), (b2, 25, cu), (b1, 28, c)]) from (plogG_any tp n w' (by omega)).mono (fun e w2 he => ⟨he.1, by rw [he.2]; exact h⟩))
    refine k_val (v := .int .i64 n) rfl _ (.inl rfl) rfl ?_; try simp only [Act.put, List.setIfInBounds_toArray, List.set_cons_zero, List.set_cons_succ]
    refine k_callC1 (v := .int .i64 (wordsG n)) rfl rfl rfl Try.call6 (fun w' h => H1.out w' h) ?_; try simp only [Act.put, List.setIfInBounds_toArray, List.set_cons_zero, List.set_cons_succ]
    refine k_val (v := .int .i64 n) rfl _ (.inl rfl) rfl ?_; try simp only [Act.put, List.setIfInBounds_toArray, List.set_cons_zero, List.set_cons_succ]
    refine k_callC1 (v := .int .i64 (wordsG n)) rfl rfl rfl Try.call7 (fun w' h => H2.out w' h) ?_; try simp only [Act.put, List.setIfInBounds_toArray, List.set_cons_zero, List.set_cons_succ]
    refine k_eqlI (m := (wordsG n)) (n := (wordsG n)) (t := true) rfl _ _ _ rfl rfl rfl (decide_eq_true (by omega)) ?_; try simp only [Act.put, List.setIfInBounds_toArray, List.set_cons_zero, List.set_cons_succ]
    refine k_val (v := .bool true) rfl _ (.inl rfl) rfl ?_; try simp only [Act.put, List.setIfInBounds_toArray, List.set_cons_zero, List.set_cons_succ]
    refine k_loadT (b := b1) (c := c) rfl _ rfl rfl (.tail (.tail .head)) hsz ?_; try simp only [Act.put, List.setIfInBounds_toArray, List.set_cons_zero, List.set_cons_succ]
    refine k_callC1 (v := .int .i64 (intrG m L)) rfl rfl rfl Try.call8 (fun w' h => H3.out w' h) ?_; try simp only [Act.put, List.setIfInBounds_toArray, List.set_cons_zero, List.set_cons_succ]
    refine k_loadT (b := b1) (c := c) rfl _ rfl rfl (.tail (.tail .head)) hsz ?_; try simp only [Act.put, List.setIfInBounds_toArray, List.set_cons_zero, List.set_cons_succ]
    refine k_callC1 (v := .int .i64 (intrG m L)) rfl rfl rfl Try.call9 (fun w' h => H4.out w' h) ?_; try simp only [Act.put, List.setIfInBounds_toArray, List.set_cons_zero, List.set_cons_succ]
    refine k_eqlI (m := (intrG m L)) (n := (intrG m L)) (t := true) rfl _ _ _ rfl rfl rfl (decide_eq_true (by omega)) ?_; try simp only [Act.put, List.setIfInBounds_toArray, List.set_cons_zero, List.set_cons_succ]
    refine k_pickT (t := true) rfl _ _ _ rfl rfl rfl ?_; try simp only [Act.put, List.setIfInBounds_toArray, List.set_cons_zero, List.set_cons_succ]
    refine k_val (v := .bool true) rfl _ (.inl rfl) rfl ?_; try simp only [Act.put, List.setIfInBounds_toArray, List.set_cons_zero, List.set_cons_succ]
    refine k_load (b := b2) (c := cu) rfl _ _ rfl rfl (.tail .head) wordN_type wordN_size SU ?_; try simp only [Act.put, List.setIfInBounds_toArray, List.set_cons_zero, List.set_cons_succ]
    refine k_load (b := b3) (c := cv) rfl _ _ rfl rfl .head wordN_type wordN_size SV ?_; try simp only [Act.put, List.setIfInBounds_toArray, List.set_cons_zero, List.set_cons_succ]
    refine k_callC2 (v := .int .i64 (storeG U V)) rfl rfl rfl rfl Try.call10 (fun w' h => H5.out w' h) ?_; try simp only [Act.put, List.setIfInBounds_toArray, List.set_cons_zero, List.set_cons_succ]
    refine k_load (b := b2) (c := cu) rfl _ _ rfl rfl (.tail .head) wordN_type wordN_size SU ?_; try simp only [Act.put, List.setIfInBounds_toArray, List.set_cons_zero, List.set_cons_succ]
    refine k_load (b := b3) (c := cv) rfl _ _ rfl rfl .head wordN_type wordN_size SV ?_; try simp only [Act.put, List.setIfInBounds_toArray, List.set_cons_zero, List.set_cons_succ]
    refine k_callC2 (v := .int .i64 (storeG U V)) rfl rfl rfl rfl Try.call11 (fun w' h => H6.out w' h) ?_; try simp only [Act.put, List.setIfInBounds_toArray, List.set_cons_zero, List.set_cons_succ]
    refine k_eqlI (m := (storeG U V)) (n := (storeG U V)) (t := true) rfl _ _ _ rfl rfl rfl (decide_eq_true (by omega)) ?_; try simp only [Act.put, List.setIfInBounds_toArray, List.set_cons_zero, List.set_cons_succ]
    refine k_pickT (t := true) rfl _ _ _ rfl rfl rfl ?_; try simp only [Act.put, List.setIfInBounds_toArray, List.set_cons_zero, List.set_cons_succ]
    refine k_val (v := .bool true) rfl _ (.inl rfl) rfl ?_; try simp only [Act.put, List.setIfInBounds_toArray, List.set_cons_zero, List.set_cons_succ]
    refine k_load (b := b2) (c := cu) rfl _ _ rfl rfl (.tail .head) wordN_type wordN_size SU ?_; try simp only [Act.put, List.setIfInBounds_toArray, List.set_cons_zero, List.set_cons_succ]
    refine k_callC1 (v := .int .i64 (expG (bval U))) rfl rfl rfl Try.call12 (fun w' h => H7.out w' h) ?_; try simp only [Act.put, List.setIfInBounds_toArray, List.set_cons_zero, List.set_cons_succ]
    refine k_load (b := b2) (c := cu) rfl _ _ rfl rfl (.tail .head) wordN_type wordN_size SU ?_; try simp only [Act.put, List.setIfInBounds_toArray, List.set_cons_zero, List.set_cons_succ]
    refine k_callC1 (v := .int .i64 (expG (bval U))) rfl rfl rfl Try.call13 (fun w' h => H8.out w' h) ?_; try simp only [Act.put, List.setIfInBounds_toArray, List.set_cons_zero, List.set_cons_succ]
    refine k_eqlI (m := (expG (bval U))) (n := (expG (bval U))) (t := true) rfl _ _ _ rfl rfl rfl (decide_eq_true (by omega)) ?_; try simp only [Act.put, List.setIfInBounds_toArray, List.set_cons_zero, List.set_cons_succ]
    refine k_pickT (t := true) rfl _ _ _ rfl rfl rfl ?_; try simp only [Act.put, List.setIfInBounds_toArray, List.set_cons_zero, List.set_cons_succ]
    refine k_val (v := .bool true) rfl _ (.inl rfl) rfl ?_; try simp only [Act.put, List.setIfInBounds_toArray, List.set_cons_zero, List.set_cons_succ]
    refine k_val (v := .int .i64 n) rfl _ (.inl rfl) rfl ?_; try simp only [Act.put, List.setIfInBounds_toArray, List.set_cons_zero, List.set_cons_succ]
    refine k_callC1 (v := .int .i64 (shareG n)) rfl rfl rfl Try.call14 (fun w' h => H9.out w' h) ?_; try simp only [Act.put, List.setIfInBounds_toArray, List.set_cons_zero, List.set_cons_succ]
    refine k_val (v := .int .i64 n) rfl _ (.inl rfl) rfl ?_; try simp only [Act.put, List.setIfInBounds_toArray, List.set_cons_zero, List.set_cons_succ]
    refine k_callC1 (v := .int .i64 (shareG n)) rfl rfl rfl Try.call15 (fun w' h => H10.out w' h) ?_; try simp only [Act.put, List.setIfInBounds_toArray, List.set_cons_zero, List.set_cons_succ]
    refine k_eqlI (m := (shareG n)) (n := (shareG n)) (t := true) rfl _ _ _ rfl rfl rfl (decide_eq_true (by omega)) ?_; try simp only [Act.put, List.setIfInBounds_toArray, List.set_cons_zero, List.set_cons_succ]
    refine k_pickT (t := true) rfl _ _ _ rfl rfl rfl ?_; try simp only [Act.put, List.setIfInBounds_toArray, List.set_cons_zero, List.set_cons_succ]
    refine k_val (v := .bool true) rfl _ (.inl rfl) rfl ?_; try simp only [Act.put, List.setIfInBounds_toArray, List.set_cons_zero, List.set_cons_succ]
    refine k_val (v := .bool va) rfl _ (.inl rfl) rfl ?_; try simp only [Act.put, List.setIfInBounds_toArray, List.set_cons_zero, List.set_cons_succ]
    refine k_val (v := .bool th) rfl _ (.inl rfl) rfl ?_; try simp only [Act.put, List.setIfInBounds_toArray, List.set_cons_zero, List.set_cons_succ]
    refine k_callC2 (v := .int .i64 (callG va th)) rfl rfl rfl rfl Try.call16 (fun w' h => H11.out w' h) ?_; try simp only [Act.put, List.setIfInBounds_toArray, List.set_cons_zero, List.set_cons_succ]
    refine k_val (v := .bool va) rfl _ (.inl rfl) rfl ?_; try simp only [Act.put, List.setIfInBounds_toArray, List.set_cons_zero, List.set_cons_succ]
    refine k_val (v := .bool th) rfl _ (.inl rfl) rfl ?_; try simp only [Act.put, List.setIfInBounds_toArray, List.set_cons_zero, List.set_cons_succ]
    refine k_callC2 (v := .int .i64 (callG va th)) rfl rfl rfl rfl Try.call17 (fun w' h => H12.out w' h) ?_; try simp only [Act.put, List.setIfInBounds_toArray, List.set_cons_zero, List.set_cons_succ]
    refine k_eqlI (m := (callG va th)) (n := (callG va th)) (t := true) rfl _ _ _ rfl rfl rfl (decide_eq_true (by omega)) ?_; try simp only [Act.put, List.setIfInBounds_toArray, List.set_cons_zero, List.set_cons_succ]
    refine k_pickT (t := true) rfl _ _ _ rfl rfl rfl ?_; try simp only [Act.put, List.setIfInBounds_toArray, List.set_cons_zero, List.set_cons_succ]
    refine k_val (v := .bool true) rfl _ (.inl rfl) rfl ?_; try simp only [Act.put, List.setIfInBounds_toArray, List.set_cons_zero, List.set_cons_succ]
    refine k_val (v := .int .i64 tp) rfl _ (.inl rfl) rfl ?_; try simp only [Act.put, List.setIfInBounds_toArray, List.set_cons_zero, List.set_cons_succ]
    refine k_val (v := .int .i64 n) rfl _ (.inl rfl) rfl ?_; try simp only [Act.put, List.setIfInBounds_toArray, List.set_cons_zero, List.set_cons_succ]
    refine k_callC2 (v := .int .i64 (logG n)) rfl rfl rfl rfl Try.call18 (fun w' h => H13.out w' h) ?_; try simp only [Act.put, List.setIfInBounds_toArray, List.set_cons_zero, List.set_cons_succ]
    refine k_val (v := .int .i64 (8 * n)) rfl _ (.inl rfl) rfl ?_; try simp only [Act.put, List.setIfInBounds_toArray, List.set_cons_zero, List.set_cons_succ]
    refine k_eqlI (m := (logG n)) (n := (8 * n)) (t := true) rfl _ _ _ rfl rfl rfl (decide_eq_true (by omega)) ?_; try simp only [Act.put, List.setIfInBounds_toArray, List.set_cons_zero, List.set_cons_succ]
    refine k_pickT (t := true) rfl _ _ _ rfl rfl rfl ?_; try simp only [Act.put, List.setIfInBounds_toArray, List.set_cons_zero, List.set_cons_succ]
    refine k_val (v := .bool true) rfl _ (.inr rfl) rfl ?_; try simp only [Act.put, List.setIfInBounds_toArray, List.set_cons_zero, List.set_cons_succ]
    refine k_end ?_
    clear hS
    intro w6 hS
    go_wp2
    go_ret
    exact ⟨rfl, hS.frame⟩
end Go.Proofs.Ytbbebejdfgakfaa
