/- GasRises: the walk, whole. -/
import Derived.Test.YtbbebejdfgakfaaD8
set_option linter.unusedVariables false
set_option linter.unusedSimpArgs false
namespace Go.Proofs.Ytbbebejdfgakfaa
open Go.RowKit
set_option maxRecDepth 100000
set_option maxHeartbeats 8000000

theorem rises_walk (c : Array Value) (m : Bool) (v : Value) (L : List Nat) (n : Int) (x : Nat) (w : World) (h : TxIn w c m v L) (h1c : c.all (·.oneCell') = true) (hx : x < 256) :
    Calls Try.prog 4 #[.agg c, .int .i64 n, .int .u8 (x : Int)] w fun e w' => e = .returned (.bool true) ∧ Tch [] w w' := by
  have HI := Lib.hid h
  obtain ⟨hsz, hm, hv, hR⟩ := h
  obtain ⟨p, cc, rfl, _, _, _⟩ := hR
  have hS := St.start w
  by_cases hlong : 2000 < L.length
  · clear HI
    go_enter Try.func4, Try.ntmps4
    go_upto_region 2 with (first
      | (refine st_box hS rfl 28 _ rfl rfl ?_; clear hS; intro w1 b1 hS)
      | (go_at_call 5; go_must (refine (alive14 _).mono ?_; rintro e w2 ⟨rfl, hT2⟩; replace hS := hS.call hT2; clear hT2)))
    try simp only [Act.put, List.setIfInBounds_toArray, List.set_cons_zero, List.set_cons_succ]
    refine k_seq (C := fun w' => St [] w w' [(b1, 28, c)]) hS ?_
    refine k_val (v := .bool true) rfl _ (.inl rfl) rfl ?_; try simp only [Act.put, List.setIfInBounds_toArray, List.set_cons_zero, List.set_cons_succ]
    refine k_notV (s := true) (t := false) rfl _ _ rfl rfl rfl ?_; try simp only [Act.put, List.setIfInBounds_toArray, List.set_cons_zero, List.set_cons_succ]
    refine k_val (v := .bool false) rfl _ (.inl rfl) rfl ?_; try simp only [Act.put, List.setIfInBounds_toArray, List.set_cons_zero, List.set_cons_succ]
    refine k_faI rfl rfl rfl (fa_txD b1) ?_; try simp only [Act.put, List.setIfInBounds_toArray, List.set_cons_zero, List.set_cons_succ]
    refine k_cell (b := b1) (j := 76) (v := .slice p L.length cc) (c := c) rfl _ _ rfl rfl .head hv bytes_aggI ?_; try simp only [Act.put, List.setIfInBounds_toArray, List.set_cons_zero, List.set_cons_succ]
    refine k_lenSl (p := p) (n := L.length) (c := cc) rfl _ rfl rfl ?_; try simp only [Act.put, List.setIfInBounds_toArray, List.set_cons_zero, List.set_cons_succ]
    refine k_gtr (m := (L.length : Int)) (n := 2000) (t := true) rfl _ _ _ rfl rfl rfl (decide_eq_true (by omega)) ?_; try simp only [Act.put, List.setIfInBounds_toArray, List.set_cons_zero, List.set_cons_succ]
    refine k_pickF (t := true) rfl _ _ _ rfl rfl rfl ?_; try simp only [Act.put, List.setIfInBounds_toArray, List.set_cons_zero, List.set_cons_succ]
    refine k_val (v := .bool true) rfl _ (.inl rfl) rfl ?_; try simp only [Act.put, List.setIfInBounds_toArray, List.set_cons_zero, List.set_cons_succ]
    refine k_skip rfl rfl rfl rfl rfl ?_; try simp only [Act.put, List.setIfInBounds_toArray, List.set_cons_zero, List.set_cons_succ]
    refine k_skip rfl rfl rfl rfl rfl ?_; try simp only [Act.put, List.setIfInBounds_toArray, List.set_cons_zero, List.set_cons_succ]
    refine k_pickT (t := true) rfl _ _ _ rfl rfl rfl ?_; try simp only [Act.put, List.setIfInBounds_toArray, List.set_cons_zero, List.set_cons_succ]
    refine k_val (v := .bool true) rfl _ (.inl rfl) rfl ?_; try simp only [Act.put, List.setIfInBounds_toArray, List.set_cons_zero, List.set_cons_succ]
    refine k_skip rfl rfl rfl rfl rfl ?_; try simp only [Act.put, List.setIfInBounds_toArray, List.set_cons_zero, List.set_cons_succ]
    refine k_skip rfl rfl rfl rfl rfl ?_; try simp only [Act.put, List.setIfInBounds_toArray, List.set_cons_zero, List.set_cons_succ]
    refine k_pickT (t := true) rfl _ _ _ rfl rfl rfl ?_; try simp only [Act.put, List.setIfInBounds_toArray, List.set_cons_zero, List.set_cons_succ]
    refine k_end ?_
    clear hS
    intro w3 hS
    go_wp2
    go_ret
    exact ⟨rfl, hS.frame⟩
  by_cases hneg : n < 0
  · clear HI
    go_enter Try.func4, Try.ntmps4
    go_upto_region 2 with (first
      | (refine st_box hS rfl 28 _ rfl rfl ?_; clear hS; intro w1 b1 hS)
      | (go_at_call 5; go_must (refine (alive14 _).mono ?_; rintro e w2 ⟨rfl, hT2⟩; replace hS := hS.call hT2; clear hT2)))
    try simp only [Act.put, List.setIfInBounds_toArray, List.set_cons_zero, List.set_cons_succ]
    refine k_seq (C := fun w' => St [] w w' [(b1, 28, c)]) hS ?_
    refine k_val (v := .bool true) rfl _ (.inl rfl) rfl ?_; try simp only [Act.put, List.setIfInBounds_toArray, List.set_cons_zero, List.set_cons_succ]
    refine k_notV (s := true) (t := false) rfl _ _ rfl rfl rfl ?_; try simp only [Act.put, List.setIfInBounds_toArray, List.set_cons_zero, List.set_cons_succ]
    refine k_val (v := .bool false) rfl _ (.inl rfl) rfl ?_; try simp only [Act.put, List.setIfInBounds_toArray, List.set_cons_zero, List.set_cons_succ]
    refine k_faI rfl rfl rfl (fa_txD b1) ?_; try simp only [Act.put, List.setIfInBounds_toArray, List.set_cons_zero, List.set_cons_succ]
    refine k_cell (b := b1) (j := 76) (v := .slice p L.length cc) (c := c) rfl _ _ rfl rfl .head hv bytes_aggI ?_; try simp only [Act.put, List.setIfInBounds_toArray, List.set_cons_zero, List.set_cons_succ]
    refine k_lenSl (p := p) (n := L.length) (c := cc) rfl _ rfl rfl ?_; try simp only [Act.put, List.setIfInBounds_toArray, List.set_cons_zero, List.set_cons_succ]
    refine k_gtr (m := (L.length : Int)) (n := 2000) (t := false) rfl _ _ _ rfl rfl rfl (decide_eq_false (by omega)) ?_; try simp only [Act.put, List.setIfInBounds_toArray, List.set_cons_zero, List.set_cons_succ]
    refine k_pickF (t := false) rfl _ _ _ rfl rfl rfl ?_; try simp only [Act.put, List.setIfInBounds_toArray, List.set_cons_zero, List.set_cons_succ]
    refine k_val (v := .bool false) rfl _ (.inl rfl) rfl ?_; try simp only [Act.put, List.setIfInBounds_toArray, List.set_cons_zero, List.set_cons_succ]
    refine k_val (v := .int .i64 n) rfl _ (.inl rfl) rfl ?_; try simp only [Act.put, List.setIfInBounds_toArray, List.set_cons_zero, List.set_cons_succ]
    refine k_lss (m := n) (n := 0) (t := true) rfl _ _ _ rfl rfl rfl (decide_eq_true (by omega)) ?_; try simp only [Act.put, List.setIfInBounds_toArray, List.set_cons_zero, List.set_cons_succ]
    refine k_pickF (t := true) rfl _ _ _ rfl rfl rfl ?_; try simp only [Act.put, List.setIfInBounds_toArray, List.set_cons_zero, List.set_cons_succ]
    refine k_val (v := .bool true) rfl _ (.inl rfl) rfl ?_; try simp only [Act.put, List.setIfInBounds_toArray, List.set_cons_zero, List.set_cons_succ]
    refine k_skip rfl rfl rfl rfl rfl ?_; try simp only [Act.put, List.setIfInBounds_toArray, List.set_cons_zero, List.set_cons_succ]
    refine k_skip rfl rfl rfl rfl rfl ?_; try simp only [Act.put, List.setIfInBounds_toArray, List.set_cons_zero, List.set_cons_succ]
    refine k_pickT (t := true) rfl _ _ _ rfl rfl rfl ?_; try simp only [Act.put, List.setIfInBounds_toArray, List.set_cons_zero, List.set_cons_succ]
    refine k_end ?_
    clear hS
    intro w3 hS
    go_wp2
    go_ret
    exact ⟨rfl, hS.frame⟩
  by_cases hbig : 1099511627776 < n
  · clear HI
    go_enter Try.func4, Try.ntmps4
    go_upto_region 2 with (first
      | (refine st_box hS rfl 28 _ rfl rfl ?_; clear hS; intro w1 b1 hS)
      | (go_at_call 5; go_must (refine (alive14 _).mono ?_; rintro e w2 ⟨rfl, hT2⟩; replace hS := hS.call hT2; clear hT2)))
    try simp only [Act.put, List.setIfInBounds_toArray, List.set_cons_zero, List.set_cons_succ]
    refine k_seq (C := fun w' => St [] w w' [(b1, 28, c)]) hS ?_
    refine k_val (v := .bool true) rfl _ (.inl rfl) rfl ?_; try simp only [Act.put, List.setIfInBounds_toArray, List.set_cons_zero, List.set_cons_succ]
    refine k_notV (s := true) (t := false) rfl _ _ rfl rfl rfl ?_; try simp only [Act.put, List.setIfInBounds_toArray, List.set_cons_zero, List.set_cons_succ]
    refine k_val (v := .bool false) rfl _ (.inl rfl) rfl ?_; try simp only [Act.put, List.setIfInBounds_toArray, List.set_cons_zero, List.set_cons_succ]
    refine k_faI rfl rfl rfl (fa_txD b1) ?_; try simp only [Act.put, List.setIfInBounds_toArray, List.set_cons_zero, List.set_cons_succ]
    refine k_cell (b := b1) (j := 76) (v := .slice p L.length cc) (c := c) rfl _ _ rfl rfl .head hv bytes_aggI ?_; try simp only [Act.put, List.setIfInBounds_toArray, List.set_cons_zero, List.set_cons_succ]
    refine k_lenSl (p := p) (n := L.length) (c := cc) rfl _ rfl rfl ?_; try simp only [Act.put, List.setIfInBounds_toArray, List.set_cons_zero, List.set_cons_succ]
    refine k_gtr (m := (L.length : Int)) (n := 2000) (t := false) rfl _ _ _ rfl rfl rfl (decide_eq_false (by omega)) ?_; try simp only [Act.put, List.setIfInBounds_toArray, List.set_cons_zero, List.set_cons_succ]
    refine k_pickF (t := false) rfl _ _ _ rfl rfl rfl ?_; try simp only [Act.put, List.setIfInBounds_toArray, List.set_cons_zero, List.set_cons_succ]
    refine k_val (v := .bool false) rfl _ (.inl rfl) rfl ?_; try simp only [Act.put, List.setIfInBounds_toArray, List.set_cons_zero, List.set_cons_succ]
    refine k_val (v := .int .i64 n) rfl _ (.inl rfl) rfl ?_; try simp only [Act.put, List.setIfInBounds_toArray, List.set_cons_zero, List.set_cons_succ]
    refine k_lss (m := n) (n := 0) (t := false) rfl _ _ _ rfl rfl rfl (decide_eq_false (by omega)) ?_; try simp only [Act.put, List.setIfInBounds_toArray, List.set_cons_zero, List.set_cons_succ]
    refine k_pickF (t := false) rfl _ _ _ rfl rfl rfl ?_; try simp only [Act.put, List.setIfInBounds_toArray, List.set_cons_zero, List.set_cons_succ]
    refine k_val (v := .bool false) rfl _ (.inl rfl) rfl ?_; try simp only [Act.put, List.setIfInBounds_toArray, List.set_cons_zero, List.set_cons_succ]
    refine k_val (v := .int .i64 n) rfl _ (.inl rfl) rfl ?_; try simp only [Act.put, List.setIfInBounds_toArray, List.set_cons_zero, List.set_cons_succ]
    refine k_gtr (m := n) (n := 1099511627776) (t := true) rfl _ _ _ rfl rfl rfl (decide_eq_true (by omega)) ?_; try simp only [Act.put, List.setIfInBounds_toArray, List.set_cons_zero, List.set_cons_succ]
    refine k_pickF (t := true) rfl _ _ _ rfl rfl rfl ?_; try simp only [Act.put, List.setIfInBounds_toArray, List.set_cons_zero, List.set_cons_succ]
    refine k_end ?_
    clear hS
    intro w3 hS
    go_wp2
    go_ret
    exact ⟨rfl, hS.frame⟩
  obtain ⟨k, rfl⟩ : ∃ k : Nat, n = k := ⟨n.toNat, by omega⟩
  by_cases hx0 : x = 0
  · subst hx0
    exact rises_zero c m p cc L k w HI.out h1c (by omega) (by omega)
  · exact rises_more c m p cc L k x w HI.out h1c hx hx0 (by omega) (by omega)
end Go.Proofs.Ytbbebejdfgakfaa
