/- GasRises: the walk, its byte no nought. -/
import Derived.Test.YtbbebejdfgakfaaD7
set_option linter.unusedVariables false
set_option linter.unusedSimpArgs false
namespace Go.Proofs.Ytbbebejdfgakfaa
open Go.RowKit
set_option maxRecDepth 100000
set_option maxHeartbeats 8000000

theorem rises_more (c : Array Value) (m : Bool) (p : Option Addr) (cc : Nat) (L : List Nat) (k : Nat) (x : Nat) (w : World) (h : TxIn w c m (.slice p L.length cc) L) (h1c : c.all (·.oneCell') = true) (hx : x < 256) (hx0 : x ≠ 0) (hlong : L.length ≤ 2000) (hbig : k ≤ 1099511627776) :
    Calls Try.prog 4 #[.agg c, .int .i64 (k : Int), .int .u8 (x : Int)] w fun e w' => e = .returned (.bool true) ∧ Tch [] w w' := by
  have HI := Lib.hid h
  obtain ⟨hsz, hm, hv, hR⟩ := h
  have hS := St.start w
  obtain ⟨c0, hz0, hs0⟩ := tx_zero14
  have HM := Lib.hid (rises_math k)
  have HT := Lib.hid (intrG_turn L)
  have HL := Lib.hid (fun m => intrG_le m L (by omega))
  have HA := Lib.hid (show intrG m (L ++ [x]) = intrG m L + 16 from (intrG_more m L x).trans (by rw [if_neg hx0]))
  have HV := Lib.hid hv
  have HB := Lib.hid hm
  have H1C := Lib.hid h1c
  have HZ0 := Lib.hid hz0
  clear hv hm h1c hz0 hR
  skip
  have hxe : ((x : Int) == 0) = false := by simp; omega
  go_enter Try.func4, Try.ntmps4
  go_upto_region 2 with (first
    | (refine st_box hS rfl 28 _ rfl rfl ?_; clear hS; intro w1 b1 hS)
    | (go_at_call 5; go_must (refine (alive14 _).mono ?_; rintro e w2 ⟨rfl, hT2⟩; replace hS := hS.call hT2; clear hT2)))
  try simp only [Act.put, List.setIfInBounds_toArray, List.set_cons_zero, List.set_cons_succ]
  refine k_seq (C := fun w' => St [] w w' [(b1, 28, c)]) hS ?_
  refine k_val (v := .bool true) rfl _ (.inl rfl) rfl ?_; try simp only [Act.put, List.setIfInBounds_toArray, List.set_cons_zero, List.set_cons_succ]
  refine k_notV (s := true) (t := false) rfl _ _ rfl rfl rfl ?_; try simp only [Act.put, List.setIfInBounds_toArray, List.set_cons_zero, List.set_cons_succ]
  refine k_val (v := .bool false) rfl _ (.inl rfl) rfl ?_; try simp only [Act.put, List.setIfInBounds_toArray, List.set_cons_zero, List.set_cons_succ]
  refine k_faI rfl rfl rfl (fa_txD b1) ?_; try simp only [Act.put, List.setIfInBounds_toArray, List.set_cons_zero, List.set_cons_succ]
  refine k_cell (b := b1) (j := 76) (v := .slice p L.length cc) (c := c) rfl _ _ rfl rfl .head HV.out bytes_aggI ?_; try simp only [Act.put, List.setIfInBounds_toArray, List.set_cons_zero, List.set_cons_succ]
  refine k_lenSl (p := p) (n := L.length) (c := cc) rfl _ rfl rfl ?_; try simp only [Act.put, List.setIfInBounds_toArray, List.set_cons_zero, List.set_cons_succ]
  refine k_gtr (m := (L.length : Int)) (n := 2000) (t := false) rfl _ _ _ rfl rfl rfl (decide_eq_false (by omega)) ?_; try simp only [Act.put, List.setIfInBounds_toArray, List.set_cons_zero, List.set_cons_succ]
  refine k_pickF (t := false) rfl _ _ _ rfl rfl rfl ?_; try simp only [Act.put, List.setIfInBounds_toArray, List.set_cons_zero, List.set_cons_succ]
  refine k_val (v := .bool false) rfl _ (.inl rfl) rfl ?_; try simp only [Act.put, List.setIfInBounds_toArray, List.set_cons_zero, List.set_cons_succ]
  refine k_val (v := .int .i64 (k : Int)) rfl _ (.inl rfl) rfl ?_; try simp only [Act.put, List.setIfInBounds_toArray, List.set_cons_zero, List.set_cons_succ]
  refine k_lss (m := (k : Int)) (n := 0) (t := false) rfl _ _ _ rfl rfl rfl (decide_eq_false (by omega)) ?_; try simp only [Act.put, List.setIfInBounds_toArray, List.set_cons_zero, List.set_cons_succ]
  refine k_pickF (t := false) rfl _ _ _ rfl rfl rfl ?_; try simp only [Act.put, List.setIfInBounds_toArray, List.set_cons_zero, List.set_cons_succ]
  refine k_val (v := .bool false) rfl _ (.inl rfl) rfl ?_; try simp only [Act.put, List.setIfInBounds_toArray, List.set_cons_zero, List.set_cons_succ]
  refine k_val (v := .int .i64 (k : Int)) rfl _ (.inl rfl) rfl ?_; try simp only [Act.put, List.setIfInBounds_toArray, List.set_cons_zero, List.set_cons_succ]
  refine k_gtr (m := (k : Int)) (n := 1099511627776) (t := false) rfl _ _ _ rfl rfl rfl (decide_eq_false (by omega)) ?_; try simp only [Act.put, List.setIfInBounds_toArray, List.set_cons_zero, List.set_cons_succ]
  refine k_pickF (t := false) rfl _ _ _ rfl rfl rfl ?_; try simp only [Act.put, List.setIfInBounds_toArray, List.set_cons_zero, List.set_cons_succ]
  refine k_end ?_
  clear hS
  intro w3 hS
  go_upto_region 4 with (fail)
  try simp only [Act.put, List.setIfInBounds_toArray, List.set_cons_zero, List.set_cons_succ]
  refine wp_region_lit ?_
  refine st_loadT hS rfl _ rfl rfl .head hsz ?_; try simp only [Act.put, List.setIfInBounds_toArray, List.set_cons_zero, List.set_cons_succ]
  refine st_new hS rfl 28 rfl HZ0.out ?_
  clear hS; intro w4 b2 hS
  try simp only [Act.put, List.setIfInBounds_toArray, List.set_cons_zero, List.set_cons_succ]
  refine st_store hS rfl 28 _ _ rfl rfl rfl .head tx_size hs0 hsz H1C.out ?_
  clear hS; intro w5 hS
  try simp only [Act.put, List.setIfInBounds_toArray, List.set_cons_zero, List.set_cons_succ]
  refine st_end14 ?_
  go_upto_region 5 with (fail)
  try simp only [Act.put, List.setIfInBounds_toArray, List.set_cons_zero, List.set_cons_succ]
  refine wp_region_lit ?_
  refine st_faT rfl rfl rfl (fa_txD b1) ?_; try simp only [Act.put, List.setIfInBounds_toArray, List.set_cons_zero, List.set_cons_succ]
  refine st_cell1 (v := .slice p L.length cc) hS rfl 26 _ rfl rfl (.tail .head) HV.out bytes_aggI ?_; try simp only [Act.put, List.setIfInBounds_toArray, List.set_cons_zero, List.set_cons_succ]
  refine st_appB (ty := 5) (w0 := w5) (v := .slice none 0 0) (l := []) (m := L) rfl _ _ rfl rfl rfl (own_nil _ _) (Tch.refl _ _) (HI.out.tch hS.frame).2.2.2 (by simp; omega) ?_
  intro v6 w6 hO6 hT6
  try simp only [Act.put, List.setIfInBounds_toArray, List.set_cons_zero, List.set_cons_succ]
  refine st_mvT (v := .int .u8 (x : Int)) rfl rfl rfl ?_; try simp only [Act.put, List.setIfInBounds_toArray, List.set_cons_zero, List.set_cons_succ]
  refine st_buildW14 (parts := #[(0, .tmp 35)]) #[(0, .int .u8 (x : Int))] rfl rfl (by simp; rfl) (fun w => build1_14 (x : Int) w) ?_
  intro w7 hw7
  subst hw7
  try simp only [Act.put, List.setIfInBounds_toArray, List.set_cons_zero, List.set_cons_succ]
  refine st_appB (ty := 5) (w0 := w5) (v := v6) (l := [] ++ L) (m := [x]) rfl _ _ rfl rfl rfl (hO6.alloc _) (hT6.alloc _) (RdB.lit _ _ [x] (by intro y hy; simp at hy; omega) _ rfl) (by simp; omega) ?_
  intro v8 w8 hO8 hT8
  have hS8 := hS.call hT8
  have hone : v8.oneCell' = true := (by obtain ⟨_, h2⟩ := hO8; rcases h2 with ⟨rfl, _⟩ | ⟨_, _, _, rfl, _⟩ <;> rfl)
  try simp only [Act.put, List.setIfInBounds_toArray, List.set_cons_zero, List.set_cons_succ]
  refine st_faT rfl rfl rfl (fa_txD b2) ?_; try simp only [Act.put, List.setIfInBounds_toArray, List.set_cons_zero, List.set_cons_succ]
  refine st_store1O hS8 rfl 26 _ _ rfl rfl rfl hone slc_size14 .head (by omega) ?_
  intro w9 hS9 hO9
  try simp only [Act.put, List.setIfInBounds_toArray, List.set_cons_zero, List.set_cons_succ]
  refine st_end14 ?_
  have hbl := hx
  have hbL : ∀ y ∈ L ++ [x], y < 256 := by
    have := (HI.out.2.2.2)
    obtain ⟨_, _, _, _, hb, _⟩ := this
    intro y hy
    rcases List.mem_append.1 hy with h | h
    · exact hb y h
    · simp at h; omega
  have g2 : w.heap.size ≤ b2 := by have := (hS.blk _ (.head _)).2; simpa using this
  have g1 : w.heap.size ≤ b1 := by have := (hS.blk _ (.tail _ (.head _))).2; simpa using this
  have l2 : b2 < w5.heap.size := (hS.get .head).lt
  have l1 : b1 < w5.heap.size := (hS.get (.tail .head)).lt
  have hUR : RdA [b2, b1] w9 v8 (L ++ [x]) := ((RdF.own (show w8.ownsRow w5.heap.size 5 1 v8 (L ++ [x]).length (nb (L ++ [x])) from hO8) hbL) [b2, b1] (by simp; omega)).tch (((Tch.refl [b2] w8).only hO9 (.inr (by simp))).mono (by simp))
  have hT9 : Tch [] w w9 := hS9.frame
  have HU := Lib.hid (show ∀ w', Tch [b2, b1] w9 w' → TxIn w' (c.setIfInBounds 76 v8) m v8 (L ++ [x]) from fun w' h => ⟨by rw [Array.size_setIfInBounds]; exact hsz, by rw [Array.getElem?_setIfInBounds_ne (by omega)]; exact HB.out, by rw [Array.getElem?_setIfInBounds_self_of_lt (by omega)], (hUR.tch h).rdB⟩)
  have HW := Lib.hid (show ∀ w', Tch [b2, b1] w9 w' → TxIn w' (c.setIfInBounds 43 (.bool (!m))) (!m) (.slice p L.length cc) L from fun w' h => ⟨by rw [Array.size_setIfInBounds]; exact hsz, by rw [Array.getElem?_setIfInBounds_self_of_lt (by omega)], by rw [Array.getElem?_setIfInBounds_ne (by omega)]; exact HV.out, (HI.out.tch (back14 hT9 h g1 g2)).2.2.2⟩)
  have HC := Lib.hid (show ∀ w', Tch [b2, b1] w9 w' → TxIn w' c m (.slice p L.length cc) L from fun w' h => HI.out.tch (back14 hT9 h g1 g2))
  have hcu : (c.setIfInBounds 76 v8).size = 77 := by rw [Array.size_setIfInBounds]; exact hsz
  have hcw : (c.setIfInBounds 43 (.bool (!m))).size = 77 := by rw [Array.size_setIfInBounds]; exact hsz
  have hSn : St [b2, b1] w9 w9 [(b2, 28, c.setIfInBounds 76 v8), (b1, 28, c)] := ⟨Tch.refl _ _, fun e he => ⟨(hS9.blk e he).1, .inr (by simp at he; rcases he with rfl | rfl <;> simp)⟩, hS9.apart⟩
  have hBk := Lib.hid (show ∀ w', Tch [b2, b1] w9 w' → Tch [] w w' from fun w' h => back14 hT9 h g1 g2)
  clear hS hS8 hS9 hUR hO8 hO9 hT8 hT6 hO6 hT9 hbL hbl
  generalize c.setIfInBounds 76 v8 = cu at *
  go_upto_region 9 with (fail)
  try simp only [Act.put, List.setIfInBounds_toArray, List.set_cons_zero, List.set_cons_succ]
  refine wp_region_lit ?_
  refine st_loadT hSn rfl _ rfl rfl (.tail .head) hsz ?_; try simp only [Act.put, List.setIfInBounds_toArray, List.set_cons_zero, List.set_cons_succ]
  refine st_new hSn rfl 28 rfl HZ0.out ?_
  clear hSn; intro w10 b3 hSn
  try simp only [Act.put, List.setIfInBounds_toArray, List.set_cons_zero, List.set_cons_succ]
  refine st_store hSn rfl 28 _ _ rfl rfl rfl .head tx_size hs0 hsz H1C.out ?_
  clear hSn; intro w11 hSn
  try simp only [Act.put, List.setIfInBounds_toArray, List.set_cons_zero, List.set_cons_succ]
  refine st_end14 ?_
  go_upto_region 10 with (fail)
  try simp only [Act.put, List.setIfInBounds_toArray, List.set_cons_zero, List.set_cons_succ]
  refine wp_region_lit ?_
  refine st_faT rfl rfl rfl (fa_txM b1) ?_; try simp only [Act.put, List.setIfInBounds_toArray, List.set_cons_zero, List.set_cons_succ]
  refine st_cell1 (v := .bool m) hSn rfl 4 _ rfl rfl (.tail (.tail .head)) HB.out bool_agg14 ?_; try simp only [Act.put, List.setIfInBounds_toArray, List.set_cons_zero, List.set_cons_succ]
  refine st_notT (s := m) rfl rfl rfl ?_; try simp only [Act.put, List.setIfInBounds_toArray, List.set_cons_zero, List.set_cons_succ]
  refine st_faT rfl rfl rfl (fa_txM b3) ?_; try simp only [Act.put, List.setIfInBounds_toArray, List.set_cons_zero, List.set_cons_succ]
  refine st_store1O hSn rfl 4 _ _ rfl rfl rfl rfl bool_size14 .head (by omega) ?_
  clear hSn; intro w12 hSn _
  try simp only [Act.put, List.setIfInBounds_toArray, List.set_cons_zero, List.set_cons_succ]
  refine st_end14 ?_
  go_upto_region 11 with (fail)
  try simp only [Act.put, List.setIfInBounds_toArray, List.set_cons_zero, List.set_cons_succ]
  replace hSn : St [b2, b1] w9 w12 [(b3, 28, c.setIfInBounds 43 (.bool (!m))), (b2, 28, cu), (b1, 28, c)] := hSn
  generalize c.setIfInBounds 43 (.bool (!m)) = cw at *
  have hturn : intrG (!m) L - intrG m L = if m then -32000 else 32000 := by have := HT.out; cases m <;> simp <;> omega
  have hb1 := HL.out m
  have hb2 := HL.out (!m)
  try simp only [Act.put, List.setIfInBounds_toArray, List.set_cons_zero, List.set_cons_succ]
  have H1 := Lib.hid (fun w' (h : St [b2, b1] w9 w' [(b3, 28, cw), (b2, 28, cu), (b1, 28, c)]) => show Calls Try.prog 8 #[.agg cw] w' (fun e w2 => e = .returned (.int .i64 (intrG (!m) L)) ∧ St [b2, b1] w9 w2 [(b3, 28, cw), (b2, 28, cu), (b1, 28, c)]) from (pintrG_any cw (!m) _ L w' (HW.out w' h.frame) (by omega)).mono (fun e w2 he => ⟨he.1, h.call he.2⟩))
  have H2 := Lib.hid (fun w' (h : St [b2, b1] w9 w' [(b3, 28, cw), (b2, 28, cu), (b1, 28, c)]) => show Calls Try.prog 8 #[.agg c] w' (fun e w2 => e = .returned (.int .i64 (intrG m L)) ∧ St [b2, b1] w9 w2 [(b3, 28, cw), (b2, 28, cu), (b1, 28, c)]) from (pintrG_any c m _ L w' (HC.out w' h.frame) (by omega)).mono (fun e w2 he => ⟨he.1, h.call he.2⟩))
  have H3 := Lib.hid (fun w' (h : St [b2, b1] w9 w' [(b3, 28, cw), (b2, 28, cu), (b1, 28, c)]) => show Calls Try.prog 8 #[.agg cu] w' (fun e w2 => e = .returned (.int .i64 (intrG m (L ++ [x]))) ∧ St [b2, b1] w9 w2 [(b3, 28, cw), (b2, 28, cu), (b1, 28, c)]) from (pintrG_any cu m _ (L ++ [x]) w' (HU.out w' h.frame) (by simp; omega)).mono (fun e w2 he => ⟨he.1, h.call he.2⟩))
  have H4 := Lib.hid (fun w' (h : St [b2, b1] w9 w' [(b3, 28, cw), (b2, 28, cu), (b1, 28, c)]) => show Calls Try.prog 6 #[.int .i64 ((k : Int) + 32)] w' (fun e w2 => e = .returned (.int .i64 (wordsG ((k : Int) + 32))) ∧ St [b2, b1] w9 w2 [(b3, 28, cw), (b2, 28, cu), (b1, 28, c)]) from (pwordsG_any ((k : Int) + 32) w' (by omega)).mono (fun e w2 he => ⟨he.1, by rw [he.2]; exact h⟩))
  have H5 := Lib.hid (fun w' (h : St [b2, b1] w9 w' [(b3, 28, cw), (b2, 28, cu), (b1, 28, c)]) => show Calls Try.prog 6 #[.int .i64 (k : Int)] w' (fun e w2 => e = .returned (.int .i64 (wordsG (k : Int))) ∧ St [b2, b1] w9 w2 [(b3, 28, cw), (b2, 28, cu), (b1, 28, c)]) from (pwordsG_any (k : Int) w' (by omega)).mono (fun e w2 he => ⟨he.1, by rw [he.2]; exact h⟩))
  have H6 := Lib.hid (fun w' (h : St [b2, b1] w9 w' [(b3, 28, cw), (b2, 28, cu), (b1, 28, c)]) => show Calls Try.prog 14 #[.int .i64 ((k : Int) + 1)] w' (fun e w2 => e = .returned (.int .i64 (shareG ((k : Int) + 1))) ∧ St [b2, b1] w9 w2 [(b3, 28, cw), (b2, 28, cu), (b1, 28, c)]) from (pshareG_any ((k : Int) + 1) w' (by omega)).mono (fun e w2 he => ⟨he.1, by rw [he.2]; exact h⟩))
  have H7 := Lib.hid (fun w' (h : St [b2, b1] w9 w' [(b3, 28, cw), (b2, 28, cu), (b1, 28, c)]) => show Calls Try.prog 14 #[.int .i64 (k : Int)] w' (fun e w2 => e = .returned (.int .i64 (shareG (k : Int))) ∧ St [b2, b1] w9 w2 [(b3, 28, cw), (b2, 28, cu), (b1, 28, c)]) from (pshareG_any (k : Int) w' (by omega)).mono (fun e w2 he => ⟨he.1, by rw [he.2]; exact h⟩))
  clear HU HW HC HI
  refine k_region (C := fun w' => St [b2, b1] w9 w' [(b3, 28, cw), (b2, 28, cu), (b1, 28, c)]) (by kernel_rfl) (by kernel_rfl) hSn.drew ?_
  refine k_loadT (b := b3) (c := cw) rfl _ rfl rfl .head hcw ?_; try simp only [Act.put, List.setIfInBounds_toArray, List.set_cons_zero, List.set_cons_succ]
  refine k_callC1 (v := .int .i64 (intrG (!m) L)) rfl rfl rfl Try.call8 (fun w' h => H1.out w' h) ?_; try simp only [Act.put, List.setIfInBounds_toArray, List.set_cons_zero, List.set_cons_succ]
  refine k_loadT (b := b1) (c := c) rfl _ rfl rfl (.tail (.tail .head)) hsz ?_; try simp only [Act.put, List.setIfInBounds_toArray, List.set_cons_zero, List.set_cons_succ]
  refine k_callC1 (v := .int .i64 (intrG m L)) rfl rfl rfl Try.call8 (fun w' h => H2.out w' h) ?_; try simp only [Act.put, List.setIfInBounds_toArray, List.set_cons_zero, List.set_cons_succ]
  refine k_sub (m := (intrG (!m) L)) (n := (intrG m L)) (s := if m then -32000 else 32000) rfl _ _ _ _ rfl rfl rfl (by rw [IntKind.wrap_i64]; omega) ?_; try simp only [Act.put, List.setIfInBounds_toArray, List.set_cons_zero, List.set_cons_succ]
  refine k_val (v := .int .i64 (if m then -32000 else 32000)) rfl _ (.inr rfl) rfl ?_; try simp only [Act.put, List.setIfInBounds_toArray, List.set_cons_zero, List.set_cons_succ]
  refine k_end ?_
  clear hSn
  intro w13 hSn
  clear hturn hb2
  cases m
  · go_upto_region 15 with (refine st_cell1 (v := .bool false) hSn rfl 4 _ rfl rfl (.tail (.tail .head)) HB.out bool_agg14 ?_)
    try simp only [Act.put, List.setIfInBounds_toArray, List.set_cons_zero, List.set_cons_succ]
    refine k_region (C := fun w' => St [b2, b1] w9 w' [(b3, 28, cw), (b2, 28, cu), (b1, 28, c)]) (by kernel_rfl) (by kernel_rfl) hSn.drew ?_
    obtain ⟨q1, q2, q3, q4, q5, q6, q7⟩ := HM.out
    have q8 := HA.out
    refine k_loadT (b := b2) (c := cu) rfl _ rfl rfl (.tail .head) hcu ?_; try simp only [Act.put, List.setIfInBounds_toArray, List.set_cons_zero, List.set_cons_succ]
    refine k_callC1 (v := .int .i64 (intrG false (L ++ [x]))) rfl rfl rfl Try.call8 (fun w' h => H3.out w' h) ?_; try simp only [Act.put, List.setIfInBounds_toArray, List.set_cons_zero, List.set_cons_succ]
    refine k_loadT (b := b1) (c := c) rfl _ rfl rfl (.tail (.tail .head)) hsz ?_; try simp only [Act.put, List.setIfInBounds_toArray, List.set_cons_zero, List.set_cons_succ]
    refine k_callC1 (v := .int .i64 (intrG false L)) rfl rfl rfl Try.call8 (fun w' h => H2.out w' h) ?_; try simp only [Act.put, List.setIfInBounds_toArray, List.set_cons_zero, List.set_cons_succ]
    refine k_val (v := .int .i64 16) rfl _ (.inl rfl) rfl ?_; try simp only [Act.put, List.setIfInBounds_toArray, List.set_cons_zero, List.set_cons_succ]
    refine k_add (m := (intrG false L)) (n := 16) (s := intrG false L + 16) rfl _ _ _ _ rfl rfl rfl (by rw [IntKind.wrap_i64]; omega) ?_; try simp only [Act.put, List.setIfInBounds_toArray, List.set_cons_zero, List.set_cons_succ]
    refine k_eqlI (m := (intrG false (L ++ [x]))) (n := (intrG false L + 16)) (t := true) rfl _ _ _ rfl rfl rfl (decide_eq_true (by omega)) ?_; try simp only [Act.put, List.setIfInBounds_toArray, List.set_cons_zero, List.set_cons_succ]
    refine k_val (v := .bool true) rfl _ (.inl rfl) rfl ?_; try simp only [Act.put, List.setIfInBounds_toArray, List.set_cons_zero, List.set_cons_succ]
    refine k_val (v := .int .i64 (if false then -32000 else 32000)) rfl _ (.inl rfl) rfl ?_; try simp only [Act.put, List.setIfInBounds_toArray, List.set_cons_zero, List.set_cons_succ]
    refine k_val (v := .int .i64 32000) rfl _ (.inl rfl) rfl ?_; try simp only [Act.put, List.setIfInBounds_toArray, List.set_cons_zero, List.set_cons_succ]
    refine k_eqlI (m := if false then -32000 else 32000) (n := 32000) (t := true) rfl _ _ _ rfl rfl rfl (by rfl) ?_; try simp only [Act.put, List.setIfInBounds_toArray, List.set_cons_zero, List.set_cons_succ]
    refine k_pickT (t := true) rfl _ _ _ rfl rfl rfl ?_; try simp only [Act.put, List.setIfInBounds_toArray, List.set_cons_zero, List.set_cons_succ]
    refine k_val (v := .bool true) rfl _ (.inl rfl) rfl ?_; try simp only [Act.put, List.setIfInBounds_toArray, List.set_cons_zero, List.set_cons_succ]
    refine k_val (v := .int .i64 (k : Int)) rfl _ (.inl rfl) rfl ?_; try simp only [Act.put, List.setIfInBounds_toArray, List.set_cons_zero, List.set_cons_succ]
    refine k_add (m := (k : Int)) (n := 32) (s := (k : Int) + 32) rfl _ _ _ _ rfl rfl rfl (by rw [IntKind.wrap_i64]; omega) ?_; try simp only [Act.put, List.setIfInBounds_toArray, List.set_cons_zero, List.set_cons_succ]
    refine k_callC1 (v := .int .i64 (wordsG ((k : Int) + 32))) rfl rfl rfl Try.call6 (fun w' h => H4.out w' h) ?_; try simp only [Act.put, List.setIfInBounds_toArray, List.set_cons_zero, List.set_cons_succ]
    refine k_val (v := .int .i64 (k : Int)) rfl _ (.inl rfl) rfl ?_; try simp only [Act.put, List.setIfInBounds_toArray, List.set_cons_zero, List.set_cons_succ]
    refine k_callC1 (v := .int .i64 (wordsG (k : Int))) rfl rfl rfl Try.call6 (fun w' h => H5.out w' h) ?_; try simp only [Act.put, List.setIfInBounds_toArray, List.set_cons_zero, List.set_cons_succ]
    refine k_add (m := (wordsG (k : Int))) (n := 1) (s := wordsG (k : Int) + 1) rfl _ _ _ _ rfl rfl rfl (by rw [IntKind.wrap_i64]; omega) ?_; try simp only [Act.put, List.setIfInBounds_toArray, List.set_cons_zero, List.set_cons_succ]
    refine k_eqlI (m := (wordsG ((k : Int) + 32))) (n := (wordsG (k : Int) + 1)) (t := true) rfl _ _ _ rfl rfl rfl (decide_eq_true (by omega)) ?_; try simp only [Act.put, List.setIfInBounds_toArray, List.set_cons_zero, List.set_cons_succ]
    refine k_pickT (t := true) rfl _ _ _ rfl rfl rfl ?_; try simp only [Act.put, List.setIfInBounds_toArray, List.set_cons_zero, List.set_cons_succ]
    refine k_val (v := .bool true) rfl _ (.inl rfl) rfl ?_; try simp only [Act.put, List.setIfInBounds_toArray, List.set_cons_zero, List.set_cons_succ]
    refine k_val (v := .int .i64 (k : Int)) rfl _ (.inl rfl) rfl ?_; try simp only [Act.put, List.setIfInBounds_toArray, List.set_cons_zero, List.set_cons_succ]
    refine k_add (m := (k : Int)) (n := 1) (s := (k : Int) + 1) rfl _ _ _ _ rfl rfl rfl (by rw [IntKind.wrap_i64]; omega) ?_; try simp only [Act.put, List.setIfInBounds_toArray, List.set_cons_zero, List.set_cons_succ]
    refine k_callC1 (v := .int .i64 (shareG ((k : Int) + 1))) rfl rfl rfl Try.call14 (fun w' h => H6.out w' h) ?_; try simp only [Act.put, List.setIfInBounds_toArray, List.set_cons_zero, List.set_cons_succ]
    refine k_val (v := .int .i64 (k : Int)) rfl _ (.inl rfl) rfl ?_; try simp only [Act.put, List.setIfInBounds_toArray, List.set_cons_zero, List.set_cons_succ]
    refine k_callC1 (v := .int .i64 (shareG (k : Int))) rfl rfl rfl Try.call14 (fun w' h => H7.out w' h) ?_; try simp only [Act.put, List.setIfInBounds_toArray, List.set_cons_zero, List.set_cons_succ]
    refine k_geqI (m := (shareG ((k : Int) + 1))) (n := (shareG (k : Int))) (t := true) rfl _ _ _ rfl rfl rfl (decide_eq_true (by omega)) ?_; try simp only [Act.put, List.setIfInBounds_toArray, List.set_cons_zero, List.set_cons_succ]
    refine k_pickT (t := true) rfl _ _ _ rfl rfl rfl ?_; try simp only [Act.put, List.setIfInBounds_toArray, List.set_cons_zero, List.set_cons_succ]
    refine k_val (v := .bool true) rfl _ (.inl rfl) rfl ?_; try simp only [Act.put, List.setIfInBounds_toArray, List.set_cons_zero, List.set_cons_succ]
    refine k_val (v := .int .i64 (k : Int)) rfl _ (.inl rfl) rfl ?_; try simp only [Act.put, List.setIfInBounds_toArray, List.set_cons_zero, List.set_cons_succ]
    refine k_callC1 (v := .int .i64 (shareG (k : Int))) rfl rfl rfl Try.call14 (fun w' h => H7.out w' h) ?_; try simp only [Act.put, List.setIfInBounds_toArray, List.set_cons_zero, List.set_cons_succ]
    refine k_val (v := .int .i64 (k : Int)) rfl _ (.inl rfl) rfl ?_; try simp only [Act.put, List.setIfInBounds_toArray, List.set_cons_zero, List.set_cons_succ]
    refine k_leqI (m := (shareG (k : Int))) (n := (k : Int)) (t := true) rfl _ _ _ rfl rfl rfl (decide_eq_true (by omega)) ?_; try simp only [Act.put, List.setIfInBounds_toArray, List.set_cons_zero, List.set_cons_succ]
    refine k_pickT (t := true) rfl _ _ _ rfl rfl rfl ?_; try simp only [Act.put, List.setIfInBounds_toArray, List.set_cons_zero, List.set_cons_succ]
    refine k_val (v := .bool true) rfl _ (.inl rfl) rfl ?_; try simp only [Act.put, List.setIfInBounds_toArray, List.set_cons_zero, List.set_cons_succ]
    refine k_val (v := .int .i64 (k : Int)) rfl _ (.inl rfl) rfl ?_; try simp only [Act.put, List.setIfInBounds_toArray, List.set_cons_zero, List.set_cons_succ]
    refine k_val (v := .int .i64 (k : Int)) rfl _ (.inl rfl) rfl ?_; try simp only [Act.put, List.setIfInBounds_toArray, List.set_cons_zero, List.set_cons_succ]
    refine k_callC1 (v := .int .i64 (shareG (k : Int))) rfl rfl rfl Try.call14 (fun w' h => H7.out w' h) ?_; try simp only [Act.put, List.setIfInBounds_toArray, List.set_cons_zero, List.set_cons_succ]
    refine k_sub (m := (k : Int)) (n := (shareG (k : Int))) (s := (k : Int) - shareG (k : Int)) rfl _ _ _ _ rfl rfl rfl (by rw [IntKind.wrap_i64]; omega) ?_; try simp only [Act.put, List.setIfInBounds_toArray, List.set_cons_zero, List.set_cons_succ]
    refine k_val (v := .int .i64 (k : Int)) rfl _ (.inl rfl) rfl ?_; try simp only [Act.put, List.setIfInBounds_toArray, List.set_cons_zero, List.set_cons_succ]
    refine k_quo64 (m := k) (n := k / 64) rfl _ _ _ _ rfl rfl rfl (by omega) rfl ?_; try simp only [Act.put, List.setIfInBounds_toArray, List.set_cons_zero, List.set_cons_succ]
    refine k_eqlI (m := ((k : Int) - shareG (k : Int))) (n := ((k / 64 : Nat) : Int)) (t := true) rfl _ _ _ rfl rfl rfl (decide_eq_true (by omega)) ?_; try simp only [Act.put, List.setIfInBounds_toArray, List.set_cons_zero, List.set_cons_succ]
    refine k_pickT (t := true) rfl _ _ _ rfl rfl rfl ?_; try simp only [Act.put, List.setIfInBounds_toArray, List.set_cons_zero, List.set_cons_succ]
    refine k_val (v := .bool true) rfl _ (.inr rfl) rfl ?_; try simp only [Act.put, List.setIfInBounds_toArray, List.set_cons_zero, List.set_cons_succ]
    refine k_end ?_
    clear hSn
    intro w14 hSn
    go_wp2
    go_ret
    exact ⟨rfl, hBk.out _ hSn.frame⟩
  · go_upto_region 15 with (refine st_cell1 (v := .bool true) hSn rfl 4 _ rfl rfl (.tail (.tail .head)) HB.out bool_agg14 ?_)
    try simp only [Act.put, List.setIfInBounds_toArray, List.set_cons_zero, List.set_cons_succ]
    refine k_region (C := fun w' => St [b2, b1] w9 w' [(b3, 28, cw), (b2, 28, cu), (b1, 28, c)]) (by kernel_rfl) (by kernel_rfl) hSn.drew ?_
    obtain ⟨q1, q2, q3, q4, q5, q6, q7⟩ := HM.out
    have q8 := HA.out
    refine k_loadT (b := b2) (c := cu) rfl _ rfl rfl (.tail .head) hcu ?_; try simp only [Act.put, List.setIfInBounds_toArray, List.set_cons_zero, List.set_cons_succ]
    refine k_callC1 (v := .int .i64 (intrG true (L ++ [x]))) rfl rfl rfl Try.call8 (fun w' h => H3.out w' h) ?_; try simp only [Act.put, List.setIfInBounds_toArray, List.set_cons_zero, List.set_cons_succ]
    refine k_loadT (b := b1) (c := c) rfl _ rfl rfl (.tail (.tail .head)) hsz ?_; try simp only [Act.put, List.setIfInBounds_toArray, List.set_cons_zero, List.set_cons_succ]
    refine k_callC1 (v := .int .i64 (intrG true L)) rfl rfl rfl Try.call8 (fun w' h => H2.out w' h) ?_; try simp only [Act.put, List.setIfInBounds_toArray, List.set_cons_zero, List.set_cons_succ]
    refine k_val (v := .int .i64 16) rfl _ (.inl rfl) rfl ?_; try simp only [Act.put, List.setIfInBounds_toArray, List.set_cons_zero, List.set_cons_succ]
    refine k_add (m := (intrG true L)) (n := 16) (s := intrG true L + 16) rfl _ _ _ _ rfl rfl rfl (by rw [IntKind.wrap_i64]; omega) ?_; try simp only [Act.put, List.setIfInBounds_toArray, List.set_cons_zero, List.set_cons_succ]
    refine k_eqlI (m := (intrG true (L ++ [x]))) (n := (intrG true L + 16)) (t := true) rfl _ _ _ rfl rfl rfl (decide_eq_true (by omega)) ?_; try simp only [Act.put, List.setIfInBounds_toArray, List.set_cons_zero, List.set_cons_succ]
    refine k_val (v := .bool true) rfl _ (.inl rfl) rfl ?_; try simp only [Act.put, List.setIfInBounds_toArray, List.set_cons_zero, List.set_cons_succ]
    refine k_val (v := .int .i64 (if true then -32000 else 32000)) rfl _ (.inl rfl) rfl ?_; try simp only [Act.put, List.setIfInBounds_toArray, List.set_cons_zero, List.set_cons_succ]
    refine k_val (v := .int .i64 (-32000)) rfl _ (.inl rfl) rfl ?_; try simp only [Act.put, List.setIfInBounds_toArray, List.set_cons_zero, List.set_cons_succ]
    refine k_eqlI (m := if true then -32000 else 32000) (n := (-32000)) (t := true) rfl _ _ _ rfl rfl rfl (by rfl) ?_; try simp only [Act.put, List.setIfInBounds_toArray, List.set_cons_zero, List.set_cons_succ]
    refine k_pickT (t := true) rfl _ _ _ rfl rfl rfl ?_; try simp only [Act.put, List.setIfInBounds_toArray, List.set_cons_zero, List.set_cons_succ]
    refine k_val (v := .bool true) rfl _ (.inl rfl) rfl ?_; try simp only [Act.put, List.setIfInBounds_toArray, List.set_cons_zero, List.set_cons_succ]
    refine k_val (v := .int .i64 (k : Int)) rfl _ (.inl rfl) rfl ?_; try simp only [Act.put, List.setIfInBounds_toArray, List.set_cons_zero, List.set_cons_succ]
    refine k_add (m := (k : Int)) (n := 32) (s := (k : Int) + 32) rfl _ _ _ _ rfl rfl rfl (by rw [IntKind.wrap_i64]; omega) ?_; try simp only [Act.put, List.setIfInBounds_toArray, List.set_cons_zero, List.set_cons_succ]
    refine k_callC1 (v := .int .i64 (wordsG ((k : Int) + 32))) rfl rfl rfl Try.call6 (fun w' h => H4.out w' h) ?_; try simp only [Act.put, List.setIfInBounds_toArray, List.set_cons_zero, List.set_cons_succ]
    refine k_val (v := .int .i64 (k : Int)) rfl _ (.inl rfl) rfl ?_; try simp only [Act.put, List.setIfInBounds_toArray, List.set_cons_zero, List.set_cons_succ]
    refine k_callC1 (v := .int .i64 (wordsG (k : Int))) rfl rfl rfl Try.call6 (fun w' h => H5.out w' h) ?_; try simp only [Act.put, List.setIfInBounds_toArray, List.set_cons_zero, List.set_cons_succ]
    refine k_add (m := (wordsG (k : Int))) (n := 1) (s := wordsG (k : Int) + 1) rfl _ _ _ _ rfl rfl rfl (by rw [IntKind.wrap_i64]; omega) ?_; try simp only [Act.put, List.setIfInBounds_toArray, List.set_cons_zero, List.set_cons_succ]
    refine k_eqlI (m := (wordsG ((k : Int) + 32))) (n := (wordsG (k : Int) + 1)) (t := true) rfl _ _ _ rfl rfl rfl (decide_eq_true (by omega)) ?_; try simp only [Act.put, List.setIfInBounds_toArray, List.set_cons_zero, List.set_cons_succ]
    refine k_pickT (t := true) rfl _ _ _ rfl rfl rfl ?_; try simp only [Act.put, List.setIfInBounds_toArray, List.set_cons_zero, List.set_cons_succ]
    refine k_val (v := .bool true) rfl _ (.inl rfl) rfl ?_; try simp only [Act.put, List.setIfInBounds_toArray, List.set_cons_zero, List.set_cons_succ]
    refine k_val (v := .int .i64 (k : Int)) rfl _ (.inl rfl) rfl ?_; try simp only [Act.put, List.setIfInBounds_toArray, List.set_cons_zero, List.set_cons_succ]
    refine k_add (m := (k : Int)) (n := 1) (s := (k : Int) + 1) rfl _ _ _ _ rfl rfl rfl (by rw [IntKind.wrap_i64]; omega) ?_; try simp only [Act.put, List.setIfInBounds_toArray, List.set_cons_zero, List.set_cons_succ]
    refine k_callC1 (v := .int .i64 (shareG ((k : Int) + 1))) rfl rfl rfl Try.call14 (fun w' h => H6.out w' h) ?_; try simp only [Act.put, List.setIfInBounds_toArray, List.set_cons_zero, List.set_cons_succ]
    refine k_val (v := .int .i64 (k : Int)) rfl _ (.inl rfl) rfl ?_; try simp only [Act.put, List.setIfInBounds_toArray, List.set_cons_zero, List.set_cons_succ]
    refine k_callC1 (v := .int .i64 (shareG (k : Int))) rfl rfl rfl Try.call14 (fun w' h => H7.out w' h) ?_; try simp only [Act.put, List.setIfInBounds_toArray, List.set_cons_zero, List.set_cons_succ]
    refine k_geqI (m := (shareG ((k : Int) + 1))) (n := (shareG (k : Int))) (t := true) rfl _ _ _ rfl rfl rfl (decide_eq_true (by omega)) ?_; try simp only [Act.put, List.setIfInBounds_toArray, List.set_cons_zero, List.set_cons_succ]
    refine k_pickT (t := true) rfl _ _ _ rfl rfl rfl ?_; try simp only [Act.put, List.setIfInBounds_toArray, List.set_cons_zero, List.set_cons_succ]
    refine k_val (v := .bool true) rfl _ (.inl rfl) rfl ?_; try simp only [Act.put, List.setIfInBounds_toArray, List.set_cons_zero, List.set_cons_succ]
    refine k_val (v := .int .i64 (k : Int)) rfl _ (.inl rfl) rfl ?_; try simp only [Act.put, List.setIfInBounds_toArray, List.set_cons_zero, List.set_cons_succ]
    refine k_callC1 (v := .int .i64 (shareG (k : Int))) rfl rfl rfl Try.call14 (fun w' h => H7.out w' h) ?_; try simp only [Act.put, List.setIfInBounds_toArray, List.set_cons_zero, List.set_cons_succ]
    refine k_val (v := .int .i64 (k : Int)) rfl _ (.inl rfl) rfl ?_; try simp only [Act.put, List.setIfInBounds_toArray, List.set_cons_zero, List.set_cons_succ]
    refine k_leqI (m := (shareG (k : Int))) (n := (k : Int)) (t := true) rfl _ _ _ rfl rfl rfl (decide_eq_true (by omega)) ?_; try simp only [Act.put, List.setIfInBounds_toArray, List.set_cons_zero, List.set_cons_succ]
    refine k_pickT (t := true) rfl _ _ _ rfl rfl rfl ?_; try simp only [Act.put, List.setIfInBounds_toArray, List.set_cons_zero, List.set_cons_succ]
    refine k_val (v := .bool true) rfl _ (.inl rfl) rfl ?_; try simp only [Act.put, List.setIfInBounds_toArray, List.set_cons_zero, List.set_cons_succ]
    refine k_val (v := .int .i64 (k : Int)) rfl _ (.inl rfl) rfl ?_; try simp only [Act.put, List.setIfInBounds_toArray, List.set_cons_zero, List.set_cons_succ]
    refine k_val (v := .int .i64 (k : Int)) rfl _ (.inl rfl) rfl ?_; try simp only [Act.put, List.setIfInBounds_toArray, List.set_cons_zero, List.set_cons_succ]
    refine k_callC1 (v := .int .i64 (shareG (k : Int))) rfl rfl rfl Try.call14 (fun w' h => H7.out w' h) ?_; try simp only [Act.put, List.setIfInBounds_toArray, List.set_cons_zero, List.set_cons_succ]
    refine k_sub (m := (k : Int)) (n := (shareG (k : Int))) (s := (k : Int) - shareG (k : Int)) rfl _ _ _ _ rfl rfl rfl (by rw [IntKind.wrap_i64]; omega) ?_; try simp only [Act.put, List.setIfInBounds_toArray, List.set_cons_zero, List.set_cons_succ]
    refine k_val (v := .int .i64 (k : Int)) rfl _ (.inl rfl) rfl ?_; try simp only [Act.put, List.setIfInBounds_toArray, List.set_cons_zero, List.set_cons_succ]
    refine k_quo64 (m := k) (n := k / 64) rfl _ _ _ _ rfl rfl rfl (by omega) rfl ?_; try simp only [Act.put, List.setIfInBounds_toArray, List.set_cons_zero, List.set_cons_succ]
    refine k_eqlI (m := ((k : Int) - shareG (k : Int))) (n := ((k / 64 : Nat) : Int)) (t := true) rfl _ _ _ rfl rfl rfl (decide_eq_true (by omega)) ?_; try simp only [Act.put, List.setIfInBounds_toArray, List.set_cons_zero, List.set_cons_succ]
    refine k_pickT (t := true) rfl _ _ _ rfl rfl rfl ?_; try simp only [Act.put, List.setIfInBounds_toArray, List.set_cons_zero, List.set_cons_succ]
    refine k_val (v := .bool true) rfl _ (.inr rfl) rfl ?_; try simp only [Act.put, List.setIfInBounds_toArray, List.set_cons_zero, List.set_cons_succ]
    refine k_end ?_
    clear hSn
    intro w14 hSn
    go_wp2
    go_ret
    exact ⟨rfl, hBk.out _ hSn.frame⟩
end Go.Proofs.Ytbbebejdfgakfaa
