/- PathAlike: the walk, the second one ends. -/
import Derived.Test.YtgdojomaknbheaaP18
namespace Go.Proofs.Ytgdojomaknbheaa
open Go.RowKit

set_option maxHeartbeats 4000000 in
set_option maxRecDepth 100000 in
theorem alike_B0_yes (vp va vb : Value) (P A : List Nat) (x : Nat) (w : World) (hp : RdA [] w vp P) (ha : RdA [] w va (x :: A)) (hb : RdA [] w vb []) (h1 : P.length ≤ 100) (h2 : (x :: A).length ≤ 100) (h3 : ([] : List Nat).length ≤ 100) (hX : allN (P ++ (x :: A)) = true) (hY : allN (P ++ []) = true) :
    Calls Try.prog 5 #[vp, va, vb] w fun e w' => e = .returned (.bool true) ∧ Tch [] w w' := by
  obtain ⟨p1, n1, c1, rfl⟩ := slice_keep hp
  obtain ⟨p2, n2, c2, rfl⟩ := slice_keep ha
  obtain ⟨p3, n3, c3, rfl⟩ := slice_keep hb
  have hl1 := hp.len
  have hl2 := ha.len
  have hl3 := hb.len
  simp only [List.length_nil] at hl3
  simp only [List.length_cons] at hl2 h2
  have g1 : P.length ≤ 100 := by omega
  have g2 : ((x :: A) : List Nat).length ≤ 100 := by first | omega | simp
  have g3 : ([] : List Nat).length ≤ 100 := by first | omega | simp
  have gX : (P ++ (x :: A)).length ≤ 200 := by rw [List.length_append]; omega
  have gY : (P ++ []).length ≤ 200 := by rw [List.length_append]; omega
  have HQ1 := Lib.hid (show ([] : List Nat).length + P.length ≤ 100000000 by rw [List.length_nil]; omega)
  have HQ2 := Lib.hid (show P.length + ((x :: A) : List Nat).length ≤ 100000000 by omega)
  have HQ3 := Lib.hid (show P.length + ([] : List Nat).length ≤ 100000000 by omega)
  have HX3 := Lib.hid (show (P ++ (x :: A)).length ≤ 1000000 by omega)
  have HY3 := Lib.hid (show (P ++ []).length ≤ 1000000 by omega)
  have HX1 := Lib.hid (show (P ++ (x :: A)).length ≤ 100000 by omega)
  have HY1 := Lib.hid (show (P ++ []).length ≤ 100000 by omega)
  clear gX gY g1 g2 g3
  have HLX := Lib.hid (show ∀ z ∈ (P ++ (x :: A)), z < 256 from fun z hz => (List.mem_append.1 hz).elim (hp.lt z) (ha.lt z))
  have HLY := Lib.hid (show ∀ z ∈ (P ++ []), z < 256 from fun z hz => (List.mem_append.1 hz).elim (hp.lt z) (hb.lt z))
  have HXT := fun (u : Value) (w1 : World) (hu : RdA [] w1 u (P ++ (x :: A))) => Pack_any u (P ++ (x :: A)) true w1 HX1.out hu
  rw [packL_some true hX] at HXT
  have HXT := Lib.hid HXT
  have HXF := fun (u : Value) (w1 : World) (hu : RdA [] w1 u (P ++ (x :: A))) => Pack_any u (P ++ (x :: A)) false w1 HX1.out hu
  rw [packL_some false hX] at HXF
  have HXF := Lib.hid HXF
  have HYT := fun (u : Value) (w1 : World) (hu : RdA [] w1 u (P ++ [])) => Pack_any u (P ++ []) true w1 HY1.out hu
  rw [packL_some true hY] at HYT
  have HYT := Lib.hid HYT
  have HC := fun (u v : Value) (w1 : World) (hu : RdA [] w1 u (P ++ (x :: A))) (hv : RdA [] w1 v (P ++ [])) => common_any u v (P ++ (x :: A)) (P ++ []) w1 HX3.out HY3.out hu hv
  rw [lcp_append, lcp_unlike _ _ (show unlike (x :: A) [] from trivial), Nat.add_zero, ← hl1] at HC
  have HC := Lib.hid HC
  have HAP := Lib.hid (pack_apart hX)
  have HSM := Lib.hid (pack_same hX hY)
  have HUT := Lib.hid (pack_lt true hX)
  have HUF := Lib.hid (pack_lt false hX)
  have HYL := Lib.hid (pack_lt true hY)
  have HN := Lib.hid (And.intro (show n1 ≤ 100 by omega) (And.intro (show 0 < n2 ∧ n2 ≤ 100 by omega) (show n3 ≤ 0 by omega)))
  have KP := Lib.hid (fun (w' : World) (h : Tch [] w w') => hp.nofix h)
  have KA := Lib.hid (fun (w' : World) (h : Tch [] w w') => ha.nofix h)
  have KB := Lib.hid (fun (w' : World) (h : Tch [] w w') => hb.nofix h)
  clear hp ha hb hl1 hl2 hl3 h1 h2 h3 hX hY
  go_enter Try.func5, Try.ntmps5
  go_upto_region 2 with (go_at_call 6; refine (alive_any _).mono ?_; rintro e w1 ⟨rfl, hT1⟩)
  refine k_region (C := fun w' => Tch [] w1 w') (by kernel_rfl) (by kernel_rfl) ((Tch.refl _ _).drew) ?_
  refine k_boolm rfl _ rfl rfl ?_; try simp only [Act.put, List.setIfInBounds_toArray, List.set_cons_zero, List.set_cons_succ]
  refine k_not rfl _ _ rfl rfl ?_; try simp only [Act.put, List.setIfInBounds_toArray, List.set_cons_zero, List.set_cons_succ]
  refine k_boolm rfl _ rfl rfl ?_; try simp only [Act.put, List.setIfInBounds_toArray, List.set_cons_zero, List.set_cons_succ]
  refine k_slice rfl _ rfl rfl ?_; try simp only [Act.put, List.setIfInBounds_toArray, List.set_cons_zero, List.set_cons_succ]
  refine k_lenSl rfl _ rfl rfl ?_; try simp only [Act.put, List.setIfInBounds_toArray, List.set_cons_zero, List.set_cons_succ]
  refine k_gtr rfl _ _ _ rfl rfl rfl (decide_eq_false (by have h := HN.out; omega)) ?_; try simp only [Act.put, List.setIfInBounds_toArray, List.set_cons_zero, List.set_cons_succ]
  refine k_pickF rfl _ _ _ rfl rfl rfl ?_; try simp only [Act.put, List.setIfInBounds_toArray, List.set_cons_zero, List.set_cons_succ]
  refine k_boolm rfl _ rfl rfl ?_; try simp only [Act.put, List.setIfInBounds_toArray, List.set_cons_zero, List.set_cons_succ]
  refine k_slice rfl _ rfl rfl ?_; try simp only [Act.put, List.setIfInBounds_toArray, List.set_cons_zero, List.set_cons_succ]
  refine k_lenSl rfl _ rfl rfl ?_; try simp only [Act.put, List.setIfInBounds_toArray, List.set_cons_zero, List.set_cons_succ]
  refine k_gtr rfl _ _ _ rfl rfl rfl (decide_eq_false (by have h := HN.out; omega)) ?_; try simp only [Act.put, List.setIfInBounds_toArray, List.set_cons_zero, List.set_cons_succ]
  refine k_pickF rfl _ _ _ rfl rfl rfl ?_; try simp only [Act.put, List.setIfInBounds_toArray, List.set_cons_zero, List.set_cons_succ]
  refine k_boolm rfl _ rfl rfl ?_; try simp only [Act.put, List.setIfInBounds_toArray, List.set_cons_zero, List.set_cons_succ]
  refine k_slice rfl _ rfl rfl ?_; try simp only [Act.put, List.setIfInBounds_toArray, List.set_cons_zero, List.set_cons_succ]
  refine k_lenSl rfl _ rfl rfl ?_; try simp only [Act.put, List.setIfInBounds_toArray, List.set_cons_zero, List.set_cons_succ]
  refine k_gtr rfl _ _ _ rfl rfl rfl (decide_eq_false (by have h := HN.out; omega)) ?_; try simp only [Act.put, List.setIfInBounds_toArray, List.set_cons_zero, List.set_cons_succ]
  refine k_pickF rfl _ _ _ rfl rfl rfl ?_; try simp only [Act.put, List.setIfInBounds_toArray, List.set_cons_zero, List.set_cons_succ]
  refine k_boolm rfl _ rfl rfl ?_; try simp only [Act.put, List.setIfInBounds_toArray, List.set_cons_zero, List.set_cons_succ]
  refine k_slice rfl _ rfl rfl ?_; try simp only [Act.put, List.setIfInBounds_toArray, List.set_cons_zero, List.set_cons_succ]
  refine k_lenSl rfl _ rfl rfl ?_; try simp only [Act.put, List.setIfInBounds_toArray, List.set_cons_zero, List.set_cons_succ]
  refine k_gtr rfl _ _ _ rfl rfl rfl (decide_eq_true (by have h := HN.out; omega)) ?_; try simp only [Act.put, List.setIfInBounds_toArray, List.set_cons_zero, List.set_cons_succ]
  refine k_boolm rfl _ rfl rfl ?_; try simp only [Act.put, List.setIfInBounds_toArray, List.set_cons_zero, List.set_cons_succ]
  refine k_slice rfl _ rfl rfl ?_; try simp only [Act.put, List.setIfInBounds_toArray, List.set_cons_zero, List.set_cons_succ]
  refine k_lenSl rfl _ rfl rfl ?_; try simp only [Act.put, List.setIfInBounds_toArray, List.set_cons_zero, List.set_cons_succ]
  refine k_gtr rfl _ _ _ rfl rfl rfl (decide_eq_false (by have h := HN.out; omega)) ?_; try simp only [Act.put, List.setIfInBounds_toArray, List.set_cons_zero, List.set_cons_succ]
  refine k_pickT rfl _ _ _ rfl rfl rfl ?_; try simp only [Act.put, List.setIfInBounds_toArray, List.set_cons_zero, List.set_cons_succ]
  refine k_boolm rfl _ rfl rfl ?_; try simp only [Act.put, List.setIfInBounds_toArray, List.set_cons_zero, List.set_cons_succ]
  refine k_skip rfl rfl rfl rfl rfl ?_; try simp only [Act.put, List.setIfInBounds_toArray, List.set_cons_zero, List.set_cons_succ]
  refine k_skip rfl rfl rfl rfl rfl ?_; try simp only [Act.put, List.setIfInBounds_toArray, List.set_cons_zero, List.set_cons_succ]
  refine k_skip rfl rfl rfl rfl rfl ?_; try simp only [Act.put, List.setIfInBounds_toArray, List.set_cons_zero, List.set_cons_succ]
  refine k_skip rfl rfl rfl rfl rfl ?_; try simp only [Act.put, List.setIfInBounds_toArray, List.set_cons_zero, List.set_cons_succ]
  refine k_skip rfl rfl rfl rfl rfl ?_; try simp only [Act.put, List.setIfInBounds_toArray, List.set_cons_zero, List.set_cons_succ]
  refine k_skip rfl rfl rfl rfl rfl ?_; try simp only [Act.put, List.setIfInBounds_toArray, List.set_cons_zero, List.set_cons_succ]
  refine k_skip rfl rfl rfl rfl rfl ?_; try simp only [Act.put, List.setIfInBounds_toArray, List.set_cons_zero, List.set_cons_succ]
  refine k_pickF rfl _ _ _ rfl rfl rfl ?_; try simp only [Act.put, List.setIfInBounds_toArray, List.set_cons_zero, List.set_cons_succ]
  refine k_pickF rfl _ _ _ rfl rfl rfl ?_; try simp only [Act.put, List.setIfInBounds_toArray, List.set_cons_zero, List.set_cons_succ]
  refine k_end ?_
  intro w2 hT2
  have A2 := hT1.trans hT2
  clear hT1 hT2
  go_upto_region 13 with (first
    | (at_builtin; refine st_appB (w0 := w2) (w := w2) (v := .slice none 0 0) (u := .slice p1 n1 c1) (l := []) (m := P) (ty := 5) rfl _ _ rfl rfl rfl (own_nil _ _) (Tch.refl _ _) (KP.out w2 A2) HQ1.out ?_; intro v3 w3 hx1 hT3)
    | (at_builtin; refine st_appB (w0 := w2) (w := w3) (v := v3) (u := .slice p2 n2 c2) (l := P) (m := (x :: A)) (ty := 5) rfl _ _ rfl rfl rfl hx1 hT3 (KA.out w3 (A2.trans hT3)) HQ2.out ?_; intro v4 w4 hx2 hT4; have A4 := A2.trans hT4; have hxr := (RdB.own hx2 HLX.out).rdA (X := []) (by simp); clear hx1 hx2)
    | (at_builtin; refine st_appB (w0 := w4) (w := w4) (v := .slice none 0 0) (u := .slice p1 n1 c1) (l := []) (m := P) (ty := 5) rfl _ _ rfl rfl rfl (own_nil _ _) (Tch.refl _ _) (KP.out w4 A4) HQ1.out ?_; intro v5 w5 hy1 hT5)
    | (at_builtin; refine st_appB (w0 := w4) (w := w5) (v := v5) (u := .slice p3 n3 c3) (l := P) (m := []) (ty := 5) rfl _ _ rfl rfl rfl hy1 hT5 (KB.out w5 (A4.trans hT5)) HQ3.out ?_; intro v6 w6 hy2 hT6; have A6 := A4.trans hT6; have hyr := (RdB.own hy2 HLY.out).rdA (X := []) (by simp); clear hy1 hy2)
    | (go_at_call 10; (with_reducible refine (HXT.out _ _ (hxr.tch hT6)).mono ?_); rintro e w7 ⟨hT7, u, rfl, hu⟩; have A7 := A6.trans hT7)
    | (go_at_call 10; (with_reducible refine (HXF.out _ _ (hxr.tch (hT6.trans hT7))).mono ?_); rintro e w8 ⟨hT8, v, rfl, hv⟩; have A8 := A7.trans hT8)
    | (go_at_call 10; (with_reducible refine (HYT.out _ _ (hyr.tch (hT7.trans hT8))).mono ?_); rintro e w9 ⟨hT9, t, rfl, ht⟩; have A9 := A8.trans hT9; have X9 := hxr.tch (((hT6.trans hT7).trans hT8).trans hT9); have Y9 := hyr.tch ((hT7.trans hT8).trans hT9)))
  have KX := Lib.hid (fun (w' : World) (h : Tch [] w9 w') => X9.nofix h)
  have KY := Lib.hid (fun (w' : World) (h : Tch [] w9 w') => Y9.nofix h)
  have KU := Lib.hid (fun (w' : World) (h : Tch [] w9 w') => RdA.nofix (l := jn (fr (P ++ (x :: A)) true ++ (P ++ (x :: A)))) hu ((hT8.trans hT9).trans h))
  have KV := Lib.hid (fun (w' : World) (h : Tch [] w9 w') => RdA.nofix (l := jn (fr (P ++ (x :: A)) false ++ (P ++ (x :: A)))) hv (hT9.trans h))
  have KT := Lib.hid (fun (w' : World) (h : Tch [] w9 w') => RdA.nofix (l := jn (fr (P ++ []) true ++ (P ++ []))) ht h)
  have HCC := Lib.hid (fun (w' : World) (h : Tch [] w9 w') => (HC.out v4 v6 w' (X9.tch h) (Y9.tch h)).mono (R' := fun e w'' => e = .returned (.int .i64 (n1 : Int)) ∧ Tch [] w9 w'') (fun e w'' h2 => ⟨h2.1, h.trans h2.2⟩))
  clear hu hv ht X9 Y9 hxr hyr hT3 hT4 hT5 hT6 hT7 hT8 hT9
  refine k_seq (C := fun w' => Tch [] w9 w') (Tch.refl _ _) ?_
  refine k_val (v := v4) rfl _ (.inl rfl) rfl ?_; try simp only [Act.put, List.setIfInBounds_toArray, List.set_cons_zero, List.set_cons_succ]
  refine k_val (v := v6) rfl _ (.inl rfl) rfl ?_; try simp only [Act.put, List.setIfInBounds_toArray, List.set_cons_zero, List.set_cons_succ]
  refine k_callC2 rfl rfl rfl rfl Try.call15 (fun w' h => HCC.out w' h) ?_; try simp only [Act.put, List.setIfInBounds_toArray, List.set_cons_zero, List.set_cons_succ]
  refine k_slice rfl _ rfl rfl ?_; try simp only [Act.put, List.setIfInBounds_toArray, List.set_cons_zero, List.set_cons_succ]
  refine k_lenSl rfl _ rfl rfl ?_; try simp only [Act.put, List.setIfInBounds_toArray, List.set_cons_zero, List.set_cons_succ]
  refine k_ints rfl _ _ _ rfl rfl rfl (beq_self_eq_true _) ?_; try simp only [Act.put, List.setIfInBounds_toArray, List.set_cons_zero, List.set_cons_succ]
  refine k_boolm rfl _ rfl rfl ?_; try simp only [Act.put, List.setIfInBounds_toArray, List.set_cons_zero, List.set_cons_succ]
  refine k_val (v := u) rfl _ (.inl rfl) rfl ?_; try simp only [Act.put, List.setIfInBounds_toArray, List.set_cons_zero, List.set_cons_succ]
  refine k_conv rfl _ rfl rfl (fun w' h => KU.out w' h) ?_; try simp only [Act.put, List.setIfInBounds_toArray, List.set_cons_zero, List.set_cons_succ]
  refine k_val (v := v) rfl _ (.inl rfl) rfl ?_; try simp only [Act.put, List.setIfInBounds_toArray, List.set_cons_zero, List.set_cons_succ]
  refine k_conv rfl _ rfl rfl (fun w' h => KV.out w' h) ?_; try simp only [Act.put, List.setIfInBounds_toArray, List.set_cons_zero, List.set_cons_succ]
  refine k_strN rfl _ _ _ rfl rfl rfl HUT.out HUF.out HAP.out ?_; try simp only [Act.put, List.setIfInBounds_toArray, List.set_cons_zero, List.set_cons_succ]
  refine k_pickT rfl _ _ _ rfl rfl rfl ?_; try simp only [Act.put, List.setIfInBounds_toArray, List.set_cons_zero, List.set_cons_succ]
  refine k_boolm rfl _ rfl rfl ?_; try simp only [Act.put, List.setIfInBounds_toArray, List.set_cons_zero, List.set_cons_succ]
  refine k_val (v := u) rfl _ (.inl rfl) rfl ?_; try simp only [Act.put, List.setIfInBounds_toArray, List.set_cons_zero, List.set_cons_succ]
  refine k_conv rfl _ rfl rfl (fun w' h => KU.out w' h) ?_; try simp only [Act.put, List.setIfInBounds_toArray, List.set_cons_zero, List.set_cons_succ]
  refine k_val (v := t) rfl _ (.inl rfl) rfl ?_; try simp only [Act.put, List.setIfInBounds_toArray, List.set_cons_zero, List.set_cons_succ]
  refine k_conv rfl _ rfl rfl (fun w' h => KT.out w' h) ?_; try simp only [Act.put, List.setIfInBounds_toArray, List.set_cons_zero, List.set_cons_succ]
  refine k_strL rfl _ _ _ rfl rfl rfl HUT.out HYL.out HSM.out ?_; try simp only [Act.put, List.setIfInBounds_toArray, List.set_cons_zero, List.set_cons_succ]
  refine k_val (v := v4) rfl _ (.inl rfl) rfl ?_; try simp only [Act.put, List.setIfInBounds_toArray, List.set_cons_zero, List.set_cons_succ]
  refine k_conv rfl _ rfl rfl (fun w' h => KX.out w' h) ?_; try simp only [Act.put, List.setIfInBounds_toArray, List.set_cons_zero, List.set_cons_succ]
  refine k_val (v := v6) rfl _ (.inl rfl) rfl ?_; try simp only [Act.put, List.setIfInBounds_toArray, List.set_cons_zero, List.set_cons_succ]
  refine k_conv rfl _ rfl rfl (fun w' h => KY.out w' h) ?_; try simp only [Act.put, List.setIfInBounds_toArray, List.set_cons_zero, List.set_cons_succ]
  refine k_strL rfl _ _ _ rfl rfl rfl HLX.out HLY.out rfl ?_; try simp only [Act.put, List.setIfInBounds_toArray, List.set_cons_zero, List.set_cons_succ]
  refine k_boolsS rfl _ _ _ rfl rfl rfl ?_; try simp only [Act.put, List.setIfInBounds_toArray, List.set_cons_zero, List.set_cons_succ]
  refine k_pickT rfl _ _ _ rfl rfl rfl ?_; try simp only [Act.put, List.setIfInBounds_toArray, List.set_cons_zero, List.set_cons_succ]
  refine k_boola rfl _ rfl rfl ?_; try simp only [Act.put, List.setIfInBounds_toArray, List.set_cons_zero, List.set_cons_succ]
  refine k_end ?_
  intro w10 hT10
  go_wp2
  go_ret
  exact ⟨rfl, A9.trans hT10⟩
set_option maxHeartbeats 4000000 in
set_option maxRecDepth 100000 in
theorem alike_B0_no1 (vp va vb : Value) (P A : List Nat) (x : Nat) (w : World) (hp : RdA [] w vp P) (ha : RdA [] w va (x :: A)) (hb : RdA [] w vb []) (h1 : P.length ≤ 100) (h2 : (x :: A).length ≤ 100) (h3 : ([] : List Nat).length ≤ 100) (hX : allN (P ++ (x :: A)) = false) :
    Calls Try.prog 5 #[vp, va, vb] w fun e w' => e = .returned (.bool true) ∧ Tch [] w w' := by
  obtain ⟨p1, n1, c1, rfl⟩ := slice_keep hp
  obtain ⟨p2, n2, c2, rfl⟩ := slice_keep ha
  obtain ⟨p3, n3, c3, rfl⟩ := slice_keep hb
  have hl1 := hp.len
  have hl2 := ha.len
  have hl3 := hb.len
  simp only [List.length_nil] at hl3
  simp only [List.length_cons] at hl2 h2
  have g1 : P.length ≤ 100 := by omega
  have g2 : ((x :: A) : List Nat).length ≤ 100 := by first | omega | simp
  have g3 : ([] : List Nat).length ≤ 100 := by first | omega | simp
  have gX : (P ++ (x :: A)).length ≤ 200 := by rw [List.length_append]; omega
  have gY : (P ++ []).length ≤ 200 := by rw [List.length_append]; omega
  have HQ1 := Lib.hid (show ([] : List Nat).length + P.length ≤ 100000000 by rw [List.length_nil]; omega)
  have HQ2 := Lib.hid (show P.length + ((x :: A) : List Nat).length ≤ 100000000 by omega)
  have HQ3 := Lib.hid (show P.length + ([] : List Nat).length ≤ 100000000 by omega)
  have HQ4 := Lib.hid (show ([] : List Nat).length + (P ++ (x :: A)).length ≤ 100000000 by rw [List.length_nil]; omega)
  have HQ5 := Lib.hid (show (P ++ (x :: A)).length + (P ++ (x :: A)).length ≤ 100000000 by omega)
  have HQ6 := Lib.hid (show ([] : List Nat).length + (P ++ []).length ≤ 100000000 by rw [List.length_nil]; omega)
  have HQ7 := Lib.hid (show (P ++ []).length + (P ++ []).length ≤ 100000000 by omega)
  have HX2 := Lib.hid (show ((P ++ (x :: A)) ++ (P ++ (x :: A))).length ≤ 1000000 by rw [List.length_append]; omega)
  have HY2 := Lib.hid (show ((P ++ []) ++ (P ++ [])).length ≤ 1000000 by rw [List.length_append]; omega)
  have HX1 := Lib.hid (show (P ++ (x :: A)).length ≤ 100000 by omega)
  have HY1 := Lib.hid (show (P ++ []).length ≤ 100000 by omega)
  clear gX gY g1 g2 g3
  have HLX := Lib.hid (show ∀ z ∈ (P ++ (x :: A)), z < 256 from fun z hz => (List.mem_append.1 hz).elim (hp.lt z) (ha.lt z))
  have HLY := Lib.hid (show ∀ z ∈ (P ++ []), z < 256 from fun z hz => (List.mem_append.1 hz).elim (hp.lt z) (hb.lt z))
  have HXT := fun (u : Value) (w1 : World) (hu : RdA [] w1 u (P ++ (x :: A))) => Pack_any u (P ++ (x :: A)) true w1 HX1.out hu
  rw [packL_none true hX] at HXT
  have HXT := Lib.hid HXT
  have HXF := fun (u : Value) (w1 : World) (hu : RdA [] w1 u (P ++ (x :: A))) => Pack_any u (P ++ (x :: A)) false w1 HX1.out hu
  rw [packL_none false hX] at HXF
  have HXF := Lib.hid HXF
  have HYT := fun (u : Value) (w1 : World) (hu : RdA [] w1 u (P ++ [])) => Pack_any u (P ++ []) true w1 HY1.out hu
  have HYT := Lib.hid HYT
  have HJX := fun (u : Value) (w1 : World) (hu : RdA [] w1 u ((P ++ (x :: A)) ++ (P ++ (x :: A)))) => refJoin_any u ((P ++ (x :: A)) ++ (P ++ (x :: A))) w1 HX2.out hu
  rw [join_twice hX] at HJX
  have HJX := Lib.hid HJX
  have HJY := fun (u : Value) (w1 : World) (hu : RdA [] w1 u ((P ++ []) ++ (P ++ []))) => refJoin_any u ((P ++ []) ++ (P ++ [])) w1 HY2.out hu
  have HJY := Lib.hid HJY
  have HN := Lib.hid (And.intro (show n1 ≤ 100 by omega) (And.intro (show 0 < n2 ∧ n2 ≤ 100 by omega) (show n3 ≤ 0 by omega)))
  have KP := Lib.hid (fun (w' : World) (h : Tch [] w w') => hp.nofix h)
  have KA := Lib.hid (fun (w' : World) (h : Tch [] w w') => ha.nofix h)
  have KB := Lib.hid (fun (w' : World) (h : Tch [] w w') => hb.nofix h)
  clear hp ha hb hl1 hl2 hl3 h1 h2 h3 hX
  go_enter Try.func5, Try.ntmps5
  go_upto_region 2 with (go_at_call 6; refine (alive_any _).mono ?_; rintro e w1 ⟨rfl, hT1⟩)
  refine k_region (C := fun w' => Tch [] w1 w') (by kernel_rfl) (by kernel_rfl) ((Tch.refl _ _).drew) ?_
  refine k_boolm rfl _ rfl rfl ?_; try simp only [Act.put, List.setIfInBounds_toArray, List.set_cons_zero, List.set_cons_succ]
  refine k_not rfl _ _ rfl rfl ?_; try simp only [Act.put, List.setIfInBounds_toArray, List.set_cons_zero, List.set_cons_succ]
  refine k_boolm rfl _ rfl rfl ?_; try simp only [Act.put, List.setIfInBounds_toArray, List.set_cons_zero, List.set_cons_succ]
  refine k_slice rfl _ rfl rfl ?_; try simp only [Act.put, List.setIfInBounds_toArray, List.set_cons_zero, List.set_cons_succ]
  refine k_lenSl rfl _ rfl rfl ?_; try simp only [Act.put, List.setIfInBounds_toArray, List.set_cons_zero, List.set_cons_succ]
  refine k_gtr rfl _ _ _ rfl rfl rfl (decide_eq_false (by have h := HN.out; omega)) ?_; try simp only [Act.put, List.setIfInBounds_toArray, List.set_cons_zero, List.set_cons_succ]
  refine k_pickF rfl _ _ _ rfl rfl rfl ?_; try simp only [Act.put, List.setIfInBounds_toArray, List.set_cons_zero, List.set_cons_succ]
  refine k_boolm rfl _ rfl rfl ?_; try simp only [Act.put, List.setIfInBounds_toArray, List.set_cons_zero, List.set_cons_succ]
  refine k_slice rfl _ rfl rfl ?_; try simp only [Act.put, List.setIfInBounds_toArray, List.set_cons_zero, List.set_cons_succ]
  refine k_lenSl rfl _ rfl rfl ?_; try simp only [Act.put, List.setIfInBounds_toArray, List.set_cons_zero, List.set_cons_succ]
  refine k_gtr rfl _ _ _ rfl rfl rfl (decide_eq_false (by have h := HN.out; omega)) ?_; try simp only [Act.put, List.setIfInBounds_toArray, List.set_cons_zero, List.set_cons_succ]
  refine k_pickF rfl _ _ _ rfl rfl rfl ?_; try simp only [Act.put, List.setIfInBounds_toArray, List.set_cons_zero, List.set_cons_succ]
  refine k_boolm rfl _ rfl rfl ?_; try simp only [Act.put, List.setIfInBounds_toArray, List.set_cons_zero, List.set_cons_succ]
  refine k_slice rfl _ rfl rfl ?_; try simp only [Act.put, List.setIfInBounds_toArray, List.set_cons_zero, List.set_cons_succ]
  refine k_lenSl rfl _ rfl rfl ?_; try simp only [Act.put, List.setIfInBounds_toArray, List.set_cons_zero, List.set_cons_succ]
  refine k_gtr rfl _ _ _ rfl rfl rfl (decide_eq_false (by have h := HN.out; omega)) ?_; try simp only [Act.put, List.setIfInBounds_toArray, List.set_cons_zero, List.set_cons_succ]
  refine k_pickF rfl _ _ _ rfl rfl rfl ?_; try simp only [Act.put, List.setIfInBounds_toArray, List.set_cons_zero, List.set_cons_succ]
  refine k_boolm rfl _ rfl rfl ?_; try simp only [Act.put, List.setIfInBounds_toArray, List.set_cons_zero, List.set_cons_succ]
  refine k_slice rfl _ rfl rfl ?_; try simp only [Act.put, List.setIfInBounds_toArray, List.set_cons_zero, List.set_cons_succ]
  refine k_lenSl rfl _ rfl rfl ?_; try simp only [Act.put, List.setIfInBounds_toArray, List.set_cons_zero, List.set_cons_succ]
  refine k_gtr rfl _ _ _ rfl rfl rfl (decide_eq_true (by have h := HN.out; omega)) ?_; try simp only [Act.put, List.setIfInBounds_toArray, List.set_cons_zero, List.set_cons_succ]
  refine k_boolm rfl _ rfl rfl ?_; try simp only [Act.put, List.setIfInBounds_toArray, List.set_cons_zero, List.set_cons_succ]
  refine k_slice rfl _ rfl rfl ?_; try simp only [Act.put, List.setIfInBounds_toArray, List.set_cons_zero, List.set_cons_succ]
  refine k_lenSl rfl _ rfl rfl ?_; try simp only [Act.put, List.setIfInBounds_toArray, List.set_cons_zero, List.set_cons_succ]
  refine k_gtr rfl _ _ _ rfl rfl rfl (decide_eq_false (by have h := HN.out; omega)) ?_; try simp only [Act.put, List.setIfInBounds_toArray, List.set_cons_zero, List.set_cons_succ]
  refine k_pickT rfl _ _ _ rfl rfl rfl ?_; try simp only [Act.put, List.setIfInBounds_toArray, List.set_cons_zero, List.set_cons_succ]
  refine k_boolm rfl _ rfl rfl ?_; try simp only [Act.put, List.setIfInBounds_toArray, List.set_cons_zero, List.set_cons_succ]
  refine k_skip rfl rfl rfl rfl rfl ?_; try simp only [Act.put, List.setIfInBounds_toArray, List.set_cons_zero, List.set_cons_succ]
  refine k_skip rfl rfl rfl rfl rfl ?_; try simp only [Act.put, List.setIfInBounds_toArray, List.set_cons_zero, List.set_cons_succ]
  refine k_skip rfl rfl rfl rfl rfl ?_; try simp only [Act.put, List.setIfInBounds_toArray, List.set_cons_zero, List.set_cons_succ]
  refine k_skip rfl rfl rfl rfl rfl ?_; try simp only [Act.put, List.setIfInBounds_toArray, List.set_cons_zero, List.set_cons_succ]
  refine k_skip rfl rfl rfl rfl rfl ?_; try simp only [Act.put, List.setIfInBounds_toArray, List.set_cons_zero, List.set_cons_succ]
  refine k_skip rfl rfl rfl rfl rfl ?_; try simp only [Act.put, List.setIfInBounds_toArray, List.set_cons_zero, List.set_cons_succ]
  refine k_skip rfl rfl rfl rfl rfl ?_; try simp only [Act.put, List.setIfInBounds_toArray, List.set_cons_zero, List.set_cons_succ]
  refine k_pickF rfl _ _ _ rfl rfl rfl ?_; try simp only [Act.put, List.setIfInBounds_toArray, List.set_cons_zero, List.set_cons_succ]
  refine k_pickF rfl _ _ _ rfl rfl rfl ?_; try simp only [Act.put, List.setIfInBounds_toArray, List.set_cons_zero, List.set_cons_succ]
  refine k_end ?_
  intro w2 hT2
  have A2 := hT1.trans hT2
  clear hT1 hT2
  go_wp2_with (first
    | (at_builtin; refine st_appB (w0 := w2) (w := w2) (v := .slice none 0 0) (u := .slice p1 n1 c1) (l := []) (m := P) (ty := 5) rfl _ _ rfl rfl rfl (own_nil _ _) (Tch.refl _ _) (KP.out w2 A2) HQ1.out ?_; intro v3 w3 hx1 hT3)
    | (at_builtin; refine st_appB (w0 := w2) (w := w3) (v := v3) (u := .slice p2 n2 c2) (l := P) (m := (x :: A)) (ty := 5) rfl _ _ rfl rfl rfl hx1 hT3 (KA.out w3 (A2.trans hT3)) HQ2.out ?_; intro v4 w4 hx2 hT4; have A4 := A2.trans hT4; have hxr := (RdB.own hx2 HLX.out).rdA (X := []) (by simp); clear hx1 hx2)
    | (at_builtin; refine st_appB (w0 := w4) (w := w4) (v := .slice none 0 0) (u := .slice p1 n1 c1) (l := []) (m := P) (ty := 5) rfl _ _ rfl rfl rfl (own_nil _ _) (Tch.refl _ _) (KP.out w4 A4) HQ1.out ?_; intro v5 w5 hy1 hT5)
    | (at_builtin; refine st_appB (w0 := w4) (w := w5) (v := v5) (u := .slice p3 n3 c3) (l := P) (m := []) (ty := 5) rfl _ _ rfl rfl rfl hy1 hT5 (KB.out w5 (A4.trans hT5)) HQ3.out ?_; intro v6 w6 hy2 hT6; have A6 := A4.trans hT6; have hyr := (RdB.own hy2 HLY.out).rdA (X := []) (by simp); clear hy1 hy2)
    | (go_at_call 10; (with_reducible refine (HXT.out _ _ (hxr.tch hT6)).mono ?_); rintro e w7 ⟨hT7, u, rfl, hu⟩; have A7 := A6.trans hT7)
    | (go_at_call 10; (with_reducible refine (HXF.out _ _ (hxr.tch (hT6.trans hT7))).mono ?_); rintro e w8 ⟨hT8, v, rfl, hv⟩; have A8 := A7.trans hT8)
    | (go_at_call 10; (with_reducible refine (HYT.out _ _ (hyr.tch (hT7.trans hT8))).mono ?_); rintro e w9 ⟨hT9, t, rfl, ht⟩; have A9 := A8.trans hT9; have X9 := hxr.tch (((hT6.trans hT7).trans hT8).trans hT9); have Y9 := hyr.tch ((hT7.trans hT8).trans hT9))
    | (at_builtin; refine st_appB (w0 := w9) (w := w9) (v := .slice none 0 0) (u := v4) (l := []) (m := (P ++ (x :: A))) (ty := 5) rfl _ _ rfl rfl rfl (own_nil _ _) (Tch.refl _ _) (X9.nofix (Tch.refl _ _)) HQ4.out ?_; intro v10 w10 hq1 hT10)
    | (at_builtin; refine st_appB (w0 := w9) (w := w10) (v := v10) (u := v4) (l := (P ++ (x :: A))) (m := (P ++ (x :: A))) (ty := 5) rfl _ _ rfl rfl rfl hq1 hT10 (X9.nofix hT10) HQ5.out ?_; intro v11 w11 hq2 hT11; have A11 := A9.trans hT11; have hqr := (RdB.own hq2 (fun z hz => (List.mem_append.1 hz).elim (HLX.out z) (HLX.out z))).rdA (X := []) (by simp); clear hq1 hq2)
    | (go_at_call 9; (with_reducible refine (HJX.out _ _ hqr).mono ?_); rintro e w12 ⟨hT12, q, rfl, _⟩; have A12 := A11.trans hT12; have Y12 := Y9.tch (hT11.trans hT12))
    | (at_builtin; refine st_appB (w0 := w12) (w := w12) (v := .slice none 0 0) (u := v6) (l := []) (m := (P ++ [])) (ty := 5) rfl _ _ rfl rfl rfl (own_nil _ _) (Tch.refl _ _) (Y12.nofix (Tch.refl _ _)) HQ6.out ?_; intro v13 w13 hr1 hT13)
    | (at_builtin; refine st_appB (w0 := w12) (w := w13) (v := v13) (u := v6) (l := (P ++ [])) (m := (P ++ [])) (ty := 5) rfl _ _ rfl rfl rfl hr1 hT13 (Y12.nofix hT13) HQ7.out ?_; intro v14 w14 hr2 hT14; have A14 := A12.trans hT14; have hrr := (RdB.own hr2 (fun z hz => (List.mem_append.1 hz).elim (HLY.out z) (HLY.out z))).rdA (X := []) (by simp); clear hr1 hr2)
    | (go_at_call 9; (with_reducible refine (HJY.out _ _ hrr).mono ?_); rintro e w15 ⟨hT15, r, rfl, _⟩; have A15 := A14.trans hT15))
  go_ret
  exact ⟨rfl, A15⟩
set_option maxHeartbeats 4000000 in
set_option maxRecDepth 100000 in
theorem alike_B0_no2 (vp va vb : Value) (P A : List Nat) (x : Nat) (w : World) (hp : RdA [] w vp P) (ha : RdA [] w va (x :: A)) (hb : RdA [] w vb []) (h1 : P.length ≤ 100) (h2 : (x :: A).length ≤ 100) (h3 : ([] : List Nat).length ≤ 100) (hX : allN (P ++ (x :: A)) = true) (hY : allN (P ++ []) = false) :
    Calls Try.prog 5 #[vp, va, vb] w fun e w' => e = .returned (.bool true) ∧ Tch [] w w' := by
  obtain ⟨p1, n1, c1, rfl⟩ := slice_keep hp
  obtain ⟨p2, n2, c2, rfl⟩ := slice_keep ha
  obtain ⟨p3, n3, c3, rfl⟩ := slice_keep hb
  have hl1 := hp.len
  have hl2 := ha.len
  have hl3 := hb.len
  simp only [List.length_nil] at hl3
  simp only [List.length_cons] at hl2 h2
  have g1 : P.length ≤ 100 := by omega
  have g2 : ((x :: A) : List Nat).length ≤ 100 := by first | omega | simp
  have g3 : ([] : List Nat).length ≤ 100 := by first | omega | simp
  have gX : (P ++ (x :: A)).length ≤ 200 := by rw [List.length_append]; omega
  have gY : (P ++ []).length ≤ 200 := by rw [List.length_append]; omega
  have HQ1 := Lib.hid (show ([] : List Nat).length + P.length ≤ 100000000 by rw [List.length_nil]; omega)
  have HQ2 := Lib.hid (show P.length + ((x :: A) : List Nat).length ≤ 100000000 by omega)
  have HQ3 := Lib.hid (show P.length + ([] : List Nat).length ≤ 100000000 by omega)
  have HQ4 := Lib.hid (show ([] : List Nat).length + (P ++ (x :: A)).length ≤ 100000000 by rw [List.length_nil]; omega)
  have HQ5 := Lib.hid (show (P ++ (x :: A)).length + (P ++ (x :: A)).length ≤ 100000000 by omega)
  have HQ6 := Lib.hid (show ([] : List Nat).length + (P ++ []).length ≤ 100000000 by rw [List.length_nil]; omega)
  have HQ7 := Lib.hid (show (P ++ []).length + (P ++ []).length ≤ 100000000 by omega)
  have HX2 := Lib.hid (show ((P ++ (x :: A)) ++ (P ++ (x :: A))).length ≤ 1000000 by rw [List.length_append]; omega)
  have HY2 := Lib.hid (show ((P ++ []) ++ (P ++ [])).length ≤ 1000000 by rw [List.length_append]; omega)
  have HX1 := Lib.hid (show (P ++ (x :: A)).length ≤ 100000 by omega)
  have HY1 := Lib.hid (show (P ++ []).length ≤ 100000 by omega)
  clear gX gY g1 g2 g3
  have HLX := Lib.hid (show ∀ z ∈ (P ++ (x :: A)), z < 256 from fun z hz => (List.mem_append.1 hz).elim (hp.lt z) (ha.lt z))
  have HLY := Lib.hid (show ∀ z ∈ (P ++ []), z < 256 from fun z hz => (List.mem_append.1 hz).elim (hp.lt z) (hb.lt z))
  have HXT := fun (u : Value) (w1 : World) (hu : RdA [] w1 u (P ++ (x :: A))) => Pack_any u (P ++ (x :: A)) true w1 HX1.out hu
  rw [packL_some true hX] at HXT
  have HXT := Lib.hid HXT
  have HXF := fun (u : Value) (w1 : World) (hu : RdA [] w1 u (P ++ (x :: A))) => Pack_any u (P ++ (x :: A)) false w1 HX1.out hu
  rw [packL_some false hX] at HXF
  have HXF := Lib.hid HXF
  have HYT := fun (u : Value) (w1 : World) (hu : RdA [] w1 u (P ++ [])) => Pack_any u (P ++ []) true w1 HY1.out hu
  rw [packL_none true hY] at HYT
  have HYT := Lib.hid HYT
  have HJX := fun (u : Value) (w1 : World) (hu : RdA [] w1 u ((P ++ (x :: A)) ++ (P ++ (x :: A)))) => refJoin_any u ((P ++ (x :: A)) ++ (P ++ (x :: A))) w1 HX2.out hu
  rw [join_twice' hX] at HJX
  have HJX := Lib.hid HJX
  have HJY := fun (u : Value) (w1 : World) (hu : RdA [] w1 u ((P ++ []) ++ (P ++ []))) => refJoin_any u ((P ++ []) ++ (P ++ [])) w1 HY2.out hu
  rw [join_twice hY] at HJY
  have HJY := Lib.hid HJY
  have HN := Lib.hid (And.intro (show n1 ≤ 100 by omega) (And.intro (show 0 < n2 ∧ n2 ≤ 100 by omega) (show n3 ≤ 0 by omega)))
  have KP := Lib.hid (fun (w' : World) (h : Tch [] w w') => hp.nofix h)
  have KA := Lib.hid (fun (w' : World) (h : Tch [] w w') => ha.nofix h)
  have KB := Lib.hid (fun (w' : World) (h : Tch [] w w') => hb.nofix h)
  clear hp ha hb hl1 hl2 hl3 h1 h2 h3 hX hY
  go_enter Try.func5, Try.ntmps5
  go_upto_region 2 with (go_at_call 6; refine (alive_any _).mono ?_; rintro e w1 ⟨rfl, hT1⟩)
  refine k_region (C := fun w' => Tch [] w1 w') (by kernel_rfl) (by kernel_rfl) ((Tch.refl _ _).drew) ?_
  refine k_boolm rfl _ rfl rfl ?_; try simp only [Act.put, List.setIfInBounds_toArray, List.set_cons_zero, List.set_cons_succ]
  refine k_not rfl _ _ rfl rfl ?_; try simp only [Act.put, List.setIfInBounds_toArray, List.set_cons_zero, List.set_cons_succ]
  refine k_boolm rfl _ rfl rfl ?_; try simp only [Act.put, List.setIfInBounds_toArray, List.set_cons_zero, List.set_cons_succ]
  refine k_slice rfl _ rfl rfl ?_; try simp only [Act.put, List.setIfInBounds_toArray, List.set_cons_zero, List.set_cons_succ]
  refine k_lenSl rfl _ rfl rfl ?_; try simp only [Act.put, List.setIfInBounds_toArray, List.set_cons_zero, List.set_cons_succ]
  refine k_gtr rfl _ _ _ rfl rfl rfl (decide_eq_false (by have h := HN.out; omega)) ?_; try simp only [Act.put, List.setIfInBounds_toArray, List.set_cons_zero, List.set_cons_succ]
  refine k_pickF rfl _ _ _ rfl rfl rfl ?_; try simp only [Act.put, List.setIfInBounds_toArray, List.set_cons_zero, List.set_cons_succ]
  refine k_boolm rfl _ rfl rfl ?_; try simp only [Act.put, List.setIfInBounds_toArray, List.set_cons_zero, List.set_cons_succ]
  refine k_slice rfl _ rfl rfl ?_; try simp only [Act.put, List.setIfInBounds_toArray, List.set_cons_zero, List.set_cons_succ]
  refine k_lenSl rfl _ rfl rfl ?_; try simp only [Act.put, List.setIfInBounds_toArray, List.set_cons_zero, List.set_cons_succ]
  refine k_gtr rfl _ _ _ rfl rfl rfl (decide_eq_false (by have h := HN.out; omega)) ?_; try simp only [Act.put, List.setIfInBounds_toArray, List.set_cons_zero, List.set_cons_succ]
  refine k_pickF rfl _ _ _ rfl rfl rfl ?_; try simp only [Act.put, List.setIfInBounds_toArray, List.set_cons_zero, List.set_cons_succ]
  refine k_boolm rfl _ rfl rfl ?_; try simp only [Act.put, List.setIfInBounds_toArray, List.set_cons_zero, List.set_cons_succ]
  refine k_slice rfl _ rfl rfl ?_; try simp only [Act.put, List.setIfInBounds_toArray, List.set_cons_zero, List.set_cons_succ]
  refine k_lenSl rfl _ rfl rfl ?_; try simp only [Act.put, List.setIfInBounds_toArray, List.set_cons_zero, List.set_cons_succ]
  refine k_gtr rfl _ _ _ rfl rfl rfl (decide_eq_false (by have h := HN.out; omega)) ?_; try simp only [Act.put, List.setIfInBounds_toArray, List.set_cons_zero, List.set_cons_succ]
  refine k_pickF rfl _ _ _ rfl rfl rfl ?_; try simp only [Act.put, List.setIfInBounds_toArray, List.set_cons_zero, List.set_cons_succ]
  refine k_boolm rfl _ rfl rfl ?_; try simp only [Act.put, List.setIfInBounds_toArray, List.set_cons_zero, List.set_cons_succ]
  refine k_slice rfl _ rfl rfl ?_; try simp only [Act.put, List.setIfInBounds_toArray, List.set_cons_zero, List.set_cons_succ]
  refine k_lenSl rfl _ rfl rfl ?_; try simp only [Act.put, List.setIfInBounds_toArray, List.set_cons_zero, List.set_cons_succ]
  refine k_gtr rfl _ _ _ rfl rfl rfl (decide_eq_true (by have h := HN.out; omega)) ?_; try simp only [Act.put, List.setIfInBounds_toArray, List.set_cons_zero, List.set_cons_succ]
  refine k_boolm rfl _ rfl rfl ?_; try simp only [Act.put, List.setIfInBounds_toArray, List.set_cons_zero, List.set_cons_succ]
  refine k_slice rfl _ rfl rfl ?_; try simp only [Act.put, List.setIfInBounds_toArray, List.set_cons_zero, List.set_cons_succ]
  refine k_lenSl rfl _ rfl rfl ?_; try simp only [Act.put, List.setIfInBounds_toArray, List.set_cons_zero, List.set_cons_succ]
  refine k_gtr rfl _ _ _ rfl rfl rfl (decide_eq_false (by have h := HN.out; omega)) ?_; try simp only [Act.put, List.setIfInBounds_toArray, List.set_cons_zero, List.set_cons_succ]
  refine k_pickT rfl _ _ _ rfl rfl rfl ?_; try simp only [Act.put, List.setIfInBounds_toArray, List.set_cons_zero, List.set_cons_succ]
  refine k_boolm rfl _ rfl rfl ?_; try simp only [Act.put, List.setIfInBounds_toArray, List.set_cons_zero, List.set_cons_succ]
  refine k_skip rfl rfl rfl rfl rfl ?_; try simp only [Act.put, List.setIfInBounds_toArray, List.set_cons_zero, List.set_cons_succ]
  refine k_skip rfl rfl rfl rfl rfl ?_; try simp only [Act.put, List.setIfInBounds_toArray, List.set_cons_zero, List.set_cons_succ]
  refine k_skip rfl rfl rfl rfl rfl ?_; try simp only [Act.put, List.setIfInBounds_toArray, List.set_cons_zero, List.set_cons_succ]
  refine k_skip rfl rfl rfl rfl rfl ?_; try simp only [Act.put, List.setIfInBounds_toArray, List.set_cons_zero, List.set_cons_succ]
  refine k_skip rfl rfl rfl rfl rfl ?_; try simp only [Act.put, List.setIfInBounds_toArray, List.set_cons_zero, List.set_cons_succ]
  refine k_skip rfl rfl rfl rfl rfl ?_; try simp only [Act.put, List.setIfInBounds_toArray, List.set_cons_zero, List.set_cons_succ]
  refine k_skip rfl rfl rfl rfl rfl ?_; try simp only [Act.put, List.setIfInBounds_toArray, List.set_cons_zero, List.set_cons_succ]
  refine k_pickF rfl _ _ _ rfl rfl rfl ?_; try simp only [Act.put, List.setIfInBounds_toArray, List.set_cons_zero, List.set_cons_succ]
  refine k_pickF rfl _ _ _ rfl rfl rfl ?_; try simp only [Act.put, List.setIfInBounds_toArray, List.set_cons_zero, List.set_cons_succ]
  refine k_end ?_
  intro w2 hT2
  have A2 := hT1.trans hT2
  clear hT1 hT2
  go_wp2_with (first
    | (at_builtin; refine st_appB (w0 := w2) (w := w2) (v := .slice none 0 0) (u := .slice p1 n1 c1) (l := []) (m := P) (ty := 5) rfl _ _ rfl rfl rfl (own_nil _ _) (Tch.refl _ _) (KP.out w2 A2) HQ1.out ?_; intro v3 w3 hx1 hT3)
    | (at_builtin; refine st_appB (w0 := w2) (w := w3) (v := v3) (u := .slice p2 n2 c2) (l := P) (m := (x :: A)) (ty := 5) rfl _ _ rfl rfl rfl hx1 hT3 (KA.out w3 (A2.trans hT3)) HQ2.out ?_; intro v4 w4 hx2 hT4; have A4 := A2.trans hT4; have hxr := (RdB.own hx2 HLX.out).rdA (X := []) (by simp); clear hx1 hx2)
    | (at_builtin; refine st_appB (w0 := w4) (w := w4) (v := .slice none 0 0) (u := .slice p1 n1 c1) (l := []) (m := P) (ty := 5) rfl _ _ rfl rfl rfl (own_nil _ _) (Tch.refl _ _) (KP.out w4 A4) HQ1.out ?_; intro v5 w5 hy1 hT5)
    | (at_builtin; refine st_appB (w0 := w4) (w := w5) (v := v5) (u := .slice p3 n3 c3) (l := P) (m := []) (ty := 5) rfl _ _ rfl rfl rfl hy1 hT5 (KB.out w5 (A4.trans hT5)) HQ3.out ?_; intro v6 w6 hy2 hT6; have A6 := A4.trans hT6; have hyr := (RdB.own hy2 HLY.out).rdA (X := []) (by simp); clear hy1 hy2)
    | (go_at_call 10; (with_reducible refine (HXT.out _ _ (hxr.tch hT6)).mono ?_); rintro e w7 ⟨hT7, u, rfl, hu⟩; have A7 := A6.trans hT7)
    | (go_at_call 10; (with_reducible refine (HXF.out _ _ (hxr.tch (hT6.trans hT7))).mono ?_); rintro e w8 ⟨hT8, v, rfl, hv⟩; have A8 := A7.trans hT8)
    | (go_at_call 10; (with_reducible refine (HYT.out _ _ (hyr.tch (hT7.trans hT8))).mono ?_); rintro e w9 ⟨hT9, t, rfl, ht⟩; have A9 := A8.trans hT9; have X9 := hxr.tch (((hT6.trans hT7).trans hT8).trans hT9); have Y9 := hyr.tch ((hT7.trans hT8).trans hT9))
    | (at_builtin; refine st_appB (w0 := w9) (w := w9) (v := .slice none 0 0) (u := v4) (l := []) (m := (P ++ (x :: A))) (ty := 5) rfl _ _ rfl rfl rfl (own_nil _ _) (Tch.refl _ _) (X9.nofix (Tch.refl _ _)) HQ4.out ?_; intro v10 w10 hq1 hT10)
    | (at_builtin; refine st_appB (w0 := w9) (w := w10) (v := v10) (u := v4) (l := (P ++ (x :: A))) (m := (P ++ (x :: A))) (ty := 5) rfl _ _ rfl rfl rfl hq1 hT10 (X9.nofix hT10) HQ5.out ?_; intro v11 w11 hq2 hT11; have A11 := A9.trans hT11; have hqr := (RdB.own hq2 (fun z hz => (List.mem_append.1 hz).elim (HLX.out z) (HLX.out z))).rdA (X := []) (by simp); clear hq1 hq2)
    | (go_at_call 9; (with_reducible refine (HJX.out _ _ hqr).mono ?_); rintro e w12 ⟨hT12, q, rfl, _⟩; have A12 := A11.trans hT12; have Y12 := Y9.tch (hT11.trans hT12))
    | (at_builtin; refine st_appB (w0 := w12) (w := w12) (v := .slice none 0 0) (u := v6) (l := []) (m := (P ++ [])) (ty := 5) rfl _ _ rfl rfl rfl (own_nil _ _) (Tch.refl _ _) (Y12.nofix (Tch.refl _ _)) HQ6.out ?_; intro v13 w13 hr1 hT13)
    | (at_builtin; refine st_appB (w0 := w12) (w := w13) (v := v13) (u := v6) (l := (P ++ [])) (m := (P ++ [])) (ty := 5) rfl _ _ rfl rfl rfl hr1 hT13 (Y12.nofix hT13) HQ7.out ?_; intro v14 w14 hr2 hT14; have A14 := A12.trans hT14; have hrr := (RdB.own hr2 (fun z hz => (List.mem_append.1 hz).elim (HLY.out z) (HLY.out z))).rdA (X := []) (by simp); clear hr1 hr2)
    | (go_at_call 9; (with_reducible refine (HJY.out _ _ hrr).mono ?_); rintro e w15 ⟨hT15, r, rfl, _⟩; have A15 := A14.trans hT15))
  go_ret
  exact ⟨rfl, A15⟩
end Go.Proofs.Ytgdojomaknbheaa
