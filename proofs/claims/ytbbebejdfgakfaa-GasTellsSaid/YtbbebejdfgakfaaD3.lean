/- gas: Store of both sides. -/
import Derived.Test.YtbbebejdfgakfaaD2
set_option linter.unusedVariables false
set_option linter.unusedSimpArgs false
namespace Go.Proofs.Ytbbebejdfgakfaa
open Go.RowKit
set_option maxRecDepth 100000
set_option maxHeartbeats 1000000

theorem equal_words14 (d : Nat) {V U : List Nat} (hV : Wd V) (hU : Wd U) (w : World) : (Op.equalIn (d + 2) 25 (.agg (wv V)) (.agg (wv U))).run Try.prog w = .ok (decide (V = U)) w := by
  have h := run_equalIn_bytes (P := Try.prog) w d 25 5 32 wordN_type byte_ty (fun w => sizeOf_u8 w) (bytesOfI 32 (fun i => V.getD i 0)) (bytesOfI 32 (fun i => U.getD i 0)) (by simp [bytesOfI]) (by simp [bytesOfI])
  rw [← bc_bytesI 32 _ hV.get, ← bc_bytesI 32 _ hU.get] at h
  refine h.trans ?_
  congr 1
  rw [Bool.eq_iff_iff, beq_iff_eq, decide_eq_true_eq]
  exact ⟨fun e => wv_inj hV.1 hU.1 (show bc 32 _ = bc 32 _ by rw [bc_bytesI 32 _ hV.get, bc_bytesI 32 _ hU.get, e]), fun e => by rw [e]⟩
theorem word_guard14 (x y : Operand) (c d : Array Value) (w : World) : (eqGuard .neq 25 x y (.agg c) (.agg d)).run Try.prog w = .ok () w := run_eqGuard_agg w .neq _ x y c d (by kernel_rfl)
theorem x_neqW2 {o : Oper} {a : Act} {w : World} {V U : List Nat} (hV : Wd V) (hU : Wd U) (xo yo : Operand) (yt : TypeId) (ho : o.op = .binOp .neq 25 xo yo yt) (hxe : a.eval xo = .agg (wv V)) (hye : a.eval yo = .agg (wv U)) : (execOp a.eval o).run Try.prog w = .ok (.value (.bool (!decide (V = U)))) w := by
  have h := run_neq_struct (P := Try.prog) w 25 (wv V) (wv U)
  rw [equal_words14 9998 hV hU w] at h
  unfold execOp
  simp only [ho, hxe, hye]
  show Sem.run _ _ w = _
  simp only [Sem.run_bind, word_guard14, Result.andThen_ok, h, Sem.run_pure]
theorem rstoreG_any (U V : List Nat) (hU : Wd U) (hV : Wd V) (w : World) : Calls Try.prog 11 #[.agg (wv U), .agg (wv V)] w fun e w' => e = .returned (.int .i64 (storeG U V)) ∧ Tch [] w w' := by
  have SU : (wv U).size = 32 := bc_size _ _
  have SV : (wv V).size = 32 := bc_size _ _
  have HX := Lib.hid (fun w' (o : Oper) (a : Act) h1 => x_buildW (o := o) (a := a) (w := w') h1)
  have HE := Lib.hid (fun w' (o : Oper) (a : Act) xo yo yt h1 h2 h3 => x_eqW (o := o) (a := a) (w := w') hU zs32_ok xo yo yt h1 h2 h3)
  have HN := Lib.hid (fun w' (o : Oper) (a : Act) xo yo yt h1 h2 h3 => x_neqW2 (o := o) (a := a) (w := w') hV zs32_ok xo yo yt h1 h2 h3)
  have hS := St.start w
  unfold storeG
  clear hU hV
  by_cases h1 : U = zs32
  · have e1 : decide (U = zs32) = true := decide_eq_true h1
    by_cases h2 : V = zs32
    · have e2 : (!decide (V = zs32)) = false := by rw [decide_eq_true h2]; rfl
      simp only [e1] at HE
      simp only [e2] at HN
      rw [if_neg (fun h => h.2 h2)]
      generalize wv U = cu at *
      generalize wv V = cv at *
      generalize wv zs32 = cz at *
      clear e1 h1 e2 h2
      go_enter Try.func11, Try.ntmps11
      go_upto_region 1 with (first
        | (have _t := b1; clear _t; refine st_box hS rfl 25 _ rfl rfl ?_; clear hS; intro w2 b2 hS)
        | (refine st_box hS rfl 25 _ rfl rfl ?_; clear hS; intro w1 b1 hS))
      try simp only [Act.put, List.setIfInBounds_toArray, List.set_cons_zero, List.set_cons_succ]
      refine k_seq (C := fun w' => St [] w w' [(b2, 25, cv), (b1, 25, cu)]) hS ?_
      refine k_load (b := b1) (c := cu) rfl _ _ rfl rfl (.tail .head) wordN_type wordN_size SU ?_; try simp only [Act.put, List.setIfInBounds_toArray, List.set_cons_zero, List.set_cons_succ]
      refine k_in (v := .agg cz) rfl (fun w' h => HX.out w' _ _ rfl) ?_; try simp only [Act.put, List.setIfInBounds_toArray, List.set_cons_zero, List.set_cons_succ]
      refine k_in (v := .bool true) rfl (fun w' h => HE.out w' _ _ _ _ _ rfl rfl rfl) ?_; try simp only [Act.put, List.setIfInBounds_toArray, List.set_cons_zero, List.set_cons_succ]
      refine k_val (v := .bool true) rfl _ (.inl rfl) rfl ?_; try simp only [Act.put, List.setIfInBounds_toArray, List.set_cons_zero, List.set_cons_succ]
      refine k_load (b := b2) (c := cv) rfl _ _ rfl rfl .head wordN_type wordN_size SV ?_; try simp only [Act.put, List.setIfInBounds_toArray, List.set_cons_zero, List.set_cons_succ]
      refine k_in (v := .agg cz) rfl (fun w' h => HX.out w' _ _ rfl) ?_; try simp only [Act.put, List.setIfInBounds_toArray, List.set_cons_zero, List.set_cons_succ]
      refine k_in (v := .bool false) rfl (fun w' h => HN.out w' _ _ _ _ _ rfl rfl rfl) ?_; try simp only [Act.put, List.setIfInBounds_toArray, List.set_cons_zero, List.set_cons_succ]
      refine k_pickT (t := false) rfl _ _ _ rfl rfl rfl ?_; try simp only [Act.put, List.setIfInBounds_toArray, List.set_cons_zero, List.set_cons_succ]
      refine k_end ?_
      clear hS
      intro w3 hS
      go_wp2
      go_ret
      exact ⟨rfl, hS.frame⟩
    · have e2 : (!decide (V = zs32)) = true := by rw [decide_eq_false h2]; rfl
      simp only [e1] at HE
      simp only [e2] at HN
      rw [if_pos (And.intro h1 h2)]
      generalize wv U = cu at *
      generalize wv V = cv at *
      generalize wv zs32 = cz at *
      clear e1 h1 e2 h2
      go_enter Try.func11, Try.ntmps11
      go_upto_region 1 with (first
        | (have _t := b1; clear _t; refine st_box hS rfl 25 _ rfl rfl ?_; clear hS; intro w2 b2 hS)
        | (refine st_box hS rfl 25 _ rfl rfl ?_; clear hS; intro w1 b1 hS))
      try simp only [Act.put, List.setIfInBounds_toArray, List.set_cons_zero, List.set_cons_succ]
      refine k_seq (C := fun w' => St [] w w' [(b2, 25, cv), (b1, 25, cu)]) hS ?_
      refine k_load (b := b1) (c := cu) rfl _ _ rfl rfl (.tail .head) wordN_type wordN_size SU ?_; try simp only [Act.put, List.setIfInBounds_toArray, List.set_cons_zero, List.set_cons_succ]
      refine k_in (v := .agg cz) rfl (fun w' h => HX.out w' _ _ rfl) ?_; try simp only [Act.put, List.setIfInBounds_toArray, List.set_cons_zero, List.set_cons_succ]
      refine k_in (v := .bool true) rfl (fun w' h => HE.out w' _ _ _ _ _ rfl rfl rfl) ?_; try simp only [Act.put, List.setIfInBounds_toArray, List.set_cons_zero, List.set_cons_succ]
      refine k_val (v := .bool true) rfl _ (.inl rfl) rfl ?_; try simp only [Act.put, List.setIfInBounds_toArray, List.set_cons_zero, List.set_cons_succ]
      refine k_load (b := b2) (c := cv) rfl _ _ rfl rfl .head wordN_type wordN_size SV ?_; try simp only [Act.put, List.setIfInBounds_toArray, List.set_cons_zero, List.set_cons_succ]
      refine k_in (v := .agg cz) rfl (fun w' h => HX.out w' _ _ rfl) ?_; try simp only [Act.put, List.setIfInBounds_toArray, List.set_cons_zero, List.set_cons_succ]
      refine k_in (v := .bool true) rfl (fun w' h => HN.out w' _ _ _ _ _ rfl rfl rfl) ?_; try simp only [Act.put, List.setIfInBounds_toArray, List.set_cons_zero, List.set_cons_succ]
      refine k_pickT (t := true) rfl _ _ _ rfl rfl rfl ?_; try simp only [Act.put, List.setIfInBounds_toArray, List.set_cons_zero, List.set_cons_succ]
      refine k_end ?_
      clear hS
      intro w3 hS
      go_wp2
      go_ret
      exact ⟨rfl, hS.frame⟩
  · have e1 : decide (U = zs32) = false := decide_eq_false h1
    simp only [e1] at HE
    rw [if_neg (fun h => h1 h.1)]
    generalize wv U = cu at *
    generalize wv V = cv at *
    generalize wv zs32 = cz at *
    clear e1 h1
    go_enter Try.func11, Try.ntmps11
    go_upto_region 1 with (first
      | (have _t := b1; clear _t; refine st_box hS rfl 25 _ rfl rfl ?_; clear hS; intro w2 b2 hS)
      | (refine st_box hS rfl 25 _ rfl rfl ?_; clear hS; intro w1 b1 hS))
    try simp only [Act.put, List.setIfInBounds_toArray, List.set_cons_zero, List.set_cons_succ]
    refine k_seq (C := fun w' => St [] w w' [(b2, 25, cv), (b1, 25, cu)]) hS ?_
    refine k_load (b := b1) (c := cu) rfl _ _ rfl rfl (.tail .head) wordN_type wordN_size SU ?_; try simp only [Act.put, List.setIfInBounds_toArray, List.set_cons_zero, List.set_cons_succ]
    refine k_in (v := .agg cz) rfl (fun w' h => HX.out w' _ _ rfl) ?_; try simp only [Act.put, List.setIfInBounds_toArray, List.set_cons_zero, List.set_cons_succ]
    refine k_in (v := .bool false) rfl (fun w' h => HE.out w' _ _ _ _ _ rfl rfl rfl) ?_; try simp only [Act.put, List.setIfInBounds_toArray, List.set_cons_zero, List.set_cons_succ]
    refine k_val (v := .bool false) rfl _ (.inl rfl) rfl ?_; try simp only [Act.put, List.setIfInBounds_toArray, List.set_cons_zero, List.set_cons_succ]
    refine k_skip rfl rfl rfl rfl rfl ?_; try simp only [Act.put, List.setIfInBounds_toArray, List.set_cons_zero, List.set_cons_succ]
    refine k_skip rfl rfl rfl rfl rfl ?_; try simp only [Act.put, List.setIfInBounds_toArray, List.set_cons_zero, List.set_cons_succ]
    refine k_skip rfl rfl rfl rfl rfl ?_; try simp only [Act.put, List.setIfInBounds_toArray, List.set_cons_zero, List.set_cons_succ]
    refine k_pickF (t := false) rfl _ _ _ rfl rfl rfl ?_; try simp only [Act.put, List.setIfInBounds_toArray, List.set_cons_zero, List.set_cons_succ]
    refine k_end ?_
    clear hS
    intro w3 hS
    go_wp2
    go_ret
    exact ⟨rfl, hS.frame⟩
theorem zero_word14 : (Try.prog.info? 25).bind (·.zero) = some (.agg (wv zs32)) := by kernel_rfl
theorem ones_zs14 : (wv zs32).all (·.oneCell') = true := by kernel_rfl
theorem pstoreG_any (U V : List Nat) (hU : Wd U) (hV : Wd V) (w : World) : Calls Try.prog 10 #[.agg (wv U), .agg (wv V)] w fun e w' => e = .returned (.int .i64 (storeG U V)) ∧ Tch [] w w' := by
  have SU : (wv U).size = 32 := bc_size _ _
  have SV : (wv V).size = 32 := bc_size _ _
  have SZ : (wv zs32).size = 32 := bc_size _ _
  have HZ := Lib.hid zero_word14
  have HO := Lib.hid ones_zs14
  have HX := Lib.hid (fun w' (o : Oper) (a : Act) h1 => x_buildW (o := o) (a := a) (w := w') h1)
  have HE := Lib.hid (fun w' (o : Oper) (a : Act) xo yo yt h1 h2 h3 => x_eqW (o := o) (a := a) (w := w') hU zs32_ok xo yo yt h1 h2 h3)
  have HN := Lib.hid (fun w' (o : Oper) (a : Act) xo yo yt h1 h2 h3 => x_neqW2 (o := o) (a := a) (w := w') hV zs32_ok xo yo yt h1 h2 h3)
  have hS := St.start w
  unfold storeG
  clear hU hV
  by_cases h1 : U = zs32
  · have e1 : decide (U = zs32) = true := decide_eq_true h1
    by_cases h2 : V = zs32
    · have e2 : (!decide (V = zs32)) = false := by rw [decide_eq_true h2]; rfl
      simp only [e1] at HE
      simp only [e2] at HN
      rw [if_neg (fun h => h.2 h2)]
      generalize wv U = cu at *
      generalize wv V = cv at *
      generalize wv zs32 = cz at *
      clear e1 h1 e2 h2
      go_enter Try.func10, Try.ntmps10
      go_upto_region 2 with (first
        | (have _t := b1; clear _t; refine st_box hS rfl 25 _ rfl rfl ?_; clear hS; intro w2 b2 hS)
        | (refine st_box hS rfl 25 _ rfl rfl ?_; clear hS; intro w1 b1 hS)
        | (with_reducible refine st_x rfl (HX.out _ _ _ rfl) ?_)
        | (refine st_new (c := cz) hS rfl 25 rfl HZ.out ?_; clear hS; intro w4 b3 hS)
        | (refine st_store (b := b3) (c := cz) (c' := cz) hS rfl 25 _ _ rfl rfl rfl .head wordN_size SZ SZ HO.out ?_; clear hS; intro w5 hS))
      try simp only [Act.put, List.setIfInBounds_toArray, List.set_cons_zero, List.set_cons_succ]
      refine k_seq (C := fun w' => St [] w w' [(b3, 25, cz), (b2, 25, cv), (b1, 25, cu)]) hS ?_
      refine k_load (b := b1) (c := cu) rfl _ _ rfl rfl (.tail (.tail .head)) wordN_type wordN_size SU ?_; try simp only [Act.put, List.setIfInBounds_toArray, List.set_cons_zero, List.set_cons_succ]
      refine k_load (b := b3) (c := cz) rfl _ _ rfl rfl .head wordN_type wordN_size SZ ?_; try simp only [Act.put, List.setIfInBounds_toArray, List.set_cons_zero, List.set_cons_succ]
      refine k_in (v := .bool true) rfl (fun w' h => HE.out w' _ _ _ _ _ rfl rfl rfl) ?_; try simp only [Act.put, List.setIfInBounds_toArray, List.set_cons_zero, List.set_cons_succ]
      refine k_val (v := .bool true) rfl _ (.inl rfl) rfl ?_; try simp only [Act.put, List.setIfInBounds_toArray, List.set_cons_zero, List.set_cons_succ]
      refine k_load (b := b2) (c := cv) rfl _ _ rfl rfl (.tail .head) wordN_type wordN_size SV ?_; try simp only [Act.put, List.setIfInBounds_toArray, List.set_cons_zero, List.set_cons_succ]
      refine k_load (b := b3) (c := cz) rfl _ _ rfl rfl .head wordN_type wordN_size SZ ?_; try simp only [Act.put, List.setIfInBounds_toArray, List.set_cons_zero, List.set_cons_succ]
      refine k_in (v := .bool false) rfl (fun w' h => HN.out w' _ _ _ _ _ rfl rfl rfl) ?_; try simp only [Act.put, List.setIfInBounds_toArray, List.set_cons_zero, List.set_cons_succ]
      refine k_pickT (t := false) rfl _ _ _ rfl rfl rfl ?_; try simp only [Act.put, List.setIfInBounds_toArray, List.set_cons_zero, List.set_cons_succ]
      refine k_end ?_
      clear hS
      intro w3 hS
      go_wp2
      go_ret
      exact ⟨rfl, hS.frame⟩
    · have e2 : (!decide (V = zs32)) = true := by rw [decide_eq_false h2]; rfl
      simp only [e1] at HE
      simp only [e2] at HN
      rw [if_pos (And.intro h1 h2)]
      generalize wv U = cu at *
      generalize wv V = cv at *
      generalize wv zs32 = cz at *
      clear e1 h1 e2 h2
      go_enter Try.func10, Try.ntmps10
      go_upto_region 2 with (first
        | (have _t := b1; clear _t; refine st_box hS rfl 25 _ rfl rfl ?_; clear hS; intro w2 b2 hS)
        | (refine st_box hS rfl 25 _ rfl rfl ?_; clear hS; intro w1 b1 hS)
        | (with_reducible refine st_x rfl (HX.out _ _ _ rfl) ?_)
        | (refine st_new (c := cz) hS rfl 25 rfl HZ.out ?_; clear hS; intro w4 b3 hS)
        | (refine st_store (b := b3) (c := cz) (c' := cz) hS rfl 25 _ _ rfl rfl rfl .head wordN_size SZ SZ HO.out ?_; clear hS; intro w5 hS))
      try simp only [Act.put, List.setIfInBounds_toArray, List.set_cons_zero, List.set_cons_succ]
      refine k_seq (C := fun w' => St [] w w' [(b3, 25, cz), (b2, 25, cv), (b1, 25, cu)]) hS ?_
      refine k_load (b := b1) (c := cu) rfl _ _ rfl rfl (.tail (.tail .head)) wordN_type wordN_size SU ?_; try simp only [Act.put, List.setIfInBounds_toArray, List.set_cons_zero, List.set_cons_succ]
      refine k_load (b := b3) (c := cz) rfl _ _ rfl rfl .head wordN_type wordN_size SZ ?_; try simp only [Act.put, List.setIfInBounds_toArray, List.set_cons_zero, List.set_cons_succ]
      refine k_in (v := .bool true) rfl (fun w' h => HE.out w' _ _ _ _ _ rfl rfl rfl) ?_; try simp only [Act.put, List.setIfInBounds_toArray, List.set_cons_zero, List.set_cons_succ]
      refine k_val (v := .bool true) rfl _ (.inl rfl) rfl ?_; try simp only [Act.put, List.setIfInBounds_toArray, List.set_cons_zero, List.set_cons_succ]
      refine k_load (b := b2) (c := cv) rfl _ _ rfl rfl (.tail .head) wordN_type wordN_size SV ?_; try simp only [Act.put, List.setIfInBounds_toArray, List.set_cons_zero, List.set_cons_succ]
      refine k_load (b := b3) (c := cz) rfl _ _ rfl rfl .head wordN_type wordN_size SZ ?_; try simp only [Act.put, List.setIfInBounds_toArray, List.set_cons_zero, List.set_cons_succ]
      refine k_in (v := .bool true) rfl (fun w' h => HN.out w' _ _ _ _ _ rfl rfl rfl) ?_; try simp only [Act.put, List.setIfInBounds_toArray, List.set_cons_zero, List.set_cons_succ]
      refine k_pickT (t := true) rfl _ _ _ rfl rfl rfl ?_; try simp only [Act.put, List.setIfInBounds_toArray, List.set_cons_zero, List.set_cons_succ]
      refine k_end ?_
      clear hS
      intro w3 hS
      go_wp2
      go_ret
      exact ⟨rfl, hS.frame⟩
  · have e1 : decide (U = zs32) = false := decide_eq_false h1
    simp only [e1] at HE
    rw [if_neg (fun h => h1 h.1)]
    generalize wv U = cu at *
    generalize wv V = cv at *
    generalize wv zs32 = cz at *
    clear e1 h1
    go_enter Try.func10, Try.ntmps10
    go_upto_region 2 with (first
      | (have _t := b1; clear _t; refine st_box hS rfl 25 _ rfl rfl ?_; clear hS; intro w2 b2 hS)
      | (refine st_box hS rfl 25 _ rfl rfl ?_; clear hS; intro w1 b1 hS)
      | (with_reducible refine st_x rfl (HX.out _ _ _ rfl) ?_)
      | (refine st_new (c := cz) hS rfl 25 rfl HZ.out ?_; clear hS; intro w4 b3 hS)
      | (refine st_store (b := b3) (c := cz) (c' := cz) hS rfl 25 _ _ rfl rfl rfl .head wordN_size SZ SZ HO.out ?_; clear hS; intro w5 hS))
    try simp only [Act.put, List.setIfInBounds_toArray, List.set_cons_zero, List.set_cons_succ]
    refine k_seq (C := fun w' => St [] w w' [(b3, 25, cz), (b2, 25, cv), (b1, 25, cu)]) hS ?_
    refine k_load (b := b1) (c := cu) rfl _ _ rfl rfl (.tail (.tail .head)) wordN_type wordN_size SU ?_; try simp only [Act.put, List.setIfInBounds_toArray, List.set_cons_zero, List.set_cons_succ]
    refine k_load (b := b3) (c := cz) rfl _ _ rfl rfl .head wordN_type wordN_size SZ ?_; try simp only [Act.put, List.setIfInBounds_toArray, List.set_cons_zero, List.set_cons_succ]
    refine k_in (v := .bool false) rfl (fun w' h => HE.out w' _ _ _ _ _ rfl rfl rfl) ?_; try simp only [Act.put, List.setIfInBounds_toArray, List.set_cons_zero, List.set_cons_succ]
    refine k_val (v := .bool false) rfl _ (.inl rfl) rfl ?_; try simp only [Act.put, List.setIfInBounds_toArray, List.set_cons_zero, List.set_cons_succ]
    refine k_skip rfl rfl rfl rfl rfl ?_; try simp only [Act.put, List.setIfInBounds_toArray, List.set_cons_zero, List.set_cons_succ]
    refine k_skip rfl rfl rfl rfl rfl ?_; try simp only [Act.put, List.setIfInBounds_toArray, List.set_cons_zero, List.set_cons_succ]
    refine k_skip rfl rfl rfl rfl rfl ?_; try simp only [Act.put, List.setIfInBounds_toArray, List.set_cons_zero, List.set_cons_succ]
    refine k_pickF (t := false) rfl _ _ _ rfl rfl rfl ?_; try simp only [Act.put, List.setIfInBounds_toArray, List.set_cons_zero, List.set_cons_succ]
    refine k_end ?_
    clear hS
    intro w3 hS
    go_wp2
    go_ret
    exact ⟨rfl, hS.frame⟩
end Go.Proofs.Ytbbebejdfgakfaa
