/- Words of ints; SameWords of equal words; the example of the document. -/
import Derived.Test.YtlliidfkjlmadaaIA
import Derived.Test.YtlliidfkjlmadaaI6
set_option linter.unusedVariables false
set_option linter.unusedSimpArgs false
namespace Go.Proofs.Ytlliidfkjlmadaa
open Go.RowKit
set_option maxRecDepth 100000
set_option maxHeartbeats 4000000

theorem rOfW_any (n : Int) (hn : -9223372036854775808 ≤ n ∧ n ≤ 9223372036854775807) (w : World) :
    Calls Try.prog 17 #[.int .i64 n] w fun e w' => e = .returned (.agg (wv (wof n))) ∧ Tch [] w w' := by
  rw [wv_wof]; exact rOf_any n hn w
theorem behN_wof (a n : Nat) (ha : a < 9223372036854775808) (hn : n < 9223372036854775808) : behN (wof (a : Int)) (wof (n : Int)) = if a + n ≤ 1048576 then some (a + n) else none := by
  unfold behN
  rw [wInt_wof a ha, wInt_wof n hn]
/-- A memory that was to have n bytes. -/
theorem growL_wof (L : List Nat) (n : Nat) (hn : n ≤ 1048576) : growL L (wof (0 : Int)) (wof (n : Int)) = L ++ List.replicate ((wds n - wds L.length) * 32) 0 := by
  unfold growL
  by_cases h0 : n = 0
  · subst h0
    rw [if_pos (by exact wof_zero)]
    simp [wds]
  · rw [if_neg (wof_ne (by omega) h0)]
    have hb := behN_wof 0 n (by omega) (by omega)
    rw [if_pos (by omega), Nat.zero_add] at hb
    have e : ((0 : Nat) : Int) = 0 := rfl
    rw [e] at hb
    simp only [hb]
theorem growOk_wof (n : Nat) (hn : n ≤ 1048576) : growOk (wof (0 : Int)) (wof (n : Int)) = true := by
  unfold growOk
  have hb := behN_wof 0 n (by omega) (by omega)
  rw [if_pos (by omega)] at hb
  have e : ((0 : Nat) : Int) = 0 := rfl
  rw [e] at hb
  rw [hb]; simp
theorem growG_wof (L : List Nat) (n : Nat) (hn : n ≤ 1048576) : growG L (wof (0 : Int)) (wof (n : Int)) = costN (max (wds n) (wds L.length)) - costN (wds L.length) := by
  unfold growG
  by_cases h0 : n = 0
  · subst h0
    rw [if_pos (by exact wof_zero), show wds 0 = 0 from rfl, Nat.max_eq_right (Nat.zero_le _), Nat.sub_self]
  · rw [if_neg (wof_ne (by omega) h0)]
    have hb := behN_wof 0 n (by omega) (by omega)
    rw [if_pos (by omega), Nat.zero_add] at hb
    have e : ((0 : Nat) : Int) = 0 := rfl
    rw [e] at hb
    simp only [hb]
    split
    · rename_i h
      rw [Nat.max_eq_right h, Nat.sub_self]
    · rename_i h
      rw [Nat.max_eq_left (by omega)]
theorem equal_wordsI (d : Nat) {V U : List Nat} (hV : Wd V) (hU : Wd U) (w : World) : (Op.equalIn (d + 2) 37 (.agg (wv V)) (.agg (wv U))).run Try.prog w = .ok (decide (V = U)) w := by
  have h := run_equalIn_bytes (P := Try.prog) w d 37 5 32 wordN_type byte_ty (fun w => sizeOf_u8 w) (bytesOfI 32 (fun i => V.getD i 0)) (bytesOfI 32 (fun i => U.getD i 0)) (by simp [bytesOfI]) (by simp [bytesOfI])
  rw [← bc_bytesI 32 _ hV.get, ← bc_bytesI 32 _ hU.get] at h
  refine h.trans ?_
  congr 1
  rw [Bool.eq_iff_iff, beq_iff_eq, decide_eq_true_eq]
  exact ⟨fun e => wv_inj hV.1 hU.1 (show bc 32 _ = bc 32 _ by rw [bc_bytesI 32 _ hV.get, bc_bytesI 32 _ hU.get, e]), fun e => by rw [e]⟩
theorem word_guardI (x y : Operand) (c d : Array Value) (w : World) : (eqGuard .neq 37 x y (.agg c) (.agg d)).run Try.prog w = .ok () w := run_eqGuard_agg w .neq _ x y c d (by kernel_rfl)
theorem x_neqW {o : Oper} {a : Act} {w : World} {V : List Nat} (hV : Wd V) (xo yo : Operand) (yt : TypeId) (ho : o.op = .binOp .neq 37 xo yo yt) (hxe : a.eval xo = .agg (wv V)) (hye : a.eval yo = .agg (wv V)) : (execOp a.eval o).run Try.prog w = .ok (.value (.bool false)) w := by
  have h := run_neq_struct (P := Try.prog) w 37 (wv V) (wv V)
  rw [equal_wordsI 9998 hV hV w] at h
  unfold execOp
  simp only [ho, hxe, hye]
  show Sem.run _ _ w = _
  simp only [Sem.run_bind, word_guardI, Result.andThen_ok, h, Sem.run_pure]
  simp
/-- A slice of words in memory. -/
theorem own_sliceW {w : World} {B n : Nat} {v : Value} {Ws : List (List Nat)} (h : w.ownsRow B 37 32 v n (wcs Ws)) : ∃ p c, v = .slice p n c ∧ n = Ws.length ∧ (0 < n → ∃ g, p = some ⟨g, 0, none⟩) := by
  have hl := h.1
  rw [wcs_len] at hl
  rcases h.2 with ⟨rfl, rfl⟩ | ⟨g, cap, cur, rfl, _⟩
  · exact ⟨none, 0, rfl, by omega, fun h => absurd h (Nat.lt_irrefl 0)⟩
  · exact ⟨_, cap, rfl, by omega, fun _ => ⟨g, rfl⟩⟩
theorem sameWords_any (v u : Value) (Ws : List (List Nat)) (B C : Nat) (w : World) (hv : w.ownsRow B 37 32 v Ws.length (wcs Ws)) (hu : w.ownsRow C 37 32 u Ws.length (wcs Ws)) (hW : ∀ W ∈ Ws, Wd W) (hlen : Ws.length ≤ 1000000) :
    Calls Try.prog 14 #[v, u] w fun e w' => e = .returned (.bool true) ∧ Tch [] w w' := by
  obtain ⟨p, c, rfl, _, hp⟩ := own_sliceW hv
  obtain ⟨q, d, rfl, _, hq⟩ := own_sliceW hu
  have HV := Lib.hid (fun w' (hT : Tch [] w w') => own_far hv hT (by simp))
  have HU := Lib.hid (fun w' (hT : Tch [] w w') => own_far hu hT (by simp))
  have HW := Lib.hid hW
  clear hv hu hW
  have d1 : ((Ws.length : Int) != (Ws.length : Int)) = false := by simp
  go_enter Try.func14, Try.ntmps14
  go_upto_region 4 with (fail)
  clear d1
  go_loopw [5] (fun i wr => ∃ k : Nat, i = .int .i64 (k : Int) ∧ k ≤ Ws.length ∧ Tch [] w wr) (fun i _ => Ws.length - (intOf i).toNat)
  case atStart => exact ⟨0, rfl, Nat.zero_le _, Tch.refl _ _⟩
  case round =>
    obtain ⟨k, rfl, hk, hT⟩ := hrel
    by_cases hlt : k < Ws.length
    · have hlt' : (k : Int) < (Ws.length : Int) := by omega
      obtain ⟨g, rfl⟩ := hp (by omega)
      obtain ⟨g', rfl⟩ := hq (by omega)
      have HWk := Lib.hid (HW.out _ (List.getElem_mem hlt))
      have HO := Lib.hid (fun w' (hT' : Tch [] wr w') => HV.out w' (hT.trans hT'))
      have HO2 := Lib.hid (fun w' (hT' : Tch [] wr w') => HU.out w' (hT.trans hT'))
      go_upto_region 6 with (fail)
      try simp only [Act.put, List.setIfInBounds_toArray, List.set_cons_zero, List.set_cons_succ]
      refine k_region (C := fun w' => Tch [] wr w') (by kernel_rfl) (by kernel_rfl) ((Tch.refl _ _).drew) ?_
      refine k_val (v := .slice (some ⟨g, 0, none⟩) Ws.length c) rfl _ (.inl rfl) rfl ?_; try simp only [Act.put, List.setIfInBounds_toArray, List.set_cons_zero, List.set_cons_succ]
      refine k_val (v := .int .i64 (k : Int)) rfl _ (.inl rfl) rfl ?_; try simp only [Act.put, List.setIfInBounds_toArray, List.set_cons_zero, List.set_cons_succ]
      refine k_in (v := .pointer (some ⟨g, k * 32, none⟩)) rfl (fun w' h => x_idxW _ _ rfl rfl rfl hlt) ?_; try simp only [Act.put, List.setIfInBounds_toArray, List.set_cons_zero, List.set_cons_succ]
      refine k_in (v := .agg (wv Ws[k])) rfl (fun w' h => x_ldW _ rfl rfl (HO.out w' h) hlt rfl) ?_; try simp only [Act.put, List.setIfInBounds_toArray, List.set_cons_zero, List.set_cons_succ]
      refine k_val (v := .slice (some ⟨g', 0, none⟩) Ws.length d) rfl _ (.inl rfl) rfl ?_; try simp only [Act.put, List.setIfInBounds_toArray, List.set_cons_zero, List.set_cons_succ]
      refine k_val (v := .int .i64 (k : Int)) rfl _ (.inl rfl) rfl ?_; try simp only [Act.put, List.setIfInBounds_toArray, List.set_cons_zero, List.set_cons_succ]
      refine k_in (v := .pointer (some ⟨g', k * 32, none⟩)) rfl (fun w' h => x_idxW _ _ rfl rfl rfl hlt) ?_; try simp only [Act.put, List.setIfInBounds_toArray, List.set_cons_zero, List.set_cons_succ]
      refine k_in (v := .agg (wv Ws[k])) rfl (fun w' h => x_ldW _ rfl rfl (HO2.out w' h) hlt rfl) ?_; try simp only [Act.put, List.setIfInBounds_toArray, List.set_cons_zero, List.set_cons_succ]
      refine k_in (v := .bool false) rfl (fun w' h => x_neqW HWk.out _ _ _ rfl rfl rfl) ?_; try simp only [Act.put, List.setIfInBounds_toArray, List.set_cons_zero, List.set_cons_succ]
      refine k_end ?_
      intro w2 hT2
      go_wp2
      go_roundw
      case rel => exact ⟨k + 1, by go_num, hlt, hT.trans hT2⟩
      case measure => simp [intOf]; omega
    · obtain rfl : k = Ws.length := by omega
      go_wp2
      go_ret
      exact ⟨rfl, hT⟩
theorem alive13 (w : World) : Calls Try.prog 8 #[] w fun e w' => e = .returned (.bool true) ∧ Tch [] w w' := by
  have HO0 := Lib.hid (fun w' => rOfW_any 0 (by omega) w')
  have HO33 := Lib.hid (fun w' => rOfW_any 33 (by omega) w')
  have HG := Lib.hid (fun b w' (h : MemIn w.heap.size 26 w' b (.slice none 0 0) []) => grow_any w.heap.size b (.slice none 0 0) [] (wof 0) (wof 33) w' h (by decide) (wof_ok _) (wof_ok _))
  have e1 : growL [] (wof 0) (wof 33) = List.replicate 64 0 := growL_wof [] 33 (by decide)
  have e2 : growG [] (wof 0) (wof 33) = 6 := growG_wof [] 33 (by decide)
  have e3 : growOk (wof 0) (wof 33) = true := growOk_wof 33 (by decide)
  rw [e1, e2, e3] at HG
  generalize wv (wof 0) = c0 at *
  generalize wv (wof 33) = c33 at *
  clear e1 e2 e3
  have hS := St.start w
  go_enter Try.func8, Try.ntmps8
  go_upto_region 3 with (first
    | (refine st_new hS rfl 26 rfl memP_zero ?_; clear hS; intro w1 b1 hS)
    | (have _t := w2; clear _t; go_at_call 17; go_must (refine (HO33.out _).mono ?_; rintro e w3 ⟨rfl, hT3⟩; replace hS := hS.call hT3; clear hT3))
    | (go_at_call 17; go_must (refine (HO0.out _).mono ?_; rintro e w2 ⟨rfl, hT2⟩; replace hS := hS.call hT2; clear hT2))
    | (go_at_call 16; go_must (refine (HG.out _ _ (RowIn.new (L := []) (hS.get .head) ((hS.own .head).elim id (fun h => by simp at h)))).mono ?_; rintro e w4 ⟨v4, rfl, hM4, hT4⟩)))
  have hT := Tch.fresh hS.frame hT4.tch (fun x hx => by
    rcases mem_fpr.1 hx with rfl | hx
    · exact (hS.own .head).elim id (fun h => by simp at h)
    · cases hx)
  have hZ := fun w' (h : Tch [] w4 w') => (size_any _ _ _ _ w' (hM4.call h)).mono (fun e w'' (q : e = .returned (.int .i64 ((List.replicate 64 0 : List Nat).length : Int)) ∧ w'' = w') => And.intro q.1 (q.2 ▸ h : Tch [] w4 w''))
  have HZ := Lib.hid hZ
  clear hZ hS hM4 hT4
  try simp only [Act.put, List.setIfInBounds_toArray, List.set_cons_zero, List.set_cons_succ]
  refine k_seq (C := fun w' => Tch [] w4 w') (Tch.refl _ _) ?_
  refine k_val (v := .bool true) rfl _ (.inl rfl) rfl ?_; try simp only [Act.put, List.setIfInBounds_toArray, List.set_cons_zero, List.set_cons_succ]
  refine k_val (v := .bool true) rfl _ (.inl rfl) rfl ?_; try simp only [Act.put, List.setIfInBounds_toArray, List.set_cons_zero, List.set_cons_succ]
  refine k_val (v := .int .i64 6) rfl _ (.inl rfl) rfl ?_; try simp only [Act.put, List.setIfInBounds_toArray, List.set_cons_zero, List.set_cons_succ]
  refine k_eqlI (m := 6) (n := 6) (t := true) rfl _ _ _ rfl rfl rfl rfl ?_; try simp only [Act.put, List.setIfInBounds_toArray, List.set_cons_zero, List.set_cons_succ]
  refine k_pickT (t := true) rfl _ _ _ rfl rfl rfl ?_; try simp only [Act.put, List.setIfInBounds_toArray, List.set_cons_zero, List.set_cons_succ]
  refine k_val (v := .bool true) rfl _ (.inl rfl) rfl ?_; try simp only [Act.put, List.setIfInBounds_toArray, List.set_cons_zero, List.set_cons_succ]
  refine k_callC1 (v := .int .i64 64) rfl rfl rfl Try.call10 (fun w' h => HZ.out w' h) ?_; try simp only [Act.put, List.setIfInBounds_toArray, List.set_cons_zero, List.set_cons_succ]
  refine k_eqlI (m := 64) (n := 64) (t := true) rfl _ _ _ rfl rfl rfl rfl ?_; try simp only [Act.put, List.setIfInBounds_toArray, List.set_cons_zero, List.set_cons_succ]
  refine k_pickT (t := true) rfl _ _ _ rfl rfl rfl ?_; try simp only [Act.put, List.setIfInBounds_toArray, List.set_cons_zero, List.set_cons_succ]
  refine k_val (v := .bool true) rfl _ (.inr rfl) rfl ?_; try simp only [Act.put, List.setIfInBounds_toArray, List.set_cons_zero, List.set_cons_succ]
  refine k_end ?_
  intro w5 hT5
  go_wp2
  go_ret
  exact ⟨rfl, hT.trans hT5⟩
end Go.Proofs.Ytlliidfkjlmadaa
