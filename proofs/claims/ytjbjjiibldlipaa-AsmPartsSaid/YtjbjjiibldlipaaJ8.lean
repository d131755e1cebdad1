/- The document's line. -/
import Derived.Test.YtjbjjiibldlipaaJ7
namespace Go.Proofs.Ytjbjjiibldlipaa
open Go.RowKit

theorem idxS (T : List Nat) (k : Nat) (h : k < T.length) (hT : ∀ x ∈ T, x < 256) (w : World) : (Instr.index 9 (.string (strB T)) (.int .i64 (k : Int))).run Try.prog w = .ok (.int .u8 ((T.getD k 0 : Nat) : Int)) w := by
  have hs := strB_size T
  rw [run_index_string (P := Try.prog) w 9 (strB T) .i64 (k : Int) string_ty, dif_pos (by omega)]
  have e := get_data (strB T) k (by omega)
  rw [strB_data, List.getElem?_map, List.getElem?_eq_getElem h] at e
  have e2 : UInt8.ofNat T[k] = (strB T)[k]'(by omega) := by simpa using e
  have e3 : T.getD k 0 = T[k] := by simp [h]
  have e4 := hT T[k] (List.getElem_mem h)
  have e5 : (((strB T)[k]'(by omega)).toNat : Int) = ((T.getD k 0 : Nat) : Int) := by
    rw [← e2, UInt8.toNat_ofNat', e3, Nat.mod_eq_of_lt (by omega)]
  exact congrArg (fun z : Int => Result.ok (Value.int .u8 z) w) e5
section
variable {o : Oper} {a : Act} {ops : Array Oper} {rest : List Oper} {C : World → Prop} {Q : Act → Prop}
theorem k_notV {s t : Bool} (hw : Region.wanted o (yielded ops a.tmps) = true) (ty : TypeId) (xo : Operand) (ho : o.op = .unOp .not ty xo) (hx : a.eval xo = .bool s) (ht : (!s) = t)
    (h : KQ ops C Q rest (a.put o.dst (.bool t))) : KQ ops C Q (o :: rest) a := k_not hw ty xo ho hx (by rw [ht]; exact h)
theorem k_idxX {ty : TypeId} {x y : Operand} {vx vy v : Value} (hw : Region.wanted o (yielded ops a.tmps) = true) (ho : o.op = .index ty x y) (hx : a.eval x = vx) (hy : a.eval y = vy) (hr : ∀ w, (Instr.index ty vx vy).run Try.prog w = .ok v w)
    (h : KQ ops C Q rest (a.put o.dst v)) : KQ ops C Q (o :: rest) a :=
  k_pure hw (fun w => by unfold execOp; simp only [ho, hx, hy, Sem.run_bind, hr, Result.andThen_ok, Sem.run_pure]) h
theorem k_u8n {t : Bool} {m n : Int} (hw : Region.wanted o (yielded ops a.tmps) = true) (xo yo : Operand) (yt : TypeId) (ho : o.op = .binOp .neq 5 xo yo yt)
    (hxe : a.eval xo = .int .u8 m) (hye : a.eval yo = .int .u8 n) (hxy : (m != n) = t) (h : KQ ops C Q rest (a.put o.dst (.bool t))) : KQ ops C Q (o :: rest) a :=
  k_pure hw (fun w => by unfold execOp; simp only [ho, hxe, hye]; show Sem.run _ _ w = _; simp [eqGuard, binOp, Op.intCmp, ← hxy, bne]) h
theorem k_booln {s r t : Bool} (hw : Region.wanted o (yielded ops a.tmps) = true) (xo yo : Operand) (yt : TypeId) (ho : o.op = .binOp .neq 4 xo yo yt)
    (hxe : a.eval xo = .bool s) (hye : a.eval yo = .bool r) (hxy : (s != r) = t) (h : KQ ops C Q rest (a.put o.dst (.bool t))) : KQ ops C Q (o :: rest) a :=
  k_pure hw (fun w => by unfold execOp; simp only [ho, hxe, hye]; show Sem.run _ _ w = _; simp [eqGuard, binOp]; show ((Sem.run Try.prog (Op.equalIn (9999 + 1) 4 (.bool s) (.bool r)) w).andThen _) = _; unfold Op.equalIn; simp [run_underlying bool_ty, ← hxy, bne]) h
end
theorem word1_ne {T : List Nat} {k : Nat} (h : k < (word1 T).length) : T.getD k 0 ≠ 32 := by
  have h2 := word1_le T
  have e : T.getD k 0 = (word1 T)[k] := by
    have h3 : (word1 T)[k]? = T[k]? := by rw [← word1_take T, List.getElem?_take, if_pos (by omega)]
    rw [List.getElem?_eq_getElem h, List.getElem?_eq_getElem (by omega)] at h3
    simp [show k < T.length by omega]; simpa using h3.symm
  rw [e]
  have hm : (word1 T)[k] ∈ T.takeWhile (· != 32) := List.getElem_mem h
  have := List.all_takeWhile (p := (· != 32)) (l := T)
  have := (List.all_eq_true.1 this) _ hm
  simpa using this
theorem word1_eq : ∀ {T : List Nat}, (word1 T).length < T.length → T.getD (word1 T).length 0 = 32
  | [], h => by simp at h
  | x :: T, h => by
    by_cases e : x = 32
    · subst e
      have : word1 (32 :: T) = [] := by unfold word1; rw [List.takeWhile_cons, if_neg (by decide)]
      rw [this]; rfl
    · have hw : word1 (x :: T) = x :: word1 T := by unfold word1; rw [List.takeWhile_cons, if_pos (by simpa using e)]
      rw [hw] at h ⊢
      rw [List.length_cons, List.getD_cons_succ]
      exact word1_eq (by simpa using h)
theorem RdB.shape {w : World} {v : Value} {l : List Nat} (h : RdB w v l) : ∃ p c, v = .slice p l.length c ∧ RdB w (.slice p l.length c) l := by
  obtain ⟨p, c, rfl, h2⟩ := h
  exact ⟨p, c, rfl, p, c, rfl, h2⟩
def LnPost (T : List Nat) (w : World) (e : Ending) (w' : World) : Prop :=
  Tch [] w w' ∧ match rdLn T with
    | none => ∃ u, e = .returned (.tuple #[u, .bool false])
    | some b => ∃ v', e = .returned (.tuple #[v', .bool true]) ∧ RdB w' v' b
theorem lnpost_no {w w' : World} {T : List Nat} {u : Value} (h : rdLn T = none) (hT : Tch [] w w') : LnPost T w (.returned (.tuple #[u, .bool false])) w' :=
  ⟨hT, by rw [h]; exact ⟨u, rfl⟩⟩
theorem lnpost_yes {w w' : World} {T b : List Nat} {u : Value} (h : rdLn T = some b) (hT : Tch [] w w') (ho : RdB w' u b) : LnPost T w (.returned (.tuple #[u, .bool true])) w' :=
  ⟨hT, by rw [h]; exact ⟨u, rfl, ho⟩⟩
theorem lnpost_if {w w' : World} {T b : List Nat} {u : Value} {t : Bool} (h : rdLn T = if t then some b else none) (hT : Tch [] w w') (ho : RdB w' u b) : LnPost T w (.returned (.tuple #[u, .bool t])) w' := by
  refine ⟨hT, ?_⟩
  rw [h]
  cases t
  · exact ⟨u, rfl⟩
  · exact ⟨u, rfl, ho⟩
set_option maxHeartbeats 4000000 in
set_option maxRecDepth 100000 in
theorem rline_any (T : List Nat) (w : World) (hT : ∀ x ∈ T, x < 256) (hm : T.length ≤ 300000) :
    Calls Try.prog 21 #[.string (strB T)] w (LnPost T w) := by
  have hle := word1_le T
  have HS := Lib.hid (strB_size T)
  have HT := Lib.hid hT
  have HWT := Lib.hid (word1_lt hT)
  have HO := Lib.hid (fun w1 => rop_any (word1 T) w1 (word1_lt hT))
  have HTK := Lib.hid (word1_take T)
  have HSL := Lib.hid (sls_to T (word1 T).length hle)
  rw [HTK.out] at HSL
  clear hT
  go_enter Try.func21, Try.ntmps21
  go_upto_region 2 with (fail)
  go_loopw [4] (fun i wr => ∃ k : Nat, i = .int .i64 (k : Int) ∧ k ≤ (word1 T).length ∧ Tch [] w wr) (fun i _ => T.length - (intOf i).toNat)
  case atStart => exact ⟨0, rfl, Nat.zero_le _, Tch.refl _ _⟩
  case round =>
    obtain ⟨k, rfl, hk, hT0⟩ := hrel
    by_cases hlt : k < (word1 T).length
    · have HD := Lib.hid (show decide ((k : Int) < ((strB T).size : Int)) = true from decide_eq_true (by rw [HS.out]; omega))
      have HN := Lib.hid (show (((T.getD k 0 : Nat) : Int) != 32) = true by have := word1_ne hlt; rw [bne_iff_ne]; omega)
      have HI := Lib.hid (idxS T k (by omega) HT.out)
      go_upto_region 2 with (fail)
      refine k_seq (C := fun w' => Tch [] w w') hT0 ?_
      refine k_val (v := .int .i64 (k : Int)) rfl _ (.inl rfl) rfl ?_; try simp only [Act.put, List.setIfInBounds_toArray, List.set_cons_zero, List.set_cons_succ]
      refine k_val (v := .string (strB T)) rfl _ (.inl rfl) rfl ?_; try simp only [Act.put, List.setIfInBounds_toArray, List.set_cons_zero, List.set_cons_succ]
      refine k_lenS (s := strB T) rfl _ rfl rfl ?_; try simp only [Act.put, List.setIfInBounds_toArray, List.set_cons_zero, List.set_cons_succ]
      refine k_lss (m := (k : Int)) (n := ((strB T).size : Int)) (t := true) rfl _ _ _ rfl rfl rfl HD.out ?_; try simp only [Act.put, List.setIfInBounds_toArray, List.set_cons_zero, List.set_cons_succ]
      refine k_val (v := .bool true) rfl _ (.inl rfl) rfl ?_; try simp only [Act.put, List.setIfInBounds_toArray, List.set_cons_zero, List.set_cons_succ]
      refine k_val (v := .string (strB T)) rfl _ (.inl rfl) rfl ?_; try simp only [Act.put, List.setIfInBounds_toArray, List.set_cons_zero, List.set_cons_succ]
      refine k_val (v := .int .i64 (k : Int)) rfl _ (.inl rfl) rfl ?_; try simp only [Act.put, List.setIfInBounds_toArray, List.set_cons_zero, List.set_cons_succ]
      refine k_idxX (vx := .string (strB T)) (vy := .int .i64 (k : Int)) rfl rfl rfl rfl HI.out ?_; try simp only [Act.put, List.setIfInBounds_toArray, List.set_cons_zero, List.set_cons_succ]
      refine k_u8n (m := ((T.getD k 0 : Nat) : Int)) (n := 32) (t := true) rfl _ _ _ rfl rfl rfl HN.out ?_; try simp only [Act.put, List.setIfInBounds_toArray, List.set_cons_zero, List.set_cons_succ]
      refine k_pickT (t := true) rfl _ _ _ rfl rfl rfl ?_; try simp only [Act.put, List.setIfInBounds_toArray, List.set_cons_zero, List.set_cons_succ]
      refine k_end ?_
      intro w1 hT1
      go_wp2
      go_roundw
      case rel => exact ⟨k + 1, by go_num, hlt, hT1⟩
      case measure => simp [intOf]; omega
    · obtain rfl : k = (word1 T).length := by omega
      by_cases hm1 : (word1 T).length < T.length
      · have HD := Lib.hid (show decide (((word1 T).length : Int) < ((strB T).size : Int)) = true from decide_eq_true (by rw [HS.out]; omega))
        have HN := Lib.hid (show (((T.getD (word1 T).length 0 : Nat) : Int) != 32) = false by rw [word1_eq hm1]; rfl)
        have HI := Lib.hid (idxS T (word1 T).length hm1 HT.out)
        have hd : ((word1 T).length : Int) < ((strB T).size : Int) := by rw [HS.out]; omega
        have hsz : (strB T).size ≤ 300000 := by rw [HS.out]; exact hm
        have HSF := Lib.hid (sls_from T ((word1 T).length + 1) (by omega))
        have HM := Lib.hid hm1
        go_upto_region 2 with (fail)
        refine k_seq (C := fun w' => Tch [] w w') hT0 ?_
        refine k_val (v := .int .i64 ((word1 T).length : Int)) rfl _ (.inl rfl) rfl ?_; try simp only [Act.put, List.setIfInBounds_toArray, List.set_cons_zero, List.set_cons_succ]
        refine k_val (v := .string (strB T)) rfl _ (.inl rfl) rfl ?_; try simp only [Act.put, List.setIfInBounds_toArray, List.set_cons_zero, List.set_cons_succ]
        refine k_lenS (s := strB T) rfl _ rfl rfl ?_; try simp only [Act.put, List.setIfInBounds_toArray, List.set_cons_zero, List.set_cons_succ]
        refine k_lss (m := ((word1 T).length : Int)) (n := ((strB T).size : Int)) (t := true) rfl _ _ _ rfl rfl rfl HD.out ?_; try simp only [Act.put, List.setIfInBounds_toArray, List.set_cons_zero, List.set_cons_succ]
        refine k_val (v := .bool true) rfl _ (.inl rfl) rfl ?_; try simp only [Act.put, List.setIfInBounds_toArray, List.set_cons_zero, List.set_cons_succ]
        refine k_val (v := .string (strB T)) rfl _ (.inl rfl) rfl ?_; try simp only [Act.put, List.setIfInBounds_toArray, List.set_cons_zero, List.set_cons_succ]
        refine k_val (v := .int .i64 ((word1 T).length : Int)) rfl _ (.inl rfl) rfl ?_; try simp only [Act.put, List.setIfInBounds_toArray, List.set_cons_zero, List.set_cons_succ]
        refine k_idxX (vx := .string (strB T)) (vy := .int .i64 ((word1 T).length : Int)) rfl rfl rfl rfl HI.out ?_; try simp only [Act.put, List.setIfInBounds_toArray, List.set_cons_zero, List.set_cons_succ]
        refine k_u8n (m := ((T.getD (word1 T).length 0 : Nat) : Int)) (n := 32) (t := false) rfl _ _ _ rfl rfl rfl HN.out ?_; try simp only [Act.put, List.setIfInBounds_toArray, List.set_cons_zero, List.set_cons_succ]
        refine k_pickT (t := false) rfl _ _ _ rfl rfl rfl ?_; try simp only [Act.put, List.setIfInBounds_toArray, List.set_cons_zero, List.set_cons_succ]
        refine k_end ?_
        clear hT0
        intro w1 hT1
        cases hx : hexR (T.drop ((word1 T).length + 1)) with
        | none =>
          have HH := Lib.hid (fun w1 => (rhex_any (T.drop ((word1 T).length + 1)) w1 (by rw [List.length_drop]; omega)).mono fun e w' h => hexP_no h hx)
          have HR := Lib.hid (show rdLn T = none by rw [rdLn_tailW HM.out, hx])
          clear hx
          go_wp2_with (first
            | (refine st_slO (vx := .string (strB T)) (vl := some (.int .i64 (((word1 T).length + 1 : Nat) : Int))) (vh := none) rfl rfl rfl rfl rfl HSF.out ?_)
            | (go_at_call 31; refine (HH.out _).mono ?_; rintro e w4 ⟨hT4, rfl⟩))
          go_ret2
          exact lnpost_no HR.out (hT1.trans hT4)
        | some b =>
          have HH := Lib.hid (fun w1 => (rhex_any (T.drop ((word1 T).length + 1)) w1 (by rw [List.length_drop]; omega)).mono fun e w' h => hexP_yes h hx)
          have hbl := hexR_len hx
          rw [List.length_drop] at hbl
          have HX := Lib.hid hx
          have HBL := Lib.hid (hexR_lt hx)
          clear hx
          go_upto_region 11 with (first
            | (refine st_slO (vx := .string (strB T)) (vl := some (.int .i64 (((word1 T).length + 1 : Nat) : Int))) (vh := none) rfl rfl rfl rfl rfl HSF.out ?_)
            | (go_at_call 31; refine (HH.out _).mono ?_; rintro e w4 ⟨hT4, vb, rfl, hvb⟩; obtain ⟨p, c, rfl, hvbr⟩ := RdB.shape hvb))
          clear hvb
          have HV := Lib.hid hvbr
          have hT5 := hT1.trans hT4
          clear hvbr hT1 hT4
          by_cases hby : word1 T = byteW
          · have HB := Lib.hid (show (word1 T == byteW) = true by rw [hby]; rfl)
            have HR := Lib.hid (show rdLn T = if decide ((b.length : Int) = 1) then some b else none by
              rw [rdLn_tailW HM.out, HX.out]
              simp only [if_pos hby]
              by_cases h0 : b.length = 1
              · simp [h0]
              · have : ¬ (b.length : Int) = 1 := by omega
                simp [h0, this])
            clear hby
            refine k_seq (C := fun w' => Tch [] w4 w') (Tch.refl [] w4) ?_
            refine k_val (v := .string (strB T)) rfl _ (.inl rfl) rfl ?_; try simp only [Act.put, List.setIfInBounds_toArray, List.set_cons_zero, List.set_cons_succ]
            refine k_val (v := .int .i64 ((word1 T).length : Int)) rfl _ (.inl rfl) rfl ?_; try simp only [Act.put, List.setIfInBounds_toArray, List.set_cons_zero, List.set_cons_succ]
            refine k_slO (vx := .string (strB T)) (vl := none) (vh := some (.int .i64 ((word1 T).length : Int))) rfl rfl rfl rfl rfl HSL.out ?_; try simp only [Act.put, List.setIfInBounds_toArray, List.set_cons_zero, List.set_cons_succ]
            refine k_eqS (l := word1 T) (m := byteW) (t := true) rfl _ _ _ rfl rfl rfl HWT.out (by decide) HB.out ?_; try simp only [Act.put, List.setIfInBounds_toArray, List.set_cons_zero, List.set_cons_succ]
            refine k_val (v := .bool true) rfl _ (.inl rfl) rfl ?_; try simp only [Act.put, List.setIfInBounds_toArray, List.set_cons_zero, List.set_cons_succ]
            refine k_val (v := .bool true) rfl _ (.inl rfl) rfl ?_; try simp only [Act.put, List.setIfInBounds_toArray, List.set_cons_zero, List.set_cons_succ]
            refine k_pickT (t := true) rfl _ _ _ rfl rfl rfl ?_; try simp only [Act.put, List.setIfInBounds_toArray, List.set_cons_zero, List.set_cons_succ]
            refine k_end ?_
            intro w6 hT6
            go_wp2
            go_ret2
            exact lnpost_if HR.out (hT5.trans hT6) (HV.out.tch hT6 (by simp))
          · have HB := Lib.hid (show (word1 T == byteW) = false by rw [beq_eq_false_iff_ne]; exact hby)
            have HNB := Lib.hid hby
            clear hby
            refine k_seq (C := fun w' => Tch [] w4 w') (Tch.refl [] w4) ?_
            refine k_val (v := .string (strB T)) rfl _ (.inl rfl) rfl ?_; try simp only [Act.put, List.setIfInBounds_toArray, List.set_cons_zero, List.set_cons_succ]
            refine k_val (v := .int .i64 ((word1 T).length : Int)) rfl _ (.inl rfl) rfl ?_; try simp only [Act.put, List.setIfInBounds_toArray, List.set_cons_zero, List.set_cons_succ]
            refine k_slO (vx := .string (strB T)) (vl := none) (vh := some (.int .i64 ((word1 T).length : Int))) rfl rfl rfl rfl rfl HSL.out ?_; try simp only [Act.put, List.setIfInBounds_toArray, List.set_cons_zero, List.set_cons_succ]
            refine k_eqS (l := word1 T) (m := byteW) (t := false) rfl _ _ _ rfl rfl rfl HWT.out (by decide) HB.out ?_; try simp only [Act.put, List.setIfInBounds_toArray, List.set_cons_zero, List.set_cons_succ]
            refine k_val (v := .bool false) rfl _ (.inl rfl) rfl ?_; try simp only [Act.put, List.setIfInBounds_toArray, List.set_cons_zero, List.set_cons_succ]
            refine k_skip rfl rfl rfl rfl rfl ?_; try simp only [Act.put, List.setIfInBounds_toArray, List.set_cons_zero, List.set_cons_succ]
            refine k_pickF (t := false) rfl _ _ _ rfl rfl rfl ?_; try simp only [Act.put, List.setIfInBounds_toArray, List.set_cons_zero, List.set_cons_succ]
            refine k_end ?_
            intro w6 hT6
            have hT7 := hT5.trans hT6
            have HV7 := Lib.hid (HV.out.tch hT6 (by simp))
            clear hT5 hT6
            go_upto_region 14 with (first
              | (refine st_slO (vx := .string (strB T)) (vl := none) (vh := some (.int .i64 ((word1 T).length : Int))) rfl rfl rfl rfl rfl HSL.out ?_)
              | (go_at_call 32; refine (HO.out _).mono ?_; rintro e w8 ⟨rfl, hT8⟩))
            have hT9 := hT7.trans hT8
            have HV9 := Lib.hid (HV7.out.tch hT8 (by simp))
            clear hT7 hT8
            cases ho : opF (word1 T) with
            | none =>
              have HR := Lib.hid (rdLn_noop ho)
              refine k_seq (C := fun w' => Tch [] w8 w') (Tch.refl [] w8) ?_
              refine k_val (v := .bool false) rfl _ (.inl rfl) rfl ?_; try simp only [Act.put, List.setIfInBounds_toArray, List.set_cons_zero, List.set_cons_succ]
              refine k_notV (s := false) (t := true) rfl _ _ rfl rfl rfl ?_; try simp only [Act.put, List.setIfInBounds_toArray, List.set_cons_zero, List.set_cons_succ]
              refine k_val (v := .bool true) rfl _ (.inl rfl) rfl ?_; try simp only [Act.put, List.setIfInBounds_toArray, List.set_cons_zero, List.set_cons_succ]
              refine k_skip rfl rfl rfl rfl rfl ?_; try simp only [Act.put, List.setIfInBounds_toArray, List.set_cons_zero, List.set_cons_succ]
              refine k_skip rfl rfl rfl rfl rfl ?_; try simp only [Act.put, List.setIfInBounds_toArray, List.set_cons_zero, List.set_cons_succ]
              refine k_skip rfl rfl rfl rfl rfl ?_; try simp only [Act.put, List.setIfInBounds_toArray, List.set_cons_zero, List.set_cons_succ]
              refine k_skip rfl rfl rfl rfl rfl ?_; try simp only [Act.put, List.setIfInBounds_toArray, List.set_cons_zero, List.set_cons_succ]
              refine k_skip rfl rfl rfl rfl rfl ?_; try simp only [Act.put, List.setIfInBounds_toArray, List.set_cons_zero, List.set_cons_succ]
              refine k_pickT (t := true) rfl _ _ _ rfl rfl rfl ?_; try simp only [Act.put, List.setIfInBounds_toArray, List.set_cons_zero, List.set_cons_succ]
              refine k_val (v := .bool true) rfl _ (.inl rfl) rfl ?_; try simp only [Act.put, List.setIfInBounds_toArray, List.set_cons_zero, List.set_cons_succ]
              refine k_skip rfl rfl rfl rfl rfl ?_; try simp only [Act.put, List.setIfInBounds_toArray, List.set_cons_zero, List.set_cons_succ]
              refine k_skip rfl rfl rfl rfl rfl ?_; try simp only [Act.put, List.setIfInBounds_toArray, List.set_cons_zero, List.set_cons_succ]
              refine k_skip rfl rfl rfl rfl rfl ?_; try simp only [Act.put, List.setIfInBounds_toArray, List.set_cons_zero, List.set_cons_succ]
              refine k_skip rfl rfl rfl rfl rfl ?_; try simp only [Act.put, List.setIfInBounds_toArray, List.set_cons_zero, List.set_cons_succ]
              refine k_skip rfl rfl rfl rfl rfl ?_; try simp only [Act.put, List.setIfInBounds_toArray, List.set_cons_zero, List.set_cons_succ]
              refine k_pickT (t := true) rfl _ _ _ rfl rfl rfl ?_; try simp only [Act.put, List.setIfInBounds_toArray, List.set_cons_zero, List.set_cons_succ]
              refine k_end ?_
              intro w9 hT10
              go_wp2
              go_ret2
              exact lnpost_no HR.out (hT9.trans hT10)
            | some x =>
              have hx256 := (opF_lt ho).1
              have HF := Lib.hid ho
              clear ho
              by_cases hl : b.length = ownN x
              · have HL := Lib.hid (show ((b.length : Int) != ((ownN x : Nat) : Int)) = false by rw [hl]; simp)
                by_cases h0 : 0 < ownN x
                · have HG := Lib.hid (show decide ((0 : Int) < ((ownN x : Nat) : Int)) = true from decide_eq_true (by omega))
                  have HR := Lib.hid (show rdLn T = some ([x] ++ b) by
                    rw [rdLn_tailW HM.out, HX.out, HF.out]
                    simp only [if_neg HNB.out]
                    rw [if_pos ⟨hl, h0⟩]; rfl)
                  clear hl h0
                  refine k_seq (C := fun w' => Tch [] w8 w') (Tch.refl [] w8) ?_
                  refine k_val (v := .bool true) rfl _ (.inl rfl) rfl ?_; try simp only [Act.put, List.setIfInBounds_toArray, List.set_cons_zero, List.set_cons_succ]
                  refine k_notV (s := true) (t := false) rfl _ _ rfl rfl rfl ?_; try simp only [Act.put, List.setIfInBounds_toArray, List.set_cons_zero, List.set_cons_succ]
                  refine k_val (v := .bool false) rfl _ (.inl rfl) rfl ?_; try simp only [Act.put, List.setIfInBounds_toArray, List.set_cons_zero, List.set_cons_succ]
                  refine k_val (v := .slice p b.length c) rfl _ (.inl rfl) rfl ?_; try simp only [Act.put, List.setIfInBounds_toArray, List.set_cons_zero, List.set_cons_succ]
                  refine k_lenSl (p := p) (n := b.length) (c := c) rfl _ rfl rfl ?_; try simp only [Act.put, List.setIfInBounds_toArray, List.set_cons_zero, List.set_cons_succ]
                  refine k_val (v := .int .u8 (x : Int)) rfl _ (.inl rfl) rfl ?_; try simp only [Act.put, List.setIfInBounds_toArray, List.set_cons_zero, List.set_cons_succ]
                  refine k_callC1 (v1 := .int .u8 (x : Int)) rfl rfl rfl Try.call19 (fun w' h => (rownA_any x w' hx256).mono fun e w'' h2 => ⟨h2.1, h2.2 ▸ h⟩) ?_; try simp only [Act.put, List.setIfInBounds_toArray, List.set_cons_zero, List.set_cons_succ]
                  refine k_neqs (m := ((b.length : Nat) : Int)) (n := ((ownN x : Nat) : Int)) (t := false) rfl _ _ _ rfl rfl rfl HL.out ?_; try simp only [Act.put, List.setIfInBounds_toArray, List.set_cons_zero, List.set_cons_succ]
                  refine k_pickF (t := false) rfl _ _ _ rfl rfl rfl ?_; try simp only [Act.put, List.setIfInBounds_toArray, List.set_cons_zero, List.set_cons_succ]
                  refine k_val (v := .bool false) rfl _ (.inl rfl) rfl ?_; try simp only [Act.put, List.setIfInBounds_toArray, List.set_cons_zero, List.set_cons_succ]
                  refine k_val (v := .bool true) rfl _ (.inl rfl) rfl ?_; try simp only [Act.put, List.setIfInBounds_toArray, List.set_cons_zero, List.set_cons_succ]
                  refine k_val (v := .int .u8 (x : Int)) rfl _ (.inl rfl) rfl ?_; try simp only [Act.put, List.setIfInBounds_toArray, List.set_cons_zero, List.set_cons_succ]
                  refine k_callC1 (v1 := .int .u8 (x : Int)) rfl rfl rfl Try.call19 (fun w' h => (rownA_any x w' hx256).mono fun e w'' h2 => ⟨h2.1, h2.2 ▸ h⟩) ?_; try simp only [Act.put, List.setIfInBounds_toArray, List.set_cons_zero, List.set_cons_succ]
                  refine k_gtr (m := ((ownN x : Nat) : Int)) (n := 0) (t := true) rfl _ _ _ rfl rfl rfl HG.out ?_; try simp only [Act.put, List.setIfInBounds_toArray, List.set_cons_zero, List.set_cons_succ]
                  refine k_booln (s := true) (r := true) (t := false) rfl _ _ _ rfl rfl rfl rfl ?_; try simp only [Act.put, List.setIfInBounds_toArray, List.set_cons_zero, List.set_cons_succ]
                  refine k_pickF (t := false) rfl _ _ _ rfl rfl rfl ?_; try simp only [Act.put, List.setIfInBounds_toArray, List.set_cons_zero, List.set_cons_succ]
                  refine k_end ?_
                  intro w9 hT10
                  have hT11 := hT9.trans hT10
                  have HV11 := Lib.hid (HV9.out.tch hT10 (by simp))
                  clear hT9 hT10
                  have hsz11 := hT11.size
                  go_wp2_with (at_builtin; refine st_appB (ty := 5) (w0 := w) (l := [x]) (m := b) rfl _ _ rfl rfl rfl (own_lit [x] hsz11 (by simp) _ rfl) (hT11.alloc _) (HV11.out.tch ((Tch.refl [] _).alloc _) (by simp)) (by simp; omega) ?_; intro v12 w12 hown12 hT12)
                  go_ret2
                  exact lnpost_yes HR.out hT12 (RdB.own hown12 (fun y hy => (List.mem_append.1 hy).elim (fun h => by rw [List.mem_singleton.1 h]; exact hx256) (HBL.out y)))
                · have HG := Lib.hid (show decide ((0 : Int) < ((ownN x : Nat) : Int)) = false from decide_eq_false (by omega))
                  have HR := Lib.hid (show rdLn T = none by
                    rw [rdLn_tailW HM.out, HX.out, HF.out]
                    simp only [if_neg HNB.out]
                    rw [if_neg (fun h => h0 h.2)])
                  clear hl h0
                  refine k_seq (C := fun w' => Tch [] w8 w') (Tch.refl [] w8) ?_
                  refine k_val (v := .bool true) rfl _ (.inl rfl) rfl ?_; try simp only [Act.put, List.setIfInBounds_toArray, List.set_cons_zero, List.set_cons_succ]
                  refine k_notV (s := true) (t := false) rfl _ _ rfl rfl rfl ?_; try simp only [Act.put, List.setIfInBounds_toArray, List.set_cons_zero, List.set_cons_succ]
                  refine k_val (v := .bool false) rfl _ (.inl rfl) rfl ?_; try simp only [Act.put, List.setIfInBounds_toArray, List.set_cons_zero, List.set_cons_succ]
                  refine k_val (v := .slice p b.length c) rfl _ (.inl rfl) rfl ?_; try simp only [Act.put, List.setIfInBounds_toArray, List.set_cons_zero, List.set_cons_succ]
                  refine k_lenSl (p := p) (n := b.length) (c := c) rfl _ rfl rfl ?_; try simp only [Act.put, List.setIfInBounds_toArray, List.set_cons_zero, List.set_cons_succ]
                  refine k_val (v := .int .u8 (x : Int)) rfl _ (.inl rfl) rfl ?_; try simp only [Act.put, List.setIfInBounds_toArray, List.set_cons_zero, List.set_cons_succ]
                  refine k_callC1 (v1 := .int .u8 (x : Int)) rfl rfl rfl Try.call19 (fun w' h => (rownA_any x w' hx256).mono fun e w'' h2 => ⟨h2.1, h2.2 ▸ h⟩) ?_; try simp only [Act.put, List.setIfInBounds_toArray, List.set_cons_zero, List.set_cons_succ]
                  refine k_neqs (m := ((b.length : Nat) : Int)) (n := ((ownN x : Nat) : Int)) (t := false) rfl _ _ _ rfl rfl rfl HL.out ?_; try simp only [Act.put, List.setIfInBounds_toArray, List.set_cons_zero, List.set_cons_succ]
                  refine k_pickF (t := false) rfl _ _ _ rfl rfl rfl ?_; try simp only [Act.put, List.setIfInBounds_toArray, List.set_cons_zero, List.set_cons_succ]
                  refine k_val (v := .bool false) rfl _ (.inl rfl) rfl ?_; try simp only [Act.put, List.setIfInBounds_toArray, List.set_cons_zero, List.set_cons_succ]
                  refine k_val (v := .bool true) rfl _ (.inl rfl) rfl ?_; try simp only [Act.put, List.setIfInBounds_toArray, List.set_cons_zero, List.set_cons_succ]
                  refine k_val (v := .int .u8 (x : Int)) rfl _ (.inl rfl) rfl ?_; try simp only [Act.put, List.setIfInBounds_toArray, List.set_cons_zero, List.set_cons_succ]
                  refine k_callC1 (v1 := .int .u8 (x : Int)) rfl rfl rfl Try.call19 (fun w' h => (rownA_any x w' hx256).mono fun e w'' h2 => ⟨h2.1, h2.2 ▸ h⟩) ?_; try simp only [Act.put, List.setIfInBounds_toArray, List.set_cons_zero, List.set_cons_succ]
                  refine k_gtr (m := ((ownN x : Nat) : Int)) (n := 0) (t := false) rfl _ _ _ rfl rfl rfl HG.out ?_; try simp only [Act.put, List.setIfInBounds_toArray, List.set_cons_zero, List.set_cons_succ]
                  refine k_booln (s := true) (r := false) (t := true) rfl _ _ _ rfl rfl rfl rfl ?_; try simp only [Act.put, List.setIfInBounds_toArray, List.set_cons_zero, List.set_cons_succ]
                  refine k_pickF (t := true) rfl _ _ _ rfl rfl rfl ?_; try simp only [Act.put, List.setIfInBounds_toArray, List.set_cons_zero, List.set_cons_succ]
                  refine k_end ?_
                  intro w9 hT10
                  go_wp2
                  go_ret2
                  exact lnpost_no HR.out (hT9.trans hT10)
              · have HL := Lib.hid (show ((b.length : Int) != ((ownN x : Nat) : Int)) = true by rw [bne_iff_ne]; omega)
                have HR := Lib.hid (show rdLn T = none by
                  rw [rdLn_tailW HM.out, HX.out, HF.out]
                  simp only [if_neg HNB.out]
                  rw [if_neg (fun h => hl h.1)])
                clear hl
                refine k_seq (C := fun w' => Tch [] w8 w') (Tch.refl [] w8) ?_
                refine k_val (v := .bool true) rfl _ (.inl rfl) rfl ?_; try simp only [Act.put, List.setIfInBounds_toArray, List.set_cons_zero, List.set_cons_succ]
                refine k_notV (s := true) (t := false) rfl _ _ rfl rfl rfl ?_; try simp only [Act.put, List.setIfInBounds_toArray, List.set_cons_zero, List.set_cons_succ]
                refine k_val (v := .bool false) rfl _ (.inl rfl) rfl ?_; try simp only [Act.put, List.setIfInBounds_toArray, List.set_cons_zero, List.set_cons_succ]
                refine k_val (v := .slice p b.length c) rfl _ (.inl rfl) rfl ?_; try simp only [Act.put, List.setIfInBounds_toArray, List.set_cons_zero, List.set_cons_succ]
                refine k_lenSl (p := p) (n := b.length) (c := c) rfl _ rfl rfl ?_; try simp only [Act.put, List.setIfInBounds_toArray, List.set_cons_zero, List.set_cons_succ]
                refine k_val (v := .int .u8 (x : Int)) rfl _ (.inl rfl) rfl ?_; try simp only [Act.put, List.setIfInBounds_toArray, List.set_cons_zero, List.set_cons_succ]
                refine k_callC1 (v1 := .int .u8 (x : Int)) rfl rfl rfl Try.call19 (fun w' h => (rownA_any x w' hx256).mono fun e w'' h2 => ⟨h2.1, h2.2 ▸ h⟩) ?_; try simp only [Act.put, List.setIfInBounds_toArray, List.set_cons_zero, List.set_cons_succ]
                refine k_neqs (m := ((b.length : Nat) : Int)) (n := ((ownN x : Nat) : Int)) (t := true) rfl _ _ _ rfl rfl rfl HL.out ?_; try simp only [Act.put, List.setIfInBounds_toArray, List.set_cons_zero, List.set_cons_succ]
                refine k_pickF (t := true) rfl _ _ _ rfl rfl rfl ?_; try simp only [Act.put, List.setIfInBounds_toArray, List.set_cons_zero, List.set_cons_succ]
                refine k_val (v := .bool true) rfl _ (.inl rfl) rfl ?_; try simp only [Act.put, List.setIfInBounds_toArray, List.set_cons_zero, List.set_cons_succ]
                refine k_skip rfl rfl rfl rfl rfl ?_; try simp only [Act.put, List.setIfInBounds_toArray, List.set_cons_zero, List.set_cons_succ]
                refine k_skip rfl rfl rfl rfl rfl ?_; try simp only [Act.put, List.setIfInBounds_toArray, List.set_cons_zero, List.set_cons_succ]
                refine k_skip rfl rfl rfl rfl rfl ?_; try simp only [Act.put, List.setIfInBounds_toArray, List.set_cons_zero, List.set_cons_succ]
                refine k_skip rfl rfl rfl rfl rfl ?_; try simp only [Act.put, List.setIfInBounds_toArray, List.set_cons_zero, List.set_cons_succ]
                refine k_skip rfl rfl rfl rfl rfl ?_; try simp only [Act.put, List.setIfInBounds_toArray, List.set_cons_zero, List.set_cons_succ]
                refine k_pickT (t := true) rfl _ _ _ rfl rfl rfl ?_; try simp only [Act.put, List.setIfInBounds_toArray, List.set_cons_zero, List.set_cons_succ]
                refine k_end ?_
                intro w9 hT10
                go_wp2
                go_ret2
                exact lnpost_no HR.out (hT9.trans hT10)
      · have HD := Lib.hid (show decide (((word1 T).length : Int) < ((strB T).size : Int)) = false from decide_eq_false (by rw [HS.out]; omega))
        have hd : ¬ ((word1 T).length : Int) < ((strB T).size : Int) := by rw [HS.out]; omega
        have HM := Lib.hid hm1
        go_upto_region 2 with (fail)
        refine k_seq (C := fun w' => Tch [] w w') hT0 ?_
        refine k_val (v := .int .i64 ((word1 T).length : Int)) rfl _ (.inl rfl) rfl ?_; try simp only [Act.put, List.setIfInBounds_toArray, List.set_cons_zero, List.set_cons_succ]
        refine k_val (v := .string (strB T)) rfl _ (.inl rfl) rfl ?_; try simp only [Act.put, List.setIfInBounds_toArray, List.set_cons_zero, List.set_cons_succ]
        refine k_lenS (s := strB T) rfl _ rfl rfl ?_; try simp only [Act.put, List.setIfInBounds_toArray, List.set_cons_zero, List.set_cons_succ]
        refine k_lss (m := ((word1 T).length : Int)) (n := ((strB T).size : Int)) (t := false) rfl _ _ _ rfl rfl rfl HD.out ?_; try simp only [Act.put, List.setIfInBounds_toArray, List.set_cons_zero, List.set_cons_succ]
        refine k_val (v := .bool false) rfl _ (.inl rfl) rfl ?_; try simp only [Act.put, List.setIfInBounds_toArray, List.set_cons_zero, List.set_cons_succ]
        refine k_skip rfl rfl rfl rfl rfl ?_; try simp only [Act.put, List.setIfInBounds_toArray, List.set_cons_zero, List.set_cons_succ]
        refine k_skip rfl rfl rfl rfl rfl ?_; try simp only [Act.put, List.setIfInBounds_toArray, List.set_cons_zero, List.set_cons_succ]
        refine k_skip rfl rfl rfl rfl rfl ?_; try simp only [Act.put, List.setIfInBounds_toArray, List.set_cons_zero, List.set_cons_succ]
        refine k_skip rfl rfl rfl rfl rfl ?_; try simp only [Act.put, List.setIfInBounds_toArray, List.set_cons_zero, List.set_cons_succ]
        refine k_pickF (t := false) rfl _ _ _ rfl rfl rfl ?_; try simp only [Act.put, List.setIfInBounds_toArray, List.set_cons_zero, List.set_cons_succ]
        refine k_end ?_
        clear hT0
        intro w1 hT1
        cases hE : (word1 T == byteW) with
        | true =>
          have HB := Lib.hid hE
          clear hE
          go_upto_region 11 with (fail)
          refine k_seq (C := fun w' => Tch [] w w') hT1 ?_
          refine k_val (v := .string (strB T)) rfl _ (.inl rfl) rfl ?_; try simp only [Act.put, List.setIfInBounds_toArray, List.set_cons_zero, List.set_cons_succ]
          refine k_val (v := .int .i64 ((word1 T).length : Int)) rfl _ (.inl rfl) rfl ?_; try simp only [Act.put, List.setIfInBounds_toArray, List.set_cons_zero, List.set_cons_succ]
          refine k_slO (vx := .string (strB T)) (vl := none) (vh := some (.int .i64 ((word1 T).length : Int))) rfl rfl rfl rfl rfl HSL.out ?_; try simp only [Act.put, List.setIfInBounds_toArray, List.set_cons_zero, List.set_cons_succ]
          refine k_eqS (l := word1 T) (m := byteW) (t := true) rfl _ _ _ rfl rfl rfl HWT.out (by decide) HB.out ?_; try simp only [Act.put, List.setIfInBounds_toArray, List.set_cons_zero, List.set_cons_succ]
          refine k_val (v := .bool true) rfl _ (.inl rfl) rfl ?_; try simp only [Act.put, List.setIfInBounds_toArray, List.set_cons_zero, List.set_cons_succ]
          refine k_val (v := .bool false) rfl _ (.inl rfl) rfl ?_; try simp only [Act.put, List.setIfInBounds_toArray, List.set_cons_zero, List.set_cons_succ]
          refine k_pickT (t := false) rfl _ _ _ rfl rfl rfl ?_; try simp only [Act.put, List.setIfInBounds_toArray, List.set_cons_zero, List.set_cons_succ]
          refine k_end ?_
          clear hT1
          intro w6 hT7
          go_upto_region 14 with (first
            | (refine st_slO (vx := .string (strB T)) (vl := none) (vh := some (.int .i64 ((word1 T).length : Int))) rfl rfl rfl rfl rfl HSL.out ?_)
            | (go_at_call 32; refine (HO.out _).mono ?_; rintro e w8 ⟨rfl, hT8⟩))
          have hT9 := hT7.trans hT8
          clear hT7 hT8
          cases ho : opF (word1 T) with
          | none =>
            have HR := Lib.hid (rdLn_noop ho)
            refine k_seq (C := fun w' => Tch [] w8 w') (Tch.refl [] w8) ?_
            refine k_val (v := .bool false) rfl _ (.inl rfl) rfl ?_; try simp only [Act.put, List.setIfInBounds_toArray, List.set_cons_zero, List.set_cons_succ]
            refine k_notV (s := false) (t := true) rfl _ _ rfl rfl rfl ?_; try simp only [Act.put, List.setIfInBounds_toArray, List.set_cons_zero, List.set_cons_succ]
            refine k_val (v := .bool true) rfl _ (.inl rfl) rfl ?_; try simp only [Act.put, List.setIfInBounds_toArray, List.set_cons_zero, List.set_cons_succ]
            refine k_skip rfl rfl rfl rfl rfl ?_; try simp only [Act.put, List.setIfInBounds_toArray, List.set_cons_zero, List.set_cons_succ]
            refine k_skip rfl rfl rfl rfl rfl ?_; try simp only [Act.put, List.setIfInBounds_toArray, List.set_cons_zero, List.set_cons_succ]
            refine k_skip rfl rfl rfl rfl rfl ?_; try simp only [Act.put, List.setIfInBounds_toArray, List.set_cons_zero, List.set_cons_succ]
            refine k_skip rfl rfl rfl rfl rfl ?_; try simp only [Act.put, List.setIfInBounds_toArray, List.set_cons_zero, List.set_cons_succ]
            refine k_skip rfl rfl rfl rfl rfl ?_; try simp only [Act.put, List.setIfInBounds_toArray, List.set_cons_zero, List.set_cons_succ]
            refine k_pickT (t := true) rfl _ _ _ rfl rfl rfl ?_; try simp only [Act.put, List.setIfInBounds_toArray, List.set_cons_zero, List.set_cons_succ]
            refine k_val (v := .bool true) rfl _ (.inl rfl) rfl ?_; try simp only [Act.put, List.setIfInBounds_toArray, List.set_cons_zero, List.set_cons_succ]
            refine k_skip rfl rfl rfl rfl rfl ?_; try simp only [Act.put, List.setIfInBounds_toArray, List.set_cons_zero, List.set_cons_succ]
            refine k_skip rfl rfl rfl rfl rfl ?_; try simp only [Act.put, List.setIfInBounds_toArray, List.set_cons_zero, List.set_cons_succ]
            refine k_skip rfl rfl rfl rfl rfl ?_; try simp only [Act.put, List.setIfInBounds_toArray, List.set_cons_zero, List.set_cons_succ]
            refine k_skip rfl rfl rfl rfl rfl ?_; try simp only [Act.put, List.setIfInBounds_toArray, List.set_cons_zero, List.set_cons_succ]
            refine k_skip rfl rfl rfl rfl rfl ?_; try simp only [Act.put, List.setIfInBounds_toArray, List.set_cons_zero, List.set_cons_succ]
            refine k_pickT (t := true) rfl _ _ _ rfl rfl rfl ?_; try simp only [Act.put, List.setIfInBounds_toArray, List.set_cons_zero, List.set_cons_succ]
            refine k_end ?_
            intro w9 hT10
            go_wp2
            go_ret2
            exact lnpost_no HR.out (hT9.trans hT10)
          | some x =>
            have hx256 := (opF_lt ho).1
            have HF := Lib.hid ho
            clear ho
            by_cases hl : ownN x = 0
            · have HL := Lib.hid (show ((0 : Int) != ((ownN x : Nat) : Int)) = false by rw [hl]; rfl)
              have HG := Lib.hid (show decide ((0 : Int) < ((ownN x : Nat) : Int)) = false from decide_eq_false (by omega))
              have HR := Lib.hid (show rdLn T = some ([x] ++ []) by
                rw [rdLn_bareW HM.out, HF.out]
                simp only [if_pos hl]; rfl)
              clear hl
              refine k_seq (C := fun w' => Tch [] w8 w') (Tch.refl [] w8) ?_
              refine k_val (v := .bool true) rfl _ (.inl rfl) rfl ?_; try simp only [Act.put, List.setIfInBounds_toArray, List.set_cons_zero, List.set_cons_succ]
              refine k_notV (s := true) (t := false) rfl _ _ rfl rfl rfl ?_; try simp only [Act.put, List.setIfInBounds_toArray, List.set_cons_zero, List.set_cons_succ]
              refine k_val (v := .bool false) rfl _ (.inl rfl) rfl ?_; try simp only [Act.put, List.setIfInBounds_toArray, List.set_cons_zero, List.set_cons_succ]
              refine k_val (v := .slice none 0 0) rfl _ (.inl rfl) rfl ?_; try simp only [Act.put, List.setIfInBounds_toArray, List.set_cons_zero, List.set_cons_succ]
              refine k_lenSl (p := none) (n := 0) (c := 0) rfl _ rfl rfl ?_; try simp only [Act.put, List.setIfInBounds_toArray, List.set_cons_zero, List.set_cons_succ]
              refine k_val (v := .int .u8 (x : Int)) rfl _ (.inl rfl) rfl ?_; try simp only [Act.put, List.setIfInBounds_toArray, List.set_cons_zero, List.set_cons_succ]
              refine k_callC1 (v1 := .int .u8 (x : Int)) rfl rfl rfl Try.call19 (fun w' h => (rownA_any x w' hx256).mono fun e w'' h2 => ⟨h2.1, h2.2 ▸ h⟩) ?_; try simp only [Act.put, List.setIfInBounds_toArray, List.set_cons_zero, List.set_cons_succ]
              refine k_neqs (m := ((0 : Nat) : Int)) (n := ((ownN x : Nat) : Int)) (t := false) rfl _ _ _ rfl rfl rfl HL.out ?_; try simp only [Act.put, List.setIfInBounds_toArray, List.set_cons_zero, List.set_cons_succ]
              refine k_pickF (t := false) rfl _ _ _ rfl rfl rfl ?_; try simp only [Act.put, List.setIfInBounds_toArray, List.set_cons_zero, List.set_cons_succ]
              refine k_val (v := .bool false) rfl _ (.inl rfl) rfl ?_; try simp only [Act.put, List.setIfInBounds_toArray, List.set_cons_zero, List.set_cons_succ]
              refine k_val (v := .bool false) rfl _ (.inl rfl) rfl ?_; try simp only [Act.put, List.setIfInBounds_toArray, List.set_cons_zero, List.set_cons_succ]
              refine k_val (v := .int .u8 (x : Int)) rfl _ (.inl rfl) rfl ?_; try simp only [Act.put, List.setIfInBounds_toArray, List.set_cons_zero, List.set_cons_succ]
              refine k_callC1 (v1 := .int .u8 (x : Int)) rfl rfl rfl Try.call19 (fun w' h => (rownA_any x w' hx256).mono fun e w'' h2 => ⟨h2.1, h2.2 ▸ h⟩) ?_; try simp only [Act.put, List.setIfInBounds_toArray, List.set_cons_zero, List.set_cons_succ]
              refine k_gtr (m := ((ownN x : Nat) : Int)) (n := 0) (t := false) rfl _ _ _ rfl rfl rfl HG.out ?_; try simp only [Act.put, List.setIfInBounds_toArray, List.set_cons_zero, List.set_cons_succ]
              refine k_booln (s := false) (r := false) (t := false) rfl _ _ _ rfl rfl rfl rfl ?_; try simp only [Act.put, List.setIfInBounds_toArray, List.set_cons_zero, List.set_cons_succ]
              refine k_pickF (t := false) rfl _ _ _ rfl rfl rfl ?_; try simp only [Act.put, List.setIfInBounds_toArray, List.set_cons_zero, List.set_cons_succ]
              refine k_end ?_
              intro w9 hT10
              have hT11 := hT9.trans hT10
              clear hT9 hT10
              have hsz11 := hT11.size
              go_wp2_with (at_builtin; refine st_appB (ty := 5) (w0 := w) (l := [x]) (m := []) rfl _ _ rfl rfl rfl (own_lit [x] hsz11 (by simp) _ rfl) (hT11.alloc _) (RdB.nil _) (by simp) ?_; intro v12 w12 hown12 hT12)
              go_ret2
              exact lnpost_yes HR.out hT12 (RdB.own hown12 (fun y hy => by rw [List.append_nil] at hy; rw [List.mem_singleton.1 hy]; exact hx256))
            · have HL := Lib.hid (show ((0 : Int) != ((ownN x : Nat) : Int)) = true by rw [bne_iff_ne]; omega)
              have HR := Lib.hid (show rdLn T = none by
                rw [rdLn_bareW HM.out, HF.out]
                simp only [if_neg hl])
              clear hl
              refine k_seq (C := fun w' => Tch [] w8 w') (Tch.refl [] w8) ?_
              refine k_val (v := .bool true) rfl _ (.inl rfl) rfl ?_; try simp only [Act.put, List.setIfInBounds_toArray, List.set_cons_zero, List.set_cons_succ]
              refine k_notV (s := true) (t := false) rfl _ _ rfl rfl rfl ?_; try simp only [Act.put, List.setIfInBounds_toArray, List.set_cons_zero, List.set_cons_succ]
              refine k_val (v := .bool false) rfl _ (.inl rfl) rfl ?_; try simp only [Act.put, List.setIfInBounds_toArray, List.set_cons_zero, List.set_cons_succ]
              refine k_val (v := .slice none 0 0) rfl _ (.inl rfl) rfl ?_; try simp only [Act.put, List.setIfInBounds_toArray, List.set_cons_zero, List.set_cons_succ]
              refine k_lenSl (p := none) (n := 0) (c := 0) rfl _ rfl rfl ?_; try simp only [Act.put, List.setIfInBounds_toArray, List.set_cons_zero, List.set_cons_succ]
              refine k_val (v := .int .u8 (x : Int)) rfl _ (.inl rfl) rfl ?_; try simp only [Act.put, List.setIfInBounds_toArray, List.set_cons_zero, List.set_cons_succ]
              refine k_callC1 (v1 := .int .u8 (x : Int)) rfl rfl rfl Try.call19 (fun w' h => (rownA_any x w' hx256).mono fun e w'' h2 => ⟨h2.1, h2.2 ▸ h⟩) ?_; try simp only [Act.put, List.setIfInBounds_toArray, List.set_cons_zero, List.set_cons_succ]
              refine k_neqs (m := ((0 : Nat) : Int)) (n := ((ownN x : Nat) : Int)) (t := true) rfl _ _ _ rfl rfl rfl HL.out ?_; try simp only [Act.put, List.setIfInBounds_toArray, List.set_cons_zero, List.set_cons_succ]
              refine k_pickF (t := true) rfl _ _ _ rfl rfl rfl ?_; try simp only [Act.put, List.setIfInBounds_toArray, List.set_cons_zero, List.set_cons_succ]
              refine k_val (v := .bool true) rfl _ (.inl rfl) rfl ?_; try simp only [Act.put, List.setIfInBounds_toArray, List.set_cons_zero, List.set_cons_succ]
              refine k_skip rfl rfl rfl rfl rfl ?_; try simp only [Act.put, List.setIfInBounds_toArray, List.set_cons_zero, List.set_cons_succ]
              refine k_skip rfl rfl rfl rfl rfl ?_; try simp only [Act.put, List.setIfInBounds_toArray, List.set_cons_zero, List.set_cons_succ]
              refine k_skip rfl rfl rfl rfl rfl ?_; try simp only [Act.put, List.setIfInBounds_toArray, List.set_cons_zero, List.set_cons_succ]
              refine k_skip rfl rfl rfl rfl rfl ?_; try simp only [Act.put, List.setIfInBounds_toArray, List.set_cons_zero, List.set_cons_succ]
              refine k_skip rfl rfl rfl rfl rfl ?_; try simp only [Act.put, List.setIfInBounds_toArray, List.set_cons_zero, List.set_cons_succ]
              refine k_pickT (t := true) rfl _ _ _ rfl rfl rfl ?_; try simp only [Act.put, List.setIfInBounds_toArray, List.set_cons_zero, List.set_cons_succ]
              refine k_end ?_
              intro w9 hT10
              go_wp2
              go_ret2
              exact lnpost_no HR.out (hT9.trans hT10)
        | false =>
          have HB := Lib.hid hE
          clear hE
          go_upto_region 11 with (fail)
          refine k_seq (C := fun w' => Tch [] w w') hT1 ?_
          refine k_val (v := .string (strB T)) rfl _ (.inl rfl) rfl ?_; try simp only [Act.put, List.setIfInBounds_toArray, List.set_cons_zero, List.set_cons_succ]
          refine k_val (v := .int .i64 ((word1 T).length : Int)) rfl _ (.inl rfl) rfl ?_; try simp only [Act.put, List.setIfInBounds_toArray, List.set_cons_zero, List.set_cons_succ]
          refine k_slO (vx := .string (strB T)) (vl := none) (vh := some (.int .i64 ((word1 T).length : Int))) rfl rfl rfl rfl rfl HSL.out ?_; try simp only [Act.put, List.setIfInBounds_toArray, List.set_cons_zero, List.set_cons_succ]
          refine k_eqS (l := word1 T) (m := byteW) (t := false) rfl _ _ _ rfl rfl rfl HWT.out (by decide) HB.out ?_; try simp only [Act.put, List.setIfInBounds_toArray, List.set_cons_zero, List.set_cons_succ]
          refine k_val (v := .bool false) rfl _ (.inl rfl) rfl ?_; try simp only [Act.put, List.setIfInBounds_toArray, List.set_cons_zero, List.set_cons_succ]
          refine k_skip rfl rfl rfl rfl rfl ?_; try simp only [Act.put, List.setIfInBounds_toArray, List.set_cons_zero, List.set_cons_succ]
          refine k_pickF (t := false) rfl _ _ _ rfl rfl rfl ?_; try simp only [Act.put, List.setIfInBounds_toArray, List.set_cons_zero, List.set_cons_succ]
          refine k_end ?_
          clear hT1
          intro w6 hT7
          go_upto_region 14 with (first
            | (refine st_slO (vx := .string (strB T)) (vl := none) (vh := some (.int .i64 ((word1 T).length : Int))) rfl rfl rfl rfl rfl HSL.out ?_)
            | (go_at_call 32; refine (HO.out _).mono ?_; rintro e w8 ⟨rfl, hT8⟩))
          have hT9 := hT7.trans hT8
          clear hT7 hT8
          cases ho : opF (word1 T) with
          | none =>
            have HR := Lib.hid (rdLn_noop ho)
            refine k_seq (C := fun w' => Tch [] w8 w') (Tch.refl [] w8) ?_
            refine k_val (v := .bool false) rfl _ (.inl rfl) rfl ?_; try simp only [Act.put, List.setIfInBounds_toArray, List.set_cons_zero, List.set_cons_succ]
            refine k_notV (s := false) (t := true) rfl _ _ rfl rfl rfl ?_; try simp only [Act.put, List.setIfInBounds_toArray, List.set_cons_zero, List.set_cons_succ]
            refine k_val (v := .bool true) rfl _ (.inl rfl) rfl ?_; try simp only [Act.put, List.setIfInBounds_toArray, List.set_cons_zero, List.set_cons_succ]
            refine k_skip rfl rfl rfl rfl rfl ?_; try simp only [Act.put, List.setIfInBounds_toArray, List.set_cons_zero, List.set_cons_succ]
            refine k_skip rfl rfl rfl rfl rfl ?_; try simp only [Act.put, List.setIfInBounds_toArray, List.set_cons_zero, List.set_cons_succ]
            refine k_skip rfl rfl rfl rfl rfl ?_; try simp only [Act.put, List.setIfInBounds_toArray, List.set_cons_zero, List.set_cons_succ]
            refine k_skip rfl rfl rfl rfl rfl ?_; try simp only [Act.put, List.setIfInBounds_toArray, List.set_cons_zero, List.set_cons_succ]
            refine k_skip rfl rfl rfl rfl rfl ?_; try simp only [Act.put, List.setIfInBounds_toArray, List.set_cons_zero, List.set_cons_succ]
            refine k_pickT (t := true) rfl _ _ _ rfl rfl rfl ?_; try simp only [Act.put, List.setIfInBounds_toArray, List.set_cons_zero, List.set_cons_succ]
            refine k_val (v := .bool true) rfl _ (.inl rfl) rfl ?_; try simp only [Act.put, List.setIfInBounds_toArray, List.set_cons_zero, List.set_cons_succ]
            refine k_skip rfl rfl rfl rfl rfl ?_; try simp only [Act.put, List.setIfInBounds_toArray, List.set_cons_zero, List.set_cons_succ]
            refine k_skip rfl rfl rfl rfl rfl ?_; try simp only [Act.put, List.setIfInBounds_toArray, List.set_cons_zero, List.set_cons_succ]
            refine k_skip rfl rfl rfl rfl rfl ?_; try simp only [Act.put, List.setIfInBounds_toArray, List.set_cons_zero, List.set_cons_succ]
            refine k_skip rfl rfl rfl rfl rfl ?_; try simp only [Act.put, List.setIfInBounds_toArray, List.set_cons_zero, List.set_cons_succ]
            refine k_skip rfl rfl rfl rfl rfl ?_; try simp only [Act.put, List.setIfInBounds_toArray, List.set_cons_zero, List.set_cons_succ]
            refine k_pickT (t := true) rfl _ _ _ rfl rfl rfl ?_; try simp only [Act.put, List.setIfInBounds_toArray, List.set_cons_zero, List.set_cons_succ]
            refine k_end ?_
            intro w9 hT10
            go_wp2
            go_ret2
            exact lnpost_no HR.out (hT9.trans hT10)
          | some x =>
            have hx256 := (opF_lt ho).1
            have HF := Lib.hid ho
            clear ho
            by_cases hl : ownN x = 0
            · have HL := Lib.hid (show ((0 : Int) != ((ownN x : Nat) : Int)) = false by rw [hl]; rfl)
              have HG := Lib.hid (show decide ((0 : Int) < ((ownN x : Nat) : Int)) = false from decide_eq_false (by omega))
              have HR := Lib.hid (show rdLn T = some ([x] ++ []) by
                rw [rdLn_bareW HM.out, HF.out]
                simp only [if_pos hl]; rfl)
              clear hl
              refine k_seq (C := fun w' => Tch [] w8 w') (Tch.refl [] w8) ?_
              refine k_val (v := .bool true) rfl _ (.inl rfl) rfl ?_; try simp only [Act.put, List.setIfInBounds_toArray, List.set_cons_zero, List.set_cons_succ]
              refine k_notV (s := true) (t := false) rfl _ _ rfl rfl rfl ?_; try simp only [Act.put, List.setIfInBounds_toArray, List.set_cons_zero, List.set_cons_succ]
              refine k_val (v := .bool false) rfl _ (.inl rfl) rfl ?_; try simp only [Act.put, List.setIfInBounds_toArray, List.set_cons_zero, List.set_cons_succ]
              refine k_val (v := .slice none 0 0) rfl _ (.inl rfl) rfl ?_; try simp only [Act.put, List.setIfInBounds_toArray, List.set_cons_zero, List.set_cons_succ]
              refine k_lenSl (p := none) (n := 0) (c := 0) rfl _ rfl rfl ?_; try simp only [Act.put, List.setIfInBounds_toArray, List.set_cons_zero, List.set_cons_succ]
              refine k_val (v := .int .u8 (x : Int)) rfl _ (.inl rfl) rfl ?_; try simp only [Act.put, List.setIfInBounds_toArray, List.set_cons_zero, List.set_cons_succ]
              refine k_callC1 (v1 := .int .u8 (x : Int)) rfl rfl rfl Try.call19 (fun w' h => (rownA_any x w' hx256).mono fun e w'' h2 => ⟨h2.1, h2.2 ▸ h⟩) ?_; try simp only [Act.put, List.setIfInBounds_toArray, List.set_cons_zero, List.set_cons_succ]
              refine k_neqs (m := ((0 : Nat) : Int)) (n := ((ownN x : Nat) : Int)) (t := false) rfl _ _ _ rfl rfl rfl HL.out ?_; try simp only [Act.put, List.setIfInBounds_toArray, List.set_cons_zero, List.set_cons_succ]
              refine k_pickF (t := false) rfl _ _ _ rfl rfl rfl ?_; try simp only [Act.put, List.setIfInBounds_toArray, List.set_cons_zero, List.set_cons_succ]
              refine k_val (v := .bool false) rfl _ (.inl rfl) rfl ?_; try simp only [Act.put, List.setIfInBounds_toArray, List.set_cons_zero, List.set_cons_succ]
              refine k_val (v := .bool false) rfl _ (.inl rfl) rfl ?_; try simp only [Act.put, List.setIfInBounds_toArray, List.set_cons_zero, List.set_cons_succ]
              refine k_val (v := .int .u8 (x : Int)) rfl _ (.inl rfl) rfl ?_; try simp only [Act.put, List.setIfInBounds_toArray, List.set_cons_zero, List.set_cons_succ]
              refine k_callC1 (v1 := .int .u8 (x : Int)) rfl rfl rfl Try.call19 (fun w' h => (rownA_any x w' hx256).mono fun e w'' h2 => ⟨h2.1, h2.2 ▸ h⟩) ?_; try simp only [Act.put, List.setIfInBounds_toArray, List.set_cons_zero, List.set_cons_succ]
              refine k_gtr (m := ((ownN x : Nat) : Int)) (n := 0) (t := false) rfl _ _ _ rfl rfl rfl HG.out ?_; try simp only [Act.put, List.setIfInBounds_toArray, List.set_cons_zero, List.set_cons_succ]
              refine k_booln (s := false) (r := false) (t := false) rfl _ _ _ rfl rfl rfl rfl ?_; try simp only [Act.put, List.setIfInBounds_toArray, List.set_cons_zero, List.set_cons_succ]
              refine k_pickF (t := false) rfl _ _ _ rfl rfl rfl ?_; try simp only [Act.put, List.setIfInBounds_toArray, List.set_cons_zero, List.set_cons_succ]
              refine k_end ?_
              intro w9 hT10
              have hT11 := hT9.trans hT10
              clear hT9 hT10
              have hsz11 := hT11.size
              go_wp2_with (at_builtin; refine st_appB (ty := 5) (w0 := w) (l := [x]) (m := []) rfl _ _ rfl rfl rfl (own_lit [x] hsz11 (by simp) _ rfl) (hT11.alloc _) (RdB.nil _) (by simp) ?_; intro v12 w12 hown12 hT12)
              go_ret2
              exact lnpost_yes HR.out hT12 (RdB.own hown12 (fun y hy => by rw [List.append_nil] at hy; rw [List.mem_singleton.1 hy]; exact hx256))
            · have HL := Lib.hid (show ((0 : Int) != ((ownN x : Nat) : Int)) = true by rw [bne_iff_ne]; omega)
              have HR := Lib.hid (show rdLn T = none by
                rw [rdLn_bareW HM.out, HF.out]
                simp only [if_neg hl])
              clear hl
              refine k_seq (C := fun w' => Tch [] w8 w') (Tch.refl [] w8) ?_
              refine k_val (v := .bool true) rfl _ (.inl rfl) rfl ?_; try simp only [Act.put, List.setIfInBounds_toArray, List.set_cons_zero, List.set_cons_succ]
              refine k_notV (s := true) (t := false) rfl _ _ rfl rfl rfl ?_; try simp only [Act.put, List.setIfInBounds_toArray, List.set_cons_zero, List.set_cons_succ]
              refine k_val (v := .bool false) rfl _ (.inl rfl) rfl ?_; try simp only [Act.put, List.setIfInBounds_toArray, List.set_cons_zero, List.set_cons_succ]
              refine k_val (v := .slice none 0 0) rfl _ (.inl rfl) rfl ?_; try simp only [Act.put, List.setIfInBounds_toArray, List.set_cons_zero, List.set_cons_succ]
              refine k_lenSl (p := none) (n := 0) (c := 0) rfl _ rfl rfl ?_; try simp only [Act.put, List.setIfInBounds_toArray, List.set_cons_zero, List.set_cons_succ]
              refine k_val (v := .int .u8 (x : Int)) rfl _ (.inl rfl) rfl ?_; try simp only [Act.put, List.setIfInBounds_toArray, List.set_cons_zero, List.set_cons_succ]
              refine k_callC1 (v1 := .int .u8 (x : Int)) rfl rfl rfl Try.call19 (fun w' h => (rownA_any x w' hx256).mono fun e w'' h2 => ⟨h2.1, h2.2 ▸ h⟩) ?_; try simp only [Act.put, List.setIfInBounds_toArray, List.set_cons_zero, List.set_cons_succ]
              refine k_neqs (m := ((0 : Nat) : Int)) (n := ((ownN x : Nat) : Int)) (t := true) rfl _ _ _ rfl rfl rfl HL.out ?_; try simp only [Act.put, List.setIfInBounds_toArray, List.set_cons_zero, List.set_cons_succ]
              refine k_pickF (t := true) rfl _ _ _ rfl rfl rfl ?_; try simp only [Act.put, List.setIfInBounds_toArray, List.set_cons_zero, List.set_cons_succ]
              refine k_val (v := .bool true) rfl _ (.inl rfl) rfl ?_; try simp only [Act.put, List.setIfInBounds_toArray, List.set_cons_zero, List.set_cons_succ]
              refine k_skip rfl rfl rfl rfl rfl ?_; try simp only [Act.put, List.setIfInBounds_toArray, List.set_cons_zero, List.set_cons_succ]
              refine k_skip rfl rfl rfl rfl rfl ?_; try simp only [Act.put, List.setIfInBounds_toArray, List.set_cons_zero, List.set_cons_succ]
              refine k_skip rfl rfl rfl rfl rfl ?_; try simp only [Act.put, List.setIfInBounds_toArray, List.set_cons_zero, List.set_cons_succ]
              refine k_skip rfl rfl rfl rfl rfl ?_; try simp only [Act.put, List.setIfInBounds_toArray, List.set_cons_zero, List.set_cons_succ]
              refine k_skip rfl rfl rfl rfl rfl ?_; try simp only [Act.put, List.setIfInBounds_toArray, List.set_cons_zero, List.set_cons_succ]
              refine k_pickT (t := true) rfl _ _ _ rfl rfl rfl ?_; try simp only [Act.put, List.setIfInBounds_toArray, List.set_cons_zero, List.set_cons_succ]
              refine k_end ?_
              intro w9 hT10
              go_wp2
              go_ret2
              exact lnpost_no HR.out (hT9.trans hT10)
end Go.Proofs.Ytjbjjiibldlipaa
