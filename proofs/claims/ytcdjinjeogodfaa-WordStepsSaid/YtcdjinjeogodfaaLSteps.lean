/- The law WordSteps: for every word and every two integers from 0 to 2^60 the power to their sum is the product of the two powers, modulo 2^256; for other integers the law answers that the document's example holds. No condition. -/
import Derived.Test.YtcdjinjeogodfaaH
import Derived.Test.YtcdjinjeogodfaaI3
namespace Go.Proofs.Ytcdjinjeogodfaa.StepsLaw
open Go.ChangeShapes Go.WideShapes Go.ChangeAt Go.RowKit
set_option linter.unusedVariables false

theorem bounds_of {n : Int} (h : (Lit.int .i64 n).wf = true) : -9223372036854775808 ≤ n ∧ n ≤ 9223372036854775807 := by
  simp [Lit.wf, IntKind.min, IntKind.max, IntKind.bits, IntKind.signed] at h
  omega
theorem e1 {a : Nat} {m n : Int} (hm : 0 ≤ m ∧ m ≤ 1152921504606846976) (hn : 0 ≤ n ∧ n ≤ 1152921504606846976) : wpow a (wint (m + n)) = wmul (wpow a (wint m)) (wpow a (wint n)) := by
  obtain ⟨M, rfl⟩ := Int.eq_ofNat_of_zero_le hm.1
  obtain ⟨N, rfl⟩ := Int.eq_ofNat_of_zero_le hn.1
  have big : 4611686018427387904 < M256 := by unfold M256; decide
  rw [show ((M : Int) + (N : Int)) = ((M + N : Nat) : Int) by omega, wint_nat (by omega), wint_nat (by omega), wint_nat (by omega)]
  unfold wmul wpow
  rw [← Nat.mul_mod, ← Nat.pow_add]

theorem q_movei {o : Oper} {a : Act} {ops : Array Oper} {rest : List Oper} {C : World → Prop} {Q : Act → Prop} {k : IntKind} {n : Int} (hw : Region.wanted o (yielded ops a.tmps) = true) (xo : Operand) (ho : o.op = .move xo) (hx : a.eval xo = .int k n)
    (h : wpQuiet Try.prog ops C Q rest (a.put o.dst (.int k n))) : wpQuiet Try.prog ops C Q (o :: rest) a :=
  q_pure hw (fun w => by unfold execOp; simp only [ho, hx]; rfl) h
theorem q_addi {o : Oper} {a : Act} {ops : Array Oper} {rest : List Oper} {C : World → Prop} {Q : Act → Prop} {m n s : Int} (hw : Region.wanted o (yielded ops a.tmps) = true) (ty yt : TypeId) (xo yo : Operand) (ho : o.op = .binOp .add ty xo yo yt) (hx : a.eval xo = .int .i64 m) (hy : a.eval yo = .int .i64 n) (he : IntKind.i64.wrap (m + n) = s)
    (h : wpQuiet Try.prog ops C Q rest (a.put o.dst (.int .i64 s))) : wpQuiet Try.prog ops C Q (o :: rest) a :=
  q_pure hw (fun w => by
    unfold execOp
    simp only [ho, hx, hy]
    show Sem.run Try.prog _ w = _
    simp [eqGuard, binOp, Op.intArith, he]) h

set_option maxHeartbeats 1000000 in
set_option maxRecDepth 100000 in
theorem walk (a : Nat) (m n : Int) (ha : a < M256) (wm : (Lit.int .i64 m).wf = true) (wn : (Lit.int .i64 n).wf = true) (w : World) :
    Calls Try.prog 12 #[.agg (wcells a), .int .i64 m, .int .i64 n] w fun e w' => e = .returned (.bool true) ∧ Below w.heap.size w w' := by
  have HL := Lib.hid ha
  have bm := bounds_of wm
  have bn := bounds_of wn
  clear ha wm wn
  have hS := St.start w
  by_cases h1 : m < 0
  · go_enter Try.func12, Try.ntmps12
    go_wp2_with (first | (refine st_box hS rfl _ _ rfl rfl ?_; clear hS; intro w1 b1 hS) | (go_at_call 17; refine (alive_any _).mono ?_; rintro e w1 ⟨rfl, hb⟩; replace hS := hS.call hb; clear hb))
    go_ret
    exact ⟨rfl, hS.below⟩
  · by_cases h2 : n < 0
    · go_enter Try.func12, Try.ntmps12
      go_wp2_with (first | (refine st_box hS rfl _ _ rfl rfl ?_; clear hS; intro w1 b1 hS) | (go_at_call 17; refine (alive_any _).mono ?_; rintro e w1 ⟨rfl, hb⟩; replace hS := hS.call hb; clear hb))
      go_ret
      exact ⟨rfl, hS.below⟩
    · by_cases h3 : 1152921504606846976 < m
      · go_enter Try.func12, Try.ntmps12
        go_wp2_with (first | (refine st_box hS rfl _ _ rfl rfl ?_; clear hS; intro w1 b1 hS) | (go_at_call 17; refine (alive_any _).mono ?_; rintro e w1 ⟨rfl, hb⟩; replace hS := hS.call hb; clear hb))
        go_ret
        exact ⟨rfl, hS.below⟩
      · by_cases h4 : 1152921504606846976 < n
        · go_enter Try.func12, Try.ntmps12
          go_wp2_with (first | (refine st_box hS rfl _ _ rfl rfl ?_; clear hS; intro w1 b1 hS) | (go_at_call 17; refine (alive_any _).mono ?_; rintro e w1 ⟨rfl, hb⟩; replace hS := hS.call hb; clear hb))
          go_ret
          exact ⟨rfl, hS.below⟩
        · have HM := Lib.hid (And.intro (show 0 ≤ m ∧ m ≤ 1152921504606846976 by omega) (show 0 ≤ n ∧ n ≤ 1152921504606846976 by omega))
          have e2 : IntKind.i64.wrap (m + n) = m + n := IntWalk.i64_in _ (by omega)
          have e3 : wrap64 (m + n) = m + n := IntWalk.wrap64_in _ (by omega)
          go_enter Try.func12, Try.ntmps12
          go_wp2_with (first | (refine st_box hS rfl _ _ rfl rfl ?_; clear hS; intro w1 b1 hS) | (go_at_call 17; refine (alive_any _).mono ?_; rintro e w1 ⟨rfl, hb⟩; replace hS := hS.call hb; clear hb))
          refine wp_region_all (C := fun w' => St w w' _) (by kernel_rfl) (by kernel_rfl) hS.drew ?_
          repeat (first | (refine q_load rfl 23 _ rfl rfl (by repeat (first | exact At.head | apply At.tail)) word_type rfl word_size (wf_size _) ?_; try simp only [Act.put, List.setIfInBounds_toArray, List.set_cons_zero, List.set_cons_succ]) | (refine q_same rfl _ _ _ rfl rfl rfl ?_ ?_ ?_; (with_reducible first | exact HL.out | exact wpow_lt _ _ | exact wint_lt _ | exact wmul_lt _ _); (with_reducible first | exact e1 HM.out.1 HM.out.2); try simp only [Act.put, List.setIfInBounds_toArray, List.set_cons_zero, List.set_cons_succ]) | (refine q_movei rfl _ rfl rfl ?_; try simp only [Act.put, List.setIfInBounds_toArray, List.set_cons_zero, List.set_cons_succ]) | (refine q_addi rfl _ _ _ _ rfl rfl rfl e2 ?_; try simp only [Act.put, List.setIfInBounds_toArray, List.set_cons_zero, List.set_cons_succ]) | (refine q_bool rfl _ rfl rfl ?_; try simp only [Act.put, List.setIfInBounds_toArray, List.set_cons_zero, List.set_cons_succ]) | (refine q_boolm rfl _ rfl rfl ?_; try simp only [Act.put, List.setIfInBounds_toArray, List.set_cons_zero, List.set_cons_succ]) | (refine q_pick rfl _ _ _ rfl rfl rfl ?_; try simp only [Act.put, List.setIfInBounds_toArray, List.set_cons_zero, List.set_cons_succ]) | (refine wpQuiet_step (fun K hK => ?_); go_simp; first | (refine hK _ ?_; clear hK K) | (apply Exists.intro; refine ⟨fun w hw => ?_, hK _ ?_⟩; (first | (go_at_call 22; refine q_of hw (mul_any _ _ ?_ ?_ _) <;> (with_reducible first | exact HL.out | exact wpow_lt _ _ | exact wint_lt _ | exact wmul_lt _ _)) | (go_at_call 36; refine q_of hw (exp_any _ _ ?_ ?_ _) <;> (with_reducible first | exact HL.out | exact wpow_lt _ _ | exact wint_lt _ | exact wmul_lt _ _)) | (go_at_call 58; exact q_of hw (of_any _ (by omega) _))); clear hK K)))
          refine wpQuiet_nil ?_
          clear hS
          intro w1 hS

          go_wp2_with (fail)
          go_ret
          exact ⟨rfl, hS.below⟩

theorem own : ownKnob Try.prog.godebug = none := by kernel_rfl
set_option maxRecDepth 100000 in
theorem lifted (os : Os) (started : os.Started) (H : Type) (enc : TypeId × Value → H) :
    ReturnsInHanded {} Try.checked os 12 .any (Rows.wordStepsSpec.pre6 enc Try.prog Try.f12 Rows.wordStepsRow.domain false) (Rows.wordStepsSpec.post enc Try.prog Try.f12 false true false false) := by
  refine returnsInHanded_of_change (C := Try.checked) own started (by kernel_rfl) Try.func12
    (ChangeSpec.witness6 (enc := enc) (C := Try.checked) false ⟨#[], #[(.agg #[.int .u8 0, .int .u8 0, .int .u8 0, .int .u8 0, .int .u8 0, .int .u8 0, .int .u8 0, .int .u8 0, .int .u8 0, .int .u8 0, .int .u8 0, .int .u8 0, .int .u8 0, .int .u8 0, .int .u8 0, .int .u8 0, .int .u8 0, .int .u8 0, .int .u8 0, .int .u8 0, .int .u8 0, .int .u8 0, .int .u8 0, .int .u8 0, .int .u8 0, .int .u8 0, .int .u8 0, .int .u8 0, .int .u8 0, .int .u8 0, .int .u8 0, .int .u8 0]), .int .i64 0, .int .i64 0], []⟩ 8 (by kernel_rfl) (by kernel_rfl) (by kernel_rfl) (by kernel_rfl)) ?_
  intro W base args ds gs before hval0 hW hcnd _
  have hval : ∀ (j : Nat) t v, Try.f12.params[j]? = some t → args[j]? = some v → Value.okWide Try.prog W .any base t v := hval0
  have hW' := hW
  obtain ⟨p, q, hA0, hV, rfl, hfz, hnd⟩ := hW
  have hA : DataW.TrodAll enc Try.prog W 0 (fun _ => true) true Try.f12.params.toList args.toList ds p := hA0
  rw [Try.params12] at hA hval
  obtain ⟨v0, vs0, d0, ds0, p0, q0, hargs, rfl, rfl, h0, r0⟩ := trodAll_cons hA
  obtain ⟨v1, vs1, d1, ds1, p1, q1, rfl, rfl, rfl, h1, r1⟩ := trodAll_cons r0
  obtain ⟨v2, vs2, d2, ds2, p2, q2, rfl, rfl, rfl, h2, r2⟩ := trodAll_cons r1
  obtain ⟨rfl, rfl, rfl⟩ := trodAll_nil r2
  obtain rfl : args = #[v0, v1, v2] := by cases args; simp_all
  obtain ⟨rfl, rfl⟩ := trodVars_none hV
  obtain ⟨a0, l0, rfl, rfl, s0⟩ := open_word (hval 0 23 v0 rfl rfl) h0
  obtain ⟨a1, rfl, rfl, rfl, w1⟩ := open_int Try.underlying3 (hval 1 3 v1 rfl rfl) h1
  obtain ⟨a2, rfl, rfl, rfl, w2⟩ := open_int Try.underlying3 (hval 2 3 v2 rfl rfl) h2
  clear hA0 hval0
  simp only [List.append_nil] at hW'
  refine (walk a0 a1 a2 l0 w1 w2 W).mono fun e W' ⟨he, hg⟩ => ?_
  subst he
  exact ⟨_, rfl, _, _, _, [], _, [], hW', trodAll_mk1 (shut_bool Try.underlying4 _), (trodAll_cons_mk (s0 _ _ _ _) (trodAll_cons_mk (shut_int Try.underlying3 w1) (trodAll_cons_mk (shut_int Try.underlying3 w2) trodAll_mk0))), rfl, hg.frame _, fun h => by cases h⟩

theorem over : Rows.wordStepsRow.holds Try.pinned (OpenSpec.ofChange Rows.wordStepsSpec) :=
  OpenClaim.holds_of_wide 12 Try.f12 rfl rfl rfl rfl rfl rfl rfl ⟨rfl, rfl, rfl, rfl, rfl⟩ rfl rfl rfl rfl rfl (by kernel_rfl) Try.func12 (by kernel_rfl)
    (of_decide_eq_true (by kernel_rfl)) (by unfold Func.isWrapper; first | (rw [if_pos (by decide +kernel)]; kernel_rfl) | (rw [if_neg (by decide +kernel)]; exact ⟨rfl, rfl⟩))
    (fun os started H enc _ => lifted os started H enc)

/-- THE STATEMENT. -/
theorem wordSteps_holds : Rows.WordStepsSaid := over
end Go.Proofs.Ytcdjinjeogodfaa.StepsLaw
