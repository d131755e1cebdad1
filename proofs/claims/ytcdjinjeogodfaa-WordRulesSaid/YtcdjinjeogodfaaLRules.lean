/- The law WordRules: for every three words the sums, differences and products of the package go together as numbers do, modulo 2^256. No condition. -/
import Derived.Test.YtcdjinjeogodfaaH
namespace Go.Proofs.Ytcdjinjeogodfaa.RulesLaw
open Go.ChangeShapes Go.WideShapes Go.ChangeAt Go.RowKit
set_option linter.unusedVariables false

theorem e1 (a b c : Nat) : wmul a (wadd b c) = wadd (wmul a b) (wmul a c) := by
  unfold wmul wadd
  rw [Nat.mul_mod, Nat.mod_mod, ← Nat.mul_mod, Nat.mul_add, Nat.add_mod]
theorem e2 {a b : Nat} (ha : a < M256) (hb : b < M256) : wsub (wadd a b) b = a := by
  unfold wsub wadd
  rw [Nat.mod_add_mod, Nat.add_assoc, Nat.add_sub_cancel' (Nat.le_of_lt hb), Nat.add_mod_right, Nat.mod_eq_of_lt ha]
theorem e3 (a b : Nat) : wadd a b = wadd b a := by unfold wadd; rw [Nat.add_comm]
theorem e4 (a b : Nat) : wmul a b = wmul b a := by unfold wmul; rw [Nat.mul_comm]
theorem and_or_aux : ∀ (n a b : Nat), a < 2 ^ n → b < 2 ^ n → (a &&& b) + (a ||| b) = a + b
  | 0, a, b, ha, hb => by
    obtain rfl : a = 0 := by simpa using ha
    obtain rfl : b = 0 := by simpa using hb
    rfl
  | n + 1, a, b, ha, hb => by
    have ih := and_or_aux n (a / 2) (b / 2) (by rw [Nat.pow_succ] at ha; omega) (by rw [Nat.pow_succ] at hb; omega)
    have h1 : (a &&& b) / 2 = a / 2 &&& b / 2 := Nat.and_div_two
    have h2 : (a ||| b) / 2 = a / 2 ||| b / 2 := Nat.or_div_two
    have h3 : (a &&& b) % 2 = a % 2 &&& b % 2 := Nat.and_mod_two_pow (n := 1)
    have h4 : (a ||| b) % 2 = a % 2 ||| b % 2 := Nat.or_mod_two_pow (n := 1)
    have h5 : (a % 2 &&& b % 2) + (a % 2 ||| b % 2) = a % 2 + b % 2 := by
      rcases Nat.mod_two_eq_zero_or_one a with h | h <;> rcases Nat.mod_two_eq_zero_or_one b with h' | h' <;> rw [h, h'] <;> rfl
    omega
theorem and_or (a b : Nat) : (a &&& b) + (a ||| b) = a + b := by
  refine and_or_aux (a + b) a b ?_ ?_
  · exact Nat.lt_of_le_of_lt (Nat.le_add_right a b) Nat.lt_two_pow_self
  · exact Nat.lt_of_le_of_lt (Nat.le_add_left b a) Nat.lt_two_pow_self
theorem e5 (a b : Nat) : wadd (a &&& b) (a ||| b) = wadd a b := by unfold wadd; rw [and_or]
theorem e6 (a b : Nat) : a ^^^ b ^^^ b = a := by
  apply Nat.eq_of_testBit_eq; intro i
  simp only [Nat.testBit_xor]
  cases a.testBit i <;> cases b.testBit i <;> rfl
theorem xor2_lt {a b : Nat} (ha : a < M256) : a ^^^ b ^^^ b < M256 := by rw [e6]; exact ha
theorem e7 {a : Nat} (ha : a < M256) : wadd a (M256 - (a + 1)) = wint (-1) := by
  rw [wint_neg_one]; unfold wadd
  rw [show a + (M256 - (a + 1)) = M256 - 1 by omega, Nat.mod_eq_of_lt (by omega)]

set_option maxHeartbeats 1000000 in
set_option maxRecDepth 100000 in
theorem walk (a b c : Nat) (ha : a < M256) (hb : b < M256) (hc : c < M256) (w : World) :
    Calls Try.prog 11 #[.agg (wcells a), .agg (wcells b), .agg (wcells c)] w fun e w' => e = .returned (.bool true) ∧ Below w.heap.size w w' := by
  have HL := Lib.hid (And.intro ha (And.intro hb hc))
  clear ha hb hc
  have hS := St.start w
  go_enter Try.func11, Try.ntmps11
  go_wp2_with (first | (refine st_box hS rfl _ _ rfl rfl ?_; clear hS; intro w1 b1 hS) | (go_at_call 17; refine (alive_any _).mono ?_; rintro e w1 ⟨rfl, hb⟩; replace hS := hS.call hb; clear hb))
  refine wp_region_all (C := fun w' => St w w' _) (by kernel_rfl) (by kernel_rfl) hS.drew ?_
  repeat (first | (refine q_load rfl 23 _ rfl rfl (by repeat (first | exact At.head | apply At.tail)) word_type rfl word_size (wf_size _) ?_; try simp only [Act.put, List.setIfInBounds_toArray, List.set_cons_zero, List.set_cons_succ]) | (refine q_same rfl _ _ _ rfl rfl rfl ?_ ?_ ?_; (with_reducible first | exact HL.out.1 | exact HL.out.2.1 | exact HL.out.2.2 | exact wadd_lt _ _ | exact wsub_lt _ _ | exact wmul_lt _ _ | exact xor2_lt HL.out.1); (with_reducible first | exact e1 _ _ _ | exact e2 HL.out.1 HL.out.2.1 | exact e4 _ _ | exact e3 _ _ | exact e5 _ _ | exact e6 _ _ | exact e7 HL.out.1); try simp only [Act.put, List.setIfInBounds_toArray, List.set_cons_zero, List.set_cons_succ]) | (refine q_bool rfl _ rfl rfl ?_; try simp only [Act.put, List.setIfInBounds_toArray, List.set_cons_zero, List.set_cons_succ]) | (refine q_boolm rfl _ rfl rfl ?_; try simp only [Act.put, List.setIfInBounds_toArray, List.set_cons_zero, List.set_cons_succ]) | (refine q_pick rfl _ _ _ rfl rfl rfl ?_; try simp only [Act.put, List.setIfInBounds_toArray, List.set_cons_zero, List.set_cons_succ]) | (refine wpQuiet_step (fun K hK => ?_); go_simp; first | (refine hK _ ?_; clear hK K) | (apply Exists.intro; refine ⟨fun w hw => ?_, hK _ ?_⟩; (first | (go_at_call 18; exact q_of hw (add_any _ _ _)) | (go_at_call 20; refine q_of hw (sub_any _ _ ?_ _) <;> (with_reducible first | exact HL.out.1 | exact HL.out.2.1 | exact HL.out.2.2 | exact wadd_lt _ _ | exact wsub_lt _ _ | exact wmul_lt _ _ | exact xor2_lt HL.out.1)) | (go_at_call 22; refine q_of hw (mul_any _ _ ?_ ?_ _) <;> (with_reducible first | exact HL.out.1 | exact HL.out.2.1 | exact HL.out.2.2 | exact wadd_lt _ _ | exact wsub_lt _ _ | exact wmul_lt _ _ | exact xor2_lt HL.out.1)) | (go_at_call 38; exact q_of hw (and_any _ _ _)) | (go_at_call 40; exact q_of hw (or_any _ _ _)) | (go_at_call 42; exact q_of hw (xor_any _ _ _)) | (go_at_call 44; refine q_of hw (not_any _ ?_ _) <;> (with_reducible first | exact HL.out.1 | exact HL.out.2.1 | exact HL.out.2.2 | exact wadd_lt _ _ | exact wsub_lt _ _ | exact wmul_lt _ _ | exact xor2_lt HL.out.1)) | (go_at_call 58; exact q_of hw (of_any _ (by omega) _))); clear hK K)))
  refine wpQuiet_nil ?_
  clear hS
  intro w1 hS
  go_wp2_with (fail)
  refine wp_region_all (C := fun w' => St w w' _) (by kernel_rfl) (by kernel_rfl) hS.drew ?_
  repeat (first | (refine q_load rfl 23 _ rfl rfl (by repeat (first | exact At.head | apply At.tail)) word_type rfl word_size (wf_size _) ?_; try simp only [Act.put, List.setIfInBounds_toArray, List.set_cons_zero, List.set_cons_succ]) | (refine q_same rfl _ _ _ rfl rfl rfl ?_ ?_ ?_; (with_reducible first | exact HL.out.1 | exact HL.out.2.1 | exact HL.out.2.2 | exact wadd_lt _ _ | exact wsub_lt _ _ | exact wmul_lt _ _ | exact xor2_lt HL.out.1); (with_reducible first | exact e1 _ _ _ | exact e2 HL.out.1 HL.out.2.1 | exact e4 _ _ | exact e3 _ _ | exact e5 _ _ | exact e6 _ _ | exact e7 HL.out.1); try simp only [Act.put, List.setIfInBounds_toArray, List.set_cons_zero, List.set_cons_succ]) | (refine q_bool rfl _ rfl rfl ?_; try simp only [Act.put, List.setIfInBounds_toArray, List.set_cons_zero, List.set_cons_succ]) | (refine q_boolm rfl _ rfl rfl ?_; try simp only [Act.put, List.setIfInBounds_toArray, List.set_cons_zero, List.set_cons_succ]) | (refine q_pick rfl _ _ _ rfl rfl rfl ?_; try simp only [Act.put, List.setIfInBounds_toArray, List.set_cons_zero, List.set_cons_succ]) | (refine wpQuiet_step (fun K hK => ?_); go_simp; first | (refine hK _ ?_; clear hK K) | (apply Exists.intro; refine ⟨fun w hw => ?_, hK _ ?_⟩; (first | (go_at_call 18; exact q_of hw (add_any _ _ _)) | (go_at_call 20; refine q_of hw (sub_any _ _ ?_ _) <;> (with_reducible first | exact HL.out.1 | exact HL.out.2.1 | exact HL.out.2.2 | exact wadd_lt _ _ | exact wsub_lt _ _ | exact wmul_lt _ _ | exact xor2_lt HL.out.1)) | (go_at_call 22; refine q_of hw (mul_any _ _ ?_ ?_ _) <;> (with_reducible first | exact HL.out.1 | exact HL.out.2.1 | exact HL.out.2.2 | exact wadd_lt _ _ | exact wsub_lt _ _ | exact wmul_lt _ _ | exact xor2_lt HL.out.1)) | (go_at_call 38; exact q_of hw (and_any _ _ _)) | (go_at_call 40; exact q_of hw (or_any _ _ _)) | (go_at_call 42; exact q_of hw (xor_any _ _ _)) | (go_at_call 44; refine q_of hw (not_any _ ?_ _) <;> (with_reducible first | exact HL.out.1 | exact HL.out.2.1 | exact HL.out.2.2 | exact wadd_lt _ _ | exact wsub_lt _ _ | exact wmul_lt _ _ | exact xor2_lt HL.out.1)) | (go_at_call 58; exact q_of hw (of_any _ (by omega) _))); clear hK K)))
  refine wpQuiet_nil ?_
  clear hS
  intro w1 hS
  go_wp2_with (fail)
  refine wp_region_all (C := fun w' => St w w' _) (by kernel_rfl) (by kernel_rfl) hS.drew ?_
  repeat (first | (refine q_load rfl 23 _ rfl rfl (by repeat (first | exact At.head | apply At.tail)) word_type rfl word_size (wf_size _) ?_; try simp only [Act.put, List.setIfInBounds_toArray, List.set_cons_zero, List.set_cons_succ]) | (refine q_same rfl _ _ _ rfl rfl rfl ?_ ?_ ?_; (with_reducible first | exact HL.out.1 | exact HL.out.2.1 | exact HL.out.2.2 | exact wadd_lt _ _ | exact wsub_lt _ _ | exact wmul_lt _ _ | exact xor2_lt HL.out.1); (with_reducible first | exact e1 _ _ _ | exact e2 HL.out.1 HL.out.2.1 | exact e4 _ _ | exact e3 _ _ | exact e5 _ _ | exact e6 _ _ | exact e7 HL.out.1); try simp only [Act.put, List.setIfInBounds_toArray, List.set_cons_zero, List.set_cons_succ]) | (refine q_bool rfl _ rfl rfl ?_; try simp only [Act.put, List.setIfInBounds_toArray, List.set_cons_zero, List.set_cons_succ]) | (refine q_boolm rfl _ rfl rfl ?_; try simp only [Act.put, List.setIfInBounds_toArray, List.set_cons_zero, List.set_cons_succ]) | (refine q_pick rfl _ _ _ rfl rfl rfl ?_; try simp only [Act.put, List.setIfInBounds_toArray, List.set_cons_zero, List.set_cons_succ]) | (refine wpQuiet_step (fun K hK => ?_); go_simp; first | (refine hK _ ?_; clear hK K) | (apply Exists.intro; refine ⟨fun w hw => ?_, hK _ ?_⟩; (first | (go_at_call 18; exact q_of hw (add_any _ _ _)) | (go_at_call 20; refine q_of hw (sub_any _ _ ?_ _) <;> (with_reducible first | exact HL.out.1 | exact HL.out.2.1 | exact HL.out.2.2 | exact wadd_lt _ _ | exact wsub_lt _ _ | exact wmul_lt _ _ | exact xor2_lt HL.out.1)) | (go_at_call 22; refine q_of hw (mul_any _ _ ?_ ?_ _) <;> (with_reducible first | exact HL.out.1 | exact HL.out.2.1 | exact HL.out.2.2 | exact wadd_lt _ _ | exact wsub_lt _ _ | exact wmul_lt _ _ | exact xor2_lt HL.out.1)) | (go_at_call 38; exact q_of hw (and_any _ _ _)) | (go_at_call 40; exact q_of hw (or_any _ _ _)) | (go_at_call 42; exact q_of hw (xor_any _ _ _)) | (go_at_call 44; refine q_of hw (not_any _ ?_ _) <;> (with_reducible first | exact HL.out.1 | exact HL.out.2.1 | exact HL.out.2.2 | exact wadd_lt _ _ | exact wsub_lt _ _ | exact wmul_lt _ _ | exact xor2_lt HL.out.1)) | (go_at_call 58; exact q_of hw (of_any _ (by omega) _))); clear hK K)))
  refine wpQuiet_nil ?_
  clear hS
  intro w1 hS
  go_wp2_with (fail)
  go_ret
  exact ⟨rfl, hS.below⟩

theorem own : ownKnob Try.prog.godebug = none := by kernel_rfl
set_option maxRecDepth 100000 in
theorem lifted (os : Os) (started : os.Started) (H : Type) (enc : TypeId × Value → H) :
    ReturnsInHanded {} Try.checked os 11 .any (Rows.wordRulesSpec.pre6 enc Try.prog Try.f11 Rows.wordRulesRow.domain false) (Rows.wordRulesSpec.post enc Try.prog Try.f11 false true false false) := by
  refine returnsInHanded_of_change (C := Try.checked) own started (by kernel_rfl) Try.func11
    (ChangeSpec.witness6 (enc := enc) (C := Try.checked) false ⟨#[], #[(.agg #[.int .u8 0, .int .u8 0, .int .u8 0, .int .u8 0, .int .u8 0, .int .u8 0, .int .u8 0, .int .u8 0, .int .u8 0, .int .u8 0, .int .u8 0, .int .u8 0, .int .u8 0, .int .u8 0, .int .u8 0, .int .u8 0, .int .u8 0, .int .u8 0, .int .u8 0, .int .u8 0, .int .u8 0, .int .u8 0, .int .u8 0, .int .u8 0, .int .u8 0, .int .u8 0, .int .u8 0, .int .u8 0, .int .u8 0, .int .u8 0, .int .u8 0, .int .u8 0]), (.agg #[.int .u8 0, .int .u8 0, .int .u8 0, .int .u8 0, .int .u8 0, .int .u8 0, .int .u8 0, .int .u8 0, .int .u8 0, .int .u8 0, .int .u8 0, .int .u8 0, .int .u8 0, .int .u8 0, .int .u8 0, .int .u8 0, .int .u8 0, .int .u8 0, .int .u8 0, .int .u8 0, .int .u8 0, .int .u8 0, .int .u8 0, .int .u8 0, .int .u8 0, .int .u8 0, .int .u8 0, .int .u8 0, .int .u8 0, .int .u8 0, .int .u8 0, .int .u8 0]), (.agg #[.int .u8 0, .int .u8 0, .int .u8 0, .int .u8 0, .int .u8 0, .int .u8 0, .int .u8 0, .int .u8 0, .int .u8 0, .int .u8 0, .int .u8 0, .int .u8 0, .int .u8 0, .int .u8 0, .int .u8 0, .int .u8 0, .int .u8 0, .int .u8 0, .int .u8 0, .int .u8 0, .int .u8 0, .int .u8 0, .int .u8 0, .int .u8 0, .int .u8 0, .int .u8 0, .int .u8 0, .int .u8 0, .int .u8 0, .int .u8 0, .int .u8 0, .int .u8 0])], []⟩ 8 (by kernel_rfl) (by kernel_rfl) (by kernel_rfl) (by kernel_rfl)) ?_
  intro W base args ds gs before hval0 hW hcnd _
  have hval : ∀ (j : Nat) t v, Try.f11.params[j]? = some t → args[j]? = some v → Value.okWide Try.prog W .any base t v := hval0
  have hW' := hW
  obtain ⟨p, q, hA0, hV, rfl, hfz, hnd⟩ := hW
  have hA : DataW.TrodAll enc Try.prog W 0 (fun _ => true) true Try.f11.params.toList args.toList ds p := hA0
  rw [Try.params11] at hA hval
  obtain ⟨v0, vs0, d0, ds0, p0, q0, hargs, rfl, rfl, h0, r0⟩ := trodAll_cons hA
  obtain ⟨v1, vs1, d1, ds1, p1, q1, rfl, rfl, rfl, h1, r1⟩ := trodAll_cons r0
  obtain ⟨v2, vs2, d2, ds2, p2, q2, rfl, rfl, rfl, h2, r2⟩ := trodAll_cons r1
  obtain ⟨rfl, rfl, rfl⟩ := trodAll_nil r2
  obtain rfl : args = #[v0, v1, v2] := by cases args; simp_all
  obtain ⟨rfl, rfl⟩ := trodVars_none hV
  obtain ⟨a0, l0, rfl, rfl, s0⟩ := open_word (hval 0 23 v0 rfl rfl) h0
  obtain ⟨a1, l1, rfl, rfl, s1⟩ := open_word (hval 1 23 v1 rfl rfl) h1
  obtain ⟨a2, l2, rfl, rfl, s2⟩ := open_word (hval 2 23 v2 rfl rfl) h2
  clear hA0 hval0
  simp only [List.append_nil] at hW'
  refine (walk a0 a1 a2 l0 l1 l2 W).mono fun e W' ⟨he, hg⟩ => ?_
  subst he
  exact ⟨_, rfl, _, _, _, [], _, [], hW', trodAll_mk1 (shut_bool Try.underlying4 _), (trodAll_cons_mk (s0 _ _ _ _) (trodAll_cons_mk (s1 _ _ _ _) (trodAll_cons_mk (s2 _ _ _ _) trodAll_mk0))), rfl, hg.frame _, fun h => by cases h⟩

theorem over : Rows.wordRulesRow.holds Try.pinned (OpenSpec.ofChange Rows.wordRulesSpec) :=
  OpenClaim.holds_of_wide 11 Try.f11 rfl rfl rfl rfl rfl rfl rfl ⟨rfl, rfl, rfl, rfl, rfl⟩ rfl rfl rfl rfl rfl (by kernel_rfl) Try.func11 (by kernel_rfl)
    (of_decide_eq_true (by kernel_rfl)) (by unfold Func.isWrapper; first | (rw [if_pos (by decide +kernel)]; kernel_rfl) | (rw [if_neg (by decide +kernel)]; exact ⟨rfl, rfl⟩))
    (fun os started H enc _ => lifted os started H enc)

/-- THE STATEMENT. -/
theorem wordRules_holds : Rows.WordRulesSaid := over
end Go.Proofs.Ytcdjinjeogodfaa.RulesLaw
