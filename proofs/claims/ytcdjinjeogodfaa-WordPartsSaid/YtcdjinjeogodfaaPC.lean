/- The law WordParts: for every two words the package's Div, Mod, SDiv and SMod tell what the document's own words tell. No condition. -/
import Derived.Test.YtcdjinjeogodfaaH
import Derived.Test.YtcdjinjeogodfaaK
import Derived.Test.YtcdjinjeogodfaaPB
/-! The law WordParts: for every two words the package's Div, Mod, SDiv and SMod tell what the document's own words tell. No condition. -/
namespace Go.Proofs.Ytcdjinjeogodfaa.PartsLaw
open Go.ChangeShapes Go.WideShapes Go.ChangeAt Go.RowKit
set_option linter.unusedVariables false

theorem same {x : Nat} (h : x < M256) : x < M256 ∧ x < M256 ∧ decide (x = x) = true := ⟨h, h, decide_eq_true rfl⟩
set_option maxHeartbeats 1000000 in
set_option maxRecDepth 100000 in
theorem walk (a b : Nat) (ha : a < M256) (hb : b < M256) (w : World) :
    Calls Try.prog 4 #[.agg (wcells a), .agg (wcells b)] w fun e w' => e = .returned (.bool true) ∧ Below w.heap.size w w' := by
  have HL := Lib.hid (And.intro ha hb)
  clear ha hb
  have hS := St.start w
  go_enter Try.func4, Try.ntmps4
  go_wp2_with (first | (refine st_box hS rfl _ _ rfl rfl ?_; clear hS; intro w1 b1 hS) | (go_at_call 17; refine (alive_any _).mono ?_; rintro e w1 ⟨rfl, hb⟩; replace hS := hS.call hb; clear hb))
  refine k_region (C := fun w' => St w w' _) (by kernel_rfl) (by kernel_rfl) hS.drew ?_
  repeat (first | (refine k_skip rfl rfl rfl rfl rfl ?_; try simp only [Act.put, List.setIfInBounds_toArray, List.set_cons_zero, List.set_cons_succ]) | (refine k_load rfl 23 _ rfl rfl (by repeat (first | exact At.head | apply At.tail)) word_type word_size (wf_size _) ?_; try simp only [Act.put, List.setIfInBounds_toArray, List.set_cons_zero, List.set_cons_succ]) | (refine k_words rfl _ _ _ rfl rfl rfl (by with_reducible first | exact same (div_lt HL.out.1) | exact same (wrest_lt HL.out.1) | exact same (sdivN_lt HL.out.1) | exact same (smodN_lt HL.out.1)) ?_; try simp only [Act.put, List.setIfInBounds_toArray, List.set_cons_zero, List.set_cons_succ]) | (refine k_boolm rfl _ rfl rfl ?_; try simp only [Act.put, List.setIfInBounds_toArray, List.set_cons_zero, List.set_cons_succ]) | (refine k_boola rfl _ rfl rfl ?_; try simp only [Act.put, List.setIfInBounds_toArray, List.set_cons_zero, List.set_cons_succ]) | (refine k_intm rfl _ rfl rfl ?_; try simp only [Act.put, List.setIfInBounds_toArray, List.set_cons_zero, List.set_cons_succ]) | (refine k_inta rfl _ rfl rfl ?_; try simp only [Act.put, List.setIfInBounds_toArray, List.set_cons_zero, List.set_cons_succ]) | (refine k_pickT rfl _ _ _ rfl rfl rfl ?_; try simp only [Act.put, List.setIfInBounds_toArray, List.set_cons_zero, List.set_cons_succ]) | (refine k_pickF rfl _ _ _ rfl rfl rfl ?_; try simp only [Act.put, List.setIfInBounds_toArray, List.set_cons_zero, List.set_cons_succ]) | (refine k_bools rfl _ _ _ rfl rfl rfl ?_; try simp only [Act.put, List.setIfInBounds_toArray, List.set_cons_zero, List.set_cons_succ]) | (refine k_call_ww rfl rfl rfl rfl (by with_reducible first | exact ⟨Try.call24, div_any _ _ HL.out.1 HL.out.2⟩ | exact ⟨Try.call25, rDiv_any _ _ HL.out.1 HL.out.2⟩ | exact ⟨Try.call26, mod_any _ _ HL.out.1 HL.out.2⟩ | exact ⟨Try.call27, rMod_any _ _ HL.out.1 HL.out.2⟩ | exact ⟨Try.call28, sdiv_any _ _ HL.out.1 HL.out.2⟩ | exact ⟨Try.call29, rsdiv_any _ _ HL.out.1 HL.out.2⟩ | exact ⟨Try.call30, smod_any _ _ HL.out.1 HL.out.2⟩ | exact ⟨Try.call31, rsmod_any _ _ HL.out.1 HL.out.2⟩) ?_; try simp only [Act.put, List.setIfInBounds_toArray, List.set_cons_zero, List.set_cons_succ]))
  refine k_end ?_
  clear hS
  intro w1 hS
  go_wp2_with (fail)
  go_ret
  exact ⟨rfl, hS.below⟩
end Go.Proofs.Ytcdjinjeogodfaa.PartsLaw

/-! The law WordParts, as it is stated: for every two words: their quotient and rest, with signs and without, as the document's own words tell. No condition. -/
namespace Go.Proofs.Ytcdjinjeogodfaa.PartsLaw
open Go.ChangeShapes Go.WideShapes Go.ChangeAt Go.RowKit
set_option linter.unusedVariables false
theorem own : ownKnob Try.prog.godebug = none := by kernel_rfl
set_option maxRecDepth 100000 in
theorem lifted (os : Os) (started : os.Started) (H : Type) (enc : TypeId × Value → H) :
    ReturnsInHanded {} Try.checked os 4 .any (Rows.wordPartsSpec.pre6 enc Try.prog Try.f4 Rows.wordPartsRow.domain false) (Rows.wordPartsSpec.post enc Try.prog Try.f4 false true false false) := by
  refine returnsInHanded_of_change (C := Try.checked) own started (by kernel_rfl) Try.func4
    (ChangeSpec.witness6 (enc := enc) (C := Try.checked) false ⟨#[], #[(.agg #[.int .u8 0, .int .u8 0, .int .u8 0, .int .u8 0, .int .u8 0, .int .u8 0, .int .u8 0, .int .u8 0, .int .u8 0, .int .u8 0, .int .u8 0, .int .u8 0, .int .u8 0, .int .u8 0, .int .u8 0, .int .u8 0, .int .u8 0, .int .u8 0, .int .u8 0, .int .u8 0, .int .u8 0, .int .u8 0, .int .u8 0, .int .u8 0, .int .u8 0, .int .u8 0, .int .u8 0, .int .u8 0, .int .u8 0, .int .u8 0, .int .u8 0, .int .u8 0]), (.agg #[.int .u8 0, .int .u8 0, .int .u8 0, .int .u8 0, .int .u8 0, .int .u8 0, .int .u8 0, .int .u8 0, .int .u8 0, .int .u8 0, .int .u8 0, .int .u8 0, .int .u8 0, .int .u8 0, .int .u8 0, .int .u8 0, .int .u8 0, .int .u8 0, .int .u8 0, .int .u8 0, .int .u8 0, .int .u8 0, .int .u8 0, .int .u8 0, .int .u8 0, .int .u8 0, .int .u8 0, .int .u8 0, .int .u8 0, .int .u8 0, .int .u8 0, .int .u8 0])], []⟩ 8 (by kernel_rfl) (by kernel_rfl) (by kernel_rfl) (by kernel_rfl)) ?_
  intro W base args ds gs before hval0 hW hcnd _
  have hval : ∀ (j : Nat) t v, Try.f4.params[j]? = some t → args[j]? = some v → Value.okWide Try.prog W .any base t v := hval0
  have hW' := hW
  obtain ⟨p, q, hA0, hV, rfl, hfz, hnd⟩ := hW
  have hA : DataW.TrodAll enc Try.prog W 0 (fun _ => true) true Try.f4.params.toList args.toList ds p := hA0
  rw [Try.params4] at hA hval
  obtain ⟨v0, vs0, d0, ds0, p0, q0, hargs, rfl, rfl, h0, r0⟩ := trodAll_cons hA
  obtain ⟨v1, vs1, d1, ds1, p1, q1, rfl, rfl, rfl, h1, r1⟩ := trodAll_cons r0
  obtain ⟨rfl, rfl, rfl⟩ := trodAll_nil r1
  obtain rfl : args = #[v0, v1] := by cases args; simp_all
  obtain ⟨rfl, rfl⟩ := trodVars_none hV
  obtain ⟨a0, l0, rfl, rfl, s0⟩ := open_word (hval 0 23 v0 rfl rfl) h0
  obtain ⟨a1, l1, rfl, rfl, s1⟩ := open_word (hval 1 23 v1 rfl rfl) h1
  clear hA0 hval0
  simp only [List.append_nil] at hW'
  refine (walk a0 a1 l0 l1 W).mono fun e W' ⟨he, hg⟩ => ?_
  subst he
  exact ⟨_, rfl, _, _, _, [], _, [], hW', trodAll_mk1 (shut_bool Try.underlying4 _), (trodAll_cons_mk (s0 _ _ _ _) (trodAll_cons_mk (s1 _ _ _ _) trodAll_mk0)), rfl, hg.frame _, fun h => by cases h⟩

theorem over : Rows.wordPartsRow.holds Try.pinned (OpenSpec.ofChange Rows.wordPartsSpec) :=
  OpenClaim.holds_of_wide 4 Try.f4 rfl rfl rfl rfl rfl rfl rfl ⟨rfl, rfl, rfl, rfl, rfl⟩ rfl rfl rfl rfl rfl (by kernel_rfl) Try.func4 (by kernel_rfl)
    (of_decide_eq_true (by kernel_rfl)) (by unfold Func.isWrapper; first | (rw [if_pos (by decide +kernel)]; kernel_rfl) | (rw [if_neg (by decide +kernel)]; exact ⟨rfl, rfl⟩))
    (fun os started H enc _ => lifted os started H enc)

/-- THE STATEMENT. -/
theorem wordParts_holds : Rows.WordPartsSaid := over
end Go.Proofs.Ytcdjinjeogodfaa.PartsLaw
