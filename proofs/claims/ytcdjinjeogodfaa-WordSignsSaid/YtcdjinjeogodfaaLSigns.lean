/- The law WordSigns: for every two words: a word and its negative come to nought, its product with -1 is its negative, signed order turns around with the negatives (but at the least word), and both orders turn around with their words. No condition. -/
import Derived.Test.YtcdjinjeogodfaaH
import Derived.Test.YtcdjinjeogodfaaK
import Derived.Test.YtcdjinjeogodfaaN
namespace Go.Proofs.Ytcdjinjeogodfaa.SignsLaw
open Go.ChangeShapes Go.WideShapes Go.ChangeAt Go.RowKit
set_option linter.unusedVariables false

/-- The least word. -/
def least : Nat := 2 ^ 255
theorem least_lt : least < M256 := by unfold least M256; decide
theorem least_eq : shlN (wint 255) (wint 1) = least := by
  have : 256 < M256 := by unfold M256; decide
  rw [show wint 255 = 255 from wint_nat (n := 255) (by omega), show wint 1 = 1 from wint_nat (n := 1) (by omega)]; decide
theorem shl_least (w : World) : Calls Try.prog 48 #[.agg (wcells (wint 255)), .agg (wcells (wint 1))] w fun e w' => e = .returned (.agg (wcells least)) ∧ Below w.heap.size w w' := by
  rw [← least_eq]; exact Shl_any _ _ (wint_lt _) (wint_lt _) w
theorem cmp_bounds (x y : Nat) : -1 ≤ cmpN x y ∧ cmpN x y ≤ 1 := by unfold cmpN; split <;> (try split) <;> omega
theorem neg_in (x y : Nat) : IntKind.i64.wrap (-cmpN x y) = -cmpN x y := IntWalk.i64_in _ (by have := cmp_bounds x y; omega)
theorem eq_neg (x y : Nat) : (cmpN x y == -cmpN y x) = true := by rw [cmpN_neg x y]; simp
theorem eq_turned {a b : Nat} (ha : a < M256) (hb : b < M256) (h1 : a ≠ least) (h2 : b ≠ least) :
    (cmpN (flipN a) (flipN b) == cmpN (flipN (wsub 0 b)) (flipN (wsub 0 a))) = true := by
  rw [turned ha hb h1 h2]; simp
theorem eq_zero {a b : Nat} : (cmpN a b == 0) = decide (a = b) := by
  rw [Bool.eq_iff_iff]; simp only [beq_iff_eq, decide_eq_true_eq]; exact cmpN_zero a b

set_option maxHeartbeats 1000000 in
set_option maxRecDepth 100000 in
theorem walk (a b : Nat) (ha : a < M256) (hb : b < M256) (w : World) :
    Calls Try.prog 13 #[.agg (wcells a), .agg (wcells b)] w fun e w' => e = .returned (.bool true) ∧ Below w.heap.size w w' := by
  have HL := Lib.hid (And.intro ha hb)
  clear ha hb
  have hS := St.start w
  go_enter Try.func13, Try.ntmps13
  go_upto_region 6 with ((first | (refine st_store (c' := wcells 0) hS rfl 23 _ _ rfl rfl word_lit_eq (by repeat (first | exact Upd.head | apply Upd.tail)) word_size (wf_size _) (wf_size _) (wf_one _) ?_; clear hS; intro w1 hS) | (refine st_box hS rfl _ _ rfl rfl ?_; clear hS; intro w1 b1 hS) | (refine st_new hS rfl 23 rfl word_zero ?_; clear hS; intro w1 b1 hS) | (refine st_load hS rfl 23 _ rfl rfl (by repeat (first | exact At.head | apply At.tail)) word_type rfl word_size (wf_size _) ?_) | (refine st_store hS rfl 23 _ _ rfl rfl rfl (by repeat (first | exact Upd.head | apply Upd.tail)) word_size (wf_size _) (wf_size _) (wf_one _) ?_; clear hS; intro w1 hS) | (go_at_call 17; refine (alive_any _).mono ?_; rintro e w1 ⟨rfl, hb⟩; replace hS := hS.call hb; clear hb) | (go_at_call 20; refine (sub_any 0 _ (by with_reducible first | exact HL.out.1 | exact HL.out.2) _).mono ?_; rintro e w1 ⟨rfl, hb⟩; replace hS := hS.call hb; clear hb) | (go_at_call 58; refine (of_any _ (by omega) _).mono ?_; rintro e w1 ⟨rfl, hb⟩; replace hS := hS.call hb; clear hb) | (go_at_call 48; with_reducible refine (shl_least _).mono ?_; rintro e w1 ⟨rfl, hb⟩; replace hS := hS.call hb; clear hb)))
  try simp only [Act.put, List.setIfInBounds_toArray, List.set_cons_zero, List.set_cons_succ]
  go_cut [2, 3, 6, 7, 8, 9, 10] (fun s2 s3 s6 s7 s8 s9 s10 wx => s10 = .bool true ∧ ∃ b2 b3 b6 b7 b8 b9 : Nat, s2 = .pointer (some ⟨b2, 0, none⟩) ∧ s3 = .pointer (some ⟨b3, 0, none⟩) ∧ s6 = .pointer (some ⟨b6, 0, none⟩) ∧ s7 = .pointer (some ⟨b7, 0, none⟩) ∧ s8 = .pointer (some ⟨b8, 0, none⟩) ∧ s9 = .pointer (some ⟨b9, 0, none⟩) ∧ St w wx [(b9, 23, wcells least), (b8, 23, wcells (wsub 0 b)), (b7, 23, wcells (wsub 0 a)), (b6, 23, wcells 0), (b3, 23, wcells b), (b2, 23, wcells a)])
  case first =>
    by_cases h1 : a = least
    · have h1 := h1
      refine k_region (C := fun w' => St w w' _) (by kernel_rfl) (by kernel_rfl) hS.drew ?_
      repeat (first | (refine k_skip rfl rfl rfl rfl rfl ?_; try simp only [Act.put, List.setIfInBounds_toArray, List.set_cons_zero, List.set_cons_succ]) | (refine k_load rfl 23 _ rfl rfl (by repeat (first | exact At.head | apply At.tail)) word_type word_size (wf_size _) ?_; try simp only [Act.put, List.setIfInBounds_toArray, List.set_cons_zero, List.set_cons_succ]) | (refine k_words rfl _ _ _ rfl rfl rfl (by with_reducible first | exact ⟨HL.out.1, least_lt, decide_eq_true h1⟩) ?_; try simp only [Act.put, List.setIfInBounds_toArray, List.set_cons_zero, List.set_cons_succ]) | (refine k_boolm rfl _ rfl rfl ?_; try simp only [Act.put, List.setIfInBounds_toArray, List.set_cons_zero, List.set_cons_succ]) | (refine k_boola rfl _ rfl rfl ?_; try simp only [Act.put, List.setIfInBounds_toArray, List.set_cons_zero, List.set_cons_succ]) | (refine k_intm rfl _ rfl rfl ?_; try simp only [Act.put, List.setIfInBounds_toArray, List.set_cons_zero, List.set_cons_succ]) | (refine k_inta rfl _ rfl rfl ?_; try simp only [Act.put, List.setIfInBounds_toArray, List.set_cons_zero, List.set_cons_succ]) | (refine k_pickT rfl _ _ _ rfl rfl rfl ?_; try simp only [Act.put, List.setIfInBounds_toArray, List.set_cons_zero, List.set_cons_succ]) | (refine k_pickF rfl _ _ _ rfl rfl rfl ?_; try simp only [Act.put, List.setIfInBounds_toArray, List.set_cons_zero, List.set_cons_succ]) | (refine k_bools rfl _ _ _ rfl rfl rfl ?_; try simp only [Act.put, List.setIfInBounds_toArray, List.set_cons_zero, List.set_cons_succ]) | (refine k_call_ww rfl rfl rfl rfl (by with_reducible first | exact ⟨Try.call61, SCmp_any _ _ HL.out.1 HL.out.2⟩ | exact ⟨Try.call61, SCmp_any _ _ (wsub_lt _ _) (wsub_lt _ _)⟩) ?_; try simp only [Act.put, List.setIfInBounds_toArray, List.set_cons_zero, List.set_cons_succ]))
      refine k_end ?_
      clear hS
      intro w1 hS
      go_wp2_with (fail)
      go_meet
      exact ⟨rfl, _, _, _, _, _, _, rfl, rfl, rfl, rfl, rfl, rfl, hS⟩
    · by_cases h2 : b = least
      · have h2 := h2
        refine k_region (C := fun w' => St w w' _) (by kernel_rfl) (by kernel_rfl) hS.drew ?_
        repeat (first | (refine k_skip rfl rfl rfl rfl rfl ?_; try simp only [Act.put, List.setIfInBounds_toArray, List.set_cons_zero, List.set_cons_succ]) | (refine k_load rfl 23 _ rfl rfl (by repeat (first | exact At.head | apply At.tail)) word_type word_size (wf_size _) ?_; try simp only [Act.put, List.setIfInBounds_toArray, List.set_cons_zero, List.set_cons_succ]) | (refine k_words rfl _ _ _ rfl rfl rfl (by with_reducible first | exact ⟨HL.out.1, least_lt, decide_eq_false h1⟩ | exact ⟨HL.out.2, least_lt, decide_eq_true h2⟩) ?_; try simp only [Act.put, List.setIfInBounds_toArray, List.set_cons_zero, List.set_cons_succ]) | (refine k_boolm rfl _ rfl rfl ?_; try simp only [Act.put, List.setIfInBounds_toArray, List.set_cons_zero, List.set_cons_succ]) | (refine k_boola rfl _ rfl rfl ?_; try simp only [Act.put, List.setIfInBounds_toArray, List.set_cons_zero, List.set_cons_succ]) | (refine k_intm rfl _ rfl rfl ?_; try simp only [Act.put, List.setIfInBounds_toArray, List.set_cons_zero, List.set_cons_succ]) | (refine k_inta rfl _ rfl rfl ?_; try simp only [Act.put, List.setIfInBounds_toArray, List.set_cons_zero, List.set_cons_succ]) | (refine k_pickT rfl _ _ _ rfl rfl rfl ?_; try simp only [Act.put, List.setIfInBounds_toArray, List.set_cons_zero, List.set_cons_succ]) | (refine k_pickF rfl _ _ _ rfl rfl rfl ?_; try simp only [Act.put, List.setIfInBounds_toArray, List.set_cons_zero, List.set_cons_succ]) | (refine k_bools rfl _ _ _ rfl rfl rfl ?_; try simp only [Act.put, List.setIfInBounds_toArray, List.set_cons_zero, List.set_cons_succ]) | (refine k_call_ww rfl rfl rfl rfl (by with_reducible first | exact ⟨Try.call61, SCmp_any _ _ HL.out.1 HL.out.2⟩ | exact ⟨Try.call61, SCmp_any _ _ (wsub_lt _ _) (wsub_lt _ _)⟩) ?_; try simp only [Act.put, List.setIfInBounds_toArray, List.set_cons_zero, List.set_cons_succ]))
        refine k_end ?_
        clear hS
        intro w1 hS
        go_wp2_with (fail)
        go_meet
        exact ⟨rfl, _, _, _, _, _, _, rfl, rfl, rfl, rfl, rfl, rfl, hS⟩
      · have h2 := h2
        refine k_region (C := fun w' => St w w' _) (by kernel_rfl) (by kernel_rfl) hS.drew ?_
        repeat (first | (refine k_skip rfl rfl rfl rfl rfl ?_; try simp only [Act.put, List.setIfInBounds_toArray, List.set_cons_zero, List.set_cons_succ]) | (refine k_load rfl 23 _ rfl rfl (by repeat (first | exact At.head | apply At.tail)) word_type word_size (wf_size _) ?_; try simp only [Act.put, List.setIfInBounds_toArray, List.set_cons_zero, List.set_cons_succ]) | (refine k_words rfl _ _ _ rfl rfl rfl (by with_reducible first | exact ⟨HL.out.1, least_lt, decide_eq_false h1⟩ | exact ⟨HL.out.2, least_lt, decide_eq_false h2⟩) ?_; try simp only [Act.put, List.setIfInBounds_toArray, List.set_cons_zero, List.set_cons_succ]) | (refine k_ints rfl _ _ _ rfl rfl rfl (by with_reducible first | exact eq_turned HL.out.1 HL.out.2 h1 h2) ?_; try simp only [Act.put, List.setIfInBounds_toArray, List.set_cons_zero, List.set_cons_succ]) | (refine k_boolm rfl _ rfl rfl ?_; try simp only [Act.put, List.setIfInBounds_toArray, List.set_cons_zero, List.set_cons_succ]) | (refine k_boola rfl _ rfl rfl ?_; try simp only [Act.put, List.setIfInBounds_toArray, List.set_cons_zero, List.set_cons_succ]) | (refine k_intm rfl _ rfl rfl ?_; try simp only [Act.put, List.setIfInBounds_toArray, List.set_cons_zero, List.set_cons_succ]) | (refine k_inta rfl _ rfl rfl ?_; try simp only [Act.put, List.setIfInBounds_toArray, List.set_cons_zero, List.set_cons_succ]) | (refine k_pickT rfl _ _ _ rfl rfl rfl ?_; try simp only [Act.put, List.setIfInBounds_toArray, List.set_cons_zero, List.set_cons_succ]) | (refine k_pickF rfl _ _ _ rfl rfl rfl ?_; try simp only [Act.put, List.setIfInBounds_toArray, List.set_cons_zero, List.set_cons_succ]) | (refine k_bools rfl _ _ _ rfl rfl rfl ?_; try simp only [Act.put, List.setIfInBounds_toArray, List.set_cons_zero, List.set_cons_succ]) | (refine k_call_ww rfl rfl rfl rfl (by with_reducible first | exact ⟨Try.call61, SCmp_any _ _ HL.out.1 HL.out.2⟩ | exact ⟨Try.call61, SCmp_any _ _ (wsub_lt _ _) (wsub_lt _ _)⟩) ?_; try simp only [Act.put, List.setIfInBounds_toArray, List.set_cons_zero, List.set_cons_succ]))
        refine k_end ?_
        clear hS
        intro w1 hS
        go_wp2_with (fail)
        go_meet
        exact ⟨rfl, _, _, _, _, _, _, rfl, rfl, rfl, rfl, rfl, rfl, hS⟩
  case rest =>
    clear hS
    obtain ⟨rfl, b2, b3, b6, b7, b8, b9, rfl, rfl, rfl, rfl, rfl, rfl, hS⟩ := hcut
    obtain ⟨t, ht⟩ : ∃ t, decide (a = b) = t := ⟨_, rfl⟩
    have HT := Lib.hid ht
    clear ht
    go_wp2_with (fail)
    refine k_region (C := fun w' => St w w' _) (by kernel_rfl) (by kernel_rfl) hS.drew ?_
    repeat (first | (refine k_skip rfl rfl rfl rfl rfl ?_; try simp only [Act.put, List.setIfInBounds_toArray, List.set_cons_zero, List.set_cons_succ]) | (refine k_load rfl 23 _ rfl rfl (by repeat (first | exact At.head | apply At.tail)) word_type word_size (wf_size _) ?_; try simp only [Act.put, List.setIfInBounds_toArray, List.set_cons_zero, List.set_cons_succ]) | (refine k_words rfl _ _ _ rfl rfl rfl (by with_reducible first | exact ⟨wadd_lt _ _, M256_pos, decide_eq_true (add_neg_ HL.out.1)⟩ | exact ⟨wmul_lt _ _, wsub_lt _ _, decide_eq_true (mul_neg_one HL.out.1)⟩ | exact ⟨HL.out.1, HL.out.2, HT.out⟩) ?_; try simp only [Act.put, List.setIfInBounds_toArray, List.set_cons_zero, List.set_cons_succ]) | (refine k_ints rfl _ _ _ rfl rfl rfl (by with_reducible first | exact eq_neg _ _ | exact (eq_zero).trans HT.out) ?_; try simp only [Act.put, List.setIfInBounds_toArray, List.set_cons_zero, List.set_cons_succ]) | (refine k_neg rfl _ _ rfl rfl (neg_in _ _) ?_; try simp only [Act.put, List.setIfInBounds_toArray, List.set_cons_zero, List.set_cons_succ]) | (refine k_boolm rfl _ rfl rfl ?_; try simp only [Act.put, List.setIfInBounds_toArray, List.set_cons_zero, List.set_cons_succ]) | (refine k_boola rfl _ rfl rfl ?_; try simp only [Act.put, List.setIfInBounds_toArray, List.set_cons_zero, List.set_cons_succ]) | (refine k_intm rfl _ rfl rfl ?_; try simp only [Act.put, List.setIfInBounds_toArray, List.set_cons_zero, List.set_cons_succ]) | (refine k_inta rfl _ rfl rfl ?_; try simp only [Act.put, List.setIfInBounds_toArray, List.set_cons_zero, List.set_cons_succ]) | (refine k_pickT rfl _ _ _ rfl rfl rfl ?_; try simp only [Act.put, List.setIfInBounds_toArray, List.set_cons_zero, List.set_cons_succ]) | (refine k_pickF rfl _ _ _ rfl rfl rfl ?_; try simp only [Act.put, List.setIfInBounds_toArray, List.set_cons_zero, List.set_cons_succ]) | (refine k_bools rfl _ _ _ rfl rfl rfl ?_; try simp only [Act.put, List.setIfInBounds_toArray, List.set_cons_zero, List.set_cons_succ]) | (refine k_call_ww rfl rfl rfl rfl (by with_reducible first | exact ⟨Try.call18, add_any _ _⟩ | exact ⟨Try.call22, mul_any _ _ HL.out.1 (wint_lt _)⟩ | exact ⟨Try.call61, SCmp_any _ _ HL.out.1 HL.out.2⟩ | exact ⟨Try.call61, SCmp_any _ _ HL.out.2 HL.out.1⟩ | exact ⟨Try.call59, Cmp_any _ _ HL.out.1 HL.out.2⟩ | exact ⟨Try.call59, Cmp_any _ _ HL.out.2 HL.out.1⟩) ?_; try simp only [Act.put, List.setIfInBounds_toArray, List.set_cons_zero, List.set_cons_succ]) | (refine k_call_i rfl rfl rfl (by with_reducible first | exact ⟨Try.call58, of_any _ (by omega)⟩) ?_; try simp only [Act.put, List.setIfInBounds_toArray, List.set_cons_zero, List.set_cons_succ]))
    refine k_end ?_
    clear hS
    intro w1 hS
    go_wp2_with (fail)
    go_ret
    exact ⟨ret_bool (by cases t <;> rfl), hS.below⟩

end Go.Proofs.Ytcdjinjeogodfaa.SignsLaw
