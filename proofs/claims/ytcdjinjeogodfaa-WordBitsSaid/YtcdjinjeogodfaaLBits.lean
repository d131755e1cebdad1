/- The law WordBits: for every two words the package's And, Or, Xor, Not, Byte, Shl, Shr, Sar and Extend tell what the document's own words tell. No condition. -/
import Derived.Test.YtcdjinjeogodfaaH
import Derived.Test.YtcdjinjeogodfaaK
import Derived.Test.YtcdjinjeogodfaaN
import Derived.Test.YtcdjinjeogodfaaR5
import Derived.Test.YtcdjinjeogodfaaR6
import Derived.Test.YtcdjinjeogodfaaR7
namespace Go.Proofs.Ytcdjinjeogodfaa.BitsLaw
open Go.ChangeShapes Go.WideShapes Go.ChangeAt Go.RowKit
set_option linter.unusedVariables false

theorem same {x : Nat} (h : x < M256) : x < M256 ∧ x < M256 ∧ decide (x = x) = true := ⟨h, h, decide_eq_true rfl⟩
theorem and_lt {x y : Nat} (hx : x < M256) : x &&& y < M256 := Nat.lt_of_le_of_lt Nat.and_le_left hx
theorem or_lt {x y : Nat} (hx : x < M256) (hy : y < M256) : x ||| y < M256 := by unfold M256 at *; exact Nat.or_lt_two_pow hx hy
theorem xor_lt {x y : Nat} (hx : x < M256) (hy : y < M256) : x ^^^ y < M256 := by unfold M256 at *; exact Nat.xor_lt_two_pow hx hy
theorem not_lt {x : Nat} : M256 - (x + 1) < M256 := Nat.sub_lt M256_pos (Nat.succ_pos _)
theorem byt_lt' {k x : Nat} : bytN k x < M256 := by
  unfold bytN; split
  · exact Nat.lt_trans (byt_lt x k) (by unfold M256; decide)
  · exact M256_pos
theorem shl_lt {n x : Nat} : shlN n x < M256 := by
  unfold shlN; split
  · exact Nat.mod_lt _ M256_pos
  · exact M256_pos
theorem shr_lt {n x : Nat} (hx : x < M256) : shrN n x < M256 := by
  unfold shrN; split
  · exact Nat.lt_of_le_of_lt (Nat.div_le_self _ _) hx
  · exact M256_pos
theorem sra_lt {n x : Nat} (hx : x < M256) : sraN n x < M256 := by
  unfold sraN; split
  · exact sar_lt hx
  · exact sar_lt hx
set_option maxHeartbeats 1000000 in
set_option maxRecDepth 100000 in
theorem walk (a b : Nat) (ha : a < M256) (hb : b < M256) (w : World) :
    Calls Try.prog 7 #[.agg (wcells a), .agg (wcells b)] w fun e w' => e = .returned (.bool true) ∧ Below w.heap.size w w' := by
  have HL := Lib.hid (And.intro ha hb)
  clear ha hb
  have hS := St.start w
  go_enter Try.func7, Try.ntmps7
  go_wp2_with (first | (refine st_box hS rfl _ _ rfl rfl ?_; clear hS; intro w1 b1 hS) | (go_at_call 17; refine (alive_any _).mono ?_; rintro e w1 ⟨rfl, hb⟩; replace hS := hS.call hb; clear hb))
  refine k_region (C := fun w' => St w w' _) (by kernel_rfl) (by kernel_rfl) hS.drew ?_
  repeat (first | (refine k_skip rfl rfl rfl rfl rfl ?_; try simp only [Act.put, List.setIfInBounds_toArray, List.set_cons_zero, List.set_cons_succ]) | (refine k_load rfl 23 _ rfl rfl (by repeat (first | exact At.head | apply At.tail)) word_type word_size (wf_size _) ?_; try simp only [Act.put, List.setIfInBounds_toArray, List.set_cons_zero, List.set_cons_succ]) | (refine k_words rfl _ _ _ rfl rfl rfl (by with_reducible first | exact same (and_lt HL.out.1) | exact same (or_lt HL.out.1 HL.out.2) | exact same (xor_lt HL.out.1 HL.out.2) | exact same not_lt) ?_; try simp only [Act.put, List.setIfInBounds_toArray, List.set_cons_zero, List.set_cons_succ]) | (refine k_boolm rfl _ rfl rfl ?_; try simp only [Act.put, List.setIfInBounds_toArray, List.set_cons_zero, List.set_cons_succ]) | (refine k_boola rfl _ rfl rfl ?_; try simp only [Act.put, List.setIfInBounds_toArray, List.set_cons_zero, List.set_cons_succ]) | (refine k_intm rfl _ rfl rfl ?_; try simp only [Act.put, List.setIfInBounds_toArray, List.set_cons_zero, List.set_cons_succ]) | (refine k_inta rfl _ rfl rfl ?_; try simp only [Act.put, List.setIfInBounds_toArray, List.set_cons_zero, List.set_cons_succ]) | (refine k_pickT rfl _ _ _ rfl rfl rfl ?_; try simp only [Act.put, List.setIfInBounds_toArray, List.set_cons_zero, List.set_cons_succ]) | (refine k_pickF rfl _ _ _ rfl rfl rfl ?_; try simp only [Act.put, List.setIfInBounds_toArray, List.set_cons_zero, List.set_cons_succ]) | (refine k_bools rfl _ _ _ rfl rfl rfl ?_; try simp only [Act.put, List.setIfInBounds_toArray, List.set_cons_zero, List.set_cons_succ]) | (refine k_call_ww rfl rfl rfl rfl (by with_reducible first | exact ⟨Try.call38, and_any _ _⟩ | exact ⟨Try.call39, rand_any _ _⟩ | exact ⟨Try.call40, or_any _ _⟩ | exact ⟨Try.call41, ror_any _ _⟩ | exact ⟨Try.call42, xor_any _ _⟩ | exact ⟨Try.call43, rxor_any _ _⟩) ?_; try simp only [Act.put, List.setIfInBounds_toArray, List.set_cons_zero, List.set_cons_succ]) | (refine k_call_w rfl rfl rfl (by with_reducible first | exact ⟨Try.call44, not_any _ HL.out.1⟩ | exact ⟨Try.call45, rnot_any _ HL.out.1⟩) ?_; try simp only [Act.put, List.setIfInBounds_toArray, List.set_cons_zero, List.set_cons_succ]))
  refine k_end ?_
  clear hS
  intro w1 hS
  go_wp2_with (fail)
  refine k_region (C := fun w' => St w w' _) (by kernel_rfl) (by kernel_rfl) hS.drew ?_
  repeat (first | (refine k_skip rfl rfl rfl rfl rfl ?_; try simp only [Act.put, List.setIfInBounds_toArray, List.set_cons_zero, List.set_cons_succ]) | (refine k_load rfl 23 _ rfl rfl (by repeat (first | exact At.head | apply At.tail)) word_type word_size (wf_size _) ?_; try simp only [Act.put, List.setIfInBounds_toArray, List.set_cons_zero, List.set_cons_succ]) | (refine k_words rfl _ _ _ rfl rfl rfl (by with_reducible first | exact same byt_lt' | exact same shl_lt | exact same (shr_lt HL.out.2) | exact same (sra_lt HL.out.2) | exact same (ext_lt HL.out.2)) ?_; try simp only [Act.put, List.setIfInBounds_toArray, List.set_cons_zero, List.set_cons_succ]) | (refine k_boolm rfl _ rfl rfl ?_; try simp only [Act.put, List.setIfInBounds_toArray, List.set_cons_zero, List.set_cons_succ]) | (refine k_boola rfl _ rfl rfl ?_; try simp only [Act.put, List.setIfInBounds_toArray, List.set_cons_zero, List.set_cons_succ]) | (refine k_intm rfl _ rfl rfl ?_; try simp only [Act.put, List.setIfInBounds_toArray, List.set_cons_zero, List.set_cons_succ]) | (refine k_inta rfl _ rfl rfl ?_; try simp only [Act.put, List.setIfInBounds_toArray, List.set_cons_zero, List.set_cons_succ]) | (refine k_pickT rfl _ _ _ rfl rfl rfl ?_; try simp only [Act.put, List.setIfInBounds_toArray, List.set_cons_zero, List.set_cons_succ]) | (refine k_pickF rfl _ _ _ rfl rfl rfl ?_; try simp only [Act.put, List.setIfInBounds_toArray, List.set_cons_zero, List.set_cons_succ]) | (refine k_bools rfl _ _ _ rfl rfl rfl ?_; try simp only [Act.put, List.setIfInBounds_toArray, List.set_cons_zero, List.set_cons_succ]) | (refine k_call_ww rfl rfl rfl rfl (by with_reducible first | exact ⟨Try.call46, Byte_any _ _ HL.out.1⟩ | exact ⟨Try.call47, rByte_any _ _ HL.out.1⟩ | exact ⟨Try.call48, Shl_any _ _ HL.out.1 HL.out.2⟩ | exact ⟨Try.call49, rShl_any _ _ HL.out.1⟩ | exact ⟨Try.call50, Shr_any _ _ HL.out.1 HL.out.2⟩ | exact ⟨Try.call51, rShr_any _ _ HL.out.1 HL.out.2⟩ | exact ⟨Try.call52, Sar_any _ _ HL.out.1 HL.out.2⟩ | exact ⟨Try.call53, rSar_any _ _ HL.out.1 HL.out.2⟩ | exact ⟨Try.call54, Extend_any _ _ HL.out.1 HL.out.2⟩ | exact ⟨Try.call55, rExtend_any _ _ HL.out.1⟩) ?_; try simp only [Act.put, List.setIfInBounds_toArray, List.set_cons_zero, List.set_cons_succ]))
  refine k_end ?_
  clear hS
  intro w1 hS
  go_wp2_with (fail)
  refine k_region (C := fun w' => St w w' _) (by kernel_rfl) (by kernel_rfl) hS.drew ?_
  repeat (first | (refine k_skip rfl rfl rfl rfl rfl ?_; try simp only [Act.put, List.setIfInBounds_toArray, List.set_cons_zero, List.set_cons_succ]) | (refine k_load rfl 23 _ rfl rfl (by repeat (first | exact At.head | apply At.tail)) word_type word_size (wf_size _) ?_; try simp only [Act.put, List.setIfInBounds_toArray, List.set_cons_zero, List.set_cons_succ]) | (refine k_words rfl _ _ _ rfl rfl rfl (by with_reducible first | exact same byt_lt' | exact same shl_lt | exact same (shr_lt HL.out.2) | exact same (sra_lt HL.out.2) | exact same (ext_lt HL.out.2)) ?_; try simp only [Act.put, List.setIfInBounds_toArray, List.set_cons_zero, List.set_cons_succ]) | (refine k_boolm rfl _ rfl rfl ?_; try simp only [Act.put, List.setIfInBounds_toArray, List.set_cons_zero, List.set_cons_succ]) | (refine k_boola rfl _ rfl rfl ?_; try simp only [Act.put, List.setIfInBounds_toArray, List.set_cons_zero, List.set_cons_succ]) | (refine k_intm rfl _ rfl rfl ?_; try simp only [Act.put, List.setIfInBounds_toArray, List.set_cons_zero, List.set_cons_succ]) | (refine k_inta rfl _ rfl rfl ?_; try simp only [Act.put, List.setIfInBounds_toArray, List.set_cons_zero, List.set_cons_succ]) | (refine k_pickT rfl _ _ _ rfl rfl rfl ?_; try simp only [Act.put, List.setIfInBounds_toArray, List.set_cons_zero, List.set_cons_succ]) | (refine k_pickF rfl _ _ _ rfl rfl rfl ?_; try simp only [Act.put, List.setIfInBounds_toArray, List.set_cons_zero, List.set_cons_succ]) | (refine k_bools rfl _ _ _ rfl rfl rfl ?_; try simp only [Act.put, List.setIfInBounds_toArray, List.set_cons_zero, List.set_cons_succ]) | (refine k_call_ww rfl rfl rfl rfl (by with_reducible first | exact ⟨Try.call46, Byte_any _ _ HL.out.1⟩ | exact ⟨Try.call47, rByte_any _ _ HL.out.1⟩ | exact ⟨Try.call48, Shl_any _ _ HL.out.1 HL.out.2⟩ | exact ⟨Try.call49, rShl_any _ _ HL.out.1⟩ | exact ⟨Try.call50, Shr_any _ _ HL.out.1 HL.out.2⟩ | exact ⟨Try.call51, rShr_any _ _ HL.out.1 HL.out.2⟩ | exact ⟨Try.call52, Sar_any _ _ HL.out.1 HL.out.2⟩ | exact ⟨Try.call53, rSar_any _ _ HL.out.1 HL.out.2⟩ | exact ⟨Try.call54, Extend_any _ _ HL.out.1 HL.out.2⟩ | exact ⟨Try.call55, rExtend_any _ _ HL.out.1⟩) ?_; try simp only [Act.put, List.setIfInBounds_toArray, List.set_cons_zero, List.set_cons_succ]))
  refine k_end ?_
  clear hS
  intro w1 hS
  go_wp2_with (fail)
  go_ret
  exact ⟨rfl, hS.below⟩
end Go.Proofs.Ytcdjinjeogodfaa.BitsLaw
