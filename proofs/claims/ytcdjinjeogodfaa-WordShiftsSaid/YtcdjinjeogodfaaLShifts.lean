/- The law WordShifts: for every integer and every word the package's Shl, Shr, Sar, Byte and Extend tell what the document's own words tell. No condition. -/
import Derived.Test.YtcdjinjeogodfaaH
import Derived.Test.YtcdjinjeogodfaaK
import Derived.Test.YtcdjinjeogodfaaN
import Derived.Test.YtcdjinjeogodfaaR5
import Derived.Test.YtcdjinjeogodfaaR6
import Derived.Test.YtcdjinjeogodfaaR7
namespace Go.Proofs.Ytcdjinjeogodfaa.ShiftsLaw
open Go.ChangeShapes Go.WideShapes Go.ChangeAt Go.RowKit
set_option linter.unusedVariables false

theorem same {x : Nat} (h : x < M256) : x < M256 ∧ x < M256 ∧ decide (x = x) = true := ⟨h, h, decide_eq_true rfl⟩
theorem and_lt {x y : Nat} (hx : x < M256) : x &&& y < M256 := Nat.lt_of_le_of_lt Nat.and_le_left hx
theorem or_lt {x y : Nat} (hx : x < M256) (hy : y < M256) : x ||| y < M256 := by unfold M256 at *; exact Nat.or_lt_two_pow hx hy
theorem xor_lt {x y : Nat} (hx : x < M256) (hy : y < M256) : x ^^^ y < M256 := by unfold M256 at *; exact Nat.xor_lt_two_pow hx hy
theorem not_lt {x : Nat} : M256 - (x + 1) < M256 := Nat.sub_lt M256_pos (Nat.succ_pos _)
theorem byt_lt' {k x : Nat} : bytN k x < M256 := by
  unfold bytN; split
  · exact Nat.lt_trans (byt_lt x k) (by unfold M256; decide)
  · exact M256_pos
theorem shl_lt {n x : Nat} : shlN n x < M256 := by
  unfold shlN; split
  · exact Nat.mod_lt _ M256_pos
  · exact M256_pos
theorem shr_lt {n x : Nat} (hx : x < M256) : shrN n x < M256 := by
  unfold shrN; split
  · exact Nat.lt_of_le_of_lt (Nat.div_le_self _ _) hx
  · exact M256_pos
theorem sra_lt {n x : Nat} (hx : x < M256) : sraN n x < M256 := by
  unfold sraN; split
  · exact sar_lt hx
  · exact sar_lt hx
theorem bounds_of {n : Int} (h : (Lit.int .i64 n).wf = true) : -9223372036854775808 ≤ n ∧ n ≤ 9223372036854775807 := by
  simp [Lit.wf, IntKind.min, IntKind.max, IntKind.bits, IntKind.signed] at h
  omega
set_option maxHeartbeats 1000000 in
set_option maxRecDepth 100000 in
theorem walk (k : Int) (a : Nat) (wk : (Lit.int .i64 k).wf = true) (ha : a < M256) (w : World) :
    Calls Try.prog 9 #[.int .i64 k, .agg (wcells a)] w fun e w' => e = .returned (.bool true) ∧ Below w.heap.size w w' := by
  have HL := Lib.hid ha
  have HK := Lib.hid (rOf_any k (bounds_of wk))
  clear ha wk
  have hS := St.start w
  go_enter Try.func9, Try.ntmps9
  go_wp2_with (first | (refine st_box hS rfl _ _ rfl rfl ?_; clear hS; intro w1 b1 hS) | (refine st_new hS rfl 23 rfl word_zero ?_; clear hS; intro w1 b1 hS) | (refine st_store hS rfl 23 _ _ rfl rfl rfl (by repeat (first | exact Upd.head | apply Upd.tail)) word_size (wf_size _) (wf_size _) (wf_one _) ?_; clear hS; intro w1 hS) | (go_at_call 17; refine (alive_any _).mono ?_; rintro e w1 ⟨rfl, hb⟩; replace hS := hS.call hb; clear hb) | (go_at_call 65; with_reducible refine (HK.out _).mono ?_; rintro e w1 ⟨rfl, hb⟩; replace hS := hS.call hb; clear hb))
  refine k_region (C := fun w' => St w w' _) (by kernel_rfl) (by kernel_rfl) hS.drew ?_
  repeat (first | (refine k_skip rfl rfl rfl rfl rfl ?_; try simp only [Act.put, List.setIfInBounds_toArray, List.set_cons_zero, List.set_cons_succ]) | (refine k_load rfl 23 _ rfl rfl (by repeat (first | exact At.head | apply At.tail)) word_type word_size (wf_size _) ?_; try simp only [Act.put, List.setIfInBounds_toArray, List.set_cons_zero, List.set_cons_succ]) | (refine k_words rfl _ _ _ rfl rfl rfl (by with_reducible first | exact same byt_lt' | exact same shl_lt | exact same (shr_lt HL.out) | exact same (sra_lt HL.out) | exact same (ext_lt HL.out)) ?_; try simp only [Act.put, List.setIfInBounds_toArray, List.set_cons_zero, List.set_cons_succ]) | (refine k_boolm rfl _ rfl rfl ?_; try simp only [Act.put, List.setIfInBounds_toArray, List.set_cons_zero, List.set_cons_succ]) | (refine k_boola rfl _ rfl rfl ?_; try simp only [Act.put, List.setIfInBounds_toArray, List.set_cons_zero, List.set_cons_succ]) | (refine k_intm rfl _ rfl rfl ?_; try simp only [Act.put, List.setIfInBounds_toArray, List.set_cons_zero, List.set_cons_succ]) | (refine k_inta rfl _ rfl rfl ?_; try simp only [Act.put, List.setIfInBounds_toArray, List.set_cons_zero, List.set_cons_succ]) | (refine k_pickT rfl _ _ _ rfl rfl rfl ?_; try simp only [Act.put, List.setIfInBounds_toArray, List.set_cons_zero, List.set_cons_succ]) | (refine k_pickF rfl _ _ _ rfl rfl rfl ?_; try simp only [Act.put, List.setIfInBounds_toArray, List.set_cons_zero, List.set_cons_succ]) | (refine k_bools rfl _ _ _ rfl rfl rfl ?_; try simp only [Act.put, List.setIfInBounds_toArray, List.set_cons_zero, List.set_cons_succ]) | (refine k_call_ww rfl rfl rfl rfl (by with_reducible first | exact ⟨Try.call46, Byte_any _ _ (wint_lt _)⟩ | exact ⟨Try.call47, rByte_any _ _ (wint_lt _)⟩ | exact ⟨Try.call48, Shl_any _ _ (wint_lt _) HL.out⟩ | exact ⟨Try.call49, rShl_any _ _ (wint_lt _)⟩ | exact ⟨Try.call50, Shr_any _ _ (wint_lt _) HL.out⟩ | exact ⟨Try.call51, rShr_any _ _ (wint_lt _) HL.out⟩ | exact ⟨Try.call52, Sar_any _ _ (wint_lt _) HL.out⟩ | exact ⟨Try.call53, rSar_any _ _ (wint_lt _) HL.out⟩ | exact ⟨Try.call54, Extend_any _ _ (wint_lt _) HL.out⟩ | exact ⟨Try.call55, rExtend_any _ _ (wint_lt _)⟩) ?_; try simp only [Act.put, List.setIfInBounds_toArray, List.set_cons_zero, List.set_cons_succ]))
  refine k_end ?_
  clear hS
  intro w1 hS
  go_wp2_with (fail)
  go_ret
  exact ⟨rfl, hS.below⟩
end Go.Proofs.Ytcdjinjeogodfaa.ShiftsLaw
