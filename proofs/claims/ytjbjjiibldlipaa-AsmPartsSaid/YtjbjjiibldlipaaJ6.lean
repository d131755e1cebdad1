/- Pieces of texts; strings.Cut at a space. -/
import Derived.Test.YtjbjjiibldlipaaJ5
namespace Go.Proofs.Ytjbjjiibldlipaa
open Go.RowKit

theorem sls_mid (T : List Nat) (lo hi : Nat) (h1 : lo ≤ hi) (h2 : hi ≤ T.length) (w : World) : (Instr.sliceAt 9 (.string (strB T)) (some (.int .i64 (lo : Int))) (some (.int .i64 (hi : Int))) none).run Try.prog w = .ok (.string (strB ((T.drop lo).take (hi - lo)))) w := by
  have hs := strB_size T
  rw [run_sliceAt_string (P := Try.prog) (w := w) 9 _ _ _ _ string_ty, run_slice_string (P := Try.prog) w 9 (strB T) .i64 .i64 (lo : Int) (hi : Int) string_ty (by omega) (by omega) (by omega), Int.toNat_natCast, Int.toNat_natCast, strB_cut]
theorem sls_to (T : List Nat) (hi : Nat) (h2 : hi ≤ T.length) (w : World) : (Instr.sliceAt 9 (.string (strB T)) none (some (.int .i64 (hi : Int))) none).run Try.prog w = .ok (.string (strB (T.take hi))) w := by
  have hs := strB_size T
  rw [run_sliceAt_string (P := Try.prog) (w := w) 9 _ _ _ _ string_ty, run_slice_string_h (P := Try.prog) w 9 (strB T) string_ty .i64 (hi : Int) (by omega) (by omega), Int.toNat_natCast, strB_cut, List.drop_zero, Nat.sub_zero]
theorem sls_from (T : List Nat) (lo : Nat) (h2 : lo ≤ T.length) (w : World) : (Instr.sliceAt 9 (.string (strB T)) (some (.int .i64 (lo : Int))) none none).run Try.prog w = .ok (.string (strB (T.drop lo))) w := by
  have hs := strB_size T
  rw [run_sliceAt_string (P := Try.prog) (w := w) 9 _ _ _ _ string_ty, run_slice_string_l (P := Try.prog) w 9 (strB T) string_ty .i64 (lo : Int) (by omega) (by omega), Int.toNat_natCast, strB_cut, hs, List.take_of_length_le (by rw [List.length_drop]; omega)]
/-- The word ahead of a space. -/
def word1 (T : List Nat) : List Nat := T.takeWhile (· != 32)
theorem word1_le (T : List Nat) : (word1 T).length ≤ T.length := by
  unfold word1
  have := (List.takeWhile_prefix (p := (· != 32)) (l := T)).length_le
  exact this
theorem word1_take (T : List Nat) : T.take (word1 T).length = word1 T := by
  unfold word1
  exact (List.prefix_iff_eq_take.1 (List.takeWhile_prefix (p := (· != 32)) (l := T))).symm
theorem word1_all {T : List Nat} (h : ¬ (word1 T).length < T.length) : word1 T = T := by
  have h1 := word1_take T
  have h2 := word1_le T
  rw [List.take_of_length_le (by omega)] at h1
  exact h1.symm
theorem word1_lt {T : List Nat} (h : ∀ x ∈ T, x < 256) : ∀ x ∈ word1 T, x < 256 := fun x hx => h x (List.mem_of_mem_take (i := (word1 T).length) (by rw [word1_take]; exact hx))
theorem idx32 : ∀ (T : List Nat), (∀ x ∈ T, x < 256) → Lib.indexByte (T.map UInt8.ofNat) 32 = if (word1 T).length < T.length then ((word1 T).length : Int) else -1
  | [], _ => rfl
  | x :: T, h => by
    have ih := idx32 T fun y hy => h y (List.mem_cons_of_mem _ hy)
    have hx := h x List.mem_cons_self
    rw [List.map_cons]
    unfold Lib.indexByte
    by_cases e : x = 32
    · subst e
      rw [if_pos (by decide)]
      have : word1 (32 :: T) = [] := by unfold word1; rw [List.takeWhile_cons, if_neg (by decide)]
      rw [this, if_pos (by simp)]; rfl
    · have hne : (UInt8.ofNat x == 32) = false := by
        rw [beq_eq_false_iff_ne]
        intro e2
        have := congrArg UInt8.toNat e2
        rw [UInt8.toNat_ofNat', Nat.mod_eq_of_lt (by omega)] at this
        exact e this
      have hw : word1 (x :: T) = x :: word1 T := by unfold word1; rw [List.takeWhile_cons, if_pos (by simpa using e)]
      rw [if_neg (by rw [hne]; decide), hw, List.length_cons, List.length_cons, ih]
      by_cases hl : (word1 T).length < T.length
      · rw [if_pos hl, if_neg (by rw [beq_iff_eq]; omega), if_pos (by omega)]; omega
      · rw [if_neg hl, if_pos (by decide), if_neg (by omega)]
def CutPost (T : List Nat) (w : World) (e : Ending) (w' : World) : Prop := e = .returned (.tuple #[.string (strB (word1 T)), .string (strB (T.drop ((word1 T).length + 1))), .bool (decide ((word1 T).length < T.length))]) ∧ Tch [] w w'
theorem cutpost_no {T : List Nat} {w w' : World} (h : ¬ (word1 T).length < T.length) (hT : Tch [] w w') : CutPost T w (.returned (.tuple #[.string (strB T), .string ⟨#[]⟩, .bool false])) w' := by
  refine ⟨?_, hT⟩
  rw [word1_all h, List.drop_eq_nil_of_le (by omega), decide_eq_false (by omega)]; rfl
set_option maxHeartbeats 1000000 in
set_option maxRecDepth 100000 in
theorem cut1_any (T : List Nat) (w : World) (hT : ∀ x ∈ T, x < 256) (hm : T.length ≤ 1000000) :
    Calls Try.prog 37 #[.string (strB T), .string ⟨#[32]⟩] w (CutPost T w) := by
  have hidx := Try.stringslite_Index_one (strB T) 32 w
  rw [strB_data, idx32 T hT] at hidx
  by_cases h : (word1 T).length < T.length
  · rw [if_pos h] at hidx
    have hle := word1_le T
    have HI := Lib.hid hidx
    have HA := Lib.hid (sls_to T (word1 T).length hle)
    have HB := Lib.hid (sls_from T ((word1 T).length + 1) (by omega))
    have HW := Lib.hid (show IntKind.i64.wrap (((word1 T).length : Int) + 1) = (((word1 T).length + 1 : Nat) : Int) by rw [IntKind.wrap_i64]; omega)
    have HE := Lib.hid (word1_take T)
    have HQ := Lib.hid h
    clear hidx hT
    go_enter Try.func37, Try.ntmps37
    go_upto_region 3 with (go_at_call 44; refine HI.out.mono ?_; rintro e w1 ⟨rfl, rfl⟩)
    refine k_region (C := fun w' => Tch [] w1 w') (by kernel_rfl) (by kernel_rfl) (Tch.refl [] w1).drew ?_
    refine k_val (v := .string (strB T)) rfl _ (.inl rfl) rfl ?_; try simp only [Act.put, List.setIfInBounds_toArray, List.set_cons_zero, List.set_cons_succ]
    refine k_val (v := .int .i64 ((word1 T).length : Int)) rfl _ (.inl rfl) rfl ?_; try simp only [Act.put, List.setIfInBounds_toArray, List.set_cons_zero, List.set_cons_succ]
    refine k_slO (vx := .string (strB T)) (vl := none) (vh := some (.int .i64 ((word1 T).length : Int))) rfl rfl rfl rfl rfl HA.out ?_; try simp only [Act.put, List.setIfInBounds_toArray, List.set_cons_zero, List.set_cons_succ]
    refine k_val (v := .string (strB T)) rfl _ (.inl rfl) rfl ?_; try simp only [Act.put, List.setIfInBounds_toArray, List.set_cons_zero, List.set_cons_succ]
    refine k_val (v := .int .i64 ((word1 T).length : Int)) rfl _ (.inl rfl) rfl ?_; try simp only [Act.put, List.setIfInBounds_toArray, List.set_cons_zero, List.set_cons_succ]
    refine k_val (v := .string ⟨#[32]⟩) rfl _ (.inl rfl) rfl ?_; try simp only [Act.put, List.setIfInBounds_toArray, List.set_cons_zero, List.set_cons_succ]
    refine k_lenS (s := ⟨#[32]⟩) rfl _ rfl rfl ?_; try simp only [Act.put, List.setIfInBounds_toArray, List.set_cons_zero, List.set_cons_succ]
    refine k_add (m := ((word1 T).length : Int)) (n := 1) (s := (((word1 T).length + 1 : Nat) : Int)) rfl _ _ _ _ rfl rfl rfl HW.out ?_; try simp only [Act.put, List.setIfInBounds_toArray, List.set_cons_zero, List.set_cons_succ]
    refine k_slO (vx := .string (strB T)) (vl := some (.int .i64 (((word1 T).length + 1 : Nat) : Int))) (vh := none) rfl rfl rfl rfl rfl HB.out ?_; try simp only [Act.put, List.setIfInBounds_toArray, List.set_cons_zero, List.set_cons_succ]
    refine k_val (v := .string (strB (T.take (word1 T).length))) rfl _ (.inr rfl) rfl ?_; try simp only [Act.put, List.setIfInBounds_toArray, List.set_cons_zero, List.set_cons_succ]
    refine k_val (v := .string (strB (T.drop ((word1 T).length + 1)))) rfl _ (.inr rfl) rfl ?_; try simp only [Act.put, List.setIfInBounds_toArray, List.set_cons_zero, List.set_cons_succ]
    refine k_val (v := .bool true) rfl _ (.inr rfl) rfl ?_; try simp only [Act.put, List.setIfInBounds_toArray, List.set_cons_zero, List.set_cons_succ]
    refine k_end ?_
    intro w5 hT5
    go_wp2
    go_ret3
    refine ⟨?_, hT5⟩
    rw [HE.out, decide_eq_true HQ.out]; rfl
  · rw [if_neg h] at hidx
    have HI := Lib.hid hidx
    have HQ := Lib.hid h
    clear hidx hT h
    go_enter Try.func37, Try.ntmps37
    go_wp2_with (go_at_call 44; refine HI.out.mono ?_; rintro e w1 ⟨rfl, rfl⟩)
    go_ret3
    exact cutpost_no HQ.out (Tch.refl _ _)
theorem acut_any (T : List Nat) (w : World) (hT : ∀ x ∈ T, x < 256) (hm : T.length ≤ 1000000) :
    Calls Try.prog 26 #[.string (strB T), .string ⟨#[32]⟩] w (CutPost T w) := by
  have HC := Lib.hid (cut1_any T w hT hm)
  clear hT
  go_enter Try.func26, Try.ntmps26
  go_wp2_with (go_at_call 37; refine HC.out.mono ?_; rintro e w1 ⟨rfl, hT1⟩)
  go_ret3
  exact ⟨rfl, hT1⟩
end Go.Proofs.Ytjbjjiibldlipaa
