/- The example that each law begins with; AsmReads' and AsmPrints' walks. -/
import Derived.Test.YtjbjjiibldlipaaJ10
namespace Go.Proofs.Ytjbjjiibldlipaa
open Go.RowKit

theorem num12_any (n : Int) (w : World) : Calls Try.prog 11 #[.int .i64 n] w fun e w' => e = .returned (.int .i64 n) ∧ w = w' := by
  go_enter Try.func11, Try.ntmps11
  go_wp2
  go_ret
  exact ⟨rfl, rfl⟩
def exL : List Nat := [80, 85, 83, 72, 49, 32, 48, 120, 48, 53, 10, 83, 84, 79, 80, 10]
theorem ex_prt : prt [96, 5, 0] = exL := by decide +kernel
set_option maxHeartbeats 1000000 in
set_option maxRecDepth 100000 in
theorem alive12 (w : World) : Calls Try.prog 7 #[] w fun e w' => e = .returned (.bool true) ∧ Tch [] w w' := by
  have hp := print_any _ [96, 5, 0] (w.alloc (.cells #[.int .u8 96, .int .u8 5, .int .u8 0] 5)) (RdB.lit w 5 [96, 5, 0] (by decide) #[.int .u8 96, .int .u8 5, .int .u8 0] rfl) (by decide)
  unfold PrintPost at hp
  rw [ex_prt] at hp
  have HP := Lib.hid hp
  clear hp
  go_enter Try.func7, Try.ntmps7
  go_wp2_with (first
    | (go_at_call 8; go_must (refine HP.out.mono ?_; rintro e w2 ⟨rfl, hT2⟩))
    | (refine st_eqS (l := exL) (m := exL) (t := true) rfl _ _ _ rfl rfl rfl (by decide) (by decide) (beq_self_eq_true _) ?_))
  go_ret
  exact ⟨rfl, ((Tch.refl [] w).alloc _).trans hT2⟩
theorem strB_of (s : ByteArray) : s = strB (s.data.toList.map UInt8.toNat) := by
  apply ByteArray.ext
  apply Array.ext'
  simp [strB, List.map_map, Function.comp_def]
set_option maxHeartbeats 2000000 in
set_option maxRecDepth 100000 in
theorem reads_main (T : List Nat) (w : World) (hT : ∀ x ∈ T, x < 256) (hm : T.length ≤ 10000) :
    Calls Try.prog 4 #[.string (strB T)] w fun e w' => e = .returned (.bool true) ∧ Tch [] w w' := by
  have hs := strB_size T
  have d1 : ¬ (10000 : Int) < ((strB T).size : Int) := by omega
  have HR := Lib.hid (fun w1 => aread_any T w1 hT (by omega))
  have HD := Lib.hid (fun w1 => readAsm_any T w1 hT (by omega))
  have hl : (rdA T).2.2 = (rdA T).2.2 := rfl
  clear hT hs hl
  generalize hs9 : strB T = s9 at *
  clear hs9
  unfold RdPost2 at HR HD
  generalize (rdA T).1 = out at *
  generalize (rdA T).2.1 = at1 at *
  generalize (rdA T).2.2 = er at *
  go_enter Try.func4, Try.ntmps4
  go_upto_region 6 with (first
    | (go_at_call 7; refine (alive12 _).mono ?_; rintro e w1 ⟨rfl, hT1⟩)
    | (go_at_call 9; refine (HR.out _).mono ?_; rintro e w2 ⟨hT2, v2, rfl, hv2⟩; have T2 := hT1.trans hT2)
    | (go_at_call 12; refine (HD.out _).mono ?_; rintro e w3 ⟨hT3, v3, rfl, hv3⟩; have T3 := T2.trans hT3; have HV2 := Lib.hid (hv2.tch hT3 (by simp)); have HV3 := Lib.hid hv3; clear hv2 hv3))
  refine k_seq (C := fun w' => Tch [] w3 w') (Tch.refl [] w3) ?_
  refine k_val (v := .int .i64 (er : Int)) rfl _ (.inl rfl) rfl ?_; try simp only [Act.put, List.setIfInBounds_toArray, List.set_cons_zero, List.set_cons_succ]
  refine k_callC1 (v1 := .int .i64 (er : Int)) rfl rfl rfl Try.call11 (fun w' h => (num12_any _ w').mono fun e w'' h2 => ⟨h2.1, h2.2 ▸ h⟩) ?_; try simp only [Act.put, List.setIfInBounds_toArray, List.set_cons_zero, List.set_cons_succ]
  refine k_val (v := .int .i64 (er : Int)) rfl _ (.inl rfl) rfl ?_; try simp only [Act.put, List.setIfInBounds_toArray, List.set_cons_zero, List.set_cons_succ]
  refine k_ints (t := true) rfl _ _ _ rfl rfl rfl (beq_self_eq_true _) ?_; try simp only [Act.put, List.setIfInBounds_toArray, List.set_cons_zero, List.set_cons_succ]
  refine k_val (v := .bool true) rfl _ (.inl rfl) rfl ?_; try simp only [Act.put, List.setIfInBounds_toArray, List.set_cons_zero, List.set_cons_succ]
  refine k_val (v := .int .i64 (at1 : Int)) rfl _ (.inl rfl) rfl ?_; try simp only [Act.put, List.setIfInBounds_toArray, List.set_cons_zero, List.set_cons_succ]
  refine k_val (v := .int .i64 (at1 : Int)) rfl _ (.inl rfl) rfl ?_; try simp only [Act.put, List.setIfInBounds_toArray, List.set_cons_zero, List.set_cons_succ]
  refine k_ints (t := true) rfl _ _ _ rfl rfl rfl (beq_self_eq_true _) ?_; try simp only [Act.put, List.setIfInBounds_toArray, List.set_cons_zero, List.set_cons_succ]
  refine k_pickT (t := true) rfl _ _ _ rfl rfl rfl ?_; try simp only [Act.put, List.setIfInBounds_toArray, List.set_cons_zero, List.set_cons_succ]
  refine k_val (v := .bool true) rfl _ (.inl rfl) rfl ?_; try simp only [Act.put, List.setIfInBounds_toArray, List.set_cons_zero, List.set_cons_succ]
  refine k_val (v := v2) rfl _ (.inl rfl) rfl ?_; try simp only [Act.put, List.setIfInBounds_toArray, List.set_cons_zero, List.set_cons_succ]
  refine k_conv (v := v2) (l := out) rfl _ rfl rfl (fun w' h => HV2.out.tch h (by simp)) ?_; try simp only [Act.put, List.setIfInBounds_toArray, List.set_cons_zero, List.set_cons_succ]
  refine k_val (v := v3) rfl _ (.inl rfl) rfl ?_; try simp only [Act.put, List.setIfInBounds_toArray, List.set_cons_zero, List.set_cons_succ]
  refine k_conv (v := v3) (l := out) rfl _ rfl rfl (fun w' h => HV3.out.tch h (by simp)) ?_; try simp only [Act.put, List.setIfInBounds_toArray, List.set_cons_zero, List.set_cons_succ]
  refine k_strS (s := strB out) rfl _ _ _ rfl rfl rfl ?_; try simp only [Act.put, List.setIfInBounds_toArray, List.set_cons_zero, List.set_cons_succ]
  refine k_pickT (t := true) rfl _ _ _ rfl rfl rfl ?_; try simp only [Act.put, List.setIfInBounds_toArray, List.set_cons_zero, List.set_cons_succ]
  refine k_val (v := .bool true) rfl _ (.inr rfl) rfl ?_; try simp only [Act.put, List.setIfInBounds_toArray, List.set_cons_zero, List.set_cons_succ]
  refine k_end ?_
  intro w9 hT9
  go_wp2
  go_ret
  exact ⟨rfl, T3.trans hT9⟩
set_option maxHeartbeats 1000000 in
theorem reads_walk (s : ByteArray) (w : World) :
    Calls Try.prog 4 #[.string s] w fun e w' => e = .returned (.bool true) ∧ Tch [] w w' := by
  by_cases h : s.size ≤ 10000
  · rw [strB_of s]
    refine reads_main _ w (fun y hy => ?_) (by simpa using h)
    obtain ⟨u, _, rfl⟩ := List.mem_map.1 hy
    exact u.toNat_lt
  · have d1 : (10000 : Int) < (s.size : Int) := by omega
    go_enter Try.func4, Try.ntmps4
    go_wp2_with (go_at_call 7; refine (alive12 _).mono ?_; rintro e w1 ⟨rfl, hT1⟩)
    go_ret
    exact ⟨rfl, hT1⟩
set_option maxHeartbeats 2000000 in
set_option maxRecDepth 100000 in
theorem prints_main (v : Value) (L : List Nat) (w : World) (hv : RdB w v L) (hm : L.length ≤ 2000) :
    Calls Try.prog 3 #[v] w fun e w' => e = .returned (.bool true) ∧ Tch [] w w' := by
  have hL : ∀ x ∈ L, x < 256 := hv.choose_spec.choose_spec.2.2.1
  have hlen := prt_len L hL
  have hR := fun w1 => aread_any (prt L) w1 (prt_lt L hL) (by omega)
  unfold RdPost2 at hR
  rw [rdA_prt L hL (by omega)] at hR
  have HR := Lib.hid hR
  have HP := Lib.hid (fun w1 (h : Tch [] w w1) => print_any v L w1 (hv.tch h (by simp)) (by omega))
  have HQ := Lib.hid (fun w1 (h : Tch [] w w1) => rprint_any v L w1 (hv.tch h (by simp)) (by omega))
  have HV := Lib.hid hv
  unfold PrintPost at HP HQ
  clear hR hlen hL
  obtain ⟨p, c, rfl, _⟩ := hv
  have d1 : ¬ (2000 : Int) < (L.length : Int) := by omega
  generalize strB (prt L) = s9 at *
  go_enter Try.func3, Try.ntmps3
  go_upto_region 6 with (first
    | (go_at_call 7; refine (alive12 _).mono ?_; rintro e w1 ⟨rfl, hT1⟩)
    | (go_at_call 8; refine (HP.out _ hT1).mono ?_; rintro e w2 ⟨rfl, hT2⟩; have T2 := hT1.trans hT2)
    | (go_at_call 9; refine (HR.out _).mono ?_; rintro e w3 ⟨hT3, v3, rfl, hv3⟩; have T3 := T2.trans hT3; have HV3 := Lib.hid hv3; clear hv3))
  refine k_seq (C := fun w' => Tch [] w3 w') (Tch.refl [] w3) ?_
  refine k_val (v := .string s9) rfl _ (.inl rfl) rfl ?_; try simp only [Act.put, List.setIfInBounds_toArray, List.set_cons_zero, List.set_cons_succ]
  refine k_val (v := .slice p L.length c) rfl _ (.inl rfl) rfl ?_; try simp only [Act.put, List.setIfInBounds_toArray, List.set_cons_zero, List.set_cons_succ]
  refine k_callC1 (v1 := .slice p L.length c) rfl rfl rfl Try.call10 (fun w' h => (HQ.out w' (T3.trans h)).mono fun e w'' h2 => ⟨h2.1, h.trans h2.2⟩) ?_; try simp only [Act.put, List.setIfInBounds_toArray, List.set_cons_zero, List.set_cons_succ]
  refine k_strS (s := s9) rfl _ _ _ rfl rfl rfl ?_; try simp only [Act.put, List.setIfInBounds_toArray, List.set_cons_zero, List.set_cons_succ]
  refine k_val (v := .bool true) rfl _ (.inl rfl) rfl ?_; try simp only [Act.put, List.setIfInBounds_toArray, List.set_cons_zero, List.set_cons_succ]
  refine k_val (v := .int .i64 0) rfl _ (.inl rfl) rfl ?_; try simp only [Act.put, List.setIfInBounds_toArray, List.set_cons_zero, List.set_cons_succ]
  refine k_callC1 (v1 := .int .i64 0) rfl rfl rfl Try.call11 (fun w' h => (num12_any _ w').mono fun e w'' h2 => ⟨h2.1, h2.2 ▸ h⟩) ?_; try simp only [Act.put, List.setIfInBounds_toArray, List.set_cons_zero, List.set_cons_succ]
  refine k_ints (t := true) rfl _ _ _ rfl rfl rfl (beq_self_eq_true _) ?_; try simp only [Act.put, List.setIfInBounds_toArray, List.set_cons_zero, List.set_cons_succ]
  refine k_pickT (t := true) rfl _ _ _ rfl rfl rfl ?_; try simp only [Act.put, List.setIfInBounds_toArray, List.set_cons_zero, List.set_cons_succ]
  refine k_val (v := .bool true) rfl _ (.inl rfl) rfl ?_; try simp only [Act.put, List.setIfInBounds_toArray, List.set_cons_zero, List.set_cons_succ]
  refine k_val (v := .int .i64 0) rfl _ (.inl rfl) rfl ?_; try simp only [Act.put, List.setIfInBounds_toArray, List.set_cons_zero, List.set_cons_succ]
  refine k_ints (t := true) rfl _ _ _ rfl rfl rfl (beq_self_eq_true _) ?_; try simp only [Act.put, List.setIfInBounds_toArray, List.set_cons_zero, List.set_cons_succ]
  refine k_pickT (t := true) rfl _ _ _ rfl rfl rfl ?_; try simp only [Act.put, List.setIfInBounds_toArray, List.set_cons_zero, List.set_cons_succ]
  refine k_val (v := .bool true) rfl _ (.inl rfl) rfl ?_; try simp only [Act.put, List.setIfInBounds_toArray, List.set_cons_zero, List.set_cons_succ]
  refine k_val (v := v3) rfl _ (.inl rfl) rfl ?_; try simp only [Act.put, List.setIfInBounds_toArray, List.set_cons_zero, List.set_cons_succ]
  refine k_conv (v := v3) (l := L) rfl _ rfl rfl (fun w' h => HV3.out.tch h (by simp)) ?_; try simp only [Act.put, List.setIfInBounds_toArray, List.set_cons_zero, List.set_cons_succ]
  refine k_val (v := .slice p L.length c) rfl _ (.inl rfl) rfl ?_; try simp only [Act.put, List.setIfInBounds_toArray, List.set_cons_zero, List.set_cons_succ]
  refine k_conv (v := .slice p L.length c) (l := L) rfl _ rfl rfl (fun w' h => HV.out.tch (T3.trans h) (by simp)) ?_; try simp only [Act.put, List.setIfInBounds_toArray, List.set_cons_zero, List.set_cons_succ]
  refine k_strS (s := strB L) rfl _ _ _ rfl rfl rfl ?_; try simp only [Act.put, List.setIfInBounds_toArray, List.set_cons_zero, List.set_cons_succ]
  refine k_pickT (t := true) rfl _ _ _ rfl rfl rfl ?_; try simp only [Act.put, List.setIfInBounds_toArray, List.set_cons_zero, List.set_cons_succ]
  refine k_val (v := .bool true) rfl _ (.inr rfl) rfl ?_; try simp only [Act.put, List.setIfInBounds_toArray, List.set_cons_zero, List.set_cons_succ]
  refine k_end ?_
  intro w9 hT9
  go_wp2
  go_ret
  exact ⟨rfl, T3.trans hT9⟩
set_option maxHeartbeats 1000000 in
theorem prints_walk (v : Value) (L : List Nat) (w : World) (hv : RdB w v L) :
    Calls Try.prog 3 #[v] w fun e w' => e = .returned (.bool true) ∧ Tch [] w w' := by
  by_cases h : L.length ≤ 2000
  · exact prints_main v L w hv h
  · obtain ⟨p, c, rfl, _⟩ := hv
    have d1 : (2000 : Int) < (L.length : Int) := by omega
    go_enter Try.func3, Try.ntmps3
    go_wp2_with (go_at_call 7; refine (alive12 _).mono ?_; rintro e w1 ⟨rfl, hT1⟩)
    go_ret
    exact ⟨rfl, hT1⟩
end Go.Proofs.Ytjbjjiibldlipaa
