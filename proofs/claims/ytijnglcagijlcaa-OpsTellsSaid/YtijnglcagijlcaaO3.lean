/- Two rows of numbers that are one; the example that each law begins with; OpsJumps' walk. -/
import Derived.Test.YtijnglcagijlcaaO2
namespace Go.Proofs.Ytijnglcagijlcaa
open Go.RowKit

set_option maxHeartbeats 1000000 in
set_option maxRecDepth 100000 in
theorem same_any (va vb : Value) (l : List Nat) (w : World) (hm : l.length ≤ 1000000) (ha : RdI w va l) (hb : RdI w vb l) :
    Calls Try.prog 15 #[va, vb] w fun e w' => e = .returned (.bool true) ∧ Tch [] w w' := by
  obtain ⟨_, ca, rfl, hca, ha⟩ := ha
  obtain ⟨_, cb, rfl, hcb, hb⟩ := hb
  have HA := Lib.hid ha
  have HB := Lib.hid hb
  clear ha hb
  go_enter Try.func15, Try.ntmps15
  go_wp2
  go_loopw [5] (fun i wr => ∃ k : Nat, i = .int .i64 (k : Int) ∧ k ≤ l.length ∧ Tch [] w wr) (fun i _ => l.length - (intOf i).toNat)
  case atStart => exact ⟨0, rfl, Nat.zero_le _, Tch.refl _ _⟩
  case round =>
    obtain ⟨k, rfl, hk, hT⟩ := hrel
    by_cases hlt : k < l.length
    · have hne : l ≠ [] := by intro e; subst e; simp at hlt
      obtain ⟨b, o, rfl, hbw, hc⟩ := HA.out hne
      obtain ⟨b', o', rfl, hbw', hc'⟩ := HB.out hne
      have hck := (hT.cell (p := ⟨b, o + k, none⟩) hbw (by simp)).trans (hc k hlt)
      have hck' := (hT.cell (p := ⟨b', o' + k, none⟩) hbw' (by simp)).trans (hc' k hlt)
      generalize l.getD k 0 = x at hck hck'
      clear hc hc'
      go_wp2
      refine wp_region_all (C := fun w' => ∃ k, w' = wr.drewN k) (by kernel_rfl) (by kernel_rfl) ⟨1, rfl⟩ ?_
      repeat (quiet_step (fail))
      refine wpQuiet_nil ?_
      rintro w2 ⟨nq, rfl⟩
      replace hT := hT.trans (Tch.refl [] wr |>.drewN nq)
      go_wp2
      go_roundw
      case rel => exact ⟨k + 1, by go_num, hlt, hT⟩
      case measure => simp [intOf]; omega
    · go_wp2
      go_ret
      exact ⟨rfl, hT⟩
set_option maxHeartbeats 1000000 in
set_option maxRecDepth 100000 in
theorem alive_ops (w : World) : Calls Try.prog 7 #[] w fun e w' => e = .returned (.bool true) ∧ Tch [] w w' := by
  have HJ := Lib.hid (jumps_any _ [96, 91, 91] (w.alloc (.cells #[.int .u8 96, .int .u8 91, .int .u8 91] 5)) (by simp) ((RdB.lit w 5 [96, 91, 91] (by intro y hy; simp at hy; omega) #[.int .u8 96, .int .u8 91, .int .u8 91] rfl).rdA (by simp)))
  have HE := Lib.hid (show jmp [96, 91, 91] = [2] by decide)
  go_enter Try.func7, Try.ntmps7
  go_wp2_with (first
    | (go_at_call 16; go_must (refine HJ.out.mono ?_; rintro e w2 ⟨v2, rfl, hT2, hv2⟩; have HV := Lib.hid hv2; clear hv2))
    | (go_at_call 15; go_must ((refine (same_any v2 _ [2] _ (by simp) ((HE.out ▸ HV.out : RdI w2 v2 [2]).tch ((Tch.refl _ _).alloc _)) (RdI.lit w2 3 [2] #[.int .i64 2] rfl)).mono ?_); rintro e w3 ⟨rfl, hT3⟩)))
  go_ret
  exact ⟨rfl, (((Tch.refl [] w).alloc _).trans hT2).trans (((Tch.refl [] w2).alloc _).trans hT3)⟩
set_option maxHeartbeats 1000000 in
set_option maxRecDepth 100000 in
theorem opsJumps_walk (v : Value) (L : List Nat) (w : World) (hv : RdA [] w v L) :
    Calls Try.prog 4 #[v] w fun e w' => e = .returned (.bool true) ∧ Tch [] w w' := by
  obtain ⟨p, n, c, rfl⟩ := slice_keep hv
  have hl := hv.len
  by_cases h1 : 3000 < n
  · have d1 : (3000 : Int) < (n : Int) := by omega
    clear hv hl
    go_enter Try.func4, Try.ntmps4
    go_wp2_with (go_at_call 7; refine (alive_ops _).mono ?_; rintro e w1 ⟨rfl, hT1⟩)
    go_ret
    exact ⟨rfl, hT1⟩
  have d1 : ¬ (3000 : Int) < (n : Int) := by omega
  have HLN := Lib.hid (show L.length ≤ 3000 by omega)
  have HJ := Lib.hid (fun (w1 : World) (hT : Tch [] w w1) => jumps_any _ L w1 (by omega) (hv.tch hT))
  have HR := Lib.hid (fun (w1 : World) (hT : Tch [] w w1) => rjumps_any _ L w1 (by omega) (hv.tch hT))
  have HL := Lib.hid (show (jmp L).length ≤ 1000000 from Nat.le_trans (jmp_len (l := L) (acc := jmp L) (k := L.length) (by rw [jmpF_end (Nat.le_refl _), List.append_nil])) (by omega))
  clear hv hl h1
  go_enter Try.func4, Try.ntmps4
  go_wp2_with (first
    | (go_at_call 7; refine (alive_ops _).mono ?_; rintro e w1 ⟨rfl, hT1⟩)
    | (go_at_call 16; (with_reducible refine (HJ.out _ hT1).mono ?_); rintro e w2 ⟨v2, rfl, hT2, hv2⟩; have T2 := hT1.trans hT2; have HV2 := Lib.hid hv2; clear hv2)
    | (go_at_call 17; (with_reducible refine (HR.out _ T2).mono ?_); rintro e w3 ⟨v3, rfl, hT3, hv3⟩; have T3 := T2.trans hT3; have HV3 := Lib.hid hv3; clear hv3)
    | (go_at_call 15; (with_reducible refine (same_any v2 v3 (jmp L) w3 HL.out (HV2.out.tch hT3) HV3.out).mono ?_); rintro e w4 ⟨rfl, hT4⟩))
  go_ret
  exact ⟨rfl, T3.trans hT4⟩
end Go.Proofs.Ytijnglcagijlcaa
