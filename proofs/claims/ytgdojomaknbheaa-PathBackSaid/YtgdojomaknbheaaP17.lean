/- PathBack: the walk. -/
import Derived.Test.YtgdojomaknbheaaP16
namespace Go.Proofs.Ytgdojomaknbheaa
open Go.RowKit

set_option maxHeartbeats 4000000 in
set_option maxRecDepth 100000 in
theorem back_walk (vb : Value) (B : List Nat) (cut : Int) (leaf : Bool) (w : World) (hb : RdA [] w vb B) :
    Calls Try.prog 4 #[vb, .int .i64 cut, .bool leaf] w fun e w' => e = .returned (.bool true) ∧ Tch [] w w' := by
  obtain ⟨pb, n, cb, rfl⟩ := slice_keep hb
  have hlb := hb.len
  by_cases h1 : 500 < n
  · have d1 : (500 : Int) < (n : Int) := by omega
    clear hb hlb
    go_enter Try.func4, Try.ntmps4
    go_wp2_with (go_at_call 6; refine (alive_any _).mono ?_; rintro e w1 ⟨rfl, hT1⟩)
    go_ret
    exact ⟨rfl, hT1⟩

  have d1 : ¬ (500 : Int) < (n : Int) := by omega
  by_cases h2 : cut < 0
  · clear hb hlb
    go_enter Try.func4, Try.ntmps4
    go_wp2_with (go_at_call 6; refine (alive_any _).mono ?_; rintro e w1 ⟨rfl, hT1⟩)
    go_ret
    exact ⟨rfl, hT1⟩

  have dw : IntKind.i64.wrap (2 * (n : Int)) = 2 * (n : Int) := by rw [IntKind.wrap_i64]; omega
  by_cases h3 : 2 * (n : Int) < cut
  · clear hb hlb
    go_enter Try.func4, Try.ntmps4
    go_wp2_with (go_at_call 6; refine (alive_any _).mono ?_; rintro e w1 ⟨rfl, hT1⟩)
    go_ret
    exact ⟨rfl, hT1⟩

  obtain ⟨K, rfl⟩ := Int.eq_ofNat_of_zero_le (show 0 ≤ cut by omega)
  have hKn : K ≤ 2 * n := by omega
  have hK6 : K ≤ 1000000 := by omega
  have hadd : IntKind.i64.wrap (((K / 2 : Nat) : Int) + 1) = ((K / 2 + 1 : Nat) : Int) := by rw [IntKind.wrap_i64]; omega
  have hall : allN ((nibs B).take K) = true := allN_iff.2 fun x hx => nibs_lt hb.lt x (List.mem_of_mem_take hx)
  have HLT := Lib.hid (fun x hx => Nat.lt_of_lt_of_le (nibs_lt hb.lt x (List.mem_of_mem_take (i := K) hx)) (by decide : 16 ≤ 256))
  have hS := fun (w1 : World) (hT : Tch [] w w1) => (Split_any _ B w1 (by omega) (hb.tch hT)).mono (R' := fun e w' => ∃ ps cs, e = .returned (.slice ps (2 * n) cs) ∧ Tch [] w1 w' ∧ Hid (RdA [] w' (.slice ps (2 * n) cs) (nibs B)) ∧ 2 * n ≤ cs) (fun e w' h => by
    obtain ⟨v', rfl, hT, hr⟩ := h
    obtain ⟨ps, ns, cs, rfl⟩ := slice_keep hr
    have hl := hr.len
    rw [nibs_length, ← hlb] at hl
    subst hl
    exact ⟨ps, cs, rfl, hT, Lib.hid hr, hr.cap⟩)
  have hJ := fun (u : Value) (w1 : World) (hu : RdA [] w1 u (nibs B)) => Join_any u (nibs B) w1 (by rw [nibs_length]; omega) hu
  rw [joinL_nibs hb.lt] at hJ
  have hP := fun (u : Value) (w1 : World) (hu : RdA [] w1 u ((nibs B).take K)) => (Pack_any u ((nibs B).take K) leaf w1 (by rw [List.length_take, nibs_length]; omega) hu).mono (R' := fun e w' => ∃ px cx, e = .returned (.tuple #[.slice px (K / 2 + 1) cx, .bool true]) ∧ Tch [] w1 w' ∧ Hid (RdA [] w' (.slice px (K / 2 + 1) cx) (jn (fr ((nibs B).take K) leaf ++ (nibs B).take K)))) (fun e w' h => by
    rw [packL_some leaf hall] at h
    obtain ⟨hT, v', rfl, hr⟩ := h
    obtain ⟨px, nx, cx, rfl⟩ := slice_keep hr
    have hl := hr.len
    simp only [Option.getD_some] at hl hr
    rw [pack_len, List.length_take, nibs_length, Nat.min_eq_left (by omega)] at hl
    subst hl
    exact ⟨px, cx, rfl, hT, Lib.hid hr⟩)
  have hR := fun (u : Value) (w1 : World) (hu : RdA [] w1 u (jn (fr ((nibs B).take K) leaf ++ (nibs B).take K))) => Read_any u _ w1 (by rw [pack_len, List.length_take]; omega) hu
  rw [read_pack leaf hall] at hR
  have HS := Lib.hid hS
  have HJ := Lib.hid hJ
  have HP := Lib.hid hP
  have HR := Lib.hid hR
  have HB := Lib.hid hb
  clear hS hJ hP hR hb hlb h1 hall
  go_enter Try.func4, Try.ntmps4
  go_upto_region 8 with (first
    | (go_at_call 6; refine (alive_any _).mono ?_; rintro e w1 ⟨rfl, hT1⟩; have A1 := hT1)
    | (go_at_call 7; (with_reducible refine (HS.out _ A1).mono ?_); rintro e w2 ⟨ps, cs, rfl, hT2, hs, hcs⟩; have A2 := A1.trans hT2)
    | (go_at_call 8; (with_reducible refine (HJ.out _ _ hs.out).mono ?_); rintro e w3 ⟨hT3, j, rfl, hj⟩; have A3 := A2.trans hT3)
    | (refine st_to (v := .slice ps (2 * n) cs) (l := .int .i64 (K : Int)) (r := .slice ps K cs) rfl 22 _ _ (by rfl) (by rfl) (by rfl) (slice_toP ps (2 * n) cs K hKn hcs) ?_)
    | (go_at_call 10; (with_reducible refine (HP.out _ _ ((hs.out.tch hT3).take hKn)).mono ?_); rintro e w4 ⟨px, cx, rfl, hT4, hx⟩; have A4 := A3.trans hT4)
    | (go_at_call 12; (with_reducible refine (HR.out _ _ hx.out).mono ?_); rintro e w5 ⟨hT5, q, rfl, hq⟩; have A5 := A4.trans hT5))
  have KJ := Lib.hid (fun (w' : World) (h : Tch [] w5 w') => RdA.nofix (l := B) hj ((hT4.trans hT5).trans h))
  have KB := Lib.hid (fun (w' : World) (h : Tch [] w5 w') => HB.out.nofix (A5.trans h))
  have KQ' := Lib.hid (fun (w' : World) (h : Tch [] w5 w') => RdA.nofix (l := (nibs B).take K) hq h)
  have KC := Lib.hid (fun (w' : World) (h : Tch [] w5 w') => (hs.out.take hKn).nofix (((hT3.trans hT4).trans hT5).trans h))
  have HSL := Lib.hid (slice_toP ps (2 * n) cs K hKn hcs)
  clear hj hq hs hx hT2 hT3 hT4 hT5
  refine k_region (C := fun w' => Tch [] w5 w') (by kernel_rfl) (by kernel_rfl) ((Tch.refl _ _).drew) ?_
  refine k_boolm rfl _ rfl rfl ?_; try simp only [Act.put, List.setIfInBounds_toArray, List.set_cons_zero, List.set_cons_succ]
  refine k_boolm rfl _ rfl rfl ?_; try simp only [Act.put, List.setIfInBounds_toArray, List.set_cons_zero, List.set_cons_succ]
  refine k_val (v := j) rfl _ (.inl rfl) rfl ?_; try simp only [Act.put, List.setIfInBounds_toArray, List.set_cons_zero, List.set_cons_succ]
  refine k_conv rfl _ rfl rfl (fun w' h => KJ.out w' h) ?_; try simp only [Act.put, List.setIfInBounds_toArray, List.set_cons_zero, List.set_cons_succ]
  refine k_slice rfl _ rfl rfl ?_; try simp only [Act.put, List.setIfInBounds_toArray, List.set_cons_zero, List.set_cons_succ]
  refine k_conv rfl _ rfl rfl (fun w' h => KB.out w' h) ?_; try simp only [Act.put, List.setIfInBounds_toArray, List.set_cons_zero, List.set_cons_succ]
  refine k_strS rfl _ _ _ rfl rfl rfl ?_; try simp only [Act.put, List.setIfInBounds_toArray, List.set_cons_zero, List.set_cons_succ]
  refine k_pickT rfl _ _ _ rfl rfl rfl ?_; try simp only [Act.put, List.setIfInBounds_toArray, List.set_cons_zero, List.set_cons_succ]
  refine k_boolm rfl _ rfl rfl ?_; try simp only [Act.put, List.setIfInBounds_toArray, List.set_cons_zero, List.set_cons_succ]
  refine k_boolm rfl _ rfl rfl ?_; try simp only [Act.put, List.setIfInBounds_toArray, List.set_cons_zero, List.set_cons_succ]
  refine k_pickT rfl _ _ _ rfl rfl rfl ?_; try simp only [Act.put, List.setIfInBounds_toArray, List.set_cons_zero, List.set_cons_succ]
  refine k_boolm rfl _ rfl rfl ?_; try simp only [Act.put, List.setIfInBounds_toArray, List.set_cons_zero, List.set_cons_succ]
  refine k_boolm rfl _ rfl rfl ?_; try simp only [Act.put, List.setIfInBounds_toArray, List.set_cons_zero, List.set_cons_succ]
  refine k_pickT rfl _ _ _ rfl rfl rfl ?_; try simp only [Act.put, List.setIfInBounds_toArray, List.set_cons_zero, List.set_cons_succ]
  refine k_boolm rfl _ rfl rfl ?_; try simp only [Act.put, List.setIfInBounds_toArray, List.set_cons_zero, List.set_cons_succ]
  refine k_boolm rfl _ rfl rfl ?_; try simp only [Act.put, List.setIfInBounds_toArray, List.set_cons_zero, List.set_cons_succ]
  refine k_boolm rfl _ rfl rfl ?_; try simp only [Act.put, List.setIfInBounds_toArray, List.set_cons_zero, List.set_cons_succ]
  refine k_boolsS rfl _ _ _ rfl rfl rfl ?_; try simp only [Act.put, List.setIfInBounds_toArray, List.set_cons_zero, List.set_cons_succ]
  refine k_pickT rfl _ _ _ rfl rfl rfl ?_; try simp only [Act.put, List.setIfInBounds_toArray, List.set_cons_zero, List.set_cons_succ]
  refine k_boolm rfl _ rfl rfl ?_; try simp only [Act.put, List.setIfInBounds_toArray, List.set_cons_zero, List.set_cons_succ]
  refine k_val (v := q) rfl _ (.inl rfl) rfl ?_; try simp only [Act.put, List.setIfInBounds_toArray, List.set_cons_zero, List.set_cons_succ]
  refine k_conv rfl _ rfl rfl (fun w' h => KQ'.out w' h) ?_; try simp only [Act.put, List.setIfInBounds_toArray, List.set_cons_zero, List.set_cons_succ]
  refine k_slice rfl _ rfl rfl ?_; try simp only [Act.put, List.setIfInBounds_toArray, List.set_cons_zero, List.set_cons_succ]
  refine k_intm rfl _ rfl rfl ?_; try simp only [Act.put, List.setIfInBounds_toArray, List.set_cons_zero, List.set_cons_succ]
  refine k_sl rfl rfl rfl rfl rfl rfl HSL.out ?_; try simp only [Act.put, List.setIfInBounds_toArray, List.set_cons_zero, List.set_cons_succ]
  refine k_conv rfl _ rfl rfl (fun w' h => KC.out w' h) ?_; try simp only [Act.put, List.setIfInBounds_toArray, List.set_cons_zero, List.set_cons_succ]
  refine k_strS rfl _ _ _ rfl rfl rfl ?_; try simp only [Act.put, List.setIfInBounds_toArray, List.set_cons_zero, List.set_cons_succ]
  refine k_pickT rfl _ _ _ rfl rfl rfl ?_; try simp only [Act.put, List.setIfInBounds_toArray, List.set_cons_zero, List.set_cons_succ]
  refine k_boolm rfl _ rfl rfl ?_; try simp only [Act.put, List.setIfInBounds_toArray, List.set_cons_zero, List.set_cons_succ]
  refine k_slice rfl _ rfl rfl ?_; try simp only [Act.put, List.setIfInBounds_toArray, List.set_cons_zero, List.set_cons_succ]
  refine k_lenSl rfl _ rfl rfl ?_; try simp only [Act.put, List.setIfInBounds_toArray, List.set_cons_zero, List.set_cons_succ]
  refine k_intm rfl _ rfl rfl ?_; try simp only [Act.put, List.setIfInBounds_toArray, List.set_cons_zero, List.set_cons_succ]
  refine k_quo2 (m := K) (n := K / 2) rfl _ _ _ _ rfl rfl rfl hK6 rfl ?_; try simp only [Act.put, List.setIfInBounds_toArray, List.set_cons_zero, List.set_cons_succ]
  refine k_add (s := ((K / 2 + 1 : Nat) : Int)) rfl _ _ _ _ rfl rfl rfl hadd ?_; try simp only [Act.put, List.setIfInBounds_toArray, List.set_cons_zero, List.set_cons_succ]
  refine k_ints rfl _ _ _ rfl rfl rfl (beq_self_eq_true _) ?_; try simp only [Act.put, List.setIfInBounds_toArray, List.set_cons_zero, List.set_cons_succ]
  refine k_pickT rfl _ _ _ rfl rfl rfl ?_; try simp only [Act.put, List.setIfInBounds_toArray, List.set_cons_zero, List.set_cons_succ]
  refine k_boola rfl _ rfl rfl ?_; try simp only [Act.put, List.setIfInBounds_toArray, List.set_cons_zero, List.set_cons_succ]
  refine k_end ?_
  intro w6 hT6
  go_wp2
  go_ret
  exact ⟨rfl, A5.trans hT6⟩
end Go.Proofs.Ytgdojomaknbheaa
