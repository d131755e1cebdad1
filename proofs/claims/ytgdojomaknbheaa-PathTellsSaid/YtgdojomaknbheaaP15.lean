/- PathTells: the walk. -/
import Derived.Test.YtgdojomaknbheaaP14
namespace Go.Proofs.Ytgdojomaknbheaa
open Go.RowKit

set_option maxHeartbeats 4000000 in
set_option maxRecDepth 100000 in
theorem tells_walk (vb vp : Value) (B P : List Nat) (leaf : Bool) (w : World) (hb : RdA [] w vb B) (hp : RdA [] w vp P) :
    Calls Try.prog 3 #[vb, vp, .bool leaf] w fun e w' => e = .returned (.bool true) ∧ Tch [] w w' := by
  obtain ⟨pb, n, cb, rfl⟩ := slice_keep hb
  obtain ⟨pp, m, cp, rfl⟩ := slice_keep hp
  have hlb := hb.len
  have hlp := hp.len
  by_cases h1 : 500 < n
  · have d1 : (500 : Int) < (n : Int) := by omega
    clear hb hp hlb hlp
    go_enter Try.func3, Try.ntmps3
    go_wp2_with (go_at_call 6; refine (alive_any _).mono ?_; rintro e w1 ⟨rfl, hT1⟩)
    go_ret
    exact ⟨rfl, hT1⟩
  have d1 : ¬ (500 : Int) < (n : Int) := by omega
  by_cases h2 : 500 < m
  · have d2 : (500 : Int) < (m : Int) := by omega
    clear hb hp hlb hlp
    go_enter Try.func3, Try.ntmps3
    go_wp2_with (go_at_call 6; refine (alive_any _).mono ?_; rintro e w1 ⟨rfl, hT1⟩)
    go_ret
    exact ⟨rfl, hT1⟩
  have d2 : ¬ (500 : Int) < (m : Int) := by omega
  have HS := Lib.hid (fun (w1 : World) (hT : Tch [] w w1) => Split_any _ B w1 (by omega) (hb.tch hT))
  have HRS := Lib.hid (fun (w1 : World) (hT : Tch [] w w1) => refSplit_any _ B w1 (by omega) (hb.tch hT))
  have HJ := Lib.hid (fun (w1 : World) (hT : Tch [] w w1) => Join_any _ P w1 (by omega) (hp.tch hT))
  have HRJ := Lib.hid (fun (w1 : World) (hT : Tch [] w w1) => refJoin_any _ P w1 (by omega) (hp.tch hT))
  have HP := Lib.hid (fun (w1 : World) (hT : Tch [] w w1) => Pack_any _ P leaf w1 (by omega) (hp.tch hT))
  have HRP := Lib.hid (fun (w1 : World) (hT : Tch [] w w1) => refPack_any _ P leaf w1 (by omega) (hp.tch hT))
  have HR := Lib.hid (fun (w1 : World) (hT : Tch [] w w1) => Read_any _ B w1 (by omega) (hb.tch hT))
  have HRR := Lib.hid (fun (w1 : World) (hT : Tch [] w w1) => RRead_any _ B w1 (by omega) (hb.tch hT))
  have HC := Lib.hid (fun (w1 : World) (hT : Tch [] w w1) => common_any _ _ B P w1 (by omega) (by omega) (hb.tch hT) (hp.tch hT))
  have HRC := Lib.hid (fun (w1 : World) (hT : Tch [] w w1) => rcommon_any _ _ B P w1 (by omega) (by omega) (hb.tch hT) (hp.tch hT))
  have HNL := Lib.hid (fun y hy => Nat.lt_of_lt_of_le (nibs_lt hb.lt y hy) (by decide : 16 ≤ 256))
  clear hb hp hlb hlp h1 h2
  go_enter Try.func3, Try.ntmps3
  go_upto_region 11 with (first
    | (go_at_call 6; refine (alive_any _).mono ?_; rintro e w1 ⟨rfl, hT1⟩; have A1 := hT1)
    | (go_at_call 7; (with_reducible refine (HS.out _ A1).mono ?_); rintro e w2 ⟨s, rfl, hT2, hs⟩; have A2 := A1.trans hT2)
    | (go_at_call 8; (with_reducible refine (HJ.out _ A2).mono ?_); rintro e w3 ⟨hT3, j, rfl, hj⟩; have A3 := A2.trans hT3)
    | (go_at_call 9; (with_reducible refine (HRJ.out _ A3).mono ?_); rintro e w4 ⟨hT4, k, rfl, hk⟩; have A4 := A3.trans hT4)
    | (go_at_call 10; (with_reducible refine (HP.out _ A4).mono ?_); rintro e w5 ⟨hT5, x, rfl, hx⟩; have A5 := A4.trans hT5)
    | (go_at_call 11; (with_reducible refine (HRP.out _ A5).mono ?_); rintro e w6 ⟨hT6, y, rfl, hy⟩; have A6 := A5.trans hT6)
    | (go_at_call 12; (with_reducible refine (HR.out _ A6).mono ?_); rintro e w7 ⟨hT7, q, rfl, hq⟩; have A7 := A6.trans hT7)
    | (go_at_call 13; (with_reducible refine (HRR.out _ A7).mono ?_); rintro e w8 ⟨hT8, r, rfl, hr⟩; have A8 := A7.trans hT8))
  have T7 := hT8
  have T6 := hT7.trans T7
  have T5 := hT6.trans T6
  have T4 := hT5.trans T5
  have T3 := hT4.trans T4
  have T2 := hT3.trans T3
  have KS := Lib.hid (fun (w' : World) (h : Tch [] w8 w') => hs.nofix (T2.trans h))
  have KJ := Lib.hid (fun (w' : World) (h : Tch [] w8 w') => hj.nofix (T3.trans h))
  have KK := Lib.hid (fun (w' : World) (h : Tch [] w8 w') => hk.nofix (T4.trans h))
  have KX := Lib.hid (fun (w' : World) (h : Tch [] w8 w') => hx.nofix (T5.trans h))
  have KY := Lib.hid (fun (w' : World) (h : Tch [] w8 w') => hy.nofix (T6.trans h))
  have KQ' := Lib.hid (fun (w' : World) (h : Tch [] w8 w') => hq.nofix (T7.trans h))
  have KR := Lib.hid (fun (w' : World) (h : Tch [] w8 w') => hr.nofix h)
  clear hs hj hk hx hy hq hr T2 T3 T4 T5 T6 T7 hT2 hT3 hT4 hT5 hT6 hT7 hT8
  refine wp_region_held_drew (S := fun w' => Tch [] w8 w') (by kernel_rfl) ((Tch.refl _ _).drew) (fun hC => ?_)
  generalize w8.drew = w9 at hC ⊢
  refine held_val (v := s) 0 rfl (by kernel_rfl) (by kernel_rfl) (by kernel_rfl) (fun _ _ _ h => h) hC rfl _ (.inl rfl) rfl ?_
  try simp only [Act.put, List.setIfInBounds_toArray, List.set_cons_zero, List.set_cons_succ]
  refine held_conv (v := s) 1 rfl (by kernel_rfl) (by kernel_rfl) (by kernel_rfl) (fun _ _ _ h => h) hC rfl _ rfl rfl KS.out ?_
  try simp only [Act.put, List.setIfInBounds_toArray, List.set_cons_zero, List.set_cons_succ]
  refine held_val (v := .slice pb n cb) 2 rfl (by kernel_rfl) (by kernel_rfl) (by kernel_rfl) (fun _ _ _ h => h) hC rfl _ (.inl rfl) rfl ?_
  try simp only [Act.put, List.setIfInBounds_toArray, List.set_cons_zero, List.set_cons_succ]
  have hT9 := hC
  refine held_one 3 (by kernel_rfl) ?_
  refine held_call (v1 := .slice pb n cb) rfl rfl rfl (by rfl) Try.call14 (HRS.out w9 (A8.trans hT9)) ?_
  rintro e w10 ⟨v10, rfl, hT10, hown⟩
  refine ⟨v10, rfl, hT9.trans hT10, ?_⟩
  have hv10 := RdB.own hown HNL.out
  have T10 := hT9.trans hT10
  refine held_rest 4 (fun w' => Tch [] w10 w') (by kernel_rfl) (by kernel_rfl) (Tch.refl _ _) (fun w' h => T10.trans h) ?_
  simp only [List.drop_succ_cons, List.drop_zero]
  try simp only [Act.put, List.setIfInBounds_toArray, List.set_cons_zero, List.set_cons_succ]
  refine k_conv rfl _ rfl rfl (fun w' h => hv10.tch h (by simp)) ?_; try simp only [Act.put, List.setIfInBounds_toArray, List.set_cons_zero, List.set_cons_succ]
  refine k_strS rfl _ _ _ rfl rfl rfl ?_; try simp only [Act.put, List.setIfInBounds_toArray, List.set_cons_zero, List.set_cons_succ]
  refine k_boolm rfl _ rfl rfl ?_; try simp only [Act.put, List.setIfInBounds_toArray, List.set_cons_zero, List.set_cons_succ]
  refine k_val (v := j) rfl _ (.inl rfl) rfl ?_; try simp only [Act.put, List.setIfInBounds_toArray, List.set_cons_zero, List.set_cons_succ]
  refine k_conv rfl _ rfl rfl (fun w' h => KJ.out w' (T10.trans h)) ?_; try simp only [Act.put, List.setIfInBounds_toArray, List.set_cons_zero, List.set_cons_succ]
  refine k_val (v := k) rfl _ (.inl rfl) rfl ?_; try simp only [Act.put, List.setIfInBounds_toArray, List.set_cons_zero, List.set_cons_succ]
  refine k_conv rfl _ rfl rfl (fun w' h => KK.out w' (T10.trans h)) ?_; try simp only [Act.put, List.setIfInBounds_toArray, List.set_cons_zero, List.set_cons_succ]
  refine k_strS rfl _ _ _ rfl rfl rfl ?_; try simp only [Act.put, List.setIfInBounds_toArray, List.set_cons_zero, List.set_cons_succ]
  refine k_pickT rfl _ _ _ rfl rfl rfl ?_; try simp only [Act.put, List.setIfInBounds_toArray, List.set_cons_zero, List.set_cons_succ]
  refine k_boolm rfl _ rfl rfl ?_; try simp only [Act.put, List.setIfInBounds_toArray, List.set_cons_zero, List.set_cons_succ]
  refine k_boolm rfl _ rfl rfl ?_; try simp only [Act.put, List.setIfInBounds_toArray, List.set_cons_zero, List.set_cons_succ]
  refine k_boolm rfl _ rfl rfl ?_; try simp only [Act.put, List.setIfInBounds_toArray, List.set_cons_zero, List.set_cons_succ]
  refine k_boolsS rfl _ _ _ rfl rfl rfl ?_; try simp only [Act.put, List.setIfInBounds_toArray, List.set_cons_zero, List.set_cons_succ]
  refine k_pickT rfl _ _ _ rfl rfl rfl ?_; try simp only [Act.put, List.setIfInBounds_toArray, List.set_cons_zero, List.set_cons_succ]
  refine k_boolm rfl _ rfl rfl ?_; try simp only [Act.put, List.setIfInBounds_toArray, List.set_cons_zero, List.set_cons_succ]
  refine k_val (v := x) rfl _ (.inl rfl) rfl ?_; try simp only [Act.put, List.setIfInBounds_toArray, List.set_cons_zero, List.set_cons_succ]
  refine k_conv rfl _ rfl rfl (fun w' h => KX.out w' (T10.trans h)) ?_; try simp only [Act.put, List.setIfInBounds_toArray, List.set_cons_zero, List.set_cons_succ]
  refine k_val (v := y) rfl _ (.inl rfl) rfl ?_; try simp only [Act.put, List.setIfInBounds_toArray, List.set_cons_zero, List.set_cons_succ]
  refine k_conv rfl _ rfl rfl (fun w' h => KY.out w' (T10.trans h)) ?_; try simp only [Act.put, List.setIfInBounds_toArray, List.set_cons_zero, List.set_cons_succ]
  refine k_strS rfl _ _ _ rfl rfl rfl ?_; try simp only [Act.put, List.setIfInBounds_toArray, List.set_cons_zero, List.set_cons_succ]
  refine k_pickT rfl _ _ _ rfl rfl rfl ?_; try simp only [Act.put, List.setIfInBounds_toArray, List.set_cons_zero, List.set_cons_succ]
  refine k_boolm rfl _ rfl rfl ?_; try simp only [Act.put, List.setIfInBounds_toArray, List.set_cons_zero, List.set_cons_succ]
  refine k_boolm rfl _ rfl rfl ?_; try simp only [Act.put, List.setIfInBounds_toArray, List.set_cons_zero, List.set_cons_succ]
  refine k_boolm rfl _ rfl rfl ?_; try simp only [Act.put, List.setIfInBounds_toArray, List.set_cons_zero, List.set_cons_succ]
  refine k_boolsS rfl _ _ _ rfl rfl rfl ?_; try simp only [Act.put, List.setIfInBounds_toArray, List.set_cons_zero, List.set_cons_succ]
  refine k_pickT rfl _ _ _ rfl rfl rfl ?_; try simp only [Act.put, List.setIfInBounds_toArray, List.set_cons_zero, List.set_cons_succ]
  refine k_boolm rfl _ rfl rfl ?_; try simp only [Act.put, List.setIfInBounds_toArray, List.set_cons_zero, List.set_cons_succ]
  refine k_val (v := q) rfl _ (.inl rfl) rfl ?_; try simp only [Act.put, List.setIfInBounds_toArray, List.set_cons_zero, List.set_cons_succ]
  refine k_conv rfl _ rfl rfl (fun w' h => KQ'.out w' (T10.trans h)) ?_; try simp only [Act.put, List.setIfInBounds_toArray, List.set_cons_zero, List.set_cons_succ]
  refine k_val (v := r) rfl _ (.inl rfl) rfl ?_; try simp only [Act.put, List.setIfInBounds_toArray, List.set_cons_zero, List.set_cons_succ]
  refine k_conv rfl _ rfl rfl (fun w' h => KR.out w' (T10.trans h)) ?_; try simp only [Act.put, List.setIfInBounds_toArray, List.set_cons_zero, List.set_cons_succ]
  refine k_strS rfl _ _ _ rfl rfl rfl ?_; try simp only [Act.put, List.setIfInBounds_toArray, List.set_cons_zero, List.set_cons_succ]
  refine k_pickT rfl _ _ _ rfl rfl rfl ?_; try simp only [Act.put, List.setIfInBounds_toArray, List.set_cons_zero, List.set_cons_succ]
  refine k_boolm rfl _ rfl rfl ?_; try simp only [Act.put, List.setIfInBounds_toArray, List.set_cons_zero, List.set_cons_succ]
  refine k_boolm rfl _ rfl rfl ?_; try simp only [Act.put, List.setIfInBounds_toArray, List.set_cons_zero, List.set_cons_succ]
  refine k_boolm rfl _ rfl rfl ?_; try simp only [Act.put, List.setIfInBounds_toArray, List.set_cons_zero, List.set_cons_succ]
  refine k_boolsS rfl _ _ _ rfl rfl rfl ?_; try simp only [Act.put, List.setIfInBounds_toArray, List.set_cons_zero, List.set_cons_succ]
  refine k_pickT rfl _ _ _ rfl rfl rfl ?_; try simp only [Act.put, List.setIfInBounds_toArray, List.set_cons_zero, List.set_cons_succ]
  refine k_boolm rfl _ rfl rfl ?_; try simp only [Act.put, List.setIfInBounds_toArray, List.set_cons_zero, List.set_cons_succ]
  refine k_boolm rfl _ rfl rfl ?_; try simp only [Act.put, List.setIfInBounds_toArray, List.set_cons_zero, List.set_cons_succ]
  refine k_boolm rfl _ rfl rfl ?_; try simp only [Act.put, List.setIfInBounds_toArray, List.set_cons_zero, List.set_cons_succ]
  refine k_boolsS rfl _ _ _ rfl rfl rfl ?_; try simp only [Act.put, List.setIfInBounds_toArray, List.set_cons_zero, List.set_cons_succ]
  refine k_pickT rfl _ _ _ rfl rfl rfl ?_; try simp only [Act.put, List.setIfInBounds_toArray, List.set_cons_zero, List.set_cons_succ]
  refine k_boolm rfl _ rfl rfl ?_; try simp only [Act.put, List.setIfInBounds_toArray, List.set_cons_zero, List.set_cons_succ]
  refine k_slice rfl _ rfl rfl ?_; try simp only [Act.put, List.setIfInBounds_toArray, List.set_cons_zero, List.set_cons_succ]
  refine k_slice rfl _ rfl rfl ?_; try simp only [Act.put, List.setIfInBounds_toArray, List.set_cons_zero, List.set_cons_succ]
  refine k_callC2 rfl rfl rfl rfl Try.call15 (fun w' h => (HC.out w' ((A8.trans T10).trans h)).mono fun e w'' h2 => ⟨h2.1, h.trans h2.2⟩) ?_; try simp only [Act.put, List.setIfInBounds_toArray, List.set_cons_zero, List.set_cons_succ]
  refine k_slice rfl _ rfl rfl ?_; try simp only [Act.put, List.setIfInBounds_toArray, List.set_cons_zero, List.set_cons_succ]
  refine k_slice rfl _ rfl rfl ?_; try simp only [Act.put, List.setIfInBounds_toArray, List.set_cons_zero, List.set_cons_succ]
  refine k_callC2 rfl rfl rfl rfl Try.call16 (fun w' h => (HRC.out w' ((A8.trans T10).trans h)).mono fun e w'' h2 => ⟨h2.1, h.trans h2.2⟩) ?_; try simp only [Act.put, List.setIfInBounds_toArray, List.set_cons_zero, List.set_cons_succ]
  refine k_ints rfl _ _ _ rfl rfl rfl (beq_self_eq_true _) ?_; try simp only [Act.put, List.setIfInBounds_toArray, List.set_cons_zero, List.set_cons_succ]
  refine k_pickT rfl _ _ _ rfl rfl rfl ?_; try simp only [Act.put, List.setIfInBounds_toArray, List.set_cons_zero, List.set_cons_succ]
  refine k_boola rfl _ rfl rfl ?_; try simp only [Act.put, List.setIfInBounds_toArray, List.set_cons_zero, List.set_cons_succ]
  refine k_end ?_
  intro w11 hT11
  go_wp2
  go_ret
  exact ⟨rfl, (A8.trans T10).trans hT11⟩
end Go.Proofs.Ytgdojomaknbheaa
