/- The document's ranges. -/
import Derived.Test.YtjbjjiibldlipaaO10
namespace Go.Proofs.Ytjbjjiibldlipaa
open Go.RowKit

set_option maxRecDepth 100000 in
theorem rng_push (x : Nat) (h0 : 96 ≤ x) (h1 : x ≤ 127) (w : World) : Calls Try.prog 29 #[.int .u8 (x : Int)] w (RngPost x w) := by
  obtain ⟨fs, hu⟩ := inf_type
  have HU := Lib.hid hu
  clear hu
  have hS := St.start w
  have d0 : (96 : Int) ≤ (x : Int) := by omega
  have d1 : (x : Int) < 128 := by omega
  have hI := show rng x = #[.int .u8 (x : Int), .string (⟨#[80, 85, 83, 72]⟩ ++ strB (digN (x - 95))), .int .i64 0, .int .i64 1, .int .i64 3] by
    have e1 : num x = some (x - 95) := by unfold num; rw [if_pos (by omega)]
    have e6 : ins x = ([80, 85, 83, 72], 0, 1, 3) := by unfold ins; rw [if_pos (by omega)]
    have e3 : nm x = [80, 85, 83, 72] ++ digN (x - 95) := by unfold nm; rw [e1, e6]; rfl
    have e4 : nm x ≠ [] := by rw [e3]; simp
    have e5 : (⟨#[80, 85, 83, 72]⟩ : ByteArray) = strB [80, 85, 83, 72] := rfl
    unfold rng inf infR
    rw [if_neg (by rw [e1]; simp), if_neg e4, e3, ← strB_append, ← e5, e6]
    first | rfl | (congr 1; simp; done) | (congr 1; simp; omega) | (congr 1; simp; refine ⟨?_, ?_⟩ <;> omega)
  obtain ⟨m, hm⟩ : ∃ m, m = x - 95 := ⟨_, rfl⟩
  have hm1 : m < 100 := by omega
  have hm2 : (x : Int) - 95 = (m : Int) := by omega
  rw [← hm] at hI
  have HI := Lib.hid hI
  have HM := Lib.hid hm2
  have HD := Lib.hid (fun w1 => rdig_any m hm1 w1)
  have HL := Lib.hid (show (⟨#[80, 85, 83, 72]⟩ : ByteArray).size + (strB (digN m)).size ≤ 100000000 by
    have : (digN m).length ≤ 2 := by unfold digN; split <;> simp
    have e : (⟨#[80, 85, 83, 72]⟩ : ByteArray).size = 4 := rfl
    rw [strB_size, e]; omega)
  clear hm hI hm2
  go_enter Try.func29, Try.ntmps29
  go_wp2_with (first
    | (refine st_new (c := infZ) hS rfl 51 rfl inf_zero ?_; clear hS; intro w1 b1 hS)
    | (go_at_call 40; rw [HM.out]; refine (HD.out _).mono ?_; rintro e w3 ⟨rfl, rfl⟩)
    | (refine st_addS (s := ⟨#[80, 85, 83, 72]⟩) (t := strB (digN m)) rfl _ _ _ _ rfl rfl rfl HL.out ?_)
    | (refine st_store (b := b1) (c' := #[.int .u8 (x : Int), .string (⟨#[80, 85, 83, 72]⟩ ++ strB (digN m)), .int .i64 0, .int .i64 1, .int .i64 3]) hS rfl 51 _ _ rfl rfl rfl .head inf_tsize rfl rfl (by simp [Value.oneCell']) ?_; clear hS; intro w2 hS))
  refine post_cell_one 2 3 51 rfl rfl rfl rfl (hS.get .head) HU.out rfl inf_tsize rfl ⟨true, ?_, hS.frame⟩
  rw [HI.out]
  rfl
set_option maxRecDepth 100000 in
theorem rng_dup (x : Nat) (h0 : 128 ≤ x) (h1 : x ≤ 143) (w : World) : Calls Try.prog 29 #[.int .u8 (x : Int)] w (RngPost x w) := by
  obtain ⟨fs, hu⟩ := inf_type
  have HU := Lib.hid hu
  clear hu
  have hS := St.start w
  have d0 : (96 : Int) ≤ (x : Int) := by omega
  have d1 : ¬ (x : Int) < 128 := by omega
  have d2 : (128 : Int) ≤ (x : Int) := by omega
  have d3 : (x : Int) < 144 := by omega
  have hI := show rng x = #[.int .u8 (x : Int), .string (⟨#[68, 85, 80]⟩ ++ strB (digN (x - 127))), .int .i64 ((x : Int) - 127), .int .i64 ((x : Int) - 126), .int .i64 3] by
    have e1 : num x = some (x - 127) := by unfold num; rw [if_neg (by omega), if_pos (by omega)]
    have e6 : ins x = ([68, 85, 80], x - 127, x - 126, 3) := by unfold ins; rw [if_neg (by omega), if_pos (by omega)]
    have e3 : nm x = [68, 85, 80] ++ digN (x - 127) := by unfold nm; rw [e1, e6]; rfl
    have e4 : nm x ≠ [] := by rw [e3]; simp
    have e5 : (⟨#[68, 85, 80]⟩ : ByteArray) = strB [68, 85, 80] := rfl
    unfold rng inf infR
    rw [if_neg (by rw [e1]; simp), if_neg e4, e3, ← strB_append, ← e5, e6]
    first | rfl | (congr 1; simp; done) | (congr 1; simp; omega) | (congr 1; simp; refine ⟨?_, ?_⟩ <;> omega)
  obtain ⟨m, hm⟩ : ∃ m, m = x - 127 := ⟨_, rfl⟩
  have hm1 : m < 100 := by omega
  have hm2 : (x : Int) - 127 = (m : Int) := by omega
  rw [← hm] at hI
  have HI := Lib.hid hI
  have HM := Lib.hid hm2
  have HD := Lib.hid (fun w1 => rdig_any m hm1 w1)
  have HL := Lib.hid (show (⟨#[68, 85, 80]⟩ : ByteArray).size + (strB (digN m)).size ≤ 100000000 by
    have : (digN m).length ≤ 2 := by unfold digN; split <;> simp
    have e : (⟨#[68, 85, 80]⟩ : ByteArray).size = 3 := rfl
    rw [strB_size, e]; omega)
  clear hm hI hm2
  go_enter Try.func29, Try.ntmps29
  go_wp2_with (first
    | (refine st_new (c := infZ) hS rfl 51 rfl inf_zero ?_; clear hS; intro w1 b1 hS)
    | (go_at_call 40; rw [HM.out]; refine (HD.out _).mono ?_; rintro e w3 ⟨rfl, rfl⟩)
    | (refine st_addS (s := ⟨#[68, 85, 80]⟩) (t := strB (digN m)) rfl _ _ _ _ rfl rfl rfl HL.out ?_)
    | (refine st_store (b := b1) (c' := #[.int .u8 (x : Int), .string (⟨#[68, 85, 80]⟩ ++ strB (digN m)), .int .i64 ((x : Int) - 127), .int .i64 ((x : Int) - 126), .int .i64 3]) hS rfl 51 _ _ rfl rfl rfl .head inf_tsize rfl rfl (by simp [Value.oneCell']) ?_; clear hS; intro w2 hS))
  refine post_cell_one 2 3 51 rfl rfl rfl rfl (hS.get .head) HU.out rfl inf_tsize rfl ⟨true, ?_, hS.frame⟩
  rw [HI.out]
  rfl
set_option maxRecDepth 100000 in
theorem rng_swap (x : Nat) (h0 : 144 ≤ x) (h1 : x ≤ 159) (w : World) : Calls Try.prog 29 #[.int .u8 (x : Int)] w (RngPost x w) := by
  obtain ⟨fs, hu⟩ := inf_type
  have HU := Lib.hid hu
  clear hu
  have hS := St.start w
  have d0 : (96 : Int) ≤ (x : Int) := by omega
  have d1 : ¬ (x : Int) < 128 := by omega
  have d2 : (128 : Int) ≤ (x : Int) := by omega
  have d3 : ¬ (x : Int) < 144 := by omega
  have d4 : (144 : Int) ≤ (x : Int) := by omega
  have d5 : (x : Int) < 160 := by omega
  have hI := show rng x = #[.int .u8 (x : Int), .string (⟨#[83, 87, 65, 80]⟩ ++ strB (digN (x - 143))), .int .i64 ((x : Int) - 142), .int .i64 ((x : Int) - 142), .int .i64 3] by
    have e1 : num x = some (x - 143) := by unfold num; rw [if_neg (by omega), if_neg (by omega), if_pos (by omega)]
    have e6 : ins x = ([83, 87, 65, 80], x - 142, x - 142, 3) := by unfold ins; rw [if_neg (by omega), if_neg (by omega), if_pos (by omega)]
    have e3 : nm x = [83, 87, 65, 80] ++ digN (x - 143) := by unfold nm; rw [e1, e6]; rfl
    have e4 : nm x ≠ [] := by rw [e3]; simp
    have e5 : (⟨#[83, 87, 65, 80]⟩ : ByteArray) = strB [83, 87, 65, 80] := rfl
    unfold rng inf infR
    rw [if_neg (by rw [e1]; simp), if_neg e4, e3, ← strB_append, ← e5, e6]
    first | rfl | (congr 1; simp; done) | (congr 1; simp; omega) | (congr 1; simp; refine ⟨?_, ?_⟩ <;> omega)
  obtain ⟨m, hm⟩ : ∃ m, m = x - 143 := ⟨_, rfl⟩
  have hm1 : m < 100 := by omega
  have hm2 : (x : Int) - 143 = (m : Int) := by omega
  rw [← hm] at hI
  have HI := Lib.hid hI
  have HM := Lib.hid hm2
  have HD := Lib.hid (fun w1 => rdig_any m hm1 w1)
  have HL := Lib.hid (show (⟨#[83, 87, 65, 80]⟩ : ByteArray).size + (strB (digN m)).size ≤ 100000000 by
    have : (digN m).length ≤ 2 := by unfold digN; split <;> simp
    have e : (⟨#[83, 87, 65, 80]⟩ : ByteArray).size = 4 := rfl
    rw [strB_size, e]; omega)
  clear hm hI hm2
  go_enter Try.func29, Try.ntmps29
  go_wp2_with (first
    | (refine st_new (c := infZ) hS rfl 51 rfl inf_zero ?_; clear hS; intro w1 b1 hS)
    | (go_at_call 40; rw [HM.out]; refine (HD.out _).mono ?_; rintro e w3 ⟨rfl, rfl⟩)
    | (refine st_addS (s := ⟨#[83, 87, 65, 80]⟩) (t := strB (digN m)) rfl _ _ _ _ rfl rfl rfl HL.out ?_)
    | (refine st_store (b := b1) (c' := #[.int .u8 (x : Int), .string (⟨#[83, 87, 65, 80]⟩ ++ strB (digN m)), .int .i64 ((x : Int) - 142), .int .i64 ((x : Int) - 142), .int .i64 3]) hS rfl 51 _ _ rfl rfl rfl .head inf_tsize rfl rfl (by simp [Value.oneCell']) ?_; clear hS; intro w2 hS))
  refine post_cell_one 2 3 51 rfl rfl rfl rfl (hS.get .head) HU.out rfl inf_tsize rfl ⟨true, ?_, hS.frame⟩
  rw [HI.out]
  rfl
set_option maxRecDepth 100000 in
theorem rng_log (x : Nat) (h0 : 160 ≤ x) (h1 : x ≤ 164) (w : World) : Calls Try.prog 29 #[.int .u8 (x : Int)] w (RngPost x w) := by
  obtain ⟨fs, hu⟩ := inf_type
  have HU := Lib.hid hu
  clear hu
  have hS := St.start w
  have d0 : (96 : Int) ≤ (x : Int) := by omega
  have d1 : ¬ (x : Int) < 128 := by omega
  have d2 : (128 : Int) ≤ (x : Int) := by omega
  have d3 : ¬ (x : Int) < 144 := by omega
  have d4 : (144 : Int) ≤ (x : Int) := by omega
  have d5 : ¬ (x : Int) < 160 := by omega
  have d6 : (160 : Int) ≤ (x : Int) := by omega
  have d7 : (x : Int) < 165 := by omega
  have hI := show rng x = #[.int .u8 (x : Int), .string (⟨#[76, 79, 71]⟩ ++ strB (digN (x - 160))), .int .i64 ((x : Int) - 158), .int .i64 0, .int .i64 (375 * ((x : Int) - 159))] by
    have e1 : num x = some (x - 160) := by unfold num; rw [if_neg (by omega), if_neg (by omega), if_neg (by omega), if_pos (by omega)]
    have e6 : ins x = ([76, 79, 71], x - 158, 0, 375 * (x - 159)) := by unfold ins; rw [if_neg (by omega), if_neg (by omega), if_neg (by omega), if_pos (by omega)]
    have e3 : nm x = [76, 79, 71] ++ digN (x - 160) := by unfold nm; rw [e1, e6]; rfl
    have e4 : nm x ≠ [] := by rw [e3]; simp
    have e5 : (⟨#[76, 79, 71]⟩ : ByteArray) = strB [76, 79, 71] := rfl
    unfold rng inf infR
    rw [if_neg (by rw [e1]; simp), if_neg e4, e3, ← strB_append, ← e5, e6]
    first | rfl | (congr 1; simp; done) | (congr 1; simp; omega) | (congr 1; simp; refine ⟨?_, ?_⟩ <;> omega)
  obtain ⟨m, hm⟩ : ∃ m, m = x - 160 := ⟨_, rfl⟩
  have hm1 : m < 100 := by omega
  have hm2 : (x : Int) - 160 = (m : Int) := by omega
  rw [← hm] at hI
  have HI := Lib.hid hI
  have HM := Lib.hid hm2
  have HD := Lib.hid (fun w1 => rdig_any m hm1 w1)
  have HL := Lib.hid (show (⟨#[76, 79, 71]⟩ : ByteArray).size + (strB (digN m)).size ≤ 100000000 by
    have : (digN m).length ≤ 2 := by unfold digN; split <;> simp
    have e : (⟨#[76, 79, 71]⟩ : ByteArray).size = 3 := rfl
    rw [strB_size, e]; omega)
  clear hm hI hm2
  go_enter Try.func29, Try.ntmps29
  go_wp2_with (first
    | (refine st_new (c := infZ) hS rfl 51 rfl inf_zero ?_; clear hS; intro w1 b1 hS)
    | (go_at_call 40; rw [HM.out]; refine (HD.out _).mono ?_; rintro e w3 ⟨rfl, rfl⟩)
    | (refine st_addS (s := ⟨#[76, 79, 71]⟩) (t := strB (digN m)) rfl _ _ _ _ rfl rfl rfl HL.out ?_)
    | (refine st_store (b := b1) (c' := #[.int .u8 (x : Int), .string (⟨#[76, 79, 71]⟩ ++ strB (digN m)), .int .i64 ((x : Int) - 158), .int .i64 0, .int .i64 (375 * ((x : Int) - 159))]) hS rfl 51 _ _ rfl rfl rfl .head inf_tsize rfl rfl (by simp [Value.oneCell']) ?_; clear hS; intro w2 hS))
  refine post_cell_one 2 3 51 rfl rfl rfl rfl (hS.get .head) HU.out rfl inf_tsize rfl ⟨true, ?_, hS.frame⟩
  rw [HI.out]
  rfl
set_option maxRecDepth 100000 in
theorem rng_low (x : Nat) (hx : x < 256) (h0 : x < 96) (w : World) : Calls Try.prog 29 #[.int .u8 (x : Int)] w (RngPost x w) := by
  obtain ⟨fs, hu⟩ := inf_type
  have HU := Lib.hid hu
  clear hu
  have hS := St.start w
  have d0 : ¬ ((96 : Int) ≤ (x : Int)) := by omega
  have d1 : ¬ ((128 : Int) ≤ (x : Int)) := by omega
  have d2 : ¬ ((144 : Int) ≤ (x : Int)) := by omega
  have d3 : ¬ ((160 : Int) ≤ (x : Int)) := by omega
  have hI := Lib.hid (show rng x = infZ by unfold rng; rw [if_pos (by unfold num; rw [if_neg (by omega), if_neg (by omega), if_neg (by omega), if_neg (by omega)])])
  go_enter Try.func29, Try.ntmps29
  go_wp2_with (first
    | (refine st_new (c := infZ) hS rfl 51 rfl inf_zero ?_; clear hS; intro w1 b1 hS)
    | (refine st_bldO (ty := 51) (v := .agg infZ) _ rfl rfl rfl (fun w => by kernel_rfl) ?_)
    | (refine st_store (b := b1) (c' := infZ) hS rfl 51 _ _ rfl rfl rfl .head inf_tsize rfl rfl infZ_one ?_; clear hS; intro w2 hS))
  refine post_cell_one 2 3 51 rfl rfl rfl rfl (hS.get .head) HU.out rfl inf_tsize rfl ⟨false, ?_, hS.frame⟩
  rw [hI.out]
  rfl
set_option maxRecDepth 100000 in
theorem rng_high (x : Nat) (hx : x < 256) (h0 : 164 < x) (w : World) : Calls Try.prog 29 #[.int .u8 (x : Int)] w (RngPost x w) := by
  obtain ⟨fs, hu⟩ := inf_type
  have HU := Lib.hid hu
  clear hu
  have hS := St.start w
  have d0 : ((96 : Int) ≤ (x : Int)) := by omega
  have d1 : ¬ ((x : Int) < 128) := by omega
  have d2 : ((128 : Int) ≤ (x : Int)) := by omega
  have d3 : ¬ ((x : Int) < 144) := by omega
  have d4 : ((144 : Int) ≤ (x : Int)) := by omega
  have d5 : ¬ ((x : Int) < 160) := by omega
  have d6 : ((160 : Int) ≤ (x : Int)) := by omega
  have d7 : ¬ ((x : Int) < 165) := by omega
  have hI := Lib.hid (show rng x = infZ by unfold rng; rw [if_pos (by unfold num; rw [if_neg (by omega), if_neg (by omega), if_neg (by omega), if_neg (by omega)])])
  go_enter Try.func29, Try.ntmps29
  go_wp2_with (first
    | (refine st_new (c := infZ) hS rfl 51 rfl inf_zero ?_; clear hS; intro w1 b1 hS)
    | (refine st_bldO (ty := 51) (v := .agg infZ) _ rfl rfl rfl (fun w => by kernel_rfl) ?_)
    | (refine st_store (b := b1) (c' := infZ) hS rfl 51 _ _ rfl rfl rfl .head inf_tsize rfl rfl infZ_one ?_; clear hS; intro w2 hS))
  refine post_cell_one 2 3 51 rfl rfl rfl rfl (hS.get .head) HU.out rfl inf_tsize rfl ⟨false, ?_, hS.frame⟩
  rw [hI.out]
  rfl
theorem rng_any (x : Nat) (hx : x < 256) (w : World) : Calls Try.prog 29 #[.int .u8 (x : Int)] w (RngPost x w) := by
  by_cases h1 : x < 96
  · exact rng_low x hx h1 w
  by_cases h2 : x ≤ 127
  · exact rng_push x (by omega) h2 w
  by_cases h3 : x ≤ 143
  · exact rng_dup x (by omega) h3 w
  by_cases h4 : x ≤ 159
  · exact rng_swap x (by omega) h4 w
  by_cases h5 : x ≤ 164
  · exact rng_log x (by omega) h5 w
  exact rng_high x hx (by omega) w
end Go.Proofs.Ytjbjjiibldlipaa
