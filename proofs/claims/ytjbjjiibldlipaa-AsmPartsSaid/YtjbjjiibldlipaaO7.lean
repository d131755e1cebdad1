/- ops.find, ops.digits, ops.Name, Pops, Pushes, Gas. -/
import Derived.Test.YtjbjjiibldlipaaO6
namespace Go.Proofs.Ytjbjjiibldlipaa
open Go.RowKit

def FindPost (x : Nat) (w : World) (e : Ending) (w' : World) : Prop := e = .returned (.tuple #[.agg (rowA (ins x)), .int .i64 (numI x)]) ∧ Tch [] w w'
theorem find_push (x : Nat) (h0 : 96 ≤ x) (h1 : x ≤ 127) (w : World) : Calls Try.prog 33 #[.int .u8 (x : Int)] w (FindPost x w) := by
  obtain ⟨fs, hu⟩ := ins_type'
  have HU := Lib.hid hu
  clear hu
  have hS := St.start w
  have d0 : ((96 : Int) ≤ (x : Int)) := by omega
  have d1 : ((x : Int) ≤ 127) := by omega
  have hI := Lib.hid (show rowA (ins x) = #[.string ⟨#[80, 85, 83, 72]⟩, .int .i64 0, .int .i64 1, .int .i64 3] by
    unfold ins; rw [if_pos (by omega)]; simp [rowA]; first | rfl | (refine ⟨rfl, ?_⟩; omega) | (refine ⟨rfl, ?_, ?_⟩ <;> omega) | omega)
  have hN := Lib.hid (show numI x = (x : Int) - 95 by unfold numI num; rw [if_pos (by omega)]; simp only; omega)
  go_enter Try.func33, Try.ntmps33
  go_wp2_with (first
    | (refine st_new (c := insZ) hS rfl 70 rfl ins_zero ?_; clear hS; intro w1 b1 hS)
    | (refine st_store (b := b1) (c' := #[.string ⟨#[80, 85, 83, 72]⟩, .int .i64 0, .int .i64 1, .int .i64 3]) hS rfl 70 _ _ rfl rfl rfl .head ins_size rfl rfl (by simp [Value.oneCell']) ?_; clear hS; intro w2 hS))
  refine post_cell_one 2 3 70 rfl rfl rfl rfl (hS.get .head) HU.out rfl ins_size rfl ⟨?_, hS.frame⟩
  rw [hI.out, hN.out]
  rfl
theorem find_dup (x : Nat) (h0 : 128 ≤ x) (h1 : x ≤ 143) (w : World) : Calls Try.prog 33 #[.int .u8 (x : Int)] w (FindPost x w) := by
  obtain ⟨fs, hu⟩ := ins_type'
  have HU := Lib.hid hu
  clear hu
  have hS := St.start w
  have d0 : ((96 : Int) ≤ (x : Int)) := by omega
  have d1 : ¬ ((x : Int) ≤ 127) := by omega
  have d2 : ((128 : Int) ≤ (x : Int)) := by omega
  have d3 : ((x : Int) ≤ 143) := by omega
  have hI := Lib.hid (show rowA (ins x) = #[.string ⟨#[68, 85, 80]⟩, .int .i64 ((x : Int) - 127), .int .i64 ((x : Int) - 127 + 1), .int .i64 3] by
    unfold ins; rw [if_neg (by omega), if_pos (by omega)]; simp [rowA]; first | rfl | (refine ⟨rfl, ?_⟩; omega) | (refine ⟨rfl, ?_, ?_⟩ <;> omega) | omega)
  have hN := Lib.hid (show numI x = (x : Int) - 127 by unfold numI num; rw [if_neg (by omega), if_pos (by omega)]; simp only; omega)
  go_enter Try.func33, Try.ntmps33
  go_wp2_with (first
    | (refine st_new (c := insZ) hS rfl 70 rfl ins_zero ?_; clear hS; intro w1 b1 hS)
    | (refine st_store (b := b1) (c' := #[.string ⟨#[68, 85, 80]⟩, .int .i64 ((x : Int) - 127), .int .i64 ((x : Int) - 127 + 1), .int .i64 3]) hS rfl 70 _ _ rfl rfl rfl .head ins_size rfl rfl (by simp [Value.oneCell']) ?_; clear hS; intro w2 hS))
  refine post_cell_one 2 3 70 rfl rfl rfl rfl (hS.get .head) HU.out rfl ins_size rfl ⟨?_, hS.frame⟩
  rw [hI.out, hN.out]
  rfl
theorem find_swap (x : Nat) (h0 : 144 ≤ x) (h1 : x ≤ 159) (w : World) : Calls Try.prog 33 #[.int .u8 (x : Int)] w (FindPost x w) := by
  obtain ⟨fs, hu⟩ := ins_type'
  have HU := Lib.hid hu
  clear hu
  have hS := St.start w
  have d0 : ((96 : Int) ≤ (x : Int)) := by omega
  have d1 : ¬ ((x : Int) ≤ 127) := by omega
  have d2 : ((128 : Int) ≤ (x : Int)) := by omega
  have d3 : ¬ ((x : Int) ≤ 143) := by omega
  have d4 : ((144 : Int) ≤ (x : Int)) := by omega
  have d5 : ((x : Int) ≤ 159) := by omega
  have hI := Lib.hid (show rowA (ins x) = #[.string ⟨#[83, 87, 65, 80]⟩, .int .i64 ((x : Int) - 143 + 1), .int .i64 ((x : Int) - 143 + 1), .int .i64 3] by
    unfold ins; rw [if_neg (by omega), if_neg (by omega), if_pos (by omega)]; simp [rowA]; first | rfl | (refine ⟨rfl, ?_⟩; omega) | (refine ⟨rfl, ?_, ?_⟩ <;> omega) | omega)
  have hN := Lib.hid (show numI x = (x : Int) - 143 by unfold numI num; rw [if_neg (by omega), if_neg (by omega), if_pos (by omega)]; simp only; omega)
  go_enter Try.func33, Try.ntmps33
  go_wp2_with (first
    | (refine st_new (c := insZ) hS rfl 70 rfl ins_zero ?_; clear hS; intro w1 b1 hS)
    | (refine st_store (b := b1) (c' := #[.string ⟨#[83, 87, 65, 80]⟩, .int .i64 ((x : Int) - 143 + 1), .int .i64 ((x : Int) - 143 + 1), .int .i64 3]) hS rfl 70 _ _ rfl rfl rfl .head ins_size rfl rfl (by simp [Value.oneCell']) ?_; clear hS; intro w2 hS))
  refine post_cell_one 2 3 70 rfl rfl rfl rfl (hS.get .head) HU.out rfl ins_size rfl ⟨?_, hS.frame⟩
  rw [hI.out, hN.out]
  rfl
theorem find_log (x : Nat) (h0 : 160 ≤ x) (h1 : x ≤ 164) (w : World) : Calls Try.prog 33 #[.int .u8 (x : Int)] w (FindPost x w) := by
  obtain ⟨fs, hu⟩ := ins_type'
  have HU := Lib.hid hu
  clear hu
  have hS := St.start w
  have d0 : ((96 : Int) ≤ (x : Int)) := by omega
  have d1 : ¬ ((x : Int) ≤ 127) := by omega
  have d2 : ((128 : Int) ≤ (x : Int)) := by omega
  have d3 : ¬ ((x : Int) ≤ 143) := by omega
  have d4 : ((144 : Int) ≤ (x : Int)) := by omega
  have d5 : ¬ ((x : Int) ≤ 159) := by omega
  have d6 : ((160 : Int) ≤ (x : Int)) := by omega
  have d7 : ((x : Int) ≤ 164) := by omega
  have hI := Lib.hid (show rowA (ins x) = #[.string ⟨#[76, 79, 71]⟩, .int .i64 ((x : Int) - 160 + 2), .int .i64 0, .int .i64 (375 * ((x : Int) - 160 + 1))] by
    unfold ins; rw [if_neg (by omega), if_neg (by omega), if_neg (by omega), if_pos (by omega)]; simp [rowA]; first | rfl | (refine ⟨rfl, ?_⟩; omega) | (refine ⟨rfl, ?_, ?_⟩ <;> omega) | omega)
  have hN := Lib.hid (show numI x = (x : Int) - 160 by unfold numI num; rw [if_neg (by omega), if_neg (by omega), if_neg (by omega), if_pos (by omega)]; simp only; omega)
  go_enter Try.func33, Try.ntmps33
  go_wp2_with (first
    | (refine st_new (c := insZ) hS rfl 70 rfl ins_zero ?_; clear hS; intro w1 b1 hS)
    | (refine st_store (b := b1) (c' := #[.string ⟨#[76, 79, 71]⟩, .int .i64 ((x : Int) - 160 + 2), .int .i64 0, .int .i64 (375 * ((x : Int) - 160 + 1))]) hS rfl 70 _ _ rfl rfl rfl .head ins_size rfl rfl (by simp [Value.oneCell']) ?_; clear hS; intro w2 hS))
  refine post_cell_one 2 3 70 rfl rfl rfl rfl (hS.get .head) HU.out rfl ins_size rfl ⟨?_, hS.frame⟩
  rw [hI.out, hN.out]
  rfl
theorem find_low (x : Nat) (hx : x < 256) (h0 : x < 96) (w : World) : Calls Try.prog 33 #[.int .u8 (x : Int)] w (FindPost x w) := by
  obtain ⟨fs, hu⟩ := ins_type'
  have HU := Lib.hid hu
  clear hu
  have hS := St.start w
  have d0 : ¬ ((96 : Int) ≤ (x : Int)) := by omega
  have d1 : ¬ ((128 : Int) ≤ (x : Int)) := by omega
  have d2 : ¬ ((144 : Int) ≤ (x : Int)) := by omega
  have d3 : ¬ ((160 : Int) ≤ (x : Int)) := by omega
  have hI := Lib.hid (show ins x = opRow x by unfold ins; rw [if_neg (by omega), if_neg (by omega), if_neg (by omega), if_neg (by omega)])
  have hN := Lib.hid (show numI x = -1 by unfold numI num; rw [if_neg (by omega), if_neg (by omega), if_neg (by omega), if_neg (by omega)])
  go_enter Try.func33, Try.ntmps33
  go_wp2_with (first
    | (refine st_new (c := insZ) hS rfl 70 rfl ins_zero ?_; clear hS; intro w1 b1 hS)
    | (go_at_call 42; refine (single_any x hx _).mono ?_; rintro e w3 ⟨rfl, hT3⟩; replace hS := hS.call hT3)
    | (refine st_store (b := b1) (c' := rowA (opRow x)) hS rfl 70 _ _ rfl rfl rfl .head ins_size rfl rfl (rowA_one _) ?_; clear hS; intro w2 hS))
  refine post_cell_one 2 3 70 rfl rfl rfl rfl (hS.get .head) HU.out rfl ins_size rfl ⟨?_, hS.frame⟩
  rw [hI.out, hN.out]
  rfl
theorem find_high (x : Nat) (hx : x < 256) (h0 : 164 < x) (w : World) : Calls Try.prog 33 #[.int .u8 (x : Int)] w (FindPost x w) := by
  obtain ⟨fs, hu⟩ := ins_type'
  have HU := Lib.hid hu
  clear hu
  have hS := St.start w
  have d0 : ((96 : Int) ≤ (x : Int)) := by omega
  have d1 : ¬ ((x : Int) ≤ 127) := by omega
  have d2 : ((128 : Int) ≤ (x : Int)) := by omega
  have d3 : ¬ ((x : Int) ≤ 143) := by omega
  have d4 : ((144 : Int) ≤ (x : Int)) := by omega
  have d5 : ¬ ((x : Int) ≤ 159) := by omega
  have d6 : ((160 : Int) ≤ (x : Int)) := by omega
  have d7 : ¬ ((x : Int) ≤ 164) := by omega
  have hI := Lib.hid (show ins x = opRow x by unfold ins; rw [if_neg (by omega), if_neg (by omega), if_neg (by omega), if_neg (by omega)])
  have hN := Lib.hid (show numI x = -1 by unfold numI num; rw [if_neg (by omega), if_neg (by omega), if_neg (by omega), if_neg (by omega)])
  go_enter Try.func33, Try.ntmps33
  go_wp2_with (first
    | (refine st_new (c := insZ) hS rfl 70 rfl ins_zero ?_; clear hS; intro w1 b1 hS)
    | (go_at_call 42; refine (single_any x hx _).mono ?_; rintro e w3 ⟨rfl, hT3⟩; replace hS := hS.call hT3)
    | (refine st_store (b := b1) (c' := rowA (opRow x)) hS rfl 70 _ _ rfl rfl rfl .head ins_size rfl rfl (rowA_one _) ?_; clear hS; intro w2 hS))
  refine post_cell_one 2 3 70 rfl rfl rfl rfl (hS.get .head) HU.out rfl ins_size rfl ⟨?_, hS.frame⟩
  rw [hI.out, hN.out]
  rfl
theorem find_any (x : Nat) (hx : x < 256) (w : World) : Calls Try.prog 33 #[.int .u8 (x : Int)] w (FindPost x w) := by
  by_cases h1 : x < 96
  · exact find_low x hx h1 w
  by_cases h2 : x ≤ 127
  · exact find_push x (by omega) h2 w
  by_cases h3 : x ≤ 143
  · exact find_dup x (by omega) h3 w
  by_cases h4 : x ≤ 159
  · exact find_swap x (by omega) h4 w
  by_cases h5 : x ≤ 164
  · exact find_log x (by omega) h5 w
  exact find_high x hx (by omega) w
end Go.Proofs.Ytjbjjiibldlipaa
