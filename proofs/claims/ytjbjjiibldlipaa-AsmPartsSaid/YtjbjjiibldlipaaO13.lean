/- The document's all: its table, by bytes. -/
import Derived.Test.YtjbjjiibldlipaaO12
namespace Go.Proofs.Ytjbjjiibldlipaa
open Go.RowKit

set_option maxHeartbeats 4000000 in
set_option maxRecDepth 100000 in
theorem all_any (w : World) : Calls Try.prog 18 #[] w fun e w' => e = .returned (.agg allA) ∧ Tch [] w w' := by
  have hS := St.start w
  obtain ⟨fs, hu⟩ := inf_type
  have HU := Lib.hid hu
  clear hu
  have HZ := Lib.hid allF_zero
  go_enter Try.func18, Try.ntmps18
  go_upto_region 3 with (first
    | (refine st_new (L := []) (c := allZ) hS rfl 52 rfl all_zero ?_; clear hS; intro w1 b0 hS)
    | (refine st_new (c := allZ) hS rfl 52 rfl all_zero ?_; clear hS; intro w2 b1 hS))
  go_loopw [2] (fun i wr => ∃ k : Nat, i = .int .i64 (k : Int) ∧ k ≤ 256 ∧ St [] w wr [(b1, 52, allF (f1 k)), (b0, 52, allZ)]) (fun i _ => 256 - (intOf i).toNat)
  case atStart => exact ⟨0, rfl, Nat.zero_le _, by rw [HZ.out]; exact hS⟩
  case round =>
    clear hS
    obtain ⟨k, rfl, hk, hS⟩ := hrel
    by_cases hlt : k < 256
    · have HSP := Lib.hid (allF_one k hlt)
      go_wp2_with (first
        | (refine st_convO (s := 3) (d := 5) (v := .int .u8 (k : Int)) rfl rfl rfl (cvt_u8 k hlt _) ?_)
        | (go_at_call 29; refine (rng_any k hlt _).mono ?_; rintro e w3 ⟨t3, rfl, hT3⟩; replace hS := hS.call hT3)
        | (refine st_storeOM (b := b1) (j := k * 5) (c' := rng k) (cn := allF (f1 (k + 1))) hS rfl 51 _ _ rfl (by first | rfl | (simp; done)) rfl inf_tsize (rng_size k) HSP.out .head (by rw [allF_size, rng_size]; omega) (rng_one k) ?_; clear hS; intro w4 hS))
      go_roundw
      case rel => exact ⟨k + 1, by go_num, hlt, hS⟩
      case measure => simp [intOf]; omega
    · obtain rfl : k = 256 := by omega
      rw [allF_turn] at hS
      go_upto_region 8 with (go_at_call 30; refine (table_any _).mono ?_; rintro e w5 ⟨b2, rfl, hS5⟩)
      have hb2 : ∃ b2', b2' = b2 := ⟨_, rfl⟩
      have hle : _ ≤ b2 := (hS5.own .head).elim id (fun h => by simp at h)
      have hB2 := hS5.get .head
      have hS6 := hS.callNew hS5.frame hB2 hle
      clear hS5 hB2 hle hS hb2
      go_loopw [4] (fun i wr => ∃ m : Nat, i = .int .i64 (m : Int) ∧ m ≤ 69 ∧ St [] w wr [(b2, 51, tblA), (b1, 52, allF (d2 m)), (b0, 52, allZ)]) (fun i _ => 69 - (intOf i).toNat)
      case atStart => exact ⟨0, rfl, Nat.zero_le _, hS6⟩
      case round =>
        clear hS6
        obtain ⟨m, rfl, hm, hS⟩ := hrel
        by_cases hlt2 : m < 69
        · have HSP := Lib.hid (allF_two m hlt2)
          have hx : (tabR m).1 < 256 := tabR_lt ⟨m, hlt2⟩
          have HMID := Lib.hid (tbl_mid m hlt2)
          have HC0 := Lib.hid (tbl_mid m hlt2 0 _ rfl)
          have HI1 := Lib.hid (idx_tbl b2 m hlt2)
          have HI2 := Lib.hid (idx_all b1 (tabR m).1 hx .u8)
          go_upto_region 10 with (fail)
          refine k_region_head (C := fun w' => St [] w w' [(b2, 51, tblA), (b1, 52, allF (d2 m)), (b0, 52, allZ)]) 10 (by kernel_rfl) (by kernel_rfl) hS.drew ?_
          simp only [List.take_succ_cons, List.take_zero]
          refine k_val (v := .slice (some ⟨b2, 0, none⟩) 69 69) rfl _ (.inl rfl) rfl ?_; try simp only [Act.put, List.setIfInBounds_toArray, List.set_cons_zero, List.set_cons_succ]
          refine k_val (v := .int .i64 (m : Int)) rfl _ (.inl rfl) rfl ?_; try simp only [Act.put, List.setIfInBounds_toArray, List.set_cons_zero, List.set_cons_succ]
          refine k_idxG (vx := .slice (some ⟨b2, 0, none⟩) 69 69) (vy := .int .i64 (m : Int)) rfl rfl rfl rfl HI1.out ?_; try simp only [Act.put, List.setIfInBounds_toArray, List.set_cons_zero, List.set_cons_succ]
          refine k_fa (v := .pointer (some ⟨b2, m * 5, none⟩)) rfl rfl rfl (inf_fa0 b2 (m * 5)) ?_; try simp only [Act.put, List.setIfInBounds_toArray, List.set_cons_zero, List.set_cons_succ]
          refine k_cell (v := .int .u8 (((tabR m).1 : Nat) : Int)) (b := b2) (j := m * 5 + 0) rfl _ _ rfl rfl .head HC0.out u8_agg ?_; try simp only [Act.put, List.setIfInBounds_toArray, List.set_cons_zero, List.set_cons_succ]
          refine k_val (v := .slice (some ⟨b2, 0, none⟩) 69 69) rfl _ (.inl rfl) rfl ?_; try simp only [Act.put, List.setIfInBounds_toArray, List.set_cons_zero, List.set_cons_succ]
          refine k_val (v := .int .i64 (m : Int)) rfl _ (.inl rfl) rfl ?_; try simp only [Act.put, List.setIfInBounds_toArray, List.set_cons_zero, List.set_cons_succ]
          refine k_idxG (vx := .slice (some ⟨b2, 0, none⟩) 69 69) (vy := .int .i64 (m : Int)) rfl rfl rfl rfl HI1.out ?_; try simp only [Act.put, List.setIfInBounds_toArray, List.set_cons_zero, List.set_cons_succ]
          refine k_ldMid (c := mkR (tabR m)) (b := b2) (q := m * 5) rfl rfl rfl .head HMID.out HU.out rfl inf_tsize ?_; try simp only [Act.put, List.setIfInBounds_toArray, List.set_cons_zero, List.set_cons_succ]
          refine k_idxG (vx := .pointer (some ⟨b1, 0, none⟩)) (vy := .int .u8 (((tabR m).1 : Nat) : Int)) rfl rfl rfl rfl HI2.out ?_; try simp only [Act.put, List.setIfInBounds_toArray, List.set_cons_zero, List.set_cons_succ]
          refine k_end ?_
          clear hS
          intro w7 hS
          simp only [List.drop_succ_cons, List.drop_zero]
          refine st_storeOM (b := b1) (j := (tabR m).1 * 5) (c' := mkR (tabR m)) (cn := allF (d2 (m + 1))) hS rfl 51 _ _ rfl rfl rfl inf_tsize rfl HSP.out (.tail .head) (by rw [allF_size, mkR_size]; omega) (mkR_one _) ?_
          clear hS
          intro w8 hS
          go_wp2
          go_roundw
          case rel => exact ⟨m + 1, by go_num, hlt2, hS⟩
          case measure => simp [intOf]; omega
        · obtain rfl : m = 69 := by omega
          rw [allF_end] at hS
          have h1 : allA.all (·.oneCell') = true := allF_one' _
          go_wp2_with (first
            | (refine st_load (b := b1) (c := allA) hS rfl 52 _ rfl rfl (.tail .head) all_ty rfl all_tsize (allF_size _) ?_)
            | (refine st_store (b := b0) (c' := allA) hS rfl 52 _ _ rfl rfl rfl (.tail (.tail .head)) all_tsize (fl_size (m := 5) (fun i => rfl) 256) (allF_size _) h1 ?_; clear hS; intro w9 hS))
          exact st_post hS 0 52 rfl rfl rfl (.tail (.tail .head)) all_ty rfl all_tsize (allF_size _) (fun hT => ⟨rfl, hT⟩)
end Go.Proofs.Ytjbjjiibldlipaa
