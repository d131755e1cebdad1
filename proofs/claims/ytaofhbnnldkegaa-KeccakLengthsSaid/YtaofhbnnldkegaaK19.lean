/- KeccakLengths: the walk. -/
import Derived.Test.YtaofhbnnldkegaaK18
namespace Go.Proofs.Ytaofhbnnldkegaa
open Go.RowKit

set_option maxHeartbeats 4000000 in
set_option maxRecDepth 100000 in
theorem lengths_neg (n u : Int) (w : World) (h : n < 0) :
    Calls Try.prog 4 #[.int .i64 n, .int .u8 u] w fun e w' => e = .returned (.bool true) ∧ Tch [] w w' := by
  go_enter Try.func4, Try.ntmps4
  go_upto_region 2 with (go_at_call 6; refine (alive_any _).mono ?_; rintro e w1 ⟨rfl, hT1⟩)
  refine k_seq (C := fun w' => Tch [] w1 w') (Tch.refl _ _) ?_
  refine k_boolm rfl _ rfl rfl ?_; try simp only [Act.put, List.setIfInBounds_toArray, List.set_cons_zero, List.set_cons_succ]
  refine k_not rfl _ _ rfl rfl ?_; try simp only [Act.put, List.setIfInBounds_toArray, List.set_cons_zero, List.set_cons_succ]
  refine k_boolm rfl _ rfl rfl ?_; try simp only [Act.put, List.setIfInBounds_toArray, List.set_cons_zero, List.set_cons_succ]
  refine k_intm rfl _ rfl rfl ?_; try simp only [Act.put, List.setIfInBounds_toArray, List.set_cons_zero, List.set_cons_succ]
  refine k_lss rfl _ _ _ rfl rfl rfl (decide_eq_true h) ?_; try simp only [Act.put, List.setIfInBounds_toArray, List.set_cons_zero, List.set_cons_succ]
  refine k_pickF rfl _ _ _ rfl rfl rfl ?_; try simp only [Act.put, List.setIfInBounds_toArray, List.set_cons_zero, List.set_cons_succ]
  refine k_boolm rfl _ rfl rfl ?_; try simp only [Act.put, List.setIfInBounds_toArray, List.set_cons_zero, List.set_cons_succ]
  refine k_skipU rfl ?_; try simp only [Act.put, List.setIfInBounds_toArray, List.set_cons_zero, List.set_cons_succ]
  refine k_skipU rfl ?_; try simp only [Act.put, List.setIfInBounds_toArray, List.set_cons_zero, List.set_cons_succ]
  refine k_pickT rfl _ _ _ rfl rfl rfl ?_; try simp only [Act.put, List.setIfInBounds_toArray, List.set_cons_zero, List.set_cons_succ]
  refine k_end ?_
  intro w2 hT2
  go_wp2
  go_ret
  exact ⟨rfl, hT1.trans hT2⟩
set_option maxHeartbeats 4000000 in
set_option maxRecDepth 100000 in
theorem lengths_big (n u : Int) (w : World) (h0 : ¬ n < 0) (h : 1000 < n) :
    Calls Try.prog 4 #[.int .i64 n, .int .u8 u] w fun e w' => e = .returned (.bool true) ∧ Tch [] w w' := by
  go_enter Try.func4, Try.ntmps4
  go_upto_region 2 with (go_at_call 6; refine (alive_any _).mono ?_; rintro e w1 ⟨rfl, hT1⟩)
  refine k_seq (C := fun w' => Tch [] w1 w') (Tch.refl _ _) ?_
  refine k_boolm rfl _ rfl rfl ?_; try simp only [Act.put, List.setIfInBounds_toArray, List.set_cons_zero, List.set_cons_succ]
  refine k_not rfl _ _ rfl rfl ?_; try simp only [Act.put, List.setIfInBounds_toArray, List.set_cons_zero, List.set_cons_succ]
  refine k_boolm rfl _ rfl rfl ?_; try simp only [Act.put, List.setIfInBounds_toArray, List.set_cons_zero, List.set_cons_succ]
  refine k_intm rfl _ rfl rfl ?_; try simp only [Act.put, List.setIfInBounds_toArray, List.set_cons_zero, List.set_cons_succ]
  refine k_lss rfl _ _ _ rfl rfl rfl (decide_eq_false (by omega)) ?_; try simp only [Act.put, List.setIfInBounds_toArray, List.set_cons_zero, List.set_cons_succ]
  refine k_pickF rfl _ _ _ rfl rfl rfl ?_; try simp only [Act.put, List.setIfInBounds_toArray, List.set_cons_zero, List.set_cons_succ]
  refine k_boolm rfl _ rfl rfl ?_; try simp only [Act.put, List.setIfInBounds_toArray, List.set_cons_zero, List.set_cons_succ]
  refine k_intm rfl _ rfl rfl ?_; try simp only [Act.put, List.setIfInBounds_toArray, List.set_cons_zero, List.set_cons_succ]
  refine k_gtr rfl _ _ _ rfl rfl rfl (decide_eq_true h) ?_; try simp only [Act.put, List.setIfInBounds_toArray, List.set_cons_zero, List.set_cons_succ]
  refine k_pickF rfl _ _ _ rfl rfl rfl ?_; try simp only [Act.put, List.setIfInBounds_toArray, List.set_cons_zero, List.set_cons_succ]
  refine k_end ?_
  intro w2 hT2
  go_wp2
  go_ret
  exact ⟨rfl, hT1.trans hT2⟩
set_option maxHeartbeats 4000000 in
set_option maxRecDepth 100000 in
theorem lengths_main (N V : Nat) (w : World) (hN : N ≤ 1000) (hV : V < 256) :
    Calls Try.prog 4 #[.int .i64 (N : Int), .int .u8 (V : Int)] w fun e w' => e = .returned (.bool true) ∧ Tch [] w w' := by
  have h0 : ¬ ((N : Nat) : Int) < 0 := by omega
  have h1 : ¬ 1000 < ((N : Nat) : Int) := by omega
  go_enter Try.func4, Try.ntmps4
  go_upto_region 2 with (go_at_call 6; refine (alive_any _).mono ?_; rintro e w1 ⟨rfl, hT1⟩)
  refine k_seq (C := fun w' => Tch [] w1 w') (Tch.refl _ _) ?_
  refine k_boolm rfl _ rfl rfl ?_; try simp only [Act.put, List.setIfInBounds_toArray, List.set_cons_zero, List.set_cons_succ]
  refine k_not rfl _ _ rfl rfl ?_; try simp only [Act.put, List.setIfInBounds_toArray, List.set_cons_zero, List.set_cons_succ]
  refine k_boolm rfl _ rfl rfl ?_; try simp only [Act.put, List.setIfInBounds_toArray, List.set_cons_zero, List.set_cons_succ]
  refine k_intm rfl _ rfl rfl ?_; try simp only [Act.put, List.setIfInBounds_toArray, List.set_cons_zero, List.set_cons_succ]
  refine k_lss rfl _ _ _ rfl rfl rfl (decide_eq_false (by omega)) ?_; try simp only [Act.put, List.setIfInBounds_toArray, List.set_cons_zero, List.set_cons_succ]
  refine k_pickF rfl _ _ _ rfl rfl rfl ?_; try simp only [Act.put, List.setIfInBounds_toArray, List.set_cons_zero, List.set_cons_succ]
  refine k_boolm rfl _ rfl rfl ?_; try simp only [Act.put, List.setIfInBounds_toArray, List.set_cons_zero, List.set_cons_succ]
  refine k_intm rfl _ rfl rfl ?_; try simp only [Act.put, List.setIfInBounds_toArray, List.set_cons_zero, List.set_cons_succ]
  refine k_gtr rfl _ _ _ rfl rfl rfl (decide_eq_false (by omega)) ?_; try simp only [Act.put, List.setIfInBounds_toArray, List.set_cons_zero, List.set_cons_succ]
  refine k_pickF rfl _ _ _ rfl rfl rfl ?_; try simp only [Act.put, List.setIfInBounds_toArray, List.set_cons_zero, List.set_cons_succ]
  refine k_end ?_
  intro w2 hT2
  have hS := (St.start w).call (hT1.trans hT2)
  clear hT1 hT2 h0 h1
  go_upto_region 6 with (first | (refine st_makeB N hS rfl _ _ rfl (by rfl) (by rfl) (by omega) ?_; clear hS; intro w3 g hS))
  go_loopw [7] (fun i wr => ∃ k : Nat, k ≤ N ∧ i = .int .i64 (k : Int) ∧ St [] w wr [(g, 5, bc N fun i => if i < k then (V + i) % 256 else 0)]) (fun i _ => N - (intOf i).toNat)
  case atStart =>
    refine ⟨0, Nat.zero_le _, rfl, ?_⟩
    rw [show (bc N fun i => if i < 0 then (V + i) % 256 else 0) = bc N fun _ => 0 from bc_congr fun i _ => if_neg (by omega)]
    exact hS
  case round =>
    clear hS
    obtain ⟨k, hk, rfl, hS⟩ := hrel
    by_cases hlt : k < N
    · have hd : (k : Int) < (N : Int) := by omega
      have hv : ((V : Int) + (k : Int) % 256) % 256 = (((V + k) % 256 : Nat) : Int) := by omega
      have HX := Lib.hid hv
      clear hv
      go_wp2_with (first | (refine st_store1 (b := g) (j := k) hS rfl 5 _ _ rfl rfl rfl u8_size (by repeat (first | exact Upd.head | apply Upd.tail)) (by rw [bc_size]; exact hlt) ?_; clear hS; intro w4 hS))
      rw [HX.out, bc_set hlt, show (bc N fun i => if i = k then (V + k) % 256 else (if i < k then (V + i) % 256 else 0)) = bc N fun i => if i < k + 1 then (V + i) % 256 else 0 from bc_congr fun i _ => by
        by_cases h : i = k
        · rw [if_pos h, if_pos (by omega), h]
        · rw [if_neg h]
          by_cases h2 : i < k
          · rw [if_pos h2, if_pos (by omega)]
          · rw [if_neg h2, if_neg (by omega)]] at hS
      go_roundw
      case rel => exact ⟨k + 1, by omega, by go_num, hS⟩
      case measure => simp [intOf]; omega
    · obtain rfl : k = N := by omega
      have hrd := RdB.blk (hS.get .head) (fun i _ => by split <;> omega)
      obtain ⟨Lb, hLb⟩ : ∃ Lb, Lb = (List.range k).map (fun i => if i < k then (V + i) % 256 else 0) := ⟨_, rfl⟩
      have hlen : Lb.length = k := by rw [hLb]; simp
      rw [← hLb] at hrd
      have HF := Lib.hid hS.frame
      clear hS hLb hlt hk
      go_wp2_with (first
        | (go_at_call 8; go_must (refine (sum_new _ Lb wr hrd (by omega)).mono ?_; rintro e w5 ⟨rfl, hT5⟩))
        | (go_at_call 7; go_must (refine (keccak_rd _ Lb w5 (hrd.tch hT5 (by simp)) (by omega)).mono ?_; rintro e w6 ⟨rfl, hT6⟩))
        | (refine st_hash (l := Lb) rfl _ _ _ rfl rfl rfl ?_))
      go_ret
      exact ⟨rfl, (HF.out.trans hT5).trans hT6⟩
theorem lengths_any (n u : Int) (w : World) (hn : -9223372036854775808 ≤ n ∧ n ≤ 9223372036854775807) (hu : 0 ≤ u ∧ u ≤ 255) :
    Calls Try.prog 4 #[.int .i64 n, .int .u8 u] w fun e w' => e = .returned (.bool true) ∧ Tch [] w w' := by
  by_cases h0 : n < 0
  · exact lengths_neg n u w h0
  by_cases h1 : 1000 < n
  · exact lengths_big n u w h0 h1
  have := lengths_main n.toNat u.toNat w (by omega) (by omega)
  rwa [show ((n.toNat : Nat) : Int) = n by omega, show ((u.toNat : Nat) : Int) = u by omega] at this
end Go.Proofs.Ytaofhbnnldkegaa
