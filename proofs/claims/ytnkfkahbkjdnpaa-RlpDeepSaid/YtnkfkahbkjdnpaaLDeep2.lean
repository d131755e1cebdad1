/- The law RlpDeep: its two loops; the walk. -/
import Derived.Test.YtnkfkahbkjdnpaaLDeep
namespace Go.Proofs.Ytnkfkahbkjdnpaa.Deep
open Go.RowKit

set_option maxHeartbeats 1000000 in
set_option maxRecDepth 100000 in
theorem main (N : Nat) (h1 : 1 ≤ N) (h60 : N ≤ 60) (w : World) : Calls Try.prog 6 #[.int .i64 (N : Int)] w fun e w' => e = .returned (.bool true) ∧ Tch [] w w' := by
  obtain ⟨f0, f1, f2, hty, _⟩ := item_ty
  have hS := St.start w
  have hd1 : ¬ (N : Int) < 1 := by omega
  have hd2 : ¬ (60 : Int) < (N : Int) := by omega
  go_enter Try.func6, Try.ntmps6
  go_wp2_with (first
    | (go_at_call 10; refine (alive_any _).mono ?_; rintro e w1 ⟨rfl, hT1⟩; replace hS := hS.call hT1)
    | (refine st_new (L := []) hS rfl 25 rfl item_zero ?_; clear hS; intro w2 b4 hS)
    | (refine st_store (c' := #[.bool true, .slice none 0 0, .slice none 0 0]) hS rfl 25 _ _ rfl rfl rfl (by repeat (first | exact Upd.head | apply Upd.tail)) item_size (by rfl) (by rfl) (one3 rfl rfl rfl) ?_; clear hS; intro w4 hS))
  have H0 := Lib.hid (ni_start hS)
  clear hS
  go_loopw [5] (fun i wr => ∃ j : Nat, j + 1 ≤ N ∧ i = .int .i64 ((j + 1 : Nat) : Int) ∧ NI w b4 j wr) (fun i _ => N - (intOf i).toNat)
  case atStart => exact ⟨0, by omega, rfl, H0.out⟩
  case round =>
    obtain ⟨j, hj, rfl, p, n, c, hS, hit⟩ := hrel
    by_cases hlt : j + 1 < N
    · have hlt' : ((j + 1 : Nat) : Int) < (N : Int) := by omega
      have HN := Lib.hid (ni_step hS hit)
      clear hit
      go_wp2_with (first
        | (refine st_load hS rfl 25 _ rfl rfl (by repeat (first | exact At.head | apply At.tail)) hty rfl item_size (by rfl) ?_)
        | (refine arm_store (b := b4) (c := #[.bool true, .slice none 0 0, .slice (some ⟨wr.heap.size, 0, none⟩) 1 1]) (w' := (wr.alloc (.cells #[.bool true, .slice none 0 0, .slice p n c] 25)).setRow b4 #[.bool true, .slice none 0 0, .slice (some ⟨wr.heap.size, 0, none⟩) 1 1]) rfl 25 _ _ rfl rfl rfl (((hS.new 25 #[.bool true, .slice none 0 0, .slice p n c]).get (.tail .head)).store item_size (by rfl) (by rfl) (one3 rfl rfl rfl)) ?_))
      go_roundw
      case rel => exact ⟨j + 1, by omega, by go_num, HN.out⟩
      case measure => simp [intOf]; omega
    · obtain rfl : N = j + 1 := by omega
      obtain ⟨E, hE⟩ : ∃ E : Int, E = if j < 32 then 0 else 3 := ⟨_, rfl⟩
      have hE3 : 32 < j + 1 → E = 3 := fun h => by rw [hE, if_neg (by omega)]
      have hE0 : ¬ 32 < j + 1 → E = 0 := fun h => by rw [hE, if_pos (by omega)]
      have hpack := (pack_any (j + 1) _ _ _ (nst j) wr (hit.mono (Y := []) (by simp))).mono (fun e w' h => pack_err (k := j) (by omega) h)
      have hread := fun (w1 : World) (v : Value) (hv : RdA [] w1 v (enc (nst j))) => (read_any v (enc (nst j)) w1 (by have := nst_len j (by omega); omega) hv).mono (R' := fun e w' => ∃ d p1 n1 c1 p2 n2 c2, e = .returned (.tuple #[.agg #[.bool d, .slice p1 n1 c1, .slice p2 n2 c2], .int .i64 E]) ∧ Tch [] w1 w') (fun e w' h => by
        obtain ⟨hT, d, p1, n1, c1, p2, n2, c2, rfl, _⟩ := h
        rw [read_err (by omega), ← hE]
        exact ⟨d, p1, n1, c1, p2, n2, c2, rfl, hT⟩)
      rw [← hE] at hpack
      have HP := Lib.hid hpack
      have HR := Lib.hid hread
      have HE := Lib.hid (And.intro hE3 hE0)
      have hF := hS.frame
      clear hpack hread hE3 hE0 hE hit
      have hnl : ¬ ((j + 1 : Nat) : Int) < ((j + 1 : Nat) : Int) := by omega
      generalize hNN : j + 1 = N at *
      have HNN := Lib.hid hNN
      clear hNN
      go_wp2_with (first
        | (refine st_load hS rfl 25 _ rfl rfl (by repeat (first | exact At.head | apply At.tail)) hty rfl item_size (by rfl) ?_)
        | (go_at_call 12; refine HP.out.mono ?_; clear HP; rintro e w5 ⟨p5, n5, c5, rfl, hT5⟩))
      have h2 : RdA [] (w5.alloc (.cells #[.int .u8 192] 5)) (.slice (some ⟨w5.heap.size, 0, none⟩) 1 1) (enc (nst 0)) := by
        have e : enc (nst 0) = [192] := by rw [nst, enc_lst]; simp [encs, hd]
        rw [e]
        have hB := Blk.new w5 5 #[.int .u8 192]
        exact ⟨_, _, rfl, Nat.le_refl _, by simp, fun _ => ⟨w5.heap.size, 0, rfl, hB.lt, by simp, fun i hi => by
          obtain rfl : i = 0 := by simp at hi; exact hi
          exact hB.cell rfl⟩⟩
      have hT6 : Tch [] w (w5.alloc (.cells #[.int .u8 192] 5)) := (hF.trans hT5).alloc _
      have H2 := Lib.hid (And.intro h2 hT6)
      clear h2 hT6 hS hF hT5
      go_loopw [8, 9] (fun vb i wr => ∃ (q : Nat) (u : Value), u = vb ∧ q + 1 ≤ N ∧ i = .int .i64 ((q + 1 : Nat) : Int) ∧ RdA [] wr u (enc (nst q)) ∧ Tch [] w wr) (fun _ i _ => N - (intOf i).toNat)
      case atStart => exact ⟨0, _, rfl, by have := HNN.out; omega, rfl, H2.out.1, H2.out.2⟩
      case round =>
        obtain ⟨q, u, rfl, hq, rfl, hv, hT⟩ := hrel
        obtain ⟨pu, nu, cu, rfl⟩ := slice_keep hv
        have hnu := Lib.hid hv.len
        have hlen := nst_len q (by have := HNN.out; omega)
        have hnu2 : nu ≤ 200 := by have := hnu.out; have := HNN.out; omega
        by_cases hlt : q + 1 < N
        · have hlt' : ((q + 1 : Nat) : Int) < (N : Int) := by omega
          have hne : enc (nst q) ≠ [] := List.length_pos_iff.1 (enc_pos _)
          by_cases h56 : nu < 56
          · have HC := Lib.hid (show (#[.int .u8 (192 + (nu : Int))] : Array Value) = (nb [192 + nu]).toArray by simp [nb])
            have he : enc (nst (q + 1)) = [192 + nu] ++ enc (nst q) := by rw [enc_nst, ← hnu.out, hd_small h56]
            have HX := Lib.hid he
            clear he
            go_wp2_with (at_builtin; refine st_ahead (w := wr) (l := enc (nst q)) (h := [192 + nu]) (v := .slice pu nu cu) HC.out (by rfl) _ _ (by rfl) (by rfl) (by rfl) hv hne (by have := HNN.out; omega) (by simp) (by simp; omega) ?_; intro p3 n3 c3 w3 hr3 hT3)
            go_roundw
            case rel => exact ⟨q + 1, _, rfl, by omega, by go_num, by rw [HX.out]; exact hr3, hT.trans hT3⟩
            case measure => simp [intOf]; omega
          · have HC := Lib.hid (show (#[.int .u8 248, .int .u8 (nu : Int)] : Array Value) = (nb [248, nu]).toArray by simp [nb])
            have he : enc (nst (q + 1)) = [248, nu] ++ enc (nst q) := by rw [enc_nst, ← hnu.out, hd_great (by omega) (by omega)]
            have HX := Lib.hid he
            clear he
            go_wp2_with (at_builtin; refine st_ahead (w := wr) (l := enc (nst q)) (h := [248, nu]) (v := .slice pu nu cu) HC.out (by rfl) _ _ (by rfl) (by rfl) (by rfl) hv hne (by have := HNN.out; omega) (by simp) (by simp; omega) ?_; intro p3 n3 c3 w3 hr3 hT3)
            go_roundw
            case rel => exact ⟨q + 1, _, rfl, by omega, by go_num, by rw [HX.out]; exact hr3, hT.trans hT3⟩
            case measure => simp [intOf]; omega
        · obtain rfl : q = j := by have := HNN.out; omega
          obtain rfl : N = q + 1 := by omega
          have hS := St.start wr
          have hnl2 : ¬ ((q + 1 : Nat) : Int) < ((q + 1 : Nat) : Int) := by omega
          by_cases hk : 32 < q + 1
          · obtain rfl := HE.out.1 hk
            have hk' : (32 : Int) < ((q + 1 : Nat) : Int) := by omega
            clear HE
            go_upto_region 20 with (first
              | (go_at_call 15; refine (HR.out wr _ hv).mono ?_; clear HR; rintro e w7 ⟨d, p1, n1, c1, p2, n2, c2, rfl, hT7⟩; replace hS := hS.call hT7)
              | (refine st_new (L := []) hS rfl 25 rfl item_zero ?_; clear hS; intro w8 b8 hS)
              | (refine st_store (c' := #[.bool d, .slice p1 n1 c1, .slice p2 n2 c2]) hS rfl 25 _ _ rfl rfl rfl (by repeat (first | exact Upd.head | apply Upd.tail)) item_size (by rfl) (by rfl) (one3 rfl rfl rfl) ?_; clear hS; intro w9 hS))
            refine k_seq (C := fun w' => w' = w9) rfl ?_
            repeat (first | (refine k_skip rfl rfl rfl rfl rfl ?_; try simp only [Act.put, List.setIfInBounds_toArray, List.set_cons_zero, List.set_cons_succ]) | (refine k_num rfl rfl rfl ?_; try simp only [Act.put, List.setIfInBounds_toArray, List.set_cons_zero, List.set_cons_succ]) | (refine k_boolm rfl _ rfl rfl ?_; try simp only [Act.put, List.setIfInBounds_toArray, List.set_cons_zero, List.set_cons_succ]) | (refine k_boola rfl _ rfl rfl ?_; try simp only [Act.put, List.setIfInBounds_toArray, List.set_cons_zero, List.set_cons_succ]) | (refine k_intm rfl _ rfl rfl ?_; try simp only [Act.put, List.setIfInBounds_toArray, List.set_cons_zero, List.set_cons_succ]) | (refine k_inta rfl _ rfl rfl ?_; try simp only [Act.put, List.setIfInBounds_toArray, List.set_cons_zero, List.set_cons_succ]) | (refine k_ints (t := true) rfl _ _ _ (by rfl) (by rfl) (by rfl) (by decide) ?_; try simp only [Act.put, List.setIfInBounds_toArray, List.set_cons_zero, List.set_cons_succ]) | (refine k_pickT rfl _ _ _ rfl rfl rfl ?_; try simp only [Act.put, List.setIfInBounds_toArray, List.set_cons_zero, List.set_cons_succ]) | (refine k_pickF rfl _ _ _ rfl rfl rfl ?_; try simp only [Act.put, List.setIfInBounds_toArray, List.set_cons_zero, List.set_cons_succ]))
            refine k_end ?_
            rintro w' rfl
            go_wp2
            go_ret
            exact ⟨rfl, hT.trans hS.frame⟩
          · obtain rfl := HE.out.2 hk
            have hk' : ¬ (32 : Int) < ((q + 1 : Nat) : Int) := by omega
            clear HE
            go_upto_region 21 with (first
              | (go_at_call 15; refine (HR.out wr _ hv).mono ?_; clear HR; rintro e w7 ⟨d, p1, n1, c1, p2, n2, c2, rfl, hT7⟩; replace hS := hS.call hT7)
              | (refine st_new (L := []) hS rfl 25 rfl item_zero ?_; clear hS; intro w8 b8 hS)
              | (refine st_store (c' := #[.bool d, .slice p1 n1 c1, .slice p2 n2 c2]) hS rfl 25 _ _ rfl rfl rfl (by repeat (first | exact Upd.head | apply Upd.tail)) item_size (by rfl) (by rfl) (one3 rfl rfl rfl) ?_; clear hS; intro w9 hS))
            refine k_seq (C := fun w' => w' = w9) rfl ?_
            repeat (first | (refine k_skip rfl rfl rfl rfl rfl ?_; try simp only [Act.put, List.setIfInBounds_toArray, List.set_cons_zero, List.set_cons_succ]) | (refine k_num rfl rfl rfl ?_; try simp only [Act.put, List.setIfInBounds_toArray, List.set_cons_zero, List.set_cons_succ]) | (refine k_boolm rfl _ rfl rfl ?_; try simp only [Act.put, List.setIfInBounds_toArray, List.set_cons_zero, List.set_cons_succ]) | (refine k_boola rfl _ rfl rfl ?_; try simp only [Act.put, List.setIfInBounds_toArray, List.set_cons_zero, List.set_cons_succ]) | (refine k_intm rfl _ rfl rfl ?_; try simp only [Act.put, List.setIfInBounds_toArray, List.set_cons_zero, List.set_cons_succ]) | (refine k_inta rfl _ rfl rfl ?_; try simp only [Act.put, List.setIfInBounds_toArray, List.set_cons_zero, List.set_cons_succ]) | (refine k_ints (t := true) rfl _ _ _ (by rfl) (by rfl) (by rfl) (by decide) ?_; try simp only [Act.put, List.setIfInBounds_toArray, List.set_cons_zero, List.set_cons_succ]) | (refine k_pickT rfl _ _ _ rfl rfl rfl ?_; try simp only [Act.put, List.setIfInBounds_toArray, List.set_cons_zero, List.set_cons_succ]) | (refine k_pickF rfl _ _ _ rfl rfl rfl ?_; try simp only [Act.put, List.setIfInBounds_toArray, List.set_cons_zero, List.set_cons_succ]))
            refine k_end ?_
            rintro w' rfl
            go_wp2
            go_ret
            exact ⟨rfl, hT.trans hS.frame⟩
theorem walk (n0 : Int) (w : World) (hn : (Lit.int .i64 n0).wf = true) : Calls Try.prog 6 #[.int .i64 n0] w fun e w' => e = .returned (.bool true) ∧ Tch [] w w' := by
  have hn : -9223372036854775808 ≤ n0 ∧ n0 ≤ 9223372036854775807 := by
    simp [Lit.wf, IntKind.min, IntKind.max, IntKind.bits, IntKind.signed] at hn
    omega
  by_cases h : n0 < 1 ∨ 60 < n0
  · exact short n0 hn h w
  · obtain ⟨k, rfl⟩ := Int.eq_ofNat_of_zero_le (show 0 ≤ n0 by omega)
    exact main k (by omega) (by omega) w
end Go.Proofs.Ytnkfkahbkjdnpaa.Deep
