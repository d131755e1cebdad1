/- The law RlpWrong, the places whose bytes are an item; the walk. -/
import Derived.Test.YtnkfkahbkjdnpaaLRWrong
namespace Go.Proofs.Ytnkfkahbkjdnpaa.RWrong
open Go.RowKit

set_option maxHeartbeats 1000000 in
set_option maxRecDepth 100000 in
theorem yes (k : Nat) (hk : k < 17) (hok : wok k = true) (w : World) : Calls Try.prog 8 #[.int .i64 (k : Int)] w fun e w' => e = .returned (.bool true) ∧ Tch [] w w' := by
  obtain ⟨f0, f1, f2, hty, _⟩ := item_ty
  have hS := St.start w
  have hki : (k : Int) < 17 := by omega
  have hd0 : ¬ (k : Int) < 0 := by omega
  have hd17 : ¬ (17 : Int) ≤ (k : Int) := by omega
  have he : rdErr (wb k) = 0 := by simpa [wok] using hok
  have hback := rd_back (wb_lt hk) he
  have hread := fun (w4 : World) (v : Value) (hv : RdA [] w4 v (wb k)) => (read_any v (wb k) w4 (by have := wb_len hk; omega) hv).mono (R' := fun e w' => ∃ d p1 n1 c1 p2 n2 c2, e = .returned (.tuple #[.agg #[.bool d, .slice p1 n1 c1, .slice p2 n2 c2], .int .i64 0]) ∧ Tch [] w4 w' ∧ ItC [] w' 34 (.bool d) (.slice p1 n1 c1) (.slice p2 n2 c2) (rdItem (wb k))) (fun e w' h => by
    obtain ⟨hT, d, p1, n1, c1, p2, n2, c2, rfl, hit⟩ := h
    rw [he]
    exact ⟨d, p1, n1, c1, p2, n2, c2, rfl, hT, hit [] (by simp)⟩)
  have hpack := fun (w7 : World) (x0 vb vl : Value) (h : ItC [] w7 34 x0 vb vl (rdItem (wb k))) => (pack_any 34 x0 vb vl (rdItem (wb k)) w7 h).mono (fun e w' h => h.rdB (wb_dep hk) (by rw [← hback]; have := wb_len hk; omega) (by rw [← hback]; exact wb_lt hk))
  rw [← hback] at hpack
  have HR := Lib.hid hread
  have HP := Lib.hid hpack
  have HK := Lib.hid (And.intro hk hok)
  clear hread hk hok he hback hpack
  go_enter Try.func8, Try.ntmps8
  go_upto_region 9 with (first
    | (go_at_call 10; refine (alive_any _).mono ?_; rintro e w1 ⟨rfl, hT1⟩; replace hS := hS.call hT1)
    | (refine st_buildS (L := []) (n := 17) (t := 9) (c := cellsS) hS rfl rfl (fun w => by kernel_rfl) ?_; clear hS; intro w2 bS hS)
    | (refine st_buildS (n := 17) (t := 4) (c := cellsB) hS rfl rfl (fun w => by kernel_rfl) ?_; clear hS; intro w3 bB hS
       have hcs := (hS.get (.tail .head)).cell (cellS HK.out.1)
       have hcb := (hS.get .head).cell (cellB HK.out.1)
       obtain ⟨cc, W4, hcv, hTc, hrc⟩ := conv_row w3 (wb k) (wb_lt HK.out.1))
    | (go_at_call 15; refine (HR.out W4 _ hrc).mono ?_; clear HR; rintro e w5 ⟨d, p1, n1, c1, p2, n2, c2, rfl, hT5, hit5⟩
       have hBB := (hS.call (hTc.trans hT5)).get .head
       have hBS := (hS.call (hTc.trans hT5)).get (.tail .head)
       have hF := (hS.call (hTc.trans hT5)).frame
       clear hS hcs hcb hcv
       have hS := St.start w5)
    | (refine st_new (L := []) hS rfl 25 rfl item_zero ?_; clear hS; intro w6 b6 hS)
    | (refine st_store (c' := #[.bool d, .slice p1 n1 c1, .slice p2 n2 c2]) hS rfl 25 _ _ rfl rfl rfl (by repeat (first | exact Upd.head | apply Upd.tail)) item_size (by rfl) (by rfl) (one3 rfl rfl rfl) ?_; clear hS; intro w7 hS
       have hcb7 := (hS.frame.blk hBB (by simp)).cell (cellB HK.out.1)
       rw [HK.out.2] at hcb7)
    | (refine st_load hS rfl 25 _ rfl rfl (by repeat (first | exact At.head | apply At.tail)) hty rfl item_size (by rfl) ?_)
    | (go_at_call 12; refine (HP.out w7 _ _ _ (hit5.tch hS.frame)).mono ?_; rintro e w8 ⟨v8, rfl, hT8, hv8⟩))
  have hcs8 := (((hS.call hT8).frame).blk hBS (by simp)).cell (cellS HK.out.1)
  have hFF := hF.trans (hS.call hT8).frame
  have hkk := HK.out.1
  clear hBB hBS hS hF hcb7 hit5
  obtain ⟨p8, c8, hv8e, _⟩ := id hv8
  subst hv8e
  have hconv := fun (w' : World) (hT : Tch [] w8 w') => hv8.tch hT (by simp)
  have hcs9 := fun (w' : World) (hT : Tch [] w8 w') => (hT.cell (p := ⟨bS, k, none⟩) (World.block_lt_of_cell? w8 _ hcs8) (by simp)).trans hcs8
  clear hcs8 hv8
  generalize hln : (wb k).length = n8 at *
  refine k_region (C := fun w' => Tch [] w8 w') (by kernel_rfl) (by kernel_rfl) ((Tch.refl _ _).drew) ?_
  repeat (first | (refine k_num rfl rfl rfl ?_; try simp only [Act.put, List.setIfInBounds_toArray, List.set_cons_zero, List.set_cons_succ]) | (refine k_boolm rfl _ rfl rfl ?_; try simp only [Act.put, List.setIfInBounds_toArray, List.set_cons_zero, List.set_cons_succ]) | (refine k_boola rfl _ rfl rfl ?_; try simp only [Act.put, List.setIfInBounds_toArray, List.set_cons_zero, List.set_cons_succ]) | (refine k_intm rfl _ rfl rfl ?_; try simp only [Act.put, List.setIfInBounds_toArray, List.set_cons_zero, List.set_cons_succ]) | (refine k_inta rfl _ rfl rfl ?_; try simp only [Act.put, List.setIfInBounds_toArray, List.set_cons_zero, List.set_cons_succ]) | (refine k_add (s := 0) rfl _ _ _ _ (by rfl) (by rfl) (by rfl) (by decide) ?_; try simp only [Act.put, List.setIfInBounds_toArray, List.set_cons_zero, List.set_cons_succ]) | (refine k_ints (t := true) rfl _ _ _ (by rfl) (by rfl) (by rfl) (by decide) ?_; try simp only [Act.put, List.setIfInBounds_toArray, List.set_cons_zero, List.set_cons_succ]) | (refine k_slice rfl _ rfl rfl ?_; try simp only [Act.put, List.setIfInBounds_toArray, List.set_cons_zero, List.set_cons_succ]) | (refine k_conv rfl _ (by rfl) (by rfl) (v := .slice p8 n8 c8) (l := wb k) (fun w h => hconv w h) ?_; try simp only [Act.put, List.setIfInBounds_toArray, List.set_cons_zero, List.set_cons_succ]) | (refine k_idxSl rfl 44 _ _ (by rfl) (by rfl) (by rfl) strs_ty str_size hkk ?_; try simp only [Act.put, List.setIfInBounds_toArray, List.set_cons_zero, List.set_cons_succ]) | (refine k_cellC (v := .string (strB (wb k))) rfl 9 _ (by rfl) (by rfl) (fun w h => by first | exact hcs9 w h | (rw [Nat.zero_add]; exact hcs9 w h) | (simp only [Nat.zero_add]; exact hcs9 w h)) string_agg ?_; try simp only [Act.put, List.setIfInBounds_toArray, List.set_cons_zero, List.set_cons_succ]) | (refine k_strS rfl _ _ _ rfl rfl rfl ?_; try simp only [Act.put, List.setIfInBounds_toArray, List.set_cons_zero, List.set_cons_succ]) | (refine k_pickT rfl _ _ _ rfl rfl rfl ?_; try simp only [Act.put, List.setIfInBounds_toArray, List.set_cons_zero, List.set_cons_succ]) | (refine k_pickF rfl _ _ _ rfl rfl rfl ?_; try simp only [Act.put, List.setIfInBounds_toArray, List.set_cons_zero, List.set_cons_succ]))
  refine k_end ?_
  rintro w' hT'
  go_wp2
  go_ret
  exact ⟨rfl, hFF.trans hT'⟩
theorem walk (n0 : Int) (w : World) (hn : (Lit.int .i64 n0).wf = true) : Calls Try.prog 8 #[.int .i64 n0] w fun e w' => e = .returned (.bool true) ∧ Tch [] w w' := by
  have hn : -9223372036854775808 ≤ n0 ∧ n0 ≤ 9223372036854775807 := by
    simp [Lit.wf, IntKind.min, IntKind.max, IntKind.bits, IntKind.signed] at hn
    omega
  by_cases h : n0 < 0 ∨ 17 ≤ n0
  · exact out n0 hn h w
  · obtain ⟨k, rfl⟩ := Int.eq_ofNat_of_zero_le (show 0 ≤ n0 by omega)
    cases hok : wok k with
    | false => exact no k (by omega) hok w
    | true => exact yes k (by omega) hok w
end Go.Proofs.Ytnkfkahbkjdnpaa.RWrong
