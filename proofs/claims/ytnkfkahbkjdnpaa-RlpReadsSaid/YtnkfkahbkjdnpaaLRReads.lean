/- The law RlpReads: of any bytes, both readers answer the same. No condition. -/
import Derived.Test.YtnkfkahbkjdnpaaR33
namespace Go.Proofs.Ytnkfkahbkjdnpaa.RReads
open Go.RowKit

set_option maxHeartbeats 4000000 in
set_option maxRecDepth 100000 in
theorem short (p : Option Addr) (n c : Nat) (w : World) (hm : n ≤ 140737488351232) (h : 5000 < n) :
    Calls Try.prog 4 #[.slice p n c] w fun e w' => e = .returned (.bool true) ∧ Tch [] w w' := by
  have hd : (5000 : Int) < (n : Int) := by omega
  go_enter Try.func4, Try.ntmps4
  go_wp2_with (go_at_call 10; refine (alive_any _).mono ?_; rintro e w1 ⟨rfl, hT⟩)
  go_ret
  exact ⟨rfl, hT⟩
set_option maxHeartbeats 4000000 in
set_option maxRecDepth 100000 in
theorem long (v : Value) (L : List Nat) (w : World) (hv : RdA [] w v L) (h : L.length ≤ 5000) :
    Calls Try.prog 4 #[v] w fun e w' => e = .returned (.bool true) ∧ Tch [] w w' := by
  obtain ⟨f0, f1, f2, hty, _⟩ := item_ty
  have hS := St.start w
  obtain ⟨p, n, c, rfl⟩ := slice_keep hv
  have hn := hv.len
  have hn2 : n ≤ 5000 := by omega
  have hd : ¬ (5000 : Int) < (n : Int) := by omega
  have hlt := hv.lt
  have hl2 : L.length ≤ 100000000 := by omega
  have hl3 : L.length < 4611686018427387904 := by omega
  have HV := Lib.hid hv
  have HLT := Lib.hid hlt
  have HL2 := Lib.hid hl2
  have HL3 := Lib.hid hl3
  clear hv hn hlt hl2 hl3 h
  go_enter Try.func4, Try.ntmps4
  go_upto_region 6 with (first
    | (go_at_call 10; refine (alive_any _).mono ?_; rintro e w1 ⟨rfl, hT1⟩; replace hS := hS.call hT1)
    | (refine st_cloneB (v := .slice p n c) (l := L) (by rfl) _ _ (by rfl) (by rfl) (by rfl) (HV.out.tch hS.frame) HL2.out ?_
       intro v5 w5 hown hT5
       have hrd := RdF.own hown HLT.out
       obtain ⟨p5, n5, c5, rfl⟩ := slice_keep (hrd [] (by simp))
       have HV5 := Lib.hid (hrd [] (by simp))
       have HF5 := Lib.hid (hS.frame.trans hT5)
       clear hS hown hrd hT5)
    | (go_at_call 15; (with_reducible refine (read_any (.slice p5 n5 c5) L w5 HL3.out HV5.out).mono ?_); rintro e w4 ⟨hT4, d1, p1, n1, c1, p2, n2, c2, rfl, hx4⟩; have hS := St.start w4)
    | (refine st_new (L := []) hS rfl 25 rfl item_zero ?_; clear hS; intro w5 b0 hS)
    | (refine st_store (c' := #[.bool d1, .slice p1 n1 c1, .slice p2 n2 c2]) (L := [(b0, 25, #[.bool false, .slice none 0 0, .slice none 0 0])]) hS rfl 25 _ _ rfl rfl rfl (by repeat (first | exact Upd.head | apply Upd.tail)) item_size (by rfl) (by rfl) (one3 rfl rfl rfl) ?_; clear hS; intro w6 hS)
    | (go_at_call 17; (with_reducible refine (refread_any (.slice p n c) L w6 HL3.out (HV.out.tch ((HF5.out.trans hT4).trans hS.frame))).mono ?_); rintro e w7 ⟨hT7, d2, p3, n3, c3, p4, n4, c4, rfl, hy7⟩
       have hS7 := hS.call hT7
       have hge0 := (hS.own .head).resolve_right (by simp)
       have hlt0 := (hS.get .head).lt
       have hF := hS7.frame
       clear hS
       have hS := St.one (hS7.get .head))
    | (refine st_new hS rfl 25 rfl item_zero ?_; clear hS; intro w8 b1 hS)
    | (refine st_store (c' := #[.bool d2, .slice p3 n3 c3, .slice p4 n4 c4]) hS rfl 25 _ _ rfl rfl rfl (by repeat (first | exact Upd.head | apply Upd.tail)) item_size (by rfl) (by rfl) (one3 rfl rfl rfl) ?_; clear hS; intro w9 hS))
  have hB1 := hS.get .head
  have hB0 := hS.get (.tail .head)
  have hix : ItC [] w9 34 (.bool d1) (.slice p1 n1 c1) (.slice p2 n2 c2) (rdItem L) := ((((hx4 [] (by simp)).mono (Y := [b0]) (fun y hy => by simp at hy; subst hy; exact .inr hge0)).tch (hF.mono (by simp))).tch hS.frame).mono (by simp)
  have hiy : ItC [] w9 34 (.bool d2) (.slice p3 n3 c3) (.slice p4 n4 c4) (rdItem L) := ((hy7 [b0] (fun y hy => by simp at hy; subst hy; exact hlt0)).tch hS.frame).mono (by simp)
  have hsame := fun (w' : World) (hT : Tch [] w9 w') => (same_any 34 _ _ _ _ _ _ _ _ w' (hix.tch hT) (hiy.tch hT)).mono (R' := fun e w'' => e = .returned (.bool true) ∧ Tch [] w9 w'') (fun e w'' h => ⟨by rw [h.1, (eqI_iff _ _).2 rfl], hT.trans h.2⟩)
  have hend : Tch [] w w9 := ((HF5.out.trans hT4).trans hF).fresh hS.frame (fun y hy => by simp at hy; subst hy; exact Nat.le_trans (HF5.out.trans hT4).size hge0)
  clear hix hiy hx4 hy7 hS hF hT4 hT7
  generalize rdErr L = e1 at *
  have HE := Lib.hid hend
  clear hend
  refine k_seq (C := fun w' => Tch [] w9 w') (Tch.refl _ _) ?_
  repeat (first | (refine k_skip rfl rfl rfl rfl rfl ?_; try simp only [Act.put, List.setIfInBounds_toArray, List.set_cons_zero, List.set_cons_succ]) | (refine k_num rfl rfl rfl ?_; try simp only [Act.put, List.setIfInBounds_toArray, List.set_cons_zero, List.set_cons_succ]) | (refine k_boolm rfl _ rfl rfl ?_; try simp only [Act.put, List.setIfInBounds_toArray, List.set_cons_zero, List.set_cons_succ]) | (refine k_boola rfl _ rfl rfl ?_; try simp only [Act.put, List.setIfInBounds_toArray, List.set_cons_zero, List.set_cons_succ]) | (refine k_intm rfl _ rfl rfl ?_; try simp only [Act.put, List.setIfInBounds_toArray, List.set_cons_zero, List.set_cons_succ]) | (refine k_inta rfl _ rfl rfl ?_; try simp only [Act.put, List.setIfInBounds_toArray, List.set_cons_zero, List.set_cons_succ]) | (refine k_ints (t := true) rfl _ _ _ (by rfl) (by rfl) (by rfl) (beq_self_eq_true _) ?_; try simp only [Act.put, List.setIfInBounds_toArray, List.set_cons_zero, List.set_cons_succ]) | (refine k_loadS rfl 25 _ rfl rfl (fun w h => h.blk hB0 (by simp)) hty item_size rfl ?_; try simp only [Act.put, List.setIfInBounds_toArray, List.set_cons_zero, List.set_cons_succ]) | (refine k_loadS rfl 25 _ rfl rfl (fun w h => h.blk hB1 (by simp)) hty item_size rfl ?_; try simp only [Act.put, List.setIfInBounds_toArray, List.set_cons_zero, List.set_cons_succ]) | (refine k_callC2 (by rfl) (by rfl) (by rfl) (by rfl) Try.call16 (by exact hsame) ?_; try simp only [Act.put, List.setIfInBounds_toArray, List.set_cons_zero, List.set_cons_succ]) | (refine k_pickT rfl _ _ _ rfl rfl rfl ?_; try simp only [Act.put, List.setIfInBounds_toArray, List.set_cons_zero, List.set_cons_succ]) | (refine k_pickF rfl _ _ _ rfl rfl rfl ?_; try simp only [Act.put, List.setIfInBounds_toArray, List.set_cons_zero, List.set_cons_succ]))
  refine k_end ?_
  rintro w' hT'
  go_wp2
  go_ret
  exact ⟨rfl, HE.out.trans hT'⟩
theorem walk (v : Value) (L : List Nat) (w : World) (hv : RdA [] w v L) (hm : L.length ≤ reachBytes) :
    Calls Try.prog 4 #[v] w fun e w' => e = .returned (.bool true) ∧ Tch [] w w' := by
  unfold reachBytes at hm
  by_cases h : 5000 < L.length
  · obtain ⟨p, n, c, rfl⟩ := slice_keep hv
    have hn := hv.len
    exact short p n c w (by omega) (by omega)
  · exact long v L w hv (by omega)
end Go.Proofs.Ytnkfkahbkjdnpaa.RReads
