/- acct.read at a list of four. -/
import Derived.Test.YtdjhjgockgmbkaaGreatDoorM28
set_option linter.unusedVariables false
set_option linter.unusedSimpArgs false
namespace Go.Proofs.YtdjhjgockgmbkaaGreatDoor
open Go.RowKit
set_option linter.unusedVariables false

set_option maxHeartbeats 4000000 in
set_option maxRecDepth 100000 in
theorem aread_4 (vb : Value) (p : Option Addr) (c kk : Nat) (l : List It) (hl : l.length = 4) (w : World) (hit : ItZ [] w (kk + 1) (.bool true) vb (.slice p 4 c) (.lst l)) : Calls Tryz.prog 33 #[.agg #[.bool true, vb, .slice p 4 c]] w (AReadPost (bdOf (.lst l)) w) := by
  obtain ⟨f0, f1, f2, f3, hty, _⟩ := body_ty
  have hS := St.start w
  have kb := build_body0
  unfold ItZ at hit
  obtain ⟨-, rfl, p', c', he, -, hcells⟩ := hit
  injection he with e1 e2 e3
  subst e1
  subst e3
  clear e2
  obtain ⟨bb, oo, rfl, hbb, -, hcs⟩ := hcells (by intro e; rw [e] at hl; cases hl)
  have HL := Lib.hid hl
  have HCS := Lib.hid (fun (k : Nat) (hk : k < 4) => show ∃ y0 yb yl, w.cell? ⟨bb, oo + k * 3, none⟩ = some y0 ∧ w.cell? ⟨bb, oo + k * 3 + 1, none⟩ = some yb ∧ w.cell? ⟨bb, oo + k * 3 + 2, none⟩ = some yl ∧ ItZ [] w kk y0 yb yl (l.getD k (.str [])) from by
    obtain ⟨y0, yb, yl, h1, h2, h3, h4⟩ := hcs k (by omega)
    exact ⟨y0, yb, yl, h1, h2, h3, by rw [List.getD_eq_getElem?_getD, List.getElem?_eq_getElem (by omega)]; exact h4⟩)
  clear hcells hcs hl
  go_enter Tryz.func33, Tryz.ntmps33
  go_upto_region 3 with (first
    | (refine st_box (L := []) hS rfl 68 _ rfl rfl ?_; clear hS; intro w1 b1 hS)
    | (refine st_new (L := [(b1, 68, #[.bool true, .slice none 0 0, .slice (some ⟨bb, oo, none⟩) 4 c])]) hS rfl 25 rfl body_zero ?_; clear hS; intro w2 b2 hS)
    | (refine st_new (L := [(b2, 25, bodyC 0 zeros32 zeros32 zeros32), (b1, 68, #[.bool true, .slice none 0 0, .slice (some ⟨bb, oo, none⟩) 4 c])]) hS rfl 25 rfl body_zero ?_; clear hS; intro w4 b4 hS)
    | (go_at_call 59; refine (parts_any b4 _).mono ?_; rintro e w5 ⟨rfl, hT5⟩; replace hS := hS.call hT5; clear hT5)
    | (refine st_new (L := [(b4, 25, bodyC 0 zeros32 zeros32 zeros32), (b2, 25, bodyC 0 zeros32 zeros32 zeros32), (b1, 68, #[.bool true, .slice none 0 0, .slice (some ⟨bb, oo, none⟩) 4 c])]) hS rfl 121 rfl parts_zero ?_; clear hS; intro w6 b6 hS)
    | (refine st_store (b := b6) (c' := partsC b4) hS rfl 121 _ _ rfl rfl rfl .head parts_size rfl rfl (by simp [partsC, Value.oneCell']) ?_; clear hS; intro w7 hS))
  refine k_seq (C := fun w' => w' = w7) rfl ?_
  refine k_fld rfl _ _ _ rfl rfl (item_f0 _) ?_; try simp only [Act.put, List.setIfInBounds_toArray, List.set_cons_zero, List.set_cons_succ]
  refine k_cellC rfl _ _ rfl rfl (by rintro w' rfl; exact (hS.get (.tail (.tail (.tail .head)))).cell (j := 0) rfl) bool_aggN ?_; try simp only [Act.put, List.setIfInBounds_toArray, List.set_cons_zero, List.set_cons_succ]
  refine k_not rfl _ _ rfl rfl ?_; try simp only [Act.put, List.setIfInBounds_toArray, List.set_cons_zero, List.set_cons_succ, Bool.not_true]
  refine k_boolm rfl _ rfl rfl ?_; try simp only [Act.put, List.setIfInBounds_toArray, List.set_cons_zero, List.set_cons_succ]
  refine k_fld rfl _ _ _ rfl rfl (item_f2 _) ?_; try simp only [Act.put, List.setIfInBounds_toArray, List.set_cons_zero, List.set_cons_succ]
  refine k_cellC rfl _ _ rfl rfl (by rintro w' rfl; exact (hS.get (.tail (.tail (.tail .head)))).cell (j := 2) rfl) itemsl_aggQ ?_; try simp only [Act.put, List.setIfInBounds_toArray, List.set_cons_zero, List.set_cons_succ]
  refine k_lenQ rfl _ rfl rfl ?_; try simp only [Act.put, List.setIfInBounds_toArray, List.set_cons_zero, List.set_cons_succ]
  refine k_neqs (t := false) rfl _ _ _ rfl rfl rfl (by decide) ?_; try simp only [Act.put, List.setIfInBounds_toArray, List.set_cons_zero, List.set_cons_succ]
  refine k_pickF rfl _ _ _ rfl rfl rfl ?_; try simp only [Act.put, List.setIfInBounds_toArray, List.set_cons_zero, List.set_cons_succ]
  refine k_end ?_
  rintro w8 rfl
  go_wp2_with (first
    | (refine st_load (b := b6) hS rfl 121 _ rfl rfl .head parts_ty rfl parts_size rfl ?_))
  go_loopw [20] (fun s20 wr => ∃ k : Nat, s20 = .int .i64 (k : Int) ∧ k ≤ 4 ∧ Hid (∃ n B R H, St [] w wr [(b6, 121, partsC b4), (b4, 25, bodyC n B R H), (b2, 25, bodyC 0 zeros32 zeros32 zeros32), (b1, 68, #[.bool true, .slice none 0 0, .slice (some ⟨bb, oo, none⟩) 4 c])] ∧ GoodB l k n B R H)) (fun i _ => 4 - (intOf i).toNat)
  case atStart => exact ⟨0, rfl, Nat.zero_le _, Lib.hid ⟨0, zeros32, zeros32, zeros32, hS, fun h => absurd h (by decide), fun h => absurd h (by decide), fun h => absurd h (by decide), fun h => absurd h (by decide)⟩⟩
  case round =>
    obtain ⟨k, rfl, hk, HI⟩ := hrel
    obtain ⟨n, B, R, H, hS, hgood⟩ := HI.out
    clear HI
    by_cases hlt : k < 4
    · have hk4 : (k : Int) < 4 := by omega
      obtain ⟨y0, yb, yl, g0, g1, g2, g3⟩ := HCS.out k hlt
      have hb4 : w.heap.size ≤ b4 := by rcases hS.own (.tail .head) with h | h; · exact h
                                        · simp at h
      have HG := Lib.hid (And.intro hgood (And.intro ((g3.mono (Y := [b4]) (fun y hy => .inr (by rw [List.mem_singleton.1 hy]; exact hb4))).tch (hS.frame.mono (by simp))) (And.intro ((hS.frame.cell (p := ⟨bb, oo + k * 3, none⟩) hbb (by simp)).trans g0) (And.intro ((hS.frame.cell (p := ⟨bb, oo + k * 3 + 1, none⟩) hbb (by simp)).trans g1) ((hS.frame.cell (p := ⟨bb, oo + k * 3 + 2, none⟩) hbb (by simp)).trans g2)))))
      have HLT := Lib.hid hlt
      clear hgood g0 g1 g2 g3 hb4
      have HFI := Lib.hid (fill_any b4 k HLT.out n B R H kk y0 yb yl (l.getD k (.str [])) wr (hS.get (.tail .head)) HG.out.2.1)
      obtain ⟨r, hr⟩ : ∃ r, r = fillR k n B R H (l.getD k (.str [])) := ⟨_, rfl⟩
      rw [← hr] at HFI
      have HR := Lib.hid hr
      clear hr
      cases r with
      | none =>
        go_wp2_with (first
          | (refine st_x (v := partV b4 k) rfl (x_idxP (k := k) _ _ rfl rfl rfl HLT.out) ?_)
          | (refine st_x (v := .pointer (some ⟨b1, 2, none⟩)) rfl (x_fa _ _ _ rfl rfl (item_f2 b1 _)) ?_)
          | (refine st_x (v := .slice (some ⟨bb, oo, none⟩) 4 c) rfl (x_cell _ _ rfl rfl ((hS.get (.tail (.tail (.tail .head)))).cell (j := 2) rfl) itemsl_aggQ) ?_)
          | (refine st_x (v := .pointer (some ⟨bb, oo + k * 3, none⟩)) rfl (x_idxI (j := k) _ _ rfl rfl rfl HLT.out) ?_)
          | (refine st_x (v := .agg #[y0, yb, yl]) rfl (x_item _ rfl rfl HG.out.2.2.1 HG.out.2.2.2.1 HG.out.2.2.2.2) ?_)
          | (go_at_call 65; refine HFI.out.mono ?_; rintro e w9 ⟨hT9, rfl, _⟩)
          | (refine arm_store (b := b2) (c := bodyC 0 zeros32 zeros32 zeros32) (w' := w9.setRow b2 (bodyC 0 zeros32 zeros32 zeros32)) rfl 25 _ _ rfl rfl rfl ((hT9.blk (hS.get (.tail (.tail .head))) (fun hm => (List.pairwise_cons.1 (List.pairwise_cons.1 hS.apart).2).1 _ (.head _) (List.mem_singleton.1 hm).symm)).store body_size (bodyC_size _ _ _ _) (bodyC_size _ _ _ _) (bodyC_one _ _ _ _)) ?_))
        have hb2 := hT9.blk (hS.get (.tail (.tail .head))) (fun hm => (List.pairwise_cons.1 (List.pairwise_cons.1 hS.apart).2).1 _ (.head _) (List.mem_singleton.1 hm).symm)
        have hge4 : w.heap.size ≤ b4 := by rcases hS.own (.tail .head) with h | h; · exact h
                                           · simp at h
        have hge2 : w.heap.size ≤ b2 := by rcases hS.own (.tail (.tail .head)) with h | h; · exact h
                                           · simp at h
        refine post_cell_one 2 3 25 rfl rfl rfl rfl (hb2.row (bodyC 0 zeros32 zeros32 zeros32)) hty rfl body_size (bodyC_size _ _ _ _) ⟨((hS.frame.fresh hT9 (fun x hx => by rw [List.mem_singleton.1 hx]; exact hge4)).only (Only.setRow _ b2 _) (.inl hge2)), ?_⟩
        rw [bdOf_bad HL.out HLT.out HR.out.symm]
        rfl
      | some cc =>
        obtain ⟨n', B', R', H', rfl, hg'⟩ := goodB_step HG.out.1 HLT.out HR.out.symm
        have HG' := Lib.hid hg'
        clear hg'
        go_wp2_with (first
          | (refine st_x (v := partV b4 k) rfl (x_idxP (k := k) _ _ rfl rfl rfl HLT.out) ?_)
          | (refine st_x (v := .pointer (some ⟨b1, 2, none⟩)) rfl (x_fa _ _ _ rfl rfl (item_f2 b1 _)) ?_)
          | (refine st_x (v := .slice (some ⟨bb, oo, none⟩) 4 c) rfl (x_cell _ _ rfl rfl ((hS.get (.tail (.tail (.tail .head)))).cell (j := 2) rfl) itemsl_aggQ) ?_)
          | (refine st_x (v := .pointer (some ⟨bb, oo + k * 3, none⟩)) rfl (x_idxI (j := k) _ _ rfl rfl rfl HLT.out) ?_)
          | (refine st_x (v := .agg #[y0, yb, yl]) rfl (x_item _ rfl rfl HG.out.2.2.1 HG.out.2.2.2.1 HG.out.2.2.2.2) ?_)
          | (go_at_call 65; refine HFI.out.mono ?_; rintro e w9 ⟨hT9, rfl, hB9⟩; have hS9 := hS.on1 (.tail .head) hT9 (hB9 _ rfl)))
        go_roundw
        case rel => exact ⟨k + 1, by go_num, by omega, Lib.hid ⟨n', B', R', H', hS9, HG'.out⟩⟩
        case measure => simp [intOf]; omega
    · obtain rfl : k = 4 := by omega
      obtain ⟨x, hx, hcx⟩ := bdOf_good HL.out hgood
      rw [hcx] at hS
      have HX := Lib.hid hx
      clear hx hcx hgood
      go_wp2_with (first
        | (refine st_load (b := b4) hS rfl 25 _ rfl rfl (.tail .head) hty rfl body_size (bdCells_size _) ?_)
        | (refine st_store (b := b2) (c' := bdCells (some x)) hS rfl 25 _ _ rfl rfl rfl (.tail (.tail .head)) body_size (bodyC_size _ _ _ _) (bdCells_size _) (bdCells_one _) ?_; clear hS; intro w9 hS))
      exact post_cell_one 2 3 25 rfl rfl rfl rfl (hS.get (.tail (.tail .head))) hty rfl body_size (bdCells_size _) ⟨hS.frame, by rw [HX.out]; rfl⟩
end Go.Proofs.YtdjhjgockgmbkaaGreatDoor

/- acct.Read: the body of any bytes. -/
namespace Go.Proofs.YtdjhjgockgmbkaaGreatDoor
open Go.RowKit
set_option linter.unusedVariables false

theorem aread_any (k : Nat) (d : Bool) (p1 p2 : Option Addr) (n1 c1 n2 c2 : Nat) (it : It) (w : World) (hit : ItZ [] w k (.bool d) (.slice p1 n1 c1) (.slice p2 n2 c2) it) : Calls Tryz.prog 33 #[.agg #[.bool d, .slice p1 n1 c1, .slice p2 n2 c2]] w (AReadPost (bdOf it) w) := by
  cases k with
  | zero => exact hit.elim
  | succ k => cases it with
    | str L =>
      unfold ItZ at hit
      obtain ⟨h0, _⟩ := hit
      cases h0
      exact aread_str _ _ w
    | lst l =>
      have hit0 := hit
      unfold ItZ at hit
      obtain ⟨h0, h1, p', c', h2, _⟩ := hit
      cases h0
      injection h2 with e1 e2 e3
      by_cases hl : l.length = 4
      · have hn : n2 = 4 := e2.trans hl
        subst hn
        exact aread_4 _ _ _ k l hl w hit0
      · have hb : bdOf (.lst l) = none := by
          cases hb : bdOf (.lst l) with
          | none => rfl
          | some x =>
            exfalso
            unfold bdOf at hb
            split at hb
            · rename_i heq; cases heq; exact hl rfl
            · cases hb
        rw [hb]
        exact aread_len _ _ _ _ (by rw [e2]; exact hl) w
theorem two_mem {b c s : Nat} (h : s ≤ b) : ∀ y ∈ [b, c], y ∈ [c] ∨ s ≤ y := by
  intro y hy
  rcases List.mem_cons.1 hy with e | e
  · exact .inr (by rw [e]; exact h)
  · exact .inl e
/-- What Read answers. -/
def ARPost (L : List Nat) (w : World) (e : Ending) (w' : World) : Prop :=
  Tch [] w w' ∧ e = .returned (.tuple #[.agg (bdCells (bdRead L)), .int .i64 (if (bdRead L).isSome then 0 else 4)])
set_option maxHeartbeats 4000000 in
set_option maxRecDepth 100000 in
theorem aRead_err (v : Value) (L : List Nat) (w : World) (hm : L.length < 4611686018427387904) (hv : RdA [] w v L) (he : rdErr L ≠ 0) : Calls Tryz.prog 10 #[v] w (ARPost L w) := by
  obtain ⟨f0, f1, f2, f3, hty, -⟩ := body_ty
  have hS := St.start w
  have kb := build_body0
  obtain ⟨p, n, c, rfl⟩ := slice_keep hv
  obtain ⟨ec, hec⟩ : ∃ ec, ec = rdErr L := ⟨_, rfl⟩
  have HV := Lib.hid (fun (w' : World) (h : Tch [] w w') => read_anyZ _ L w' hm (hv.tch h))
  have HR := Lib.hid (show bdRead L = none by unfold bdRead; rw [if_neg he])
  have hne : ((ec : Int) != 0) = true := by rw [hec]; simp; omega
  have hne2 : ¬ (ec : Int) = 0 := by rw [hec]; omega
  have HE := Lib.hid hec
  clear hv hm he hec
  go_enter Tryz.func10, Tryz.ntmps10
  go_wp2_with (first
    | (refine st_new (L := []) hS rfl 25 rfl body_zero ?_; clear hS; intro w2 b2 hS)
    | (go_at_call 32; refine (HV.out _ hS.frame).mono ?_; rintro e w3 ⟨hT3, d, p1, n1, c1, p2, n2, c2, rfl, _⟩; rw [← HE.out]; replace hS := hS.call hT3; clear hT3)
    | (refine st_new (L := [(b2, 25, bodyC 0 zeros32 zeros32 zeros32)]) hS rfl 68 rfl itemN_zero ?_; clear hS; intro w4 b4 hS)
    | (refine st_store (b := b4) (c' := #[.bool d, .slice p1 n1 c1, .slice p2 n2 c2]) hS rfl 68 _ _ rfl rfl rfl .head itemN_size (by rfl) (by rfl) (oneN3 rfl rfl rfl) ?_; clear hS; intro w5 hS)
    | (refine st_store (b := b2) (c' := bodyC 0 zeros32 zeros32 zeros32) hS rfl 25 _ _ rfl rfl rfl (.tail .head) body_size (bodyC_size _ _ _ _) (bodyC_size _ _ _ _) (bodyC_one _ _ _ _) ?_; clear hS; intro w6 hS))
  exact post_cell_one 2 3 25 rfl rfl rfl rfl (hS.get (.tail .head)) hty rfl body_size (bodyC_size _ _ _ _) ⟨hS.frame, by rw [HR.out]; rfl⟩
set_option maxHeartbeats 4000000 in
set_option maxRecDepth 100000 in
theorem aRead_ok (v : Value) (L : List Nat) (w : World) (hm : L.length < 4611686018427387904) (hv : RdA [] w v L) (he : rdErr L = 0) : Calls Tryz.prog 10 #[v] w (ARPost L w) := by
  obtain ⟨f0, f1, f2, f3, hty, -⟩ := body_ty
  obtain ⟨g0, g1, g2, hti, -⟩ := item_ty
  have hS := St.start w
  have kb := build_body0
  obtain ⟨p, n, c, rfl⟩ := slice_keep hv
  have HV := Lib.hid (fun (w' : World) (h : Tch [] w w') => read_anyZ _ L w' hm (hv.tch h))
  have HR := Lib.hid (show bdRead L = bdOf (rdItem L) by unfold bdRead; rw [if_pos he])
  have HE := Lib.hid he
  clear hv hm he
  obtain ⟨r, hr⟩ : ∃ r, r = bdOf (rdItem L) := ⟨_, rfl⟩
  have HRR := Lib.hid hr
  clear hr
  go_enter Tryz.func10, Tryz.ntmps10
  cases r with
  | none =>
    go_wp2_with (first
      | (refine st_new (L := []) hS rfl 25 rfl body_zero ?_; clear hS; intro w2 b2 hS)
      | (go_at_call 32; refine (HV.out _ hS.frame).mono ?_; rintro e w3 ⟨hT3, d, p1, n1, c1, p2, n2, c2, rfl, hI3⟩; rw [HE.out]; have HI3 := Lib.hid (hI3 [b2] (fun x hx => by rw [List.mem_singleton.1 hx]; exact (hS.get .head).lt)); replace hS := hS.call hT3; clear hT3 hI3)
      | (refine st_newT (L := [(b2, 25, bodyC 0 zeros32 zeros32 zeros32)]) hS rfl 68 rfl itemN_zero ?_; clear hS; intro w4 b4 hS hT4 hb4)
      | (refine st_storeO (b := b4) (c' := #[.bool d, .slice p1 n1 c1, .slice p2 n2 c2]) hS rfl 68 _ _ rfl rfl rfl .head itemN_size (by rfl) (by rfl) (oneN3 rfl rfl rfl) ?_; clear hS; intro w5 hS hO5; have HI5 := Lib.hid (((HI3.out.mono (Y := [b4, b2]) (two_mem hb4)).tch ((hT4.mono (by simp)).only hO5 (.inr (by simp)))).mono (Y := []) (by simp)); clear hT4 hb4 hO5)
      | (refine st_load (b := b4) hS rfl 68 _ rfl rfl .head hti rfl itemN_size (by rfl) ?_)
      | (go_at_call 33; refine (aread_any 34 d p1 p2 n1 c1 n2 c2 _ _ HI5.out).mono ?_; rintro e w6 ⟨hT6, rfl⟩; rw [← HRR.out]; replace hS := hS.call hT6; clear hT6)
      | (refine st_new (L := [(b4, 68, #[.bool d, .slice p1 n1 c1, .slice p2 n2 c2]), (b2, 25, bodyC 0 zeros32 zeros32 zeros32)]) hS rfl 25 rfl body_zero ?_; clear hS; intro w7 b7 hS)
      | (refine st_store (b := b7) (c' := bdCells none) hS rfl 25 _ _ rfl rfl rfl .head body_size (bodyC_size _ _ _ _) (bdCells_size _) (bdCells_one _) ?_; clear hS; intro w8 hS)
      | (refine st_store (b := b2) (c' := bodyC 0 zeros32 zeros32 zeros32) hS rfl 25 _ _ rfl rfl rfl (.tail (.tail .head)) body_size (bodyC_size _ _ _ _) (bodyC_size _ _ _ _) (bodyC_one _ _ _ _) ?_; clear hS; intro w9 hS))
    exact post_cell_one 2 3 25 rfl rfl rfl rfl (hS.get (.tail (.tail .head))) hty rfl body_size (bodyC_size _ _ _ _) ⟨hS.frame, by rw [HR.out, ← HRR.out]; rfl⟩
  | some x =>
    go_wp2_with (first
      | (refine st_new (L := []) hS rfl 25 rfl body_zero ?_; clear hS; intro w2 b2 hS)
      | (go_at_call 32; refine (HV.out _ hS.frame).mono ?_; rintro e w3 ⟨hT3, d, p1, n1, c1, p2, n2, c2, rfl, hI3⟩; rw [HE.out]; have HI3 := Lib.hid (hI3 [b2] (fun x hx => by rw [List.mem_singleton.1 hx]; exact (hS.get .head).lt)); replace hS := hS.call hT3; clear hT3 hI3)
      | (refine st_newT (L := [(b2, 25, bodyC 0 zeros32 zeros32 zeros32)]) hS rfl 68 rfl itemN_zero ?_; clear hS; intro w4 b4 hS hT4 hb4)
      | (refine st_storeO (b := b4) (c' := #[.bool d, .slice p1 n1 c1, .slice p2 n2 c2]) hS rfl 68 _ _ rfl rfl rfl .head itemN_size (by rfl) (by rfl) (oneN3 rfl rfl rfl) ?_; clear hS; intro w5 hS hO5; have HI5 := Lib.hid (((HI3.out.mono (Y := [b4, b2]) (two_mem hb4)).tch ((hT4.mono (by simp)).only hO5 (.inr (by simp)))).mono (Y := []) (by simp)); clear hT4 hb4 hO5)
      | (refine st_load (b := b4) hS rfl 68 _ rfl rfl .head hti rfl itemN_size (by rfl) ?_)
      | (go_at_call 33; refine (aread_any 34 d p1 p2 n1 c1 n2 c2 _ _ HI5.out).mono ?_; rintro e w6 ⟨hT6, rfl⟩; rw [← HRR.out]; replace hS := hS.call hT6; clear hT6)
      | (refine st_new (L := [(b4, 68, #[.bool d, .slice p1 n1 c1, .slice p2 n2 c2]), (b2, 25, bodyC 0 zeros32 zeros32 zeros32)]) hS rfl 25 rfl body_zero ?_; clear hS; intro w7 b7 hS)
      | (refine st_store (b := b7) (c' := bdCells (some x)) hS rfl 25 _ _ rfl rfl rfl .head body_size (bodyC_size _ _ _ _) (bdCells_size _) (bdCells_one _) ?_; clear hS; intro w8 hS)
      | (refine st_load (b := b7) hS rfl 25 _ rfl rfl .head hty rfl body_size (bdCells_size _) ?_)
      | (refine st_store (b := b2) (c' := bdCells (some x)) hS rfl 25 _ _ rfl rfl rfl (.tail (.tail .head)) body_size (bodyC_size _ _ _ _) (bdCells_size _) (bdCells_one _) ?_; clear hS; intro w9 hS))
    exact post_cell_one 2 3 25 rfl rfl rfl rfl (hS.get (.tail (.tail .head))) hty rfl body_size (bdCells_size _) ⟨hS.frame, by rw [HR.out, ← HRR.out]; rfl⟩
theorem aRead_any (v : Value) (L : List Nat) (w : World) (hm : L.length < 4611686018427387904) (hv : RdA [] w v L) : Calls Tryz.prog 10 #[v] w (ARPost L w) := by
  by_cases he : rdErr L = 0
  · exact aRead_ok v L w hm hv he
  · exact aRead_err v L w hm hv he
end Go.Proofs.YtdjhjgockgmbkaaGreatDoor

/- The document's part: bytes that begin with no item, or with a byte string. -/
namespace Go.Proofs.YtdjhjgockgmbkaaGreatDoor
open Go.RowKit

theorem results_cell_tmp2 {fn : Func} {p u u2 : Tmp} {ty : TypeId} (h : fn.results = #[.cell p ty, .tmp u, .tmp u2]) (tmps : Array Value) (P : Program) (w : World) :
    (results fn tmps).run P w =
      ((asAddr (tmps.getD p undef)).run P w).andThen fun a w₁ => ((loadVar ty a).run P w₁).andThen fun v w₂ => .ok (.tuple #[v, tmps.getD u undef, tmps.getD u2 undef]) w₂ := by
  simp only [results, h]
  simp [Sem.run_bind, Result.andThen]
theorem post_cell_two {P : Program} {fn : Func} {R : Ending → World → Prop} {a : Act} {w : World} {b : Nat} {t : TypeId} {c : Array Value} {d : TypeDesc} {n : Nat} {v v2 : Value} (p u u2 : Tmp) (ty : TypeId) (hr : fn.results = #[.cell p ty, .tmp u, .tmp u2]) (hd0 : a.defers = [])
    (hp : a.tmps.getD p undef = .pointer (some ⟨b, 0, none⟩)) (hv : a.tmps.getD u undef = v) (hv2 : a.tmps.getD u2 undef = v2) (h : Blk w b t c)
    (hu : P.underlying ty = some d) (hd : (match d with | .struct _ | .array _ _ => true | _ => false) = true) (hi : (P.info? ty).map (·.size) = some n) (hn : c.size = n)
    (hR : R (.returned (.tuple #[.agg c, v, v2])) w) : bodyPost P fn R .ret a w := by
  have hres : (results fn a.tmps).run P w = .ok (.tuple #[.agg c, a.tmps.getD u undef, a.tmps.getD u2 undef]) w := by
    rw [results_cell_tmp2 hr, hp]
    have e : (asAddr (.pointer (some ⟨b, 0, none⟩))).run P w = .ok ⟨b, 0, none⟩ w := rfl
    rw [e]
    simp only [Result.andThen_ok, run_loadVar_row w b t ty c (0, 0) d h hu hd (by rw [hn]; exact hi)]
  exact bodyPost_ret hres hd0 (by rw [hv, hv2]; exact hR)
/-- What part answers; j: how many lists may still be begun. -/
def PartPost (j : Nat) (l : List Nat) (w : World) (e : Ending) (w' : World) : Prop :=
  Tch [] w w' ∧ ∃ d p1 n1 c1 p2 n2 c2, ∃ cnt en : Nat, e = .returned (.tuple #[.agg #[.bool d, .slice p1 n1 c1, .slice p2 n2 c2], .int .i64 (cnt : Int), .int .i64 (en : Int)]) ∧ match dec j l with
    | .error c => en = c ∧ ItF w w' 1 (.bool d) (.slice p1 n1 c1) (.slice p2 n2 c2) (.str [])
    | .ok (t, r) => en = 0 ∧ cnt + r.length = l.length ∧ r = l.drop cnt ∧ ItF w w' (j + 1) (.bool d) (.slice p1 n1 c1) (.slice p2 n2 c2) t
theorem partpost_no {j ec : Nat} {l : List Nat} {w w' : World} {n : Int} (h : dec j l = .error ec) (hn : n = (ec : Int)) (hT : Tch [] w w') : PartPost j l w (.returned (.tuple #[.agg #[.bool false, .slice none 0 0, .slice none 0 0], .int .i64 0, .int .i64 n])) w' := by
  refine ⟨hT, _, _, _, _, _, _, _, 0, ec, by rw [hn]; rfl, ?_⟩
  rw [h]
  refine ⟨rfl, fun X _ => ?_⟩
  unfold ItC
  exact ⟨rfl, (RdB.nil w').rdA' X, by simp⟩
theorem partpost_yes {j cnt k : Nat} {l r : List Nat} {t : It} {w w' : World} {d : Bool} {p1 p2 : Option Addr} {n1 c1 n2 c2 : Nat} {n : Int} (h : dec j l = .ok (t, r)) (hn : n = (cnt : Int)) (hc : cnt + r.length = l.length) (hr : r = l.drop cnt) (hk : k ≤ j + 1) (hI : ItF w w' k (.bool d) (.slice p1 n1 c1) (.slice p2 n2 c2) t) (hT : Tch [] w w') :
    PartPost j l w (.returned (.tuple #[.agg #[.bool d, .slice p1 n1 c1, .slice p2 n2 c2], .int .i64 n, .int .i64 0])) w' := by
  refine ⟨hT, _, _, _, _, _, _, _, cnt, 0, by rw [hn]; rfl, ?_⟩
  rw [h]
  exact ⟨rfl, hc, hr, fun X hX => (hI X hX).up hk⟩
def PartOK (j : Nat) : Prop := ∀ (v : Value) (l : List Nat) (w : World), l.length ≤ 16777216 → RdA [] w v l → Calls Tryz.prog 66 #[v, .int .i64 (j : Int)] w (PartPost j l w)
theorem and63 (x : Nat) (h : x < 256) : bits BinOp.and IntKind.i64 (x : Int) 63 = ((x % 64 : Nat) : Int) := by
  have all : ∀ i : Fin 256, bits BinOp.and IntKind.i64 (i.val : Int) 63 = ((i.val % 64 : Nat) : Int) := by decide +kernel
  exact all ⟨x, h⟩
set_option maxHeartbeats 1000000 in
set_option maxRecDepth 100000 in
theorem part_nil (j : Nat) (v : Value) (w : World) (hv : RdA [] w v []) : Calls Tryz.prog 66 #[v, .int .i64 (j : Int)] w (PartPost j [] w) := by
  obtain ⟨f0, f1, f2, hty, _⟩ := item_ty
  have hdec : dec j [] = .error 4 := by rw [dec_eq, if_neg (by simp)]; rfl
  obtain ⟨p, c, rfl, _⟩ := hv
  have HD := Lib.hid hdec
  have hS := St.start w
  clear hdec
  simp only [List.length_nil] at *
  go_enter Tryz.func66, Tryz.ntmps66
  go_wp2_with (first | (refine st_new (L := []) hS rfl 68 rfl item_zero ?_; clear hS; intro w4 b4 hS) | (refine st_store (c' := #[.bool false, .slice none 0 0, .slice none 0 0]) hS rfl 68 _ _ rfl rfl rfl (by repeat (first | exact Upd.head | apply Upd.tail)) item_size (by rfl) (by rfl) (one3 rfl rfl rfl) ?_; clear hS; intro w5 hS))
  exact post_cell_two 4 5 6 68 rfl rfl rfl rfl rfl (hS.get .head) hty rfl item_size rfl (partpost_no HD.out rfl hS.frame)
set_option maxHeartbeats 1000000 in
set_option maxRecDepth 100000 in
theorem part_single (j : Nat) (v : Value) (x : Nat) (r : List Nat) (w : World) (hn : (x :: r).length ≤ 16777216) (hv : RdA [] w v (x :: r)) (hx : x < 128) : Calls Tryz.prog 66 #[v, .int .i64 (j : Int)] w (PartPost j (x :: r) w) := by
  obtain ⟨f0, f1, f2, hty, _⟩ := item_ty
  have hS := St.start w
  obtain ⟨p, n, c, rfl⟩ := slice_keep hv
  obtain ⟨p', c', hp, hcap, hb, h4⟩ := id hv
  have hxb := hb x List.mem_cons_self
  cases hp
  obtain ⟨b, o, rfl, hbw, _, h8⟩ := h4 (by simp)
  have hc0 := h8 0 (by simp)
  rw [Nat.add_zero] at hc0
  simp only [List.getD_cons_zero] at hc0
  have hdec : dec j (x :: r) = .ok (.str [x], r) := by
    rw [dec_eq, if_neg (by simp; omega), spl_cons, if_pos hx]; simp only []; rw [if_pos (by simp; omega)]; rfl
  have HD := Lib.hid hdec
  have hx2 : (x : Int) < 128 := by omega
  have hk4 : ∀ w' : World, Tch [] w w' → w'.cell? ⟨b, o, none⟩ = some (.int .u8 (x : Int)) := fun w' hT => (hT.cell (p := ⟨b, o, none⟩) hbw (by simp)).trans hc0
  have HK := Lib.hid hk4
  clear hdec h8 h4 hv hb hk4 hc0
  simp only [List.length_cons] at *
  go_enter Tryz.func66, Tryz.ntmps66
  go_wp2_with (first
    | (refine st_new (L := []) hS rfl 68 rfl item_zero ?_; clear hS; intro w4 b4 hS; have hc4 := HK.out w4 hS.frame)
    | (refine st_store (c' := #[.bool false, .slice (some ⟨w4.heap.size, 0, none⟩) 1 1, .slice none 0 0]) (hS.new 5 #[.int .u8 (x : Int)]) rfl 68 _ _ rfl rfl rfl (by repeat (first | exact Upd.head | apply Upd.tail)) item_size (by rfl) (by rfl) (one3 rfl rfl rfl) ?_; have hz := hS.frame.size; clear hS; intro w5 hS))
  refine post_cell_two 4 5 6 68 rfl rfl rfl rfl rfl (hS.get (.tail .head)) hty rfl item_size rfl (partpost_yes (cnt := 1) (k := 1) HD.out rfl (by simp; omega) (by simp) (by omega) (fun X hX => ?_) hS.frame)
  have hB := hS.get .head
  unfold ItC
  refine ⟨rfl, ⟨_, _, rfl, Nat.le_refl _, by simp; omega, fun _ => ⟨w4.heap.size, 0, rfl, hB.lt, fun hm => by have := hX _ hm; omega, fun i hi => ?_⟩⟩, by simp⟩
  obtain rfl : i = 0 := by simp at hi; exact hi
  exact hB.cell rfl
set_option maxHeartbeats 1000000 in
set_option maxRecDepth 100000 in
theorem part_deep (j : Nat) (v : Value) (x : Nat) (r : List Nat) (w : World) (hn : (x :: r).length ≤ 16777216) (hv : RdA [] w v (x :: r)) (hx : 192 ≤ x) (hj : j = 0) : Calls Tryz.prog 66 #[v, .int .i64 (j : Int)] w (PartPost j (x :: r) w) := by
  obtain ⟨f0, f1, f2, hty, _⟩ := item_ty
  have hS := St.start w
  obtain ⟨p, n, c, rfl⟩ := slice_keep hv
  obtain ⟨p', c', hp, hcap, hb, h4⟩ := id hv
  have hxb := hb x List.mem_cons_self
  cases hp
  obtain ⟨b, o, rfl, hbw, _, h8⟩ := h4 (by simp)
  have hc0 := h8 0 (by simp)
  rw [Nat.add_zero] at hc0
  simp only [List.getD_cons_zero] at hc0
  have hdec : dec j (x :: r) = .error 3 := by rw [dec_eq, if_pos ⟨by simpa using hx, hj⟩]
  have HD := Lib.hid hdec
  subst hj
  have hx2 : ¬ (x : Int) < 128 := by omega
  have hx3 : (192 : Int) ≤ x := by omega
  have hk4 : ∀ w' : World, Tch [] w w' → w'.cell? ⟨b, o, none⟩ = some (.int .u8 (x : Int)) := fun w' hT => (hT.cell (p := ⟨b, o, none⟩) hbw (by simp)).trans hc0
  have HK := Lib.hid hk4
  clear hdec h8 h4 hv hb hk4 hc0
  simp only [List.length_cons] at *
  go_enter Tryz.func66, Tryz.ntmps66
  go_wp2_with (first
    | (refine st_new (L := []) hS rfl 68 rfl item_zero ?_; clear hS; intro w4 b4 hS; have hc4 := HK.out w4 hS.frame)
    | (refine st_store (c' := #[.bool false, .slice none 0 0, .slice none 0 0]) hS rfl 68 _ _ rfl rfl rfl (by repeat (first | exact Upd.head | apply Upd.tail)) item_size (by rfl) (by rfl) (one3 rfl rfl rfl) ?_; clear hS; intro w5 hS))
  exact post_cell_two 4 5 6 68 rfl rfl rfl rfl rfl (hS.get .head) hty rfl item_size rfl (partpost_no HD.out rfl hS.frame)
end Go.Proofs.YtdjhjgockgmbkaaGreatDoor

/- The document's part: heads that don't hold. -/
namespace Go.Proofs.YtdjhjgockgmbkaaGreatDoor
open Go.RowKit

set_option maxHeartbeats 1000000 in
set_option maxRecDepth 100000 in
theorem part_short_nofit (j : Nat) (v : Value) (x : Nat) (r : List Nat) (w : World) (hn : (x :: r).length ≤ 16777216) (hv : RdA [] w v (x :: r)) (hx : 128 ≤ x) (hg : ¬ (192 ≤ x ∧ j = 0)) (hs : spl (x :: r) = none) (h64 : x % 64 ≤ 55) (hf : r.length < x % 64) : Calls Tryz.prog 66 #[v, .int .i64 (j : Int)] w (PartPost j (x :: r) w) := by
  obtain ⟨f0, f1, f2, hty, _⟩ := item_ty
  have hS := St.start w
  obtain ⟨p, n, c, rfl⟩ := slice_keep hv
  obtain ⟨p', c', hp, hcap, hb, h4⟩ := id hv
  have hxb := hb x List.mem_cons_self
  cases hp
  obtain ⟨b, o, rfl, hbw, _, h8⟩ := h4 (by simp)
  have hc0 := h8 0 (by simp)
  rw [Nat.add_zero] at hc0
  simp only [List.getD_cons_zero] at hc0
  have hdec : dec j (x :: r) = .error 4 := by rw [dec_eq, if_neg (by simpa using hg), hs]
  have HD := Lib.hid hdec
  have hx2 : ¬ (x : Int) < 128 := by omega
  have hxx : (192 ≤ x ∧ 0 < j) ∨ x < 192 := by
    rcases Nat.lt_or_ge x 192 with h | h
    · exact .inr h
    · exact .inl ⟨h, by rcases Nat.eq_zero_or_pos j with h0 | h0; exact absurd ⟨h, h0⟩ hg; exact h0⟩
  obtain ⟨N, hN⟩ : ∃ N, N = x % 64 := ⟨_, rfl⟩
  have hand := and63 x hxb
  rw [← hN] at hand
  have hk4 : ∀ w' : World, Tch [] w w' → w'.cell? ⟨b, o, none⟩ = some (.int .u8 (x : Int)) := fun w' hT => (hT.cell (p := ⟨b, o, none⟩) hbw (by simp)).trans hc0
  have HK := Lib.hid hk4
  have hlt55 : ¬ (55 : Int) < (N : Int) := by omega
  have hfit : ((r.length + 1 : Nat) : Int) - 1 < (N : Int) := by omega
  clear hdec h8 h4 hv hb hk4 hc0 hs hg hN
  simp only [List.length_cons] at *
  clear hf h64
  rcases hxx with ⟨hx3, hj⟩ | hx3
  · have hx4 : (192 : Int) ≤ x := by omega
    have hj0 : ((j : Int) == 0) = false := by rw [beq_eq_false_iff_ne]; omega
    have hj1 : ¬ (j : Int) = 0 := by omega
    clear hx3 hj
    go_enter Tryz.func66, Tryz.ntmps66
    go_wp2_with (first | (refine st_new (L := []) hS rfl 68 rfl item_zero ?_; clear hS; intro w4 b4 hS; have hc4 := HK.out w4 hS.frame) | (refine st_store (c' := #[.bool false, .slice none 0 0, .slice none 0 0]) hS rfl 68 _ _ rfl rfl rfl (by repeat (first | exact Upd.head | apply Upd.tail)) item_size (by rfl) (by rfl) (one3 rfl rfl rfl) ?_; clear hS; intro w5 hS))
    exact post_cell_two 4 5 6 68 rfl rfl rfl rfl rfl (hS.get .head) hty rfl item_size rfl (partpost_no HD.out rfl hS.frame)
  · have hx4 : ¬ (192 : Int) ≤ x := by omega
    clear hx3
    go_enter Tryz.func66, Tryz.ntmps66
    go_wp2_with (first | (refine st_new (L := []) hS rfl 68 rfl item_zero ?_; clear hS; intro w4 b4 hS; have hc4 := HK.out w4 hS.frame) | (refine st_store (c' := #[.bool false, .slice none 0 0, .slice none 0 0]) hS rfl 68 _ _ rfl rfl rfl (by repeat (first | exact Upd.head | apply Upd.tail)) item_size (by rfl) (by rfl) (one3 rfl rfl rfl) ?_; clear hS; intro w5 hS))
    exact post_cell_two 4 5 6 68 rfl rfl rfl rfl rfl (hS.get .head) hty rfl item_size rfl (partpost_no HD.out rfl hS.frame)
set_option maxHeartbeats 1000000 in
set_option maxRecDepth 100000 in
theorem part_short_one (j : Nat) (v : Value) (x : Nat) (r : List Nat) (w : World) (hn : (x :: r).length ≤ 16777216) (hv : RdA [] w v (x :: r)) (hx : 128 ≤ x) (hg : ¬ (192 ≤ x ∧ j = 0)) (hs : spl (x :: r) = none) (hx9 : x = 129) (hr : 0 < r.length) (hy : r.getD 0 0 < 128) : Calls Tryz.prog 66 #[v, .int .i64 (j : Int)] w (PartPost j (x :: r) w) := by
  obtain ⟨f0, f1, f2, hty, _⟩ := item_ty
  have hS := St.start w
  obtain ⟨p, n, c, rfl⟩ := slice_keep hv
  obtain ⟨p', c', hp, hcap, hb, h4⟩ := id hv
  have hxb := hb x List.mem_cons_self
  cases hp
  obtain ⟨b, o, rfl, hbw, _, h8⟩ := h4 (by simp)
  have hc0 := h8 0 (by simp)
  rw [Nat.add_zero] at hc0
  simp only [List.getD_cons_zero] at hc0
  have hdec : dec j (x :: r) = .error 4 := by rw [dec_eq, if_neg (by simpa using hg), hs]
  have HD := Lib.hid hdec
  subst hx9
  have hc1 := h8 1 (by simp; omega)
  simp only [List.getD_cons_succ] at hc1
  have hcap2 : r.length + 1 ≤ c := hcap
  have hk4 : ∀ w' : World, Tch [] w w' → w'.cell? ⟨b, o, none⟩ = some (.int .u8 129) := fun w' hT => (hT.cell (p := ⟨b, o, none⟩) hbw (by simp)).trans hc0
  have hk5 : ∀ w' : World, Tch [] w w' → w'.cell? ⟨b, o + 1, none⟩ = some (.int .u8 ((r.getD 0 0 : Nat) : Int)) := fun w' hT => (hT.cell (p := ⟨b, o + 1, none⟩) hbw (by simp)).trans hc1
  have hand : bits BinOp.and IntKind.i64 129 63 = 1 := and63 129 (by omega)
  have hy' : ((r.getD 0 0 : Nat) : Int) < 128 := by omega
  generalize r.getD 0 0 = y at *
  have HK := Lib.hid hk4
  have HK5 := Lib.hid hk5
  have hcc : ¬ c = 1 := by omega
  have hge : ¬ ((r.length + 1 : Nat) : Int) - 1 < 1 := by omega
  clear hdec h8 h4 hv hb hk4 hk5 hc0 hc1 hs hg
  simp only [List.length_cons] at *
  go_enter Tryz.func66, Tryz.ntmps66
  go_wp2_with (first | (refine st_new (L := []) hS rfl 68 rfl item_zero ?_; clear hS; intro w4 b4 hS; have hc4 := HK.out w4 hS.frame; have hc5 := HK5.out w4 hS.frame) | (refine st_store (c' := #[.bool false, .slice none 0 0, .slice none 0 0]) hS rfl 68 _ _ rfl rfl rfl (by repeat (first | exact Upd.head | apply Upd.tail)) item_size (by rfl) (by rfl) (one3 rfl rfl rfl) ?_; clear hS; intro w5 hS))
  exact post_cell_two 4 5 6 68 rfl rfl rfl rfl rfl (hS.get .head) hty rfl item_size rfl (partpost_no HD.out rfl hS.frame)
end Go.Proofs.YtdjhjgockgmbkaaGreatDoor
