/- RlpPacks: the walk. -/
import Derived.Test.YtacnechjofnnjaaS7
namespace Go.Proofs.Ytacnechjofnnjaa
open Go.RowKit

/-- A text is not held to differ from itself. -/
theorem k_strNS {o : Oper} {a : Act} {ops : Array Oper} {rest : List Oper} {C : World → Prop} {Q : Act → Prop} {s : ByteArray} (hw : Region.wanted o (yielded ops a.tmps) = true) (x y : Operand) (yt : TypeId) (ho : o.op = .binOp .neq 9 x y yt) (hx : a.eval x = .string s) (hy : a.eval y = .string s)
    (h : KQ ops C Q rest (a.put o.dst (.bool false))) : KQ ops C Q (o :: rest) a :=
  k_pure hw (fun w => by unfold execOp; simp only [ho, hx, hy]; show Sem.run _ _ w = _; simp [eqGuard, binOp, Op.stringOp]) h
theorem RdA.ofBlkL {X : List Nat} {w : World} {b n : Nat} {l : List Nat} (hn : n = l.length) (h : Blk w b 5 (bc n fun i => l.getD i 0)) (hl : ∀ x ∈ l, x < 256) (hb : b ∉ X) : RdA X w (.slice (some ⟨b, 0, none⟩) n n) l := by
  subst hn
  exact ⟨_, _, rfl, Nat.le_refl _, hl, fun _ => ⟨b, 0, rfl, h.lt, hb, fun i hi => by rw [Nat.zero_add]; exact h.cell (bc_get hi)⟩⟩
theorem ItC.up' {X : List Nat} {w : World} {k j : Nat} {x y z : Value} {t : It} (h : ItC X w k x y z t) (hj : k ≤ j) : ItC X w j x y z t := h.up hj
set_option maxHeartbeats 4000000 in
set_option maxRecDepth 100000 in
theorem packs_walk (k : Nat) (y0 yb yl : Value) (it : It) (w : World) (hit : ItC [] w k y0 yb yl it) (hitr : ItR [] w k y0 yb yl) :
    Calls Try.prog 3 #[.agg #[y0, yb, yl]] w fun e w' => e = .returned (.bool true) ∧ Tch [] w w' := by
  have hS := St.start w
  obtain ⟨f0, f1, f2, hty, _⟩ := item_ty
  have HB := Lib.hid (fun (w' : World) (h : Tch [] w w') => big_any k y0 yb yl w' (hitr.tch h))
  have HP := Lib.hid (fun (w' : World) (h : Tch [] w w') => pack_any k y0 yb yl it w' (hit.tch h))
  have HZ := Lib.hid hit
  go_enter Try.func3, Try.ntmps3
  go_upto_region 3 with (first
    | (refine st_box (L := []) hS rfl 25 _ rfl rfl ?_; clear hS; intro w1 b1 hS; have d0 := (hS.get .head).cell (j := 0) rfl; have d1 := (hS.get .head).cell (j := 1) rfl; have d2 := (hS.get .head).cell (j := 2) rfl)
    | (go_at_call 5; refine (alive_any _).mono ?_; rintro e w2 ⟨rfl, hT2⟩; replace hS := hS.call hT2; replace d0 := (hS.get .head).cell (j := 0) rfl; replace d1 := (hS.get .head).cell (j := 1) rfl; replace d2 := (hS.get .head).cell (j := 2) rfl)
    | (go_at_call 6; go_must (refine (HB.out _ hS.frame).mono ?_; rintro e w3 ⟨hT3, q, rfl, hq⟩; replace hS := hS.call hT3; clear hq; replace d0 := (hS.get .head).cell (j := 0) rfl; replace d1 := (hS.get .head).cell (j := 1) rfl; replace d2 := (hS.get .head).cell (j := 2) rfl)))
  cases q with
  | true =>
    clear hit hitr d0 d1 d2
    go_wp2
    go_ret
    exact ⟨rfl, hS.frame⟩
  | false =>
    by_cases hpp : dep it ≤ 32 ∧ (enc it).length ≤ 16777216
    · have HPK := Lib.hid (fun (w' : World) (h : Tch [] w w') => (HP.out w' h).mono fun e w'' h => packpost_yes' hpp h)
      have HRK := Lib.hid (fun (w' : World) (h : Tch [] w w') => refPack_yes k y0 yb yl it w' (hit.tch h) hpp)
      have HLT := Lib.hid (enc_lt hit hpp.2)
      obtain ⟨L, hL⟩ : ∃ L, L = (enc it).length := ⟨_, rfl⟩
      have hL6 : L ≤ 16777216 := by rw [hL]; exact hpp.2
      have HL := Lib.hid hL
      have HG := Lib.hid hpp
      rw [← hL] at HPK
      clear hit hitr hpp hL
      go_upto_region 7 with (first
        | (go_at_call 7; go_must (refine (HPK.out _ hS.frame).mono ?_; rintro e w5 ⟨hT5, bp, hbp, rfl, hBp⟩; replace hS := hS.callNew hT5 hBp hbp; clear hBp; replace d0 := (hS.get (.tail .head)).cell (j := 0) rfl; replace d1 := (hS.get (.tail .head)).cell (j := 1) rfl; replace d2 := (hS.get (.tail .head)).cell (j := 2) rfl))
        | (go_at_call 8; go_must (refine (HRK.out _ hS.frame).mono ?_; rintro e w6 ⟨v6, rfl, hT6, hv6⟩; replace hS := hS.call hT6; obtain ⟨p6, c6, rfl, hc6⟩ := id hv6; have HV6 := Lib.hid hv6; clear hv6 hc6)))
      clear d0 d1 d2
      have hBp := hS.get .head
      have hRp : RdA [] w6 (.slice (some ⟨bp, 0, none⟩) L L) (enc it) := by
        have := RdA.ofBlkL (n := L) HL.out hBp HLT.out (X := []) (by simp)
        exact this
      have KA := Lib.hid (fun (w' : World) (h : Tch [] w6 w') => (hRp.tch h).rdB)
      have KB := Lib.hid (fun (w' : World) (h : Tch [] w6 w') => (HV6.out.tch h).rdB)
      clear hBp
      refine k_seq (C := fun w' => Tch [] w6 w') (Tch.refl _ _) ?_
      refine k_intm rfl _ rfl rfl ?_; try simp only [Act.put, List.setIfInBounds_toArray, List.set_cons_zero, List.set_cons_succ]
      refine k_num rfl rfl rfl ?_; try simp only [Act.put, List.setIfInBounds_toArray, List.set_cons_zero, List.set_cons_succ]
      refine k_intm rfl _ rfl rfl ?_; try simp only [Act.put, List.setIfInBounds_toArray, List.set_cons_zero, List.set_cons_succ]
      refine k_neqs (t := false) rfl _ _ _ rfl rfl rfl (by decide) ?_; try simp only [Act.put, List.setIfInBounds_toArray, List.set_cons_zero, List.set_cons_succ]
      refine k_boolm rfl _ rfl rfl ?_; try simp only [Act.put, List.setIfInBounds_toArray, List.set_cons_zero, List.set_cons_succ]
      refine k_slice rfl _ rfl rfl ?_; try simp only [Act.put, List.setIfInBounds_toArray, List.set_cons_zero, List.set_cons_succ]
      refine k_conv rfl _ rfl rfl (fun w' h => KA.out w' h) ?_; try simp only [Act.put, List.setIfInBounds_toArray, List.set_cons_zero, List.set_cons_succ]
      refine k_slice rfl _ rfl rfl ?_; try simp only [Act.put, List.setIfInBounds_toArray, List.set_cons_zero, List.set_cons_succ]
      refine k_conv rfl _ rfl rfl (fun w' h => KB.out w' h) ?_; try simp only [Act.put, List.setIfInBounds_toArray, List.set_cons_zero, List.set_cons_succ]
      refine k_strNS rfl _ _ _ rfl rfl rfl ?_; try simp only [Act.put, List.setIfInBounds_toArray, List.set_cons_zero, List.set_cons_succ]
      refine k_pickF rfl _ _ _ rfl rfl rfl ?_; try simp only [Act.put, List.setIfInBounds_toArray, List.set_cons_zero, List.set_cons_succ]
      refine k_end ?_
      intro w9 hT9
      replace hS := hS.call hT9
      have HRD := Lib.hid ((read_any (.slice (some ⟨bp, 0, none⟩) L L) (enc it) w9 (by have := HG.out.2; omega) (hRp.tch hT9)).mono (R' := fun e w' => ∃ d p1 n1 c1 p2 n2 c2, e = .returned (.tuple #[.agg #[.bool d, .slice p1 n1 c1, .slice p2 n2 c2], .int .i64 0]) ∧ Tch [] w9 w' ∧ ItF w9 w' 34 (.bool d) (.slice p1 n1 c1) (.slice p2 n2 c2) it) (fun e w' hp => by
        obtain ⟨hT, d, p1, n1, c1, p2, n2, c2, rfl, hi⟩ := hp
        have hrd : rd (enc it) = .ok it := by rw [enc_rd HG.out.2, if_pos HG.out.1]
        have e1 : rdErr (enc it) = 0 := by unfold rdErr; rw [hrd]
        have e2 : rdItem (enc it) = it := by unfold rdItem; rw [hrd]
        rw [e1]
        rw [e2] at hi
        exact ⟨d, p1, n1, c1, p2, n2, c2, rfl, hT, hi⟩))
      clear hRp
      go_upto_region 12 with (first
        | (go_at_call 10; go_must (refine HRD.out.mono ?_; rintro e w10 ⟨d, p1, n1, c1, p2, n2, c2, rfl, hT10, hx10⟩; have HX := Lib.hid hx10; have HBL := Lib.hid (And.intro (hS.get .head).lt (hS.get (.tail .head)).lt); replace hS := hS.call hT10; clear hx10; have HF := Lib.hid hS.frame; have HGE := Lib.hid (And.intro ((hS.own .head).resolve_right (by simp)) ((hS.own (.tail .head)).resolve_right (by simp))); have HNE := Lib.hid hS.apart2; have hS' := St.two (hS.get .head) (hS.get (.tail .head)) HNE.out; clear hS; have hS := hS'; clear hS'))
        | (refine st_new (L := [(bp, 5, bc L fun i => (enc it).getD i 0), (b1, 25, #[y0, yb, yl])]) hS rfl 25 rfl item_zero ?_; clear hS; intro w11 b9 hS)
        | (refine st_store (c' := #[.bool d, .slice p1 n1 c1, .slice p2 n2 c2]) hS rfl 25 _ _ rfl rfl rfl (by repeat (first | exact Upd.head | apply Upd.tail)) item_size (by rfl) (by rfl) (one3 rfl rfl rfl) ?_; clear hS; intro w12 hS))
      have H12 := Lib.hid hS
      clear hS
      go_wp2
      go_loopw [11] (fun i wr => ∃ (m : Nat) (f : Nat → Nat), i = .int .i64 (m : Int) ∧ m ≤ L ∧ St [bp, b1] w10 wr [(b9, 25, #[.bool d, .slice p1 n1 c1, .slice p2 n2 c2]), (bp, 5, bc L f), (b1, 25, #[y0, yb, yl])] ∧ Hid (∀ i, i < L → f i < 256)) (fun i _ => L - (intOf i).toNat)
      case atStart => exact ⟨0, _, rfl, Nat.zero_le _, H12.out, Lib.hid (fun i hi => by
        have hi' : i < (enc it).length := by have := HL.out; omega
        have e : (enc it).getD i 0 = (enc it)[i] := by simp [hi']
        show (enc it).getD i 0 < 256
        rw [e]; exact HLT.out _ (List.getElem_mem hi'))⟩
      case round =>
        obtain ⟨m, f, rfl, hm, hS, HFB⟩ := hrel
        by_cases hlt : m < L
        · have e1 : (m : Int) < (L : Int) := by omega
          have e0 : (0 : Int) ≤ (m : Int) := by omega
          have hcl := (hS.get (.tail .head)).cell (bc_get hlt)
          have hx := HFB.out m hlt
          have hxo : bits BinOp.xor IntKind.u8 ((f m : Nat) : Int) 255 = ((f m ^^^ 255 : Nat) : Int) := u8_xor_nat (f m) 255 hx (by decide)
          have hxb : f m ^^^ 255 < 256 := Nat.xor_lt_two_pow (n := 8) hx (by decide)
          obtain ⟨x, hxx⟩ : ∃ x, x = f m := ⟨_, rfl⟩
          rw [← hxx] at hcl hx hxo hxb
          obtain ⟨y, hyy⟩ : ∃ y, y = x ^^^ 255 := ⟨_, rfl⟩
          rw [← hyy] at hxo hxb
          have HSET := Lib.hid (bc_set (f := f) (v := y) hlt)
          clear hxx hyy
          go_wp2_with (refine st_store1 (b := bp) (j := m) hS rfl 5 _ _ rfl (by first | rfl | (rw [Nat.zero_add]; rfl)) rfl u8_size (by repeat (first | exact Upd.head | apply Upd.tail)) (by rw [bc_size]; exact hlt) ?_; clear hS; intro w13 hS)
          go_roundw
          case rel => exact ⟨m + 1, _, by go_num, hlt, by rw [← HSET.out]; exact hS, Lib.hid (fun i hi => by
            show (if i = m then y else f i) < 256
            split
            · exact hxb
            · exact HFB.out i hi)⟩
          case measure => simp [intOf]; omega
        · have e1 : ¬ (m : Int) < (L : Int) := by omega
          have hB9 := hS.get .head
          have hB1 := hS.get (.tail (.tail .head))
          have hx1 : ItC [bp, b1] wr 34 (.bool d) (.slice p1 n1 c1) (.slice p2 n2 c2) it := (HX.out [bp, b1] (fun x hx => by
            simp only [List.mem_cons, List.not_mem_nil, or_false] at hx
            rcases hx with rfl | rfl
            · exact HBL.out.1
            · exact HBL.out.2)).tch hS.frame
          have hi1 : ItC [bp, b1] wr k y0 yb yl it := ((HZ.out.mono (Y := [bp, b1]) (fun x hx => .inr (by
            simp only [List.mem_cons, List.not_mem_nil, or_false] at hx
            rcases hx with rfl | rfl
            · exact HGE.out.1
            · exact HGE.out.2))).tch (HF.out.mono (by simp))).tch hS.frame
          have HSM := Lib.hid (fun (w' : World) (h : Tch [] wr w') => (same_any (max 34 k) _ _ _ _ _ _ _ _ w' (((hx1.mono (Y := []) (by simp)).tch h).up (Nat.le_max_left _ _)) (((hi1.mono (Y := []) (by simp)).tch h).up (Nat.le_max_right _ _))).mono (R' := fun e w'' => e = .returned (.bool true) ∧ Tch [] wr w'') (fun e w'' h2 => ⟨by rw [h2.1, (eqI_iff _ _).2 rfl], h.trans h2.2⟩))
          have KSM := HSM
          have HEND := Lib.hid (HF.out.fresh hS.frame (fun y hy => by
            simp only [List.mem_cons, List.not_mem_nil, or_false] at hy
            rcases hy with rfl | rfl
            · exact HGE.out.1
            · exact HGE.out.2))
          clear hx1 hi1 hS
          go_upto_region 16 with (fail)
          refine k_seq (C := fun w' => Tch [] wr w') (Tch.refl _ _) ?_
          refine k_intm rfl _ rfl rfl ?_; try simp only [Act.put, List.setIfInBounds_toArray, List.set_cons_zero, List.set_cons_succ]
          refine k_num rfl rfl rfl ?_; try simp only [Act.put, List.setIfInBounds_toArray, List.set_cons_zero, List.set_cons_succ]
          refine k_ints rfl _ _ _ rfl rfl rfl rfl ?_; try simp only [Act.put, List.setIfInBounds_toArray, List.set_cons_zero, List.set_cons_succ]
          refine k_boolm rfl _ rfl rfl ?_; try simp only [Act.put, List.setIfInBounds_toArray, List.set_cons_zero, List.set_cons_succ]
          refine k_loadS rfl 25 _ rfl rfl (fun w h => h.blk hB9 (by simp)) hty item_size rfl ?_; try simp only [Act.put, List.setIfInBounds_toArray, List.set_cons_zero, List.set_cons_succ]
          refine k_loadS rfl 25 _ rfl rfl (fun w h => h.blk hB1 (by simp)) hty item_size rfl ?_; try simp only [Act.put, List.setIfInBounds_toArray, List.set_cons_zero, List.set_cons_succ]
          refine k_callC2 (by rfl) (by rfl) (by rfl) (by rfl) Try.call11 (by exact KSM.out) ?_; try simp only [Act.put, List.setIfInBounds_toArray, List.set_cons_zero, List.set_cons_succ]
          refine k_pickT rfl _ _ _ rfl rfl rfl ?_; try simp only [Act.put, List.setIfInBounds_toArray, List.set_cons_zero, List.set_cons_succ]
          refine k_boola rfl _ rfl rfl ?_; try simp only [Act.put, List.setIfInBounds_toArray, List.set_cons_zero, List.set_cons_succ]
          refine k_end ?_
          intro w14 hT14
          go_wp2
          go_ret
          exact ⟨rfl, HEND.out.trans hT14⟩
    · have HPK := Lib.hid (fun (w' : World) (h : Tch [] w w') => (HP.out w' h).mono fun e w'' h => packpost_no' hpp h)
      have HRK := Lib.hid (fun (w' : World) (h : Tch [] w w') => refPack_no k y0 yb yl it w' (hit.tch h) hpp)
      clear hit hitr hpp
      go_upto_region 7 with (first
        | (go_at_call 7; go_must (refine (HPK.out _ hS.frame).mono ?_; rintro e w5 ⟨hT5, rfl⟩; replace hS := hS.call hT5; replace d0 := (hS.get .head).cell (j := 0) rfl; replace d1 := (hS.get .head).cell (j := 1) rfl; replace d2 := (hS.get .head).cell (j := 2) rfl))
        | (go_at_call 8; go_must (refine (HRK.out _ hS.frame).mono ?_; rintro e w6 ⟨rfl, hT6⟩; replace hS := hS.call hT6)))
      clear d0 d1 d2
      have KA := Lib.hid (fun (w' : World) (_ : Tch [] w6 w') => RdB.nil w')
      have KB := KA
      refine k_seq (C := fun w' => Tch [] w6 w') (Tch.refl _ _) ?_
      refine k_intm rfl _ rfl rfl ?_; try simp only [Act.put, List.setIfInBounds_toArray, List.set_cons_zero, List.set_cons_succ]
      refine k_num rfl rfl rfl ?_; try simp only [Act.put, List.setIfInBounds_toArray, List.set_cons_zero, List.set_cons_succ]
      refine k_intm rfl _ rfl rfl ?_; try simp only [Act.put, List.setIfInBounds_toArray, List.set_cons_zero, List.set_cons_succ]
      refine k_neqs (t := false) rfl _ _ _ rfl rfl rfl (by decide) ?_; try simp only [Act.put, List.setIfInBounds_toArray, List.set_cons_zero, List.set_cons_succ]
      refine k_boolm rfl _ rfl rfl ?_; try simp only [Act.put, List.setIfInBounds_toArray, List.set_cons_zero, List.set_cons_succ]
      refine k_slice rfl _ rfl rfl ?_; try simp only [Act.put, List.setIfInBounds_toArray, List.set_cons_zero, List.set_cons_succ]
      refine k_conv rfl _ rfl rfl (fun w' h => KA.out w' h) ?_; try simp only [Act.put, List.setIfInBounds_toArray, List.set_cons_zero, List.set_cons_succ]
      refine k_slice rfl _ rfl rfl ?_; try simp only [Act.put, List.setIfInBounds_toArray, List.set_cons_zero, List.set_cons_succ]
      refine k_conv rfl _ rfl rfl (fun w' h => KB.out w' h) ?_; try simp only [Act.put, List.setIfInBounds_toArray, List.set_cons_zero, List.set_cons_succ]
      refine k_strNS rfl _ _ _ rfl rfl rfl ?_; try simp only [Act.put, List.setIfInBounds_toArray, List.set_cons_zero, List.set_cons_succ]
      refine k_pickF rfl _ _ _ rfl rfl rfl ?_; try simp only [Act.put, List.setIfInBounds_toArray, List.set_cons_zero, List.set_cons_succ]
      refine k_end ?_
      intro w9 hT9
      go_wp2
      go_ret
      exact ⟨rfl, hS.frame.trans hT9⟩
end Go.Proofs.Ytacnechjofnnjaa
