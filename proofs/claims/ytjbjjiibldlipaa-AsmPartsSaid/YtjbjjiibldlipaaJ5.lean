/- The document's Print. -/
import Derived.Test.YtjbjjiibldlipaaJ4
namespace Go.Proofs.Ytjbjjiibldlipaa
open Go.RowKit

theorem wpList_of_quiet2 {P : Program} {ops : Array Oper} {C : World → Prop} {Q : Exit → Act → World → Prop} {rest : List Oper} : ∀ (l : List Oper) (a : Act) (w : World), C w → wpQuiet P ops C (fun a' => ∀ w', C w' → wpList P ops Q rest a' w') l a → wpList P ops Q (l ++ rest) a w
  | [], a, w, hC, h => h w hC
  | o :: l, a, w, hC, h => by
    unfold wpQuiet at h
    rw [List.cons_append]
    unfold wpList
    split
    · rename_i hw
      rw [if_pos hw] at h
      exact .inl (Oper.wp_of_quiet hC (fun a w' hw' hK => wpList_of_quiet2 l a w' hw' hK) h)
    · rename_i hw
      rw [if_neg hw] at h
      exact wpList_of_quiet2 l _ w hC h
/-- A region in the text's order, its first n operations quiet. -/
theorem k_seq_head {id : Nat} {Q : Exit → Act → World → Prop} {a : Act} {w : World} {l : List Oper} {C : World → Prop} (n : Nat) (hC : C w)
    (h : KQ l.toArray C (fun a' => ∀ w', C w' → wpList Try.prog l.toArray Q (l.drop n) a' w') (l.take n) a) : (Code.region id l.toArray false).wp Try.prog Q a w :=
  wp_region_lit (by
    have := wpList_of_quiet2 (l.take n) a w hC h.go
    rwa [List.take_append_drop] at this)
section
variable {o : Oper} {a : Act} {ops : Array Oper} {rest : List Oper} {C : World → Prop} {Q : Act → Prop}
theorem k_slO {ty : TypeId} {x : Operand} {lo hi : Option Operand} {vx v : Value} {vl vh : Option Value} (hw : Region.wanted o (yielded ops a.tmps) = true) (ho : o.op = .slice ty x lo hi none) (hx : a.eval x = vx) (hl : lo.map a.eval = vl) (hh : hi.map a.eval = vh)
    (hr : ∀ w, (Instr.sliceAt ty vx vl vh none).run Try.prog w = .ok v w) (h : KQ ops C Q rest (a.put o.dst v)) : KQ ops C Q (o :: rest) a :=
  k_pure hw (fun w => by unfold execOp; simp only [ho, hx, hl, hh, Option.map_none, Sem.run_bind, hr, Result.andThen_ok, Sem.run_pure]) h
theorem k_addL {l m : List Nat} {s : ByteArray} (hw : Region.wanted o (yielded ops a.tmps) = true) (ty : TypeId) (x y : Operand) (yt : TypeId) (ho : o.op = .binOp .add ty x y yt) (hx : a.eval x = .string (strB l)) (hy : a.eval y = .string s) (hs : s = strB m) (hm : l.length + m.length ≤ 100000000)
    (h : KQ ops C Q rest (a.put o.dst (.string (strB (l ++ m))))) : KQ ops C Q (o :: rest) a := by
  subst hs
  refine k_addS hw ty x y yt ho hx hy (by rw [strB_size, strB_size]; exact hm) ?_
  rw [strB_append]; exact h
end
theorem rtxt_any (v : Value) (L : List Nat) (w : World) (hm : L.length ≤ 1000000) (hv : RdB w v L) :
    Calls Try.prog 20 #[v] w fun e w' => e = .returned (.string (strB (txtN L))) ∧ Tch [] w w' := by
  rw [strB_txtN]; exact refText_any v L w hm hv
theorem drop_cons {L : List Nat} {k : Nat} (h : k < L.length) : ∃ x, L.drop k = x :: L.drop (k + 1) ∧ L.getD k 0 = x := by
  refine ⟨L[k], List.drop_eq_getElem_cons h, by simp [h]⟩
set_option maxHeartbeats 4000000 in
set_option maxRecDepth 100000 in
theorem rprint_any (v : Value) (L : List Nat) (w : World) (hv : RdB w v L) (hm : L.length ≤ 1000000) :
    Calls Try.prog 10 #[v] w (PrintPost L w) := by
  have hL : ∀ x ∈ L, x < 256 := hv.choose_spec.choose_spec.2.2.1
  have HLEN := Lib.hid (prt_len L hL)
  have HL := Lib.hid hL
  have HRD := Lib.hid hv
  clear hL
  obtain ⟨fs, hu⟩ := inf_type
  have HU := Lib.hid hu
  clear hu
  have h1 := allF_one' infD
  have hS := St.start w
  obtain ⟨p, c, rfl, hc, _, hcells⟩ := hv
  have HC := Lib.hid hcells
  clear hcells
  go_enter Try.func10, Try.ntmps10
  go_upto_region 4 with (first
    | (go_at_call 18; refine (all_any _).mono ?_; rintro e w3 ⟨rfl, hT3⟩; replace hS := hS.call hT3)
    | (refine st_new (c := allZ) hS rfl 52 rfl all_zero ?_; clear hS; intro w4 b4 hS)
    | (refine st_store (b := b4) (c' := allA) hS rfl 52 _ _ rfl rfl rfl .head all_tsize (fl_size (m := 5) (fun i => rfl) 256) (allF_size _) h1 ?_; clear hS; intro w5 hS))
  go_loopw [3, 5] (fun s i wr => ∃ (k : Nat) (T : List Nat), s = .string (strB T) ∧ i = .int .i64 (k : Int) ∧ k ≤ L.length ∧ Hid (T ++ prt (L.drop k) = prt L) ∧ St [] w wr [(b4, 52, allA)]) (fun _ i _ => L.length - (intOf i).toNat)
  case atStart => exact ⟨0, [], rfl, rfl, Nat.zero_le _, Lib.hid rfl, hS⟩
  case round =>
    clear hS
    obtain ⟨k, T, rfl, rfl, hk, HT, hS⟩ := hrel
    by_cases hlt : k < L.length
    · obtain ⟨x, hdr, hgx⟩ := drop_cons hlt
      have hx : x < 256 := HL.out x (List.mem_of_mem_drop (i := k) (by rw [hdr]; exact List.mem_cons_self))
      obtain ⟨b0, o, rfl, hbw, hcell0⟩ := HC.out (by intro e; rw [e] at hlt; simp at hlt)
      have hcell := hcell0 k hlt
      rw [hgx] at hcell
      have HCELL := Lib.hid hcell
      have HDR := Lib.hid hdr
      have hrl : (L.drop (k + 1)).length = L.length - (k + 1) := List.length_drop
      generalize hr0 : L.drop (k + 1) = r at *
      have HR0 := Lib.hid hr0
      have ho := ownN_le x
      have hTl : T.length + 15 * (L.length - k) ≤ 100000000 - 1000 ∨ True := .inr trivial
      have hTl : T.length ≤ 15 * L.length := by
        have h2 := congrArg List.length HT.out
        have h3 := HLEN.out
        rw [List.length_append] at h2; omega
      have hnl : (nm x).length ≤ 14 := (nm_short ⟨x, hx⟩).1
      have HN := Lib.hid (nm_lt ⟨x, hx⟩)
      have HMID := Lib.hid (all_mid infD x hx)
      have HI := Lib.hid (idx_all b4 x hx .u8)
      have HV := Lib.hid (mkR_val x hx)
      have hone := mkR_one (infD x)
      have hk1 : IntKind.i64.wrap ((k : Int) + 1) = ((k + 1 : Nat) : Int) := by rw [IntKind.wrap_i64]; omega
      have hk2 : IntKind.i64.wrap (((k + 1 : Nat) : Int) + ((ownN x : Nat) : Int)) = ((k + 1 + ownN x : Nat) : Int) := by rw [IntKind.wrap_i64]; omega
      have hk3 : IntKind.i64.wrap ((L.length : Int) - (k : Int)) = ((L.length - k : Nat) : Int) := by rw [IntKind.wrap_i64]; omega
      have hk4 : IntKind.i64.wrap (((L.length - k : Nat) : Int) - 1) = ((r.length : Nat) : Int) := by rw [IntKind.wrap_i64]; omega
      have HW := Lib.hid (And.intro hk1 (And.intro hk2 (And.intro hk3 hk4)))
      clear hk1 hk2 hk3 hk4 hcell hcell0 hdr hr0 hgx
      go_upto_region 5 with (fail)
      refine k_seq_head (C := fun w' => St [] w w' [(b4, 52, allA)]) 6 hS ?_
      simp only [List.take_succ_cons, List.take_zero]
      refine k_val (v := .slice (some ⟨b0, o, none⟩) L.length c) rfl _ (.inl rfl) rfl ?_; try simp only [Act.put, List.setIfInBounds_toArray, List.set_cons_zero, List.set_cons_succ]
      refine k_val (v := .int .i64 (k : Int)) rfl _ (.inl rfl) rfl ?_; try simp only [Act.put, List.setIfInBounds_toArray, List.set_cons_zero, List.set_cons_succ]
      refine k_idxSl (j := k) rfl _ _ _ rfl rfl rfl bytes_ty u8_size hlt ?_; try simp only [Act.put, List.setIfInBounds_toArray, List.set_cons_zero, List.set_cons_succ]
      refine k_cellC (v := .int .u8 (x : Int)) rfl _ _ rfl rfl (fun w' h => (h.frame.cell (p := ⟨b0, o + k, none⟩) hbw (by simp)).trans HCELL.out) u8_agg ?_; try simp only [Act.put, List.setIfInBounds_toArray, List.set_cons_zero, List.set_cons_succ]
      refine k_idxG (vx := .pointer (some ⟨b4, 0, none⟩)) (vy := .int .u8 (x : Int)) rfl rfl rfl rfl HI.out ?_; try simp only [Act.put, List.setIfInBounds_toArray, List.set_cons_zero, List.set_cons_succ]
      refine k_ldMid (c := mkR (infD x)) (b := b4) (q := x * 5) rfl rfl rfl .head HMID.out HU.out rfl inf_tsize ?_; try simp only [Act.put, List.setIfInBounds_toArray, List.set_cons_zero, List.set_cons_succ]
      refine k_end ?_
      clear hS
      intro w6 hS
      simp only [List.drop_succ_cons, List.drop_zero]
      refine st_new (c := infZ) hS rfl 51 rfl inf_zero ?_
      clear hS
      intro w7 b6 hS
      try simp only [Act.put, List.setIfInBounds_toArray, List.set_cons_zero, List.set_cons_succ]
      refine st_store (b := b6) (c' := mkR (infD x)) hS rfl 51 _ _ rfl rfl rfl .head inf_tsize rfl rfl hone ?_
      clear hS
      intro w8 hS
      try simp only [Act.put, List.setIfInBounds_toArray, List.set_cons_zero, List.set_cons_succ]
      rw [HV.out] at hS
      go_upto_region 6 with (fail)
      refine k_seq (C := fun w' => St [] w w' [(b6, 51, #[.int .u8 ((infD x).1 : Int), .string (strB (nm x)), .int .i64 ((ins x).2.1 : Int), .int .i64 ((ins x).2.2.1 : Int), .int .i64 ((ins x).2.2.2 : Int)]), (b4, 52, allA)]) hS ?_
      refine k_val (v := .slice (some ⟨b0, o, none⟩) L.length c) rfl _ (.inl rfl) rfl ?_; try simp only [Act.put, List.setIfInBounds_toArray, List.set_cons_zero, List.set_cons_succ]
      refine k_val (v := .int .i64 (k : Int)) rfl _ (.inl rfl) rfl ?_; try simp only [Act.put, List.setIfInBounds_toArray, List.set_cons_zero, List.set_cons_succ]
      refine k_idxSl (j := k) rfl _ _ _ rfl rfl rfl bytes_ty u8_size hlt ?_; try simp only [Act.put, List.setIfInBounds_toArray, List.set_cons_zero, List.set_cons_succ]
      refine k_cellC (v := .int .u8 (x : Int)) rfl _ _ rfl rfl (fun w' h => (h.frame.cell (p := ⟨b0, o + k, none⟩) hbw (by simp)).trans HCELL.out) u8_agg ?_; try simp only [Act.put, List.setIfInBounds_toArray, List.set_cons_zero, List.set_cons_succ]
      refine k_callC1 (v1 := .int .u8 (x : Int)) rfl rfl rfl Try.call19 (fun w' h => (rownA_any x w' hx).mono fun e w'' h2 => ⟨h2.1, h2.2 ▸ h⟩) ?_; try simp only [Act.put, List.setIfInBounds_toArray, List.set_cons_zero, List.set_cons_succ]
      refine k_val (v := .int .i64 ((ownN x : Nat) : Int)) rfl _ (.inr rfl) rfl ?_; try simp only [Act.put, List.setIfInBounds_toArray, List.set_cons_zero, List.set_cons_succ]
      refine k_end ?_
      clear hS
      intro w9 hS
      by_cases h0 : nm x = []
      · have HP := Lib.hid (show nm x = [] ∨ r.length < ownN x from .inl h0)
        have HB := Lib.hid (show (nm x == []) = true by rw [h0]; rfl)
        clear h0
        go_upto_region 7 with (fail)
        refine k_seq (C := fun w' => St [] w w' [(b6, 51, #[.int .u8 ((infD x).1 : Int), .string (strB (nm x)), .int .i64 ((ins x).2.1 : Int), .int .i64 ((ins x).2.2.1 : Int), .int .i64 ((ins x).2.2.2 : Int)]), (b4, 52, allA)]) hS ?_
        refine k_fa (v := .pointer (some ⟨b6, 0, none⟩)) rfl rfl rfl (inf_fa1 b6 0) ?_; try simp only [Act.put, List.setIfInBounds_toArray, List.set_cons_zero, List.set_cons_succ]
        refine k_cell (v := .string (strB (nm x))) (b := b6) (j := 1) rfl _ _ rfl rfl .head rfl string_agg ?_; try simp only [Act.put, List.setIfInBounds_toArray, List.set_cons_zero, List.set_cons_succ]
        refine k_eqS (l := nm x) (m := []) (t := true) rfl _ _ _ rfl rfl rfl HN.out (by simp) HB.out ?_; try simp only [Act.put, List.setIfInBounds_toArray, List.set_cons_zero, List.set_cons_succ]
        refine k_val (v := .bool true) rfl _ (.inl rfl) rfl ?_; try simp only [Act.put, List.setIfInBounds_toArray, List.set_cons_zero, List.set_cons_succ]
        refine k_skip rfl rfl rfl rfl rfl ?_; try simp only [Act.put, List.setIfInBounds_toArray, List.set_cons_zero, List.set_cons_succ]
        refine k_skip rfl rfl rfl rfl rfl ?_; try simp only [Act.put, List.setIfInBounds_toArray, List.set_cons_zero, List.set_cons_succ]
        refine k_skip rfl rfl rfl rfl rfl ?_; try simp only [Act.put, List.setIfInBounds_toArray, List.set_cons_zero, List.set_cons_succ]
        refine k_skip rfl rfl rfl rfl rfl ?_; try simp only [Act.put, List.setIfInBounds_toArray, List.set_cons_zero, List.set_cons_succ]
        refine k_skip rfl rfl rfl rfl rfl ?_; try simp only [Act.put, List.setIfInBounds_toArray, List.set_cons_zero, List.set_cons_succ]
        refine k_skip rfl rfl rfl rfl rfl ?_; try simp only [Act.put, List.setIfInBounds_toArray, List.set_cons_zero, List.set_cons_succ]
        refine k_skip rfl rfl rfl rfl rfl ?_; try simp only [Act.put, List.setIfInBounds_toArray, List.set_cons_zero, List.set_cons_succ]
        refine k_pickT (t := true) rfl _ _ _ rfl rfl rfl ?_; try simp only [Act.put, List.setIfInBounds_toArray, List.set_cons_zero, List.set_cons_succ]
        refine k_end ?_
        clear hS
        intro w10 hS
        have HLN := Lib.hid (show lineN (x :: r) = (byteW ++ 32 :: txtN [x], 1) by rw [lineN_cons, if_pos HP.out])
        have hsl1 := sl_mid b0 o L.length c k (k + 1) (by omega) (by omega) (by omega)
        have e9 : k + 1 - k = 1 := by omega
        rw [e9] at hsl1
        have HSL1 := Lib.hid hsl1
        have HX1 : Hid (∀ w', Tch [] w w' → RdB w' (.slice (some ⟨b0, o + k, none⟩) 1 (c - k)) [x]) := Lib.hid (fun w' hT => by
          have h := (HRD.out.mid k (k + 1) (by omega) (by omega)).tch hT (by simp)
          rw [e9, HDR.out] at h
          exact h)
        have HT2 : Hid ((T ++ [66, 89, 84, 69, 32] ++ txtN [x] ++ [10]) ++ prt (L.drop (k + 1)) = prt L) := Lib.hid (by
          rw [← HT.out, HDR.out, prt_cons, HLN.out, HR0.out]; simp [List.append_assoc, byteW])
        clear hsl1 e9
        go_upto_region 8 with (fail)
        refine k_seq (C := fun w' => St [] w w' [(b6, 51, #[.int .u8 ((infD x).1 : Int), .string (strB (nm x)), .int .i64 ((ins x).2.1 : Int), .int .i64 ((ins x).2.2.1 : Int), .int .i64 ((ins x).2.2.2 : Int)]), (b4, 52, allA)]) hS ?_
        refine k_val (v := .string (strB T)) rfl _ (.inl rfl) rfl ?_; try simp only [Act.put, List.setIfInBounds_toArray, List.set_cons_zero, List.set_cons_succ]
        refine k_addL (l := T) (m := [66, 89, 84, 69, 32]) rfl _ _ _ _ rfl rfl rfl rfl (by first | (simp only [List.length_append, txtN_length, List.length_cons, List.length_nil]; omega) | omega) ?_; try simp only [Act.put, List.setIfInBounds_toArray, List.set_cons_zero, List.set_cons_succ]
        refine k_val (v := .slice (some ⟨b0, o, none⟩) L.length c) rfl _ (.inl rfl) rfl ?_; try simp only [Act.put, List.setIfInBounds_toArray, List.set_cons_zero, List.set_cons_succ]
        refine k_val (v := .int .i64 (k : Int)) rfl _ (.inl rfl) rfl ?_; try simp only [Act.put, List.setIfInBounds_toArray, List.set_cons_zero, List.set_cons_succ]
        refine k_val (v := .int .i64 (k : Int)) rfl _ (.inl rfl) rfl ?_; try simp only [Act.put, List.setIfInBounds_toArray, List.set_cons_zero, List.set_cons_succ]
        refine k_add (m := (k : Int)) (n := 1) (s := ((k + 1 : Nat) : Int)) rfl _ _ _ _ rfl rfl rfl HW.out.1 ?_; try simp only [Act.put, List.setIfInBounds_toArray, List.set_cons_zero, List.set_cons_succ]
        refine k_slO (vx := .slice (some ⟨b0, o, none⟩) L.length c) (vl := some (.int .i64 (k : Int))) (vh := some (.int .i64 ((k + 1 : Nat) : Int))) rfl rfl rfl rfl rfl HSL1.out ?_; try simp only [Act.put, List.setIfInBounds_toArray, List.set_cons_zero, List.set_cons_succ]
        refine k_callC1 (v1 := .slice (some ⟨b0, o + k, none⟩) 1 (c - k)) rfl rfl rfl Try.call20 (fun w' h => (rtxt_any _ [x] w' (by simp) (HX1.out w' h.frame)).mono fun e w'' h2 => ⟨h2.1, h.call h2.2⟩) ?_; try simp only [Act.put, List.setIfInBounds_toArray, List.set_cons_zero, List.set_cons_succ]
        refine k_addL (l := T ++ [66, 89, 84, 69, 32]) (m := txtN [x]) rfl _ _ _ _ rfl rfl rfl rfl (by first | (simp only [List.length_append, txtN_length, List.length_cons, List.length_nil]; omega) | omega) ?_; try simp only [Act.put, List.setIfInBounds_toArray, List.set_cons_zero, List.set_cons_succ]
        refine k_addL (l := T ++ [66, 89, 84, 69, 32] ++ txtN [x]) (m := [10]) rfl _ _ _ _ rfl rfl rfl rfl (by first | (simp only [List.length_append, txtN_length, List.length_cons, List.length_nil]; omega) | omega) ?_; try simp only [Act.put, List.setIfInBounds_toArray, List.set_cons_zero, List.set_cons_succ]
        refine k_val (v := .string (strB (T ++ [66, 89, 84, 69, 32] ++ txtN [x] ++ [10]))) rfl _ (.inr rfl) rfl ?_; try simp only [Act.put, List.setIfInBounds_toArray, List.set_cons_zero, List.set_cons_succ]
        refine k_end ?_
        clear hS
        intro w11 hS
        go_wp2
        go_roundw
        case rel => exact ⟨k + 1, T ++ [66, 89, 84, 69, 32] ++ txtN [x] ++ [10], rfl, by go_num, hlt, HT2, hS.drop⟩
        case measure => simp [intOf]; omega
      · have HB := Lib.hid (show (nm x == []) = false by rw [beq_eq_false_iff_ne]; exact h0)
        by_cases h2 : r.length < ownN x
        · have HP := Lib.hid (show nm x = [] ∨ r.length < ownN x from .inr h2)
          have HD := Lib.hid (show decide (((r.length : Nat) : Int) < ((ownN x : Nat) : Int)) = true from decide_eq_true (by omega))
          clear h0 h2
          go_upto_region 7 with (fail)
          refine k_seq (C := fun w' => St [] w w' [(b6, 51, #[.int .u8 ((infD x).1 : Int), .string (strB (nm x)), .int .i64 ((ins x).2.1 : Int), .int .i64 ((ins x).2.2.1 : Int), .int .i64 ((ins x).2.2.2 : Int)]), (b4, 52, allA)]) hS ?_
          refine k_fa (v := .pointer (some ⟨b6, 0, none⟩)) rfl rfl rfl (inf_fa1 b6 0) ?_; try simp only [Act.put, List.setIfInBounds_toArray, List.set_cons_zero, List.set_cons_succ]
          refine k_cell (v := .string (strB (nm x))) (b := b6) (j := 1) rfl _ _ rfl rfl .head rfl string_agg ?_; try simp only [Act.put, List.setIfInBounds_toArray, List.set_cons_zero, List.set_cons_succ]
          refine k_eqS (l := nm x) (m := []) (t := false) rfl _ _ _ rfl rfl rfl HN.out (by simp) HB.out ?_; try simp only [Act.put, List.setIfInBounds_toArray, List.set_cons_zero, List.set_cons_succ]
          refine k_val (v := .bool false) rfl _ (.inl rfl) rfl ?_; try simp only [Act.put, List.setIfInBounds_toArray, List.set_cons_zero, List.set_cons_succ]
          refine k_val (v := .int .i64 ((ownN x : Nat) : Int)) rfl _ (.inl rfl) rfl ?_; try simp only [Act.put, List.setIfInBounds_toArray, List.set_cons_zero, List.set_cons_succ]
          refine k_val (v := .slice (some ⟨b0, o, none⟩) L.length c) rfl _ (.inl rfl) rfl ?_; try simp only [Act.put, List.setIfInBounds_toArray, List.set_cons_zero, List.set_cons_succ]
          refine k_lenSl (p := some ⟨b0, o, none⟩) (n := L.length) (c := c) rfl _ rfl rfl ?_; try simp only [Act.put, List.setIfInBounds_toArray, List.set_cons_zero, List.set_cons_succ]
          refine k_val (v := .int .i64 (k : Int)) rfl _ (.inl rfl) rfl ?_; try simp only [Act.put, List.setIfInBounds_toArray, List.set_cons_zero, List.set_cons_succ]
          refine k_sub (m := (L.length : Int)) (n := (k : Int)) (s := ((L.length - k : Nat) : Int)) rfl _ _ _ _ rfl rfl rfl HW.out.2.2.1 ?_; try simp only [Act.put, List.setIfInBounds_toArray, List.set_cons_zero, List.set_cons_succ]
          refine k_sub (m := ((L.length - k : Nat) : Int)) (n := 1) (s := ((r.length : Nat) : Int)) rfl _ _ _ _ rfl rfl rfl HW.out.2.2.2 ?_; try simp only [Act.put, List.setIfInBounds_toArray, List.set_cons_zero, List.set_cons_succ]
          refine j_gtr (m := ((ownN x : Nat) : Int)) (n := ((r.length : Nat) : Int)) (t := true) rfl _ _ _ rfl rfl rfl HD.out ?_; try simp only [Act.put, List.setIfInBounds_toArray, List.set_cons_zero, List.set_cons_succ]
          refine k_pickF (t := true) rfl _ _ _ rfl rfl rfl ?_; try simp only [Act.put, List.setIfInBounds_toArray, List.set_cons_zero, List.set_cons_succ]
          refine k_end ?_
          clear hS
          intro w10 hS
          have HLN := Lib.hid (show lineN (x :: r) = (byteW ++ 32 :: txtN [x], 1) by rw [lineN_cons, if_pos HP.out])
          have hsl1 := sl_mid b0 o L.length c k (k + 1) (by omega) (by omega) (by omega)
          have e9 : k + 1 - k = 1 := by omega
          rw [e9] at hsl1
          have HSL1 := Lib.hid hsl1
          have HX1 : Hid (∀ w', Tch [] w w' → RdB w' (.slice (some ⟨b0, o + k, none⟩) 1 (c - k)) [x]) := Lib.hid (fun w' hT => by
            have h := (HRD.out.mid k (k + 1) (by omega) (by omega)).tch hT (by simp)
            rw [e9, HDR.out] at h
            exact h)
          have HT2 : Hid ((T ++ [66, 89, 84, 69, 32] ++ txtN [x] ++ [10]) ++ prt (L.drop (k + 1)) = prt L) := Lib.hid (by
            rw [← HT.out, HDR.out, prt_cons, HLN.out, HR0.out]; simp [List.append_assoc, byteW])
          clear hsl1 e9
          go_upto_region 8 with (fail)
          refine k_seq (C := fun w' => St [] w w' [(b6, 51, #[.int .u8 ((infD x).1 : Int), .string (strB (nm x)), .int .i64 ((ins x).2.1 : Int), .int .i64 ((ins x).2.2.1 : Int), .int .i64 ((ins x).2.2.2 : Int)]), (b4, 52, allA)]) hS ?_
          refine k_val (v := .string (strB T)) rfl _ (.inl rfl) rfl ?_; try simp only [Act.put, List.setIfInBounds_toArray, List.set_cons_zero, List.set_cons_succ]
          refine k_addL (l := T) (m := [66, 89, 84, 69, 32]) rfl _ _ _ _ rfl rfl rfl rfl (by first | (simp only [List.length_append, txtN_length, List.length_cons, List.length_nil]; omega) | omega) ?_; try simp only [Act.put, List.setIfInBounds_toArray, List.set_cons_zero, List.set_cons_succ]
          refine k_val (v := .slice (some ⟨b0, o, none⟩) L.length c) rfl _ (.inl rfl) rfl ?_; try simp only [Act.put, List.setIfInBounds_toArray, List.set_cons_zero, List.set_cons_succ]
          refine k_val (v := .int .i64 (k : Int)) rfl _ (.inl rfl) rfl ?_; try simp only [Act.put, List.setIfInBounds_toArray, List.set_cons_zero, List.set_cons_succ]
          refine k_val (v := .int .i64 (k : Int)) rfl _ (.inl rfl) rfl ?_; try simp only [Act.put, List.setIfInBounds_toArray, List.set_cons_zero, List.set_cons_succ]
          refine k_add (m := (k : Int)) (n := 1) (s := ((k + 1 : Nat) : Int)) rfl _ _ _ _ rfl rfl rfl HW.out.1 ?_; try simp only [Act.put, List.setIfInBounds_toArray, List.set_cons_zero, List.set_cons_succ]
          refine k_slO (vx := .slice (some ⟨b0, o, none⟩) L.length c) (vl := some (.int .i64 (k : Int))) (vh := some (.int .i64 ((k + 1 : Nat) : Int))) rfl rfl rfl rfl rfl HSL1.out ?_; try simp only [Act.put, List.setIfInBounds_toArray, List.set_cons_zero, List.set_cons_succ]
          refine k_callC1 (v1 := .slice (some ⟨b0, o + k, none⟩) 1 (c - k)) rfl rfl rfl Try.call20 (fun w' h => (rtxt_any _ [x] w' (by simp) (HX1.out w' h.frame)).mono fun e w'' h2 => ⟨h2.1, h.call h2.2⟩) ?_; try simp only [Act.put, List.setIfInBounds_toArray, List.set_cons_zero, List.set_cons_succ]
          refine k_addL (l := T ++ [66, 89, 84, 69, 32]) (m := txtN [x]) rfl _ _ _ _ rfl rfl rfl rfl (by first | (simp only [List.length_append, txtN_length, List.length_cons, List.length_nil]; omega) | omega) ?_; try simp only [Act.put, List.setIfInBounds_toArray, List.set_cons_zero, List.set_cons_succ]
          refine k_addL (l := T ++ [66, 89, 84, 69, 32] ++ txtN [x]) (m := [10]) rfl _ _ _ _ rfl rfl rfl rfl (by first | (simp only [List.length_append, txtN_length, List.length_cons, List.length_nil]; omega) | omega) ?_; try simp only [Act.put, List.setIfInBounds_toArray, List.set_cons_zero, List.set_cons_succ]
          refine k_val (v := .string (strB (T ++ [66, 89, 84, 69, 32] ++ txtN [x] ++ [10]))) rfl _ (.inr rfl) rfl ?_; try simp only [Act.put, List.setIfInBounds_toArray, List.set_cons_zero, List.set_cons_succ]
          refine k_end ?_
          clear hS
          intro w11 hS
          go_wp2
          go_roundw
          case rel => exact ⟨k + 1, T ++ [66, 89, 84, 69, 32] ++ txtN [x] ++ [10], rfl, by go_num, hlt, HT2, hS.drop⟩
          case measure => simp [intOf]; omega
        · have HP := Lib.hid (show ¬ (nm x = [] ∨ r.length < ownN x) from fun h => h.elim h0 h2)
          have HD := Lib.hid (show decide (((r.length : Nat) : Int) < ((ownN x : Nat) : Int)) = false from decide_eq_false (by omega))
          clear h0
          go_upto_region 7 with (fail)
          refine k_seq (C := fun w' => St [] w w' [(b6, 51, #[.int .u8 ((infD x).1 : Int), .string (strB (nm x)), .int .i64 ((ins x).2.1 : Int), .int .i64 ((ins x).2.2.1 : Int), .int .i64 ((ins x).2.2.2 : Int)]), (b4, 52, allA)]) hS ?_
          refine k_fa (v := .pointer (some ⟨b6, 0, none⟩)) rfl rfl rfl (inf_fa1 b6 0) ?_; try simp only [Act.put, List.setIfInBounds_toArray, List.set_cons_zero, List.set_cons_succ]
          refine k_cell (v := .string (strB (nm x))) (b := b6) (j := 1) rfl _ _ rfl rfl .head rfl string_agg ?_; try simp only [Act.put, List.setIfInBounds_toArray, List.set_cons_zero, List.set_cons_succ]
          refine k_eqS (l := nm x) (m := []) (t := false) rfl _ _ _ rfl rfl rfl HN.out (by simp) HB.out ?_; try simp only [Act.put, List.setIfInBounds_toArray, List.set_cons_zero, List.set_cons_succ]
          refine k_val (v := .bool false) rfl _ (.inl rfl) rfl ?_; try simp only [Act.put, List.setIfInBounds_toArray, List.set_cons_zero, List.set_cons_succ]
          refine k_val (v := .int .i64 ((ownN x : Nat) : Int)) rfl _ (.inl rfl) rfl ?_; try simp only [Act.put, List.setIfInBounds_toArray, List.set_cons_zero, List.set_cons_succ]
          refine k_val (v := .slice (some ⟨b0, o, none⟩) L.length c) rfl _ (.inl rfl) rfl ?_; try simp only [Act.put, List.setIfInBounds_toArray, List.set_cons_zero, List.set_cons_succ]
          refine k_lenSl (p := some ⟨b0, o, none⟩) (n := L.length) (c := c) rfl _ rfl rfl ?_; try simp only [Act.put, List.setIfInBounds_toArray, List.set_cons_zero, List.set_cons_succ]
          refine k_val (v := .int .i64 (k : Int)) rfl _ (.inl rfl) rfl ?_; try simp only [Act.put, List.setIfInBounds_toArray, List.set_cons_zero, List.set_cons_succ]
          refine k_sub (m := (L.length : Int)) (n := (k : Int)) (s := ((L.length - k : Nat) : Int)) rfl _ _ _ _ rfl rfl rfl HW.out.2.2.1 ?_; try simp only [Act.put, List.setIfInBounds_toArray, List.set_cons_zero, List.set_cons_succ]
          refine k_sub (m := ((L.length - k : Nat) : Int)) (n := 1) (s := ((r.length : Nat) : Int)) rfl _ _ _ _ rfl rfl rfl HW.out.2.2.2 ?_; try simp only [Act.put, List.setIfInBounds_toArray, List.set_cons_zero, List.set_cons_succ]
          refine j_gtr (m := ((ownN x : Nat) : Int)) (n := ((r.length : Nat) : Int)) (t := false) rfl _ _ _ rfl rfl rfl HD.out ?_; try simp only [Act.put, List.setIfInBounds_toArray, List.set_cons_zero, List.set_cons_succ]
          refine k_pickF (t := false) rfl _ _ _ rfl rfl rfl ?_; try simp only [Act.put, List.setIfInBounds_toArray, List.set_cons_zero, List.set_cons_succ]
          refine k_end ?_
          clear hS
          intro w10 hS
          go_upto_region 10 with (fail)
          refine k_seq (C := fun w' => St [] w w' [(b6, 51, #[.int .u8 ((infD x).1 : Int), .string (strB (nm x)), .int .i64 ((ins x).2.1 : Int), .int .i64 ((ins x).2.2.1 : Int), .int .i64 ((ins x).2.2.2 : Int)]), (b4, 52, allA)]) hS ?_
          refine k_val (v := .string (strB T)) rfl _ (.inl rfl) rfl ?_; try simp only [Act.put, List.setIfInBounds_toArray, List.set_cons_zero, List.set_cons_succ]
          refine k_fa (v := .pointer (some ⟨b6, 0, none⟩)) rfl rfl rfl (inf_fa1 b6 0) ?_; try simp only [Act.put, List.setIfInBounds_toArray, List.set_cons_zero, List.set_cons_succ]
          refine k_cell (v := .string (strB (nm x))) (b := b6) (j := 1) rfl _ _ rfl rfl .head rfl string_agg ?_; try simp only [Act.put, List.setIfInBounds_toArray, List.set_cons_zero, List.set_cons_succ]
          refine k_addL (l := T) (m := nm x) rfl _ _ _ _ rfl rfl rfl rfl (by first | (simp only [List.length_append, txtN_length, List.length_cons, List.length_nil]; omega) | omega) ?_; try simp only [Act.put, List.setIfInBounds_toArray, List.set_cons_zero, List.set_cons_succ]
          refine k_val (v := .string (strB (T ++ nm x))) rfl _ (.inr rfl) rfl ?_; try simp only [Act.put, List.setIfInBounds_toArray, List.set_cons_zero, List.set_cons_succ]
          refine k_end ?_
          clear hS
          intro w11 hS
          by_cases h3 : ownN x = 0
          · have HLN := Lib.hid (show lineN (x :: r) = (nm x, 1) by rw [lineN_cons, if_neg HP.out, if_pos h3])
            have hd : decide ((0 : Int) < ((ownN x : Nat) : Int)) = false := decide_eq_false (by omega)
            have h3' : ((ownN x : Nat) : Int) = 0 := by omega
            have HT2 : Hid ((T ++ nm x ++ [10]) ++ prt (L.drop (k + 1)) = prt L) := Lib.hid (by
              rw [← HT.out, HDR.out, prt_cons, HLN.out, HR0.out]; simp [List.append_assoc])
            go_upto_region 13 with (fail)
            refine k_seq (C := fun w' => St [] w w' [(b6, 51, #[.int .u8 ((infD x).1 : Int), .string (strB (nm x)), .int .i64 ((ins x).2.1 : Int), .int .i64 ((ins x).2.2.1 : Int), .int .i64 ((ins x).2.2.2 : Int)]), (b4, 52, allA)]) hS ?_
            refine k_val (v := .string (strB (T ++ nm x))) rfl _ (.inl rfl) rfl ?_; try simp only [Act.put, List.setIfInBounds_toArray, List.set_cons_zero, List.set_cons_succ]
            refine k_addL (l := T ++ nm x) (m := [10]) rfl _ _ _ _ rfl rfl rfl rfl (by first | (simp only [List.length_append, txtN_length, List.length_cons, List.length_nil]; omega) | omega) ?_; try simp only [Act.put, List.setIfInBounds_toArray, List.set_cons_zero, List.set_cons_succ]
            refine k_val (v := .string (strB (T ++ nm x ++ [10]))) rfl _ (.inr rfl) rfl ?_; try simp only [Act.put, List.setIfInBounds_toArray, List.set_cons_zero, List.set_cons_succ]
            refine k_end ?_
            clear hS
            intro w12 hS
            go_wp2
            go_roundw
            case rel => exact ⟨k + 1, T ++ nm x ++ [10], rfl, by go_num, hlt, HT2, hS.drop⟩
            case measure => simp [intOf]; omega
          · have HLN := Lib.hid (show lineN (x :: r) = (nm x ++ 32 :: txtN (r.take (ownN x)), 1 + ownN x) by rw [lineN_cons, if_neg HP.out, if_neg h3])
            have hd : decide ((0 : Int) < ((ownN x : Nat) : Int)) = true := decide_eq_true (by omega)
            have hsl2 := sl_mid b0 o L.length c (k + 1) (k + 1 + ownN x) (by omega) (by omega) (by omega)
            have e9 : k + 1 + ownN x - (k + 1) = ownN x := by omega
            rw [e9] at hsl2
            have HSL2 := Lib.hid hsl2
            have HX2 : Hid (∀ w', Tch [] w w' → RdB w' (.slice (some ⟨b0, o + (k + 1), none⟩) (ownN x) (c - (k + 1))) (r.take (ownN x))) := Lib.hid (fun w' hT => by
              have h := (HRD.out.mid (k + 1) (k + 1 + ownN x) (by omega) (by omega)).tch hT (by simp)
              rw [e9, HR0.out] at h
              exact h)
            have hl2 : (r.take (ownN x)).length ≤ 32 := by rw [List.length_take]; omega
            have HT2 : Hid ((T ++ nm x ++ [32] ++ txtN (r.take (ownN x)) ++ [10]) ++ prt (L.drop (k + 1 + ownN x)) = prt L) := Lib.hid (by
              rw [← HT.out, HDR.out, prt_cons, HLN.out]
              have e : (x :: r).drop (1 + ownN x) = L.drop (k + 1 + ownN x) := by
                rw [Nat.add_comm 1, List.drop_succ_cons, ← HR0.out, List.drop_drop]
              show _ = T ++ ((nm x ++ 32 :: txtN (r.take (ownN x))) ++ 10 :: prt ((x :: r).drop (1 + ownN x)))
              rw [e]; simp [List.append_assoc])
            clear hsl2 e9
            go_upto_region 12 with (fail)
            refine k_seq (C := fun w' => St [] w w' [(b6, 51, #[.int .u8 ((infD x).1 : Int), .string (strB (nm x)), .int .i64 ((ins x).2.1 : Int), .int .i64 ((ins x).2.2.1 : Int), .int .i64 ((ins x).2.2.2 : Int)]), (b4, 52, allA)]) hS ?_
            refine k_val (v := .string (strB (T ++ nm x))) rfl _ (.inl rfl) rfl ?_; try simp only [Act.put, List.setIfInBounds_toArray, List.set_cons_zero, List.set_cons_succ]
            refine k_addL (l := T ++ nm x) (m := [32]) rfl _ _ _ _ rfl rfl rfl rfl (by first | (simp only [List.length_append, txtN_length, List.length_cons, List.length_nil]; omega) | omega) ?_; try simp only [Act.put, List.setIfInBounds_toArray, List.set_cons_zero, List.set_cons_succ]
            refine k_val (v := .slice (some ⟨b0, o, none⟩) L.length c) rfl _ (.inl rfl) rfl ?_; try simp only [Act.put, List.setIfInBounds_toArray, List.set_cons_zero, List.set_cons_succ]
            refine k_val (v := .int .i64 (k : Int)) rfl _ (.inl rfl) rfl ?_; try simp only [Act.put, List.setIfInBounds_toArray, List.set_cons_zero, List.set_cons_succ]
            refine k_add (m := (k : Int)) (n := 1) (s := ((k + 1 : Nat) : Int)) rfl _ _ _ _ rfl rfl rfl HW.out.1 ?_; try simp only [Act.put, List.setIfInBounds_toArray, List.set_cons_zero, List.set_cons_succ]
            refine k_val (v := .int .i64 (k : Int)) rfl _ (.inl rfl) rfl ?_; try simp only [Act.put, List.setIfInBounds_toArray, List.set_cons_zero, List.set_cons_succ]
            refine k_add (m := (k : Int)) (n := 1) (s := ((k + 1 : Nat) : Int)) rfl _ _ _ _ rfl rfl rfl HW.out.1 ?_; try simp only [Act.put, List.setIfInBounds_toArray, List.set_cons_zero, List.set_cons_succ]
            refine k_val (v := .int .i64 ((ownN x : Nat) : Int)) rfl _ (.inl rfl) rfl ?_; try simp only [Act.put, List.setIfInBounds_toArray, List.set_cons_zero, List.set_cons_succ]
            refine k_add (m := ((k + 1 : Nat) : Int)) (n := ((ownN x : Nat) : Int)) (s := ((k + 1 + ownN x : Nat) : Int)) rfl _ _ _ _ rfl rfl rfl HW.out.2.1 ?_; try simp only [Act.put, List.setIfInBounds_toArray, List.set_cons_zero, List.set_cons_succ]
            refine k_slO (vx := .slice (some ⟨b0, o, none⟩) L.length c) (vl := some (.int .i64 ((k + 1 : Nat) : Int))) (vh := some (.int .i64 ((k + 1 + ownN x : Nat) : Int))) rfl rfl rfl rfl rfl HSL2.out ?_; try simp only [Act.put, List.setIfInBounds_toArray, List.set_cons_zero, List.set_cons_succ]
            refine k_callC1 (v1 := .slice (some ⟨b0, o + (k + 1), none⟩) (ownN x) (c - (k + 1))) rfl rfl rfl Try.call20 (fun w' h => (rtxt_any _ (r.take (ownN x)) w' (by omega) (HX2.out w' h.frame)).mono fun e w'' h2 => ⟨h2.1, h.call h2.2⟩) ?_; try simp only [Act.put, List.setIfInBounds_toArray, List.set_cons_zero, List.set_cons_succ]
            refine k_addL (l := T ++ nm x ++ [32]) (m := txtN (r.take (ownN x))) rfl _ _ _ _ rfl rfl rfl rfl (by first | (simp only [List.length_append, txtN_length, List.length_cons, List.length_nil]; omega) | omega) ?_; try simp only [Act.put, List.setIfInBounds_toArray, List.set_cons_zero, List.set_cons_succ]
            refine k_val (v := .string (strB (T ++ nm x ++ [32] ++ txtN (r.take (ownN x))))) rfl _ (.inr rfl) rfl ?_; try simp only [Act.put, List.setIfInBounds_toArray, List.set_cons_zero, List.set_cons_succ]
            refine k_end ?_
            clear hS
            intro w12 hS
            go_upto_region 13 with (fail)
            refine k_seq (C := fun w' => St [] w w' [(b6, 51, #[.int .u8 ((infD x).1 : Int), .string (strB (nm x)), .int .i64 ((ins x).2.1 : Int), .int .i64 ((ins x).2.2.1 : Int), .int .i64 ((ins x).2.2.2 : Int)]), (b4, 52, allA)]) hS ?_
            refine k_val (v := .string (strB (T ++ nm x ++ [32] ++ txtN (r.take (ownN x))))) rfl _ (.inl rfl) rfl ?_; try simp only [Act.put, List.setIfInBounds_toArray, List.set_cons_zero, List.set_cons_succ]
            refine k_addL (l := T ++ nm x ++ [32] ++ txtN (r.take (ownN x))) (m := [10]) rfl _ _ _ _ rfl rfl rfl rfl (by first | (simp only [List.length_append, txtN_length, List.length_cons, List.length_nil]; omega) | omega) ?_; try simp only [Act.put, List.setIfInBounds_toArray, List.set_cons_zero, List.set_cons_succ]
            refine k_val (v := .string (strB (T ++ nm x ++ [32] ++ txtN (r.take (ownN x)) ++ [10]))) rfl _ (.inr rfl) rfl ?_; try simp only [Act.put, List.setIfInBounds_toArray, List.set_cons_zero, List.set_cons_succ]
            refine k_end ?_
            clear hS
            intro w13 hS
            go_upto_region 14 with (fail)
            refine k_seq (C := fun w' => St [] w w' [(b6, 51, #[.int .u8 ((infD x).1 : Int), .string (strB (nm x)), .int .i64 ((ins x).2.1 : Int), .int .i64 ((ins x).2.2.1 : Int), .int .i64 ((ins x).2.2.2 : Int)]), (b4, 52, allA)]) hS ?_
            refine k_val (v := .int .i64 (k : Int)) rfl _ (.inl rfl) rfl ?_; try simp only [Act.put, List.setIfInBounds_toArray, List.set_cons_zero, List.set_cons_succ]
            refine k_add (m := (k : Int)) (n := 1) (s := ((k + 1 : Nat) : Int)) rfl _ _ _ _ rfl rfl rfl HW.out.1 ?_; try simp only [Act.put, List.setIfInBounds_toArray, List.set_cons_zero, List.set_cons_succ]
            refine k_val (v := .int .i64 ((ownN x : Nat) : Int)) rfl _ (.inl rfl) rfl ?_; try simp only [Act.put, List.setIfInBounds_toArray, List.set_cons_zero, List.set_cons_succ]
            refine k_add (m := ((k + 1 : Nat) : Int)) (n := ((ownN x : Nat) : Int)) (s := ((k + 1 + ownN x : Nat) : Int)) rfl _ _ _ _ rfl rfl rfl HW.out.2.1 ?_; try simp only [Act.put, List.setIfInBounds_toArray, List.set_cons_zero, List.set_cons_succ]
            refine k_val (v := .int .i64 ((k + 1 + ownN x : Nat) : Int)) rfl _ (.inr rfl) rfl ?_; try simp only [Act.put, List.setIfInBounds_toArray, List.set_cons_zero, List.set_cons_succ]
            refine k_end ?_
            clear hS
            intro w14 hS
            go_wp2
            go_roundw
            case rel => exact ⟨k + 1 + ownN x, T ++ nm x ++ [32] ++ txtN (r.take (ownN x)) ++ [10], rfl, rfl, by omega, HT2, hS.drop⟩
            case measure => simp [intOf]; omega
    · obtain rfl : k = L.length := by omega
      have he : T = prt L := by have := HT.out; rwa [List.drop_length, prt_nil, List.append_nil] at this
      subst he
      go_wp2
      go_ret
      exact ⟨rfl, hS.frame⟩
end Go.Proofs.Ytjbjjiibldlipaa
