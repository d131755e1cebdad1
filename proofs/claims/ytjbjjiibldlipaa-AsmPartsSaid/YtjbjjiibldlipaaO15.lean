/- Beginnings of texts; ops.Op. -/
import Derived.Test.YtjbjjiibldlipaaO14
namespace Go.Proofs.Ytjbjjiibldlipaa
open Go.RowKit

theorem strB_cut (L : List Nat) (i j : Nat) : (strB L).extract i j = strB ((L.drop i).take (j - i)) := by
  apply ByteArray.ext
  simp only [strB, ByteArray.data_extract]
  apply Array.ext'
  simp [List.map_take, List.map_drop]
/-- Does a text begin with another? -/
def pre (P L : List Nat) : Bool := L.take P.length == P
theorem hasPrefix_any (L P : List Nat) (w : World) (hL : ∀ x ∈ L, x < 256) (hP : ∀ x ∈ P, x < 256) (hm : L.length ≤ 100000000) (hm2 : P.length ≤ 100000000) :
    Calls Try.prog 52 #[.string (strB L), .string (strB P)] w fun e w' => e = .returned (.bool (pre P L)) ∧ w = w' := by
  have hs := strB_size L
  have hp := strB_size P
  by_cases h : P.length ≤ L.length
  · have HP := Lib.hid (show (((strB L).extract 0 (strB P).size).toList == (strB P).toList) = pre P L by
      rw [strB_cut, List.drop_zero, Nat.sub_zero, hp, strB_eq (fun x hx => hL x (List.mem_of_mem_take hx)) hP]; rfl)
    have h1 : (strB P).size ≤ (strB L).size := by omega
    have h2 : (strB L).size ≤ 100000000 := by omega
    generalize strB L = s at *
    generalize strB P = p at *
    clear hs hp hL hP
    go_enter Try.func52, Try.ntmps52
    go_wp2
    go_ret
    exact ⟨congrArg (fun b => Ending.returned (.bool b)) HP.out, rfl⟩
  · have hf : pre P L = false := by
      unfold pre
      refine beq_eq_false_iff_ne.2 fun e => ?_
      have := congrArg List.length e
      rw [List.length_take] at this
      omega
    rw [hf]
    have h1 : ¬ (strB P).size ≤ (strB L).size := by omega
    have h2 : (strB L).size ≤ 100000000 := by omega
    have h3 : (strB P).size ≤ 100000000 := by omega
    generalize strB L = s at *
    generalize strB P = p at *
    clear hs hp hL hP hf
    go_enter Try.func52, Try.ntmps52
    go_wp2
    go_ret
    exact ⟨rfl, rfl⟩
theorem cutO_no (L P : List Nat) (w : World) (hL : ∀ x ∈ L, x < 256) (hP : ∀ x ∈ P, x < 256) (hm : L.length ≤ 100000000) (hm2 : P.length ≤ 100000000) (h : pre P L = false) :
    Calls Try.prog 38 #[.string (strB L), .string (strB P)] w fun e w' => e = .returned (.tuple #[.string (strB L), .bool false]) ∧ w = w' := by
  have hp := fun w1 => hasPrefix_any L P w1 hL hP hm hm2
  rw [h] at hp
  have HP := Lib.hid hp
  clear hp
  have hc : ∀ w1, Calls Try.prog 45 #[.string (strB L), .string (strB P)] w1 fun e w' => e = .returned (.tuple #[.string (strB L), .bool false]) ∧ w1 = w' := by
    intro w1
    go_enter Try.func45, Try.ntmps45
    go_wp2_with (go_at_call 52; refine (HP.out _).mono ?_; rintro e w' ⟨rfl, rfl⟩)
    go_ret2
    exact ⟨rfl, rfl⟩
  have HC := Lib.hid hc
  clear hc
  go_enter Try.func38, Try.ntmps38
  go_wp2_with (go_at_call 45; refine (HC.out _).mono ?_; rintro e w' ⟨rfl, rfl⟩)
  go_ret2
  exact ⟨rfl, rfl⟩
theorem cutO_yes (L P : List Nat) (w : World) (hL : ∀ x ∈ L, x < 256) (hP : ∀ x ∈ P, x < 256) (hm : L.length ≤ 100000000) (hm2 : P.length ≤ L.length) (h : pre P L = true) :
    Calls Try.prog 38 #[.string (strB L), .string (strB P)] w fun e w' => e = .returned (.tuple #[.string (strB (L.drop P.length)), .bool true]) ∧ w = w' := by
  have hp := fun w1 => hasPrefix_any L P w1 hL hP hm (by omega)
  rw [h] at hp
  have HP := Lib.hid hp
  clear hp
  have hs := strB_size L
  have hq := strB_size P
  have HX := Lib.hid (show (strB L).extract (strB P).size (strB L).size = strB (L.drop P.length) by rw [strB_cut, hs, hq, List.take_of_length_le (by rw [List.length_drop]; omega)])
  have h1 : (strB P).size ≤ (strB L).size := by omega
  have h2 : (strB L).size ≤ 100000000 := by omega
  clear hs hq
  have hc : ∀ w1, Calls Try.prog 45 #[.string (strB L), .string (strB P)] w1 fun e w' => e = .returned (.tuple #[.string (strB (L.drop P.length)), .bool true]) ∧ w1 = w' := by
    intro w1
    generalize strB L = s at *
    generalize strB P = p at *
    go_enter Try.func45, Try.ntmps45
    go_wp2_with (go_at_call 52; refine (HP.out _).mono ?_; rintro e w' ⟨rfl, rfl⟩)
    go_ret2
    exact ⟨by rw [← HX.out]; rfl, rfl⟩
  have HC := Lib.hid hc
  clear hc h1 h2
  go_enter Try.func38, Try.ntmps38
  go_wp2_with (go_at_call 45; refine (HC.out _).mono ?_; rintro e w' ⟨rfl, rfl⟩)
  go_ret2
  exact ⟨rfl, rfl⟩
theorem pre_nm {k : Nat} {L : List Nat} (h : pre (ins k).1 L = true) : (L.drop (ins k).1.length == digs (num k)) = (nm k == L) := by
  have e : L = (ins k).1 ++ L.drop (ins k).1.length := by
    have := beq_iff_eq.1 h
    conv => lhs; rw [← List.take_append_drop (ins k).1.length L, this]
  rw [Bool.eq_iff_iff, beq_iff_eq, beq_iff_eq]
  constructor
  · intro h1; rw [e, h1]; rfl
  · intro h1
    rw [e] at h1
    exact (List.append_cancel_left h1).symm
theorem pre_not {k : Nat} {L : List Nat} (h : pre (ins k).1 L = false) : nm k ≠ L := by
  intro e
  have : pre (ins k).1 L = true := by
    unfold pre
    rw [← e]
    unfold nm
    rw [List.take_left]
    exact beq_self_eq_true _
  rw [h] at this
  cases this
theorem pre_len {P L : List Nat} (h : pre P L = true) : P.length ≤ L.length := by
  have := congrArg List.length (beq_iff_eq.1 h)
  rw [List.length_take] at this
  omega
theorem stem_lt (k : Nat) (hk : k < 256) : ∀ x ∈ (ins k).1, x < 256 := fun x hx => nm_lt ⟨k, hk⟩ x (List.mem_append_left _ hx)
theorem digs_lt (k : Nat) (hk : k < 256) : ∀ x ∈ digs (num k), x < 256 := fun x hx => nm_lt ⟨k, hk⟩ x (List.mem_append_right _ hx)
theorem St.none {w w' : World} (h : Tch [] w w') : St [] w w' [] := ⟨h, fun _ h => by simp at h, .nil⟩
set_option maxHeartbeats 4000000 in
set_option maxRecDepth 100000 in
theorem op_any (L : List Nat) (w : World) (hL : ∀ x ∈ L, x < 256) (hm : L.length ≤ 100000000) : Calls Try.prog 27 #[.string (strB L)] w (OpPost L w) := by
  have HL := Lib.hid hL
  clear hL
  go_enter Try.func27, Try.ntmps27
  go_wp2
  go_loopw [9, 4, 5, 6, 7, 8] (fun i _ _ _ _ _ wr => ∃ k : Nat, i = .int .i64 (k : Int) ∧ k ≤ 256 ∧ Hid (∀ j, j < k → nm j ≠ [] → nm j ≠ L) ∧ Tch [] w wr) (fun i _ _ _ _ _ _ => 256 - (intOf i).toNat)
  case atStart => exact ⟨0, rfl, Nat.zero_le _, Lib.hid (fun j hj => absurd hj (Nat.not_lt_zero j)), Tch.refl _ _⟩
  case round =>
    obtain ⟨k, rfl, hk, HJ, hT⟩ := hrel
    by_cases hlt : k < 256
    · have hS := St.none hT
      have HSL := Lib.hid (stem_lt k hlt)
      have HDL := Lib.hid (digs_lt k hlt)
      have hone := rowA_one (ins k)
      have hbl : (ins k).1.length ≤ 100000000 := by
        have := (ins_bounds ⟨k, hlt⟩).2.2.2.2
        unfold nm at this
        rw [List.length_append] at this
        exact Nat.le_trans (Nat.le_trans (Nat.le_add_right _ _) this) (by omega)
      go_upto_region 5 with (first
        | (refine st_convO (s := 3) (d := 5) (v := .int .u8 (k : Int)) rfl rfl rfl (cvt_u8 k hlt _) ?_)
        | (go_at_call 33; refine (find_any k hlt _).mono ?_; rintro e w3 ⟨rfl, hT3⟩; replace hS := hS.call hT3)
        | (refine st_new (c := insZ) hS rfl 70 rfl ins_zero ?_; clear hS; intro w4 b5 hS)
        | (refine st_store (b := b5) (c' := rowA (ins k)) hS rfl 70 _ _ rfl rfl rfl .head ins_size rfl rfl hone ?_; clear hS; intro w5 hS))
      by_cases hst : (ins k).1 = []
      · have HE := Lib.hid (show ((ins k).1 == []) = true by rw [hst]; rfl)
        have HN := Lib.hid (show nm k = [] by rw [← nm_stem ⟨k, hlt⟩]; exact hst)
        clear hst
        refine k_seq (C := fun w' => St [] w w' [(b5, 70, rowA (ins k))]) hS ?_
        refine k_fa (v := .pointer (some ⟨b5, 0, none⟩)) rfl rfl rfl (ins_fa0 b5) ?_; try simp only [Act.put, List.setIfInBounds_toArray, List.set_cons_zero, List.set_cons_succ]
        refine k_cell (v := .string (strB (ins k).1)) (b := b5) (j := 0) rfl _ _ rfl rfl .head rfl string_agg ?_; try simp only [Act.put, List.setIfInBounds_toArray, List.set_cons_zero, List.set_cons_succ]
        refine k_eqS (l := (ins k).1) (m := []) rfl _ _ _ rfl rfl rfl HSL.out (by simp) HE.out ?_; try simp only [Act.put, List.setIfInBounds_toArray, List.set_cons_zero, List.set_cons_succ]
        refine k_end ?_
        clear hS
        intro w6 hS
        go_wp2
        go_roundw
        case rel =>
          refine ⟨k + 1, by go_num, hlt, Lib.hid (fun j hj h0 => ?_), hS.frame⟩
          by_cases e : j = k
          · subst e; exact absurd HN.out h0
          · exact HJ.out j (by omega) h0
        case measure => simp [intOf]; omega
      · have HE := Lib.hid (show ((ins k).1 == []) = false by simpa using hst)
        have HN := Lib.hid (show nm k ≠ [] from fun e => hst (by rw [nm_stem ⟨k, hlt⟩]; exact e))
        clear hst
        refine k_seq (C := fun w' => St [] w w' [(b5, 70, rowA (ins k))]) hS ?_
        refine k_fa (v := .pointer (some ⟨b5, 0, none⟩)) rfl rfl rfl (ins_fa0 b5) ?_; try simp only [Act.put, List.setIfInBounds_toArray, List.set_cons_zero, List.set_cons_succ]
        refine k_cell (v := .string (strB (ins k).1)) (b := b5) (j := 0) rfl _ _ rfl rfl .head rfl string_agg ?_; try simp only [Act.put, List.setIfInBounds_toArray, List.set_cons_zero, List.set_cons_succ]
        refine k_eqS (l := (ins k).1) (m := []) rfl _ _ _ rfl rfl rfl HSL.out (by simp) HE.out ?_; try simp only [Act.put, List.setIfInBounds_toArray, List.set_cons_zero, List.set_cons_succ]
        refine k_end ?_
        clear hS
        intro w6 hS
        by_cases hpre : pre (ins k).1 L = true
        · have HCUT := Lib.hid (fun w1 => cutO_yes L (ins k).1 w1 HL.out HSL.out hm (pre_len hpre) hpre)
          have HPN := Lib.hid (pre_nm hpre)
          have HDR := Lib.hid (show ∀ x ∈ L.drop (ins k).1.length, x < 256 from fun x hx => HL.out x (List.mem_of_mem_drop hx))
          clear hpre
          go_upto_region 7 with (first
            | (refine st_cell (b := b5) (v := .string (strB (ins k).1)) (j := 0) hS rfl 9 _ rfl rfl .head rfl string_agg ?_)
            | (go_at_call 38; refine (HCUT.out _).mono ?_; rintro e w7 ⟨rfl, rfl⟩))
          by_cases heq : nm k = L
          · have HB := Lib.hid (show (L.drop (ins k).1.length == digs (num k)) = true by rw [HPN.out, heq]; exact beq_self_eq_true _)
            have HO := Lib.hid (opF_some hlt HN.out heq)
            clear heq
            refine k_seq (C := fun w' => St [] w w' [(b5, 70, rowA (ins k))]) hS ?_
            refine k_val (v := .bool true) rfl _ (.inl rfl) rfl ?_; try simp only [Act.put, List.setIfInBounds_toArray, List.set_cons_zero, List.set_cons_succ]
            refine k_val (v := .bool true) rfl _ (.inl rfl) rfl ?_; try simp only [Act.put, List.setIfInBounds_toArray, List.set_cons_zero, List.set_cons_succ]
            refine k_val (v := .string (strB (L.drop (ins k).1.length))) rfl _ (.inl rfl) rfl ?_; try simp only [Act.put, List.setIfInBounds_toArray, List.set_cons_zero, List.set_cons_succ]
            refine k_val (v := .int .i64 (numI k)) rfl _ (.inl rfl) rfl ?_; try simp only [Act.put, List.setIfInBounds_toArray, List.set_cons_zero, List.set_cons_succ]
            refine k_callC1 (v1 := .int .i64 (numI k)) rfl rfl rfl Try.call34 (fun w' h => (digits_num k hlt w').mono fun e w'' h2 => ⟨h2.1, h.call h2.2⟩) ?_; try simp only [Act.put, List.setIfInBounds_toArray, List.set_cons_zero, List.set_cons_succ]
            refine k_eqS (l := L.drop (ins k).1.length) (m := digs (num k)) rfl _ _ _ rfl rfl rfl HDR.out HDL.out HB.out ?_; try simp only [Act.put, List.setIfInBounds_toArray, List.set_cons_zero, List.set_cons_succ]
            refine k_pickT (t := true) rfl _ _ _ rfl rfl rfl ?_; try simp only [Act.put, List.setIfInBounds_toArray, List.set_cons_zero, List.set_cons_succ]
            refine k_end ?_
            clear hS
            intro w8 hS
            go_wp2_with (refine st_convO (s := 3) (d := 5) (v := .int .u8 (k : Int)) rfl rfl rfl (cvt_u8 k hlt _) ?_)
            go_ret2
            exact ⟨by rw [HO.out]; rfl, hS.frame⟩
          · have HB := Lib.hid (show (L.drop (ins k).1.length == digs (num k)) = false by rw [HPN.out]; exact beq_eq_false_iff_ne.2 heq)
            have HJ2 := Lib.hid heq
            clear heq
            refine k_seq (C := fun w' => St [] w w' [(b5, 70, rowA (ins k))]) hS ?_
            refine k_val (v := .bool true) rfl _ (.inl rfl) rfl ?_; try simp only [Act.put, List.setIfInBounds_toArray, List.set_cons_zero, List.set_cons_succ]
            refine k_val (v := .bool true) rfl _ (.inl rfl) rfl ?_; try simp only [Act.put, List.setIfInBounds_toArray, List.set_cons_zero, List.set_cons_succ]
            refine k_val (v := .string (strB (L.drop (ins k).1.length))) rfl _ (.inl rfl) rfl ?_; try simp only [Act.put, List.setIfInBounds_toArray, List.set_cons_zero, List.set_cons_succ]
            refine k_val (v := .int .i64 (numI k)) rfl _ (.inl rfl) rfl ?_; try simp only [Act.put, List.setIfInBounds_toArray, List.set_cons_zero, List.set_cons_succ]
            refine k_callC1 (v1 := .int .i64 (numI k)) rfl rfl rfl Try.call34 (fun w' h => (digits_num k hlt w').mono fun e w'' h2 => ⟨h2.1, h.call h2.2⟩) ?_; try simp only [Act.put, List.setIfInBounds_toArray, List.set_cons_zero, List.set_cons_succ]
            refine k_eqS (l := L.drop (ins k).1.length) (m := digs (num k)) rfl _ _ _ rfl rfl rfl HDR.out HDL.out HB.out ?_; try simp only [Act.put, List.setIfInBounds_toArray, List.set_cons_zero, List.set_cons_succ]
            refine k_pickT (t := false) rfl _ _ _ rfl rfl rfl ?_; try simp only [Act.put, List.setIfInBounds_toArray, List.set_cons_zero, List.set_cons_succ]
            refine k_end ?_
            clear hS
            intro w8 hS
            go_wp2
            go_roundw
            case rel =>
              refine ⟨k + 1, by go_num, hlt, Lib.hid (fun j hj h0 => ?_), hS.frame⟩
              by_cases e : j = k
              · subst e; exact HJ2.out
              · exact HJ.out j (by omega) h0
            case measure => simp [intOf]; omega
        · have hpre' : pre (ins k).1 L = false := by simpa using hpre
          have HCUT := Lib.hid (fun w1 => cutO_no L (ins k).1 w1 HL.out HSL.out hm hbl hpre')
          have HJ2 := Lib.hid (pre_not hpre')
          clear hpre hpre'
          go_upto_region 7 with (first
            | (refine st_cell (b := b5) (v := .string (strB (ins k).1)) (j := 0) hS rfl 9 _ rfl rfl .head rfl string_agg ?_)
            | (go_at_call 38; refine (HCUT.out _).mono ?_; rintro e w7 ⟨rfl, rfl⟩))
          refine k_seq (C := fun w' => St [] w w' [(b5, 70, rowA (ins k))]) hS ?_
          refine k_val (v := .bool false) rfl _ (.inl rfl) rfl ?_; try simp only [Act.put, List.setIfInBounds_toArray, List.set_cons_zero, List.set_cons_succ]
          refine k_val (v := .bool false) rfl _ (.inl rfl) rfl ?_; try simp only [Act.put, List.setIfInBounds_toArray, List.set_cons_zero, List.set_cons_succ]
          refine k_skip rfl rfl rfl rfl rfl ?_; try simp only [Act.put, List.setIfInBounds_toArray, List.set_cons_zero, List.set_cons_succ]
          refine k_skip rfl rfl rfl rfl rfl ?_; try simp only [Act.put, List.setIfInBounds_toArray, List.set_cons_zero, List.set_cons_succ]
          refine k_skip rfl rfl rfl rfl rfl ?_; try simp only [Act.put, List.setIfInBounds_toArray, List.set_cons_zero, List.set_cons_succ]
          refine k_skip rfl rfl rfl rfl rfl ?_; try simp only [Act.put, List.setIfInBounds_toArray, List.set_cons_zero, List.set_cons_succ]
          refine k_pickF (t := false) rfl _ _ _ rfl rfl rfl ?_; try simp only [Act.put, List.setIfInBounds_toArray, List.set_cons_zero, List.set_cons_succ]
          refine k_end ?_
          clear hS
          intro w8 hS
          go_wp2
          go_roundw
          case rel =>
            refine ⟨k + 1, by go_num, hlt, Lib.hid (fun j hj h0 => ?_), hS.frame⟩
            by_cases e : j = k
            · subst e; exact HJ2.out
            · exact HJ.out j (by omega) h0
          case measure => simp [intOf]; omega
    · obtain rfl : k = 256 := by omega
      have HO := Lib.hid (opF_none HJ.out)
      go_wp2
      go_ret2
      exact ⟨by rw [HO.out]; rfl, hT⟩
end Go.Proofs.Ytjbjjiibldlipaa
