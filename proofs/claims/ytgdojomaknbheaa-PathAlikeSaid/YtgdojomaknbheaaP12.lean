/- The document's ReadPath. -/
import Derived.Test.YtgdojomaknbheaaP11
namespace Go.Proofs.Ytgdojomaknbheaa
open Go.RowKit

/-- A row of the call's own that is not empty. -/
theorem own_at {w : World} {B n : Nat} {v : Value} {l : List Nat} (h : w.ownsRow B 5 1 v n (nb l)) (hl : 0 < n) : ∃ g cap, v = .slice (some ⟨g, 0, none⟩) n cap ∧ n ≤ cap ∧ B ≤ g := by
  obtain ⟨_, h2⟩ := h
  rcases h2 with ⟨_, h0⟩ | ⟨g, cap, cur, hv, hg, _, hn, _⟩
  · omega
  · exact ⟨g, cap, hv, hn, hg⟩
set_option maxHeartbeats 1000000 in
set_option maxRecDepth 100000 in
theorem rread_nil (v : Value) (w : World) (hv : RdA [] w v []) : Calls Try.prog 13 #[v] w (RdPost w (readL [])) := by
  obtain ⟨p0, n, c', rfl⟩ := slice_keep hv
  have hcall := (refSplit_any _ [] w (by simp) hv).mono (R' := fun e w' => e = .returned (.slice none 0 0) ∧ Tch [] w w' ∨ ∃ g cap, e = .returned (.slice (some ⟨g, 0, none⟩) 0 cap) ∧ Tch [] w w') (fun e w' h => by
    obtain ⟨v', h1, h2, _, h3⟩ := h
    rcases h3 with ⟨rfl, _⟩ | ⟨g, cap, _, rfl, _⟩
    · exact .inl ⟨h1, h2⟩
    · exact .inr ⟨g, cap, h1, h2⟩)
  have hcall2 := hcall.mono (R' := fun e w' => ∃ q cap, e = .returned (.slice q 0 cap) ∧ Tch [] w w') (fun e w' h => by
    rcases h with ⟨h1, h2⟩ | ⟨g, cap, h1, h2⟩
    · exact ⟨_, _, h1, h2⟩
    · exact ⟨_, _, h1, h2⟩)
  clear hcall
  go_enter Try.func13, Try.ntmps13
  go_wp2_with (go_at_call 14; (with_reducible refine hcall2.mono ?_); clear hcall2; rintro e w1 ⟨q, cap, rfl, hT⟩)
  go_ret3
  exact rdpost_no rfl hT
set_option maxHeartbeats 1000000 in
set_option maxRecDepth 100000 in
theorem rread_great (v : Value) (x : Nat) (r : List Nat) (w : World) (hm : (x :: r).length ≤ 100000) (hv : RdA [] w v (x :: r)) (hg : 3 < x / 16) : Calls Try.prog 13 #[v] w (RdPost w (readL (x :: r))) := by
  have hx := hv.lt x List.mem_cons_self
  have hsp := refSplit_any v (x :: r) w (by omega) hv
  have hN : 2 ≤ (nibs (x :: r)).length := by rw [nibs_length]; simp only [List.length_cons]; omega
  have hNm : (nibs (x :: r)).length ≤ 1000000 := by rw [nibs_length]; omega
  have hnl := nibs_lt hv.lt
  have hsp2 := hsp.mono (R' := fun e w' => ∃ g N cap, e = .returned (.slice (some ⟨g, 0, none⟩) N cap) ∧ Tch [] w w' ∧ Hid (RdA [] w' (.slice (some ⟨g, 0, none⟩) N cap) (nibs (x :: r))) ∧ 2 ≤ N ∧ N ≤ cap ∧ g < w'.heap.size ∧ w'.cell? ⟨g, 0, none⟩ = some (.int .u8 ((x / 16 : Nat) : Int)) ∧ w'.cell? ⟨g, 1, none⟩ = some (.int .u8 ((x % 16 : Nat) : Int))) (fun e w' h => by
    obtain ⟨v', rfl, hT, hown⟩ := h
    obtain ⟨g, cap, rfl, hcap, _⟩ := own_at hown (by omega)
    have hr := (RdB.own hown (fun y hy => Nat.lt_of_lt_of_le (hnl y hy) (by decide))).rdA (X := []) (by simp)
    obtain ⟨b, o, hp, hbw, _, hc⟩ := hr.at_ (by intro e; rw [e] at hN; simp at hN)
    cases hp
    exact ⟨g, _, cap, rfl, hT, Lib.hid hr, hN, hcap, hbw, hc 0 (by omega), hc 1 (by omega)⟩)
  have HNL := Lib.hid (fun y hy => Nat.lt_of_lt_of_le (hnl y hy) (by decide : 16 ≤ 256))
  clear hsp hN hNm hnl hv
  obtain ⟨k, hk⟩ : ∃ k, k = x / 16 := ⟨_, rfl⟩
  have hk3 : (3 : Int) < (k : Int) := by omega
  have HE := Lib.hid (show readL (x :: r) = none by rw [readL_cons, if_pos (.inl hg)])
  rw [← hk] at hsp2
  clear hg hk
  have HSP := Lib.hid hsp2
  clear hsp2
  go_enter Try.func13, Try.ntmps13
  go_wp2_with (go_at_call 14; (with_reducible refine HSP.out.mono ?_); clear HSP; rintro e w1 ⟨g, N, cap, rfl, hT, HR, hN2, hNc, hgw, hc0, hc1⟩; have hN0 : (0 : Int) < (N : Int) := (by omega); have hN00 : 0 < N := (by omega); have hN1 : (1 : Int) < (N : Int) := (by omega); have hN11 : 1 < N := (by omega); have hN3 : ¬ N = 0 := (by omega))
  go_ret3
  exact rdpost_no HE.out hT
set_option maxHeartbeats 1000000 in
set_option maxRecDepth 100000 in
theorem rread_bad0 (v : Value) (x s : Nat) (r : List Nat) (w : World) (hm : (x :: r).length ≤ 100000) (hv : RdA [] w v (x :: r)) (hg : x = 16 * 0 + s) (hs : s < 16) (hs0 : s ≠ 0) : Calls Try.prog 13 #[v] w (RdPost w (readL (x :: r))) := by
  have hx := hv.lt x List.mem_cons_self
  have hsp := refSplit_any v (x :: r) w (by omega) hv
  have hN : 2 ≤ (nibs (x :: r)).length := by rw [nibs_length]; simp only [List.length_cons]; omega
  have hNm : (nibs (x :: r)).length ≤ 1000000 := by rw [nibs_length]; omega
  have hnl := nibs_lt hv.lt
  have hsp2 := hsp.mono (R' := fun e w' => ∃ g N cap, e = .returned (.slice (some ⟨g, 0, none⟩) N cap) ∧ Tch [] w w' ∧ Hid (RdA [] w' (.slice (some ⟨g, 0, none⟩) N cap) (nibs (x :: r))) ∧ 2 ≤ N ∧ N ≤ cap ∧ g < w'.heap.size ∧ w'.cell? ⟨g, 0, none⟩ = some (.int .u8 ((x / 16 : Nat) : Int)) ∧ w'.cell? ⟨g, 1, none⟩ = some (.int .u8 ((x % 16 : Nat) : Int))) (fun e w' h => by
    obtain ⟨v', rfl, hT, hown⟩ := h
    obtain ⟨g, cap, rfl, hcap, _⟩ := own_at hown (by omega)
    have hr := (RdB.own hown (fun y hy => Nat.lt_of_lt_of_le (hnl y hy) (by decide))).rdA (X := []) (by simp)
    obtain ⟨b, o, hp, hbw, _, hc⟩ := hr.at_ (by intro e; rw [e] at hN; simp at hN)
    cases hp
    exact ⟨g, _, cap, rfl, hT, Lib.hid hr, hN, hcap, hbw, hc 0 (by omega), hc 1 (by omega)⟩)
  have HNL := Lib.hid (fun y hy => Nat.lt_of_lt_of_le (hnl y hy) (by decide : 16 ≤ 256))
  clear hsp hN hNm hnl hv
  have hsi : ((s : Int) != 0) = true := by rw [bne_iff_ne]; omega
  have hsn : ¬ (s : Int) = 0 := by omega
  have HE := Lib.hid (show readL (x :: r) = none by rw [readL_cons, if_pos (.inr ⟨by omega, by omega⟩)])
  rw [show x / 16 = 0 by omega, show x % 16 = s by omega] at hsp2
  clear hg
  have HSP := Lib.hid hsp2
  clear hsp2
  go_enter Try.func13, Try.ntmps13
  go_wp2_with (go_at_call 14; (with_reducible refine HSP.out.mono ?_); clear HSP; rintro e w1 ⟨g, N, cap, rfl, hT, HR, hN2, hNc, hgw, hc0, hc1⟩; have hN0 : (0 : Int) < (N : Int) := (by omega); have hN00 : 0 < N := (by omega); have hN1 : (1 : Int) < (N : Int) := (by omega); have hN11 : 1 < N := (by omega); have hN3 : ¬ N = 0 := (by omega))
  go_ret3
  exact rdpost_no HE.out hT
set_option maxHeartbeats 1000000 in
set_option maxRecDepth 100000 in
theorem rread_bad2 (v : Value) (x s : Nat) (r : List Nat) (w : World) (hm : (x :: r).length ≤ 100000) (hv : RdA [] w v (x :: r)) (hg : x = 16 * 2 + s) (hs : s < 16) (hs0 : s ≠ 0) : Calls Try.prog 13 #[v] w (RdPost w (readL (x :: r))) := by
  have hx := hv.lt x List.mem_cons_self
  have hsp := refSplit_any v (x :: r) w (by omega) hv
  have hN : 2 ≤ (nibs (x :: r)).length := by rw [nibs_length]; simp only [List.length_cons]; omega
  have hNm : (nibs (x :: r)).length ≤ 1000000 := by rw [nibs_length]; omega
  have hnl := nibs_lt hv.lt
  have hsp2 := hsp.mono (R' := fun e w' => ∃ g N cap, e = .returned (.slice (some ⟨g, 0, none⟩) N cap) ∧ Tch [] w w' ∧ Hid (RdA [] w' (.slice (some ⟨g, 0, none⟩) N cap) (nibs (x :: r))) ∧ 2 ≤ N ∧ N ≤ cap ∧ g < w'.heap.size ∧ w'.cell? ⟨g, 0, none⟩ = some (.int .u8 ((x / 16 : Nat) : Int)) ∧ w'.cell? ⟨g, 1, none⟩ = some (.int .u8 ((x % 16 : Nat) : Int))) (fun e w' h => by
    obtain ⟨v', rfl, hT, hown⟩ := h
    obtain ⟨g, cap, rfl, hcap, _⟩ := own_at hown (by omega)
    have hr := (RdB.own hown (fun y hy => Nat.lt_of_lt_of_le (hnl y hy) (by decide))).rdA (X := []) (by simp)
    obtain ⟨b, o, hp, hbw, _, hc⟩ := hr.at_ (by intro e; rw [e] at hN; simp at hN)
    cases hp
    exact ⟨g, _, cap, rfl, hT, Lib.hid hr, hN, hcap, hbw, hc 0 (by omega), hc 1 (by omega)⟩)
  have HNL := Lib.hid (fun y hy => Nat.lt_of_lt_of_le (hnl y hy) (by decide : 16 ≤ 256))
  clear hsp hN hNm hnl hv
  have hsi : ((s : Int) != 0) = true := by rw [bne_iff_ne]; omega
  have hsn : ¬ (s : Int) = 0 := by omega
  have HE := Lib.hid (show readL (x :: r) = none by rw [readL_cons, if_pos (.inr ⟨by omega, by omega⟩)])
  rw [show x / 16 = 2 by omega, show x % 16 = s by omega] at hsp2
  clear hg
  have HSP := Lib.hid hsp2
  clear hsp2
  go_enter Try.func13, Try.ntmps13
  go_wp2_with (go_at_call 14; (with_reducible refine HSP.out.mono ?_); clear HSP; rintro e w1 ⟨g, N, cap, rfl, hT, HR, hN2, hNc, hgw, hc0, hc1⟩; have hN0 : (0 : Int) < (N : Int) := (by omega); have hN00 : 0 < N := (by omega); have hN1 : (1 : Int) < (N : Int) := (by omega); have hN11 : 1 < N := (by omega); have hN3 : ¬ N = 0 := (by omega))
  go_ret3
  exact rdpost_no HE.out hT
set_option maxHeartbeats 4000000 in
set_option maxRecDepth 100000 in
theorem rread_good0 (v : Value) (x : Nat) (r : List Nat) (w : World) (hm : (x :: r).length ≤ 100000) (hv : RdA [] w v (x :: r)) (hg : x = 16 * 0) : Calls Try.prog 13 #[v] w (RdPost w (readL (x :: r))) := by
  have hx := hv.lt x List.mem_cons_self
  have hsp := refSplit_any v (x :: r) w (by omega) hv
  have hN : 2 ≤ (nibs (x :: r)).length := by rw [nibs_length]; simp only [List.length_cons]; omega
  have hNm : (nibs (x :: r)).length ≤ 1000000 := by rw [nibs_length]; omega
  have hnl := nibs_lt hv.lt
  have hsp2 := hsp.mono (R' := fun e w' => ∃ g N cap, e = .returned (.slice (some ⟨g, 0, none⟩) N cap) ∧ Tch [] w w' ∧ Hid (RdA [] w' (.slice (some ⟨g, 0, none⟩) N cap) (nibs (x :: r))) ∧ 2 ≤ N ∧ N ≤ cap ∧ g < w'.heap.size ∧ w'.cell? ⟨g, 0, none⟩ = some (.int .u8 ((x / 16 : Nat) : Int)) ∧ w'.cell? ⟨g, 1, none⟩ = some (.int .u8 ((x % 16 : Nat) : Int))) (fun e w' h => by
    obtain ⟨v', rfl, hT, hown⟩ := h
    obtain ⟨g, cap, rfl, hcap, _⟩ := own_at hown (by omega)
    have hr := (RdB.own hown (fun y hy => Nat.lt_of_lt_of_le (hnl y hy) (by decide))).rdA (X := []) (by simp)
    obtain ⟨b, o, hp, hbw, _, hc⟩ := hr.at_ (by intro e; rw [e] at hN; simp at hN)
    cases hp
    exact ⟨g, _, cap, rfl, hT, Lib.hid hr, hN, hcap, hbw, hc 0 (by omega), hc 1 (by omega)⟩)
  have HNL := Lib.hid (fun y hy => Nat.lt_of_lt_of_le (hnl y hy) (by decide : 16 ≤ 256))
  clear hsp hN hNm hnl hv
  have HE := Lib.hid (show readL (x :: r) = some (nibs r, false) by
    rw [readL_cons, if_neg (by omega), if_neg (by omega)]
    have e1 : decide (2 ≤ x / 16) = false := by simp; omega
    rw [e1]
    rfl)
  have HDR := Lib.hid (show (nibs (x :: r)).drop 2 = nibs r by
    rw [nibs_cons]
    rfl)
  have hnl2 : ∀ y ∈ (nibs (x :: r)).drop 2, y < 256 := fun y hy => HNL.out y (List.mem_of_mem_drop hy)
  rw [HDR.out] at hnl2
  have HLT := Lib.hid hnl2
  clear hnl2
  have HLM := Lib.hid (show (nibs r).length ≤ 100000000 by rw [nibs_length]; simp only [List.length_cons] at hm; omega)
  rw [show x / 16 = 0 by omega, show x % 16 = 0 by omega] at hsp2
  clear hg
  have HSP := Lib.hid hsp2
  clear hsp2
  go_enter Try.func13, Try.ntmps13
  go_upto_region 6 with (go_at_call 14; (with_reducible refine HSP.out.mono ?_); clear HSP; rintro e w1 ⟨g, N, cap, rfl, hT, HR, hN2, hNc, hgw, hc0, hc1⟩; have hN0 : (0 : Int) < (N : Int) := (by omega); have hN00 : 0 < N := (by omega); have hN1 : (1 : Int) < (N : Int) := (by omega); have hN11 : 1 < N := (by omega); have hN3 : ¬ N = 0 := (by omega))
  have hq1 : (2 : Int) ≤ (N : Int) := by omega
  have hq2 : 2 ≤ N := by omega
  have hq3 : (N : Int) ≤ (cap : Int) := by omega
  have hsz := hT.size
  by_cases hcp : cap = 2
  · subst hcp
    obtain rfl : N = 2 := by omega
    have hsrc : RdA [] w1 (.slice (some ⟨g, 0, none⟩) (2 - 2) 0) _ := HR.out.from_eq (k := 2)
    rw [HDR.out] at hsrc
    have HSRC := Lib.hid (fun (w2 : World) (hT : Tch [] w1 w2) => (hsrc.tch hT).rdB)
    clear hsrc
    go_region_held3 (fun w' => w'.cell? ⟨g, 0, none⟩ = some (.int .u8 (0 : Int)))
      (first
        | go_keep
        | (go_split_ands
           exact (hT2.cell (p := ⟨g, 0, none⟩) (by simpa using hgw) (by simp)).trans (by assumption)))
      ((refine step_cloneB (B := w.heap.size) (by rfl) _ _ (by rfl) (by rfl) (by rfl) (by simp; omega) (HSRC.out _ ((Tch.refl _ _).drew)) HLM.out ?_; intro v2 w2 hown2 hT2))
    all_goals
      have HH := Lib.hid (And.intro hown2 hT2)
      clear hown2 hT2
      go_wp2
      go_ret3
      exact rdpost_yes HE.out (hT.trans (((Tch.refl _ _).drew).trans HH.out.2)) ((RdB.own HH.out.1 HLT.out).rdA (by simp))
  · have hsrc := HR.out.from_ne 2 hq2
    rw [HDR.out] at hsrc
    have HSRC := Lib.hid (fun (w2 : World) (hT : Tch [] w1 w2) => (hsrc.tch hT).rdB)
    clear hsrc
    go_region_held3 (fun w' => w'.cell? ⟨g, 0, none⟩ = some (.int .u8 (0 : Int)))
      (first
        | go_keep
        | (go_split_ands
           exact (hT2.cell (p := ⟨g, 0, none⟩) (by simpa using hgw) (by simp)).trans (by assumption)))
      ((refine step_cloneB (B := w.heap.size) (by rfl) _ _ (by rfl) (by rfl) (by rfl) (by simp; omega) (HSRC.out _ ((Tch.refl _ _).drew)) HLM.out ?_; intro v2 w2 hown2 hT2))
    all_goals
      have HH := Lib.hid (And.intro hown2 hT2)
      clear hown2 hT2
      go_wp2
      go_ret3
      exact rdpost_yes HE.out (hT.trans (((Tch.refl _ _).drew).trans HH.out.2)) ((RdB.own HH.out.1 HLT.out).rdA (by simp))

set_option maxHeartbeats 4000000 in
set_option maxRecDepth 100000 in
theorem rread_good1 (v : Value) (x s : Nat) (r : List Nat) (w : World) (hm : (x :: r).length ≤ 100000) (hv : RdA [] w v (x :: r)) (hg : x = 16 * 1 + s) (hs : s < 16) : Calls Try.prog 13 #[v] w (RdPost w (readL (x :: r))) := by
  have hx := hv.lt x List.mem_cons_self
  have hsp := refSplit_any v (x :: r) w (by omega) hv
  have hN : 2 ≤ (nibs (x :: r)).length := by rw [nibs_length]; simp only [List.length_cons]; omega
  have hNm : (nibs (x :: r)).length ≤ 1000000 := by rw [nibs_length]; omega
  have hnl := nibs_lt hv.lt
  have hsp2 := hsp.mono (R' := fun e w' => ∃ g N cap, e = .returned (.slice (some ⟨g, 0, none⟩) N cap) ∧ Tch [] w w' ∧ Hid (RdA [] w' (.slice (some ⟨g, 0, none⟩) N cap) (nibs (x :: r))) ∧ 2 ≤ N ∧ N ≤ cap ∧ g < w'.heap.size ∧ w'.cell? ⟨g, 0, none⟩ = some (.int .u8 ((x / 16 : Nat) : Int)) ∧ w'.cell? ⟨g, 1, none⟩ = some (.int .u8 ((x % 16 : Nat) : Int))) (fun e w' h => by
    obtain ⟨v', rfl, hT, hown⟩ := h
    obtain ⟨g, cap, rfl, hcap, _⟩ := own_at hown (by omega)
    have hr := (RdB.own hown (fun y hy => Nat.lt_of_lt_of_le (hnl y hy) (by decide))).rdA (X := []) (by simp)
    obtain ⟨b, o, hp, hbw, _, hc⟩ := hr.at_ (by intro e; rw [e] at hN; simp at hN)
    cases hp
    exact ⟨g, _, cap, rfl, hT, Lib.hid hr, hN, hcap, hbw, hc 0 (by omega), hc 1 (by omega)⟩)
  have HNL := Lib.hid (fun y hy => Nat.lt_of_lt_of_le (hnl y hy) (by decide : 16 ≤ 256))
  clear hsp hN hNm hnl hv
  have HE := Lib.hid (show readL (x :: r) = some (s :: nibs r, false) by
    rw [readL_cons, if_neg (by omega), if_pos (by omega)]
    have e1 : decide (2 ≤ x / 16) = false := by simp; omega
    rw [e1]
    have e2 : x % 16 = s := by omega
    rw [e2]; rfl)
  have HDR := Lib.hid (show (nibs (x :: r)).drop 1 = s :: nibs r by
    rw [nibs_cons]
    have e2 : x % 16 = s := by omega
    rw [e2]; rfl)
  have hnl2 : ∀ y ∈ (nibs (x :: r)).drop 1, y < 256 := fun y hy => HNL.out y (List.mem_of_mem_drop hy)
  rw [HDR.out] at hnl2
  have HLT := Lib.hid hnl2
  clear hnl2
  have HLM := Lib.hid (show (s :: nibs r).length ≤ 100000000 by simp only [List.length_cons, nibs_length]; simp only [List.length_cons] at hm; omega)
  rw [show x / 16 = 1 by omega, show x % 16 = s by omega] at hsp2
  clear hg
  have HSP := Lib.hid hsp2
  clear hsp2
  go_enter Try.func13, Try.ntmps13
  go_upto_region 5 with (go_at_call 14; (with_reducible refine HSP.out.mono ?_); clear HSP; rintro e w1 ⟨g, N, cap, rfl, hT, HR, hN2, hNc, hgw, hc0, hc1⟩; have hN0 : (0 : Int) < (N : Int) := (by omega); have hN00 : 0 < N := (by omega); have hN1 : (1 : Int) < (N : Int) := (by omega); have hN11 : 1 < N := (by omega); have hN3 : ¬ N = 0 := (by omega))
  have hq1 : (1 : Int) ≤ (N : Int) := by omega
  have hq2 : 1 ≤ N := by omega
  have hq3 : (N : Int) ≤ (cap : Int) := by omega
  have hsz := hT.size
  have hcp : ¬ cap = 1 := by omega
  have hsrc := HR.out.from_ne 1 hq2
  rw [HDR.out] at hsrc
  have HSRC := Lib.hid (fun (w2 : World) (hT : Tch [] w1 w2) => (hsrc.tch hT).rdB)
  clear hsrc
  go_region_held3 (fun w' => w'.cell? ⟨g, 0, none⟩ = some (.int .u8 (1 : Int)))
    (first
      | go_keep
      | (go_split_ands
         exact (hT2.cell (p := ⟨g, 0, none⟩) (by simpa using hgw) (by simp)).trans (by assumption)))
    ((refine step_cloneB (B := w.heap.size) (by rfl) _ _ (by rfl) (by rfl) (by rfl) (by simp; omega) (HSRC.out _ ((Tch.refl _ _).drew)) HLM.out ?_; intro v2 w2 hown2 hT2))
  all_goals
    have HH := Lib.hid (And.intro hown2 hT2)
    clear hown2 hT2
    go_wp2
    go_ret3
    exact rdpost_yes HE.out (hT.trans (((Tch.refl _ _).drew).trans HH.out.2)) ((RdB.own HH.out.1 HLT.out).rdA (by simp))

set_option maxHeartbeats 4000000 in
set_option maxRecDepth 100000 in
theorem rread_good2 (v : Value) (x : Nat) (r : List Nat) (w : World) (hm : (x :: r).length ≤ 100000) (hv : RdA [] w v (x :: r)) (hg : x = 16 * 2) : Calls Try.prog 13 #[v] w (RdPost w (readL (x :: r))) := by
  have hx := hv.lt x List.mem_cons_self
  have hsp := refSplit_any v (x :: r) w (by omega) hv
  have hN : 2 ≤ (nibs (x :: r)).length := by rw [nibs_length]; simp only [List.length_cons]; omega
  have hNm : (nibs (x :: r)).length ≤ 1000000 := by rw [nibs_length]; omega
  have hnl := nibs_lt hv.lt
  have hsp2 := hsp.mono (R' := fun e w' => ∃ g N cap, e = .returned (.slice (some ⟨g, 0, none⟩) N cap) ∧ Tch [] w w' ∧ Hid (RdA [] w' (.slice (some ⟨g, 0, none⟩) N cap) (nibs (x :: r))) ∧ 2 ≤ N ∧ N ≤ cap ∧ g < w'.heap.size ∧ w'.cell? ⟨g, 0, none⟩ = some (.int .u8 ((x / 16 : Nat) : Int)) ∧ w'.cell? ⟨g, 1, none⟩ = some (.int .u8 ((x % 16 : Nat) : Int))) (fun e w' h => by
    obtain ⟨v', rfl, hT, hown⟩ := h
    obtain ⟨g, cap, rfl, hcap, _⟩ := own_at hown (by omega)
    have hr := (RdB.own hown (fun y hy => Nat.lt_of_lt_of_le (hnl y hy) (by decide))).rdA (X := []) (by simp)
    obtain ⟨b, o, hp, hbw, _, hc⟩ := hr.at_ (by intro e; rw [e] at hN; simp at hN)
    cases hp
    exact ⟨g, _, cap, rfl, hT, Lib.hid hr, hN, hcap, hbw, hc 0 (by omega), hc 1 (by omega)⟩)
  have HNL := Lib.hid (fun y hy => Nat.lt_of_lt_of_le (hnl y hy) (by decide : 16 ≤ 256))
  clear hsp hN hNm hnl hv
  have HE := Lib.hid (show readL (x :: r) = some (nibs r, true) by
    rw [readL_cons, if_neg (by omega), if_neg (by omega)]
    have e1 : decide (2 ≤ x / 16) = true := by simp; omega
    rw [e1]
    rfl)
  have HDR := Lib.hid (show (nibs (x :: r)).drop 2 = nibs r by
    rw [nibs_cons]
    rfl)
  have hnl2 : ∀ y ∈ (nibs (x :: r)).drop 2, y < 256 := fun y hy => HNL.out y (List.mem_of_mem_drop hy)
  rw [HDR.out] at hnl2
  have HLT := Lib.hid hnl2
  clear hnl2
  have HLM := Lib.hid (show (nibs r).length ≤ 100000000 by rw [nibs_length]; simp only [List.length_cons] at hm; omega)
  rw [show x / 16 = 2 by omega, show x % 16 = 0 by omega] at hsp2
  clear hg
  have HSP := Lib.hid hsp2
  clear hsp2
  go_enter Try.func13, Try.ntmps13
  go_upto_region 6 with (go_at_call 14; (with_reducible refine HSP.out.mono ?_); clear HSP; rintro e w1 ⟨g, N, cap, rfl, hT, HR, hN2, hNc, hgw, hc0, hc1⟩; have hN0 : (0 : Int) < (N : Int) := (by omega); have hN00 : 0 < N := (by omega); have hN1 : (1 : Int) < (N : Int) := (by omega); have hN11 : 1 < N := (by omega); have hN3 : ¬ N = 0 := (by omega))
  have hq1 : (2 : Int) ≤ (N : Int) := by omega
  have hq2 : 2 ≤ N := by omega
  have hq3 : (N : Int) ≤ (cap : Int) := by omega
  have hsz := hT.size
  by_cases hcp : cap = 2
  · subst hcp
    obtain rfl : N = 2 := by omega
    have hsrc : RdA [] w1 (.slice (some ⟨g, 0, none⟩) (2 - 2) 0) _ := HR.out.from_eq (k := 2)
    rw [HDR.out] at hsrc
    have HSRC := Lib.hid (fun (w2 : World) (hT : Tch [] w1 w2) => (hsrc.tch hT).rdB)
    clear hsrc
    go_region_held3 (fun w' => w'.cell? ⟨g, 0, none⟩ = some (.int .u8 (2 : Int)))
      (first
        | go_keep
        | (go_split_ands
           exact (hT2.cell (p := ⟨g, 0, none⟩) (by simpa using hgw) (by simp)).trans (by assumption)))
      ((refine step_cloneB (B := w.heap.size) (by rfl) _ _ (by rfl) (by rfl) (by rfl) (by simp; omega) (HSRC.out _ ((Tch.refl _ _).drew)) HLM.out ?_; intro v2 w2 hown2 hT2))
    all_goals
      have HH := Lib.hid (And.intro hown2 hT2)
      clear hown2 hT2
      go_wp2
      go_ret3
      exact rdpost_yes HE.out (hT.trans (((Tch.refl _ _).drew).trans HH.out.2)) ((RdB.own HH.out.1 HLT.out).rdA (by simp))
  · have hsrc := HR.out.from_ne 2 hq2
    rw [HDR.out] at hsrc
    have HSRC := Lib.hid (fun (w2 : World) (hT : Tch [] w1 w2) => (hsrc.tch hT).rdB)
    clear hsrc
    go_region_held3 (fun w' => w'.cell? ⟨g, 0, none⟩ = some (.int .u8 (2 : Int)))
      (first
        | go_keep
        | (go_split_ands
           exact (hT2.cell (p := ⟨g, 0, none⟩) (by simpa using hgw) (by simp)).trans (by assumption)))
      ((refine step_cloneB (B := w.heap.size) (by rfl) _ _ (by rfl) (by rfl) (by rfl) (by simp; omega) (HSRC.out _ ((Tch.refl _ _).drew)) HLM.out ?_; intro v2 w2 hown2 hT2))
    all_goals
      have HH := Lib.hid (And.intro hown2 hT2)
      clear hown2 hT2
      go_wp2
      go_ret3
      exact rdpost_yes HE.out (hT.trans (((Tch.refl _ _).drew).trans HH.out.2)) ((RdB.own HH.out.1 HLT.out).rdA (by simp))

set_option maxHeartbeats 4000000 in
set_option maxRecDepth 100000 in
theorem rread_good3 (v : Value) (x s : Nat) (r : List Nat) (w : World) (hm : (x :: r).length ≤ 100000) (hv : RdA [] w v (x :: r)) (hg : x = 16 * 3 + s) (hs : s < 16) : Calls Try.prog 13 #[v] w (RdPost w (readL (x :: r))) := by
  have hx := hv.lt x List.mem_cons_self
  have hsp := refSplit_any v (x :: r) w (by omega) hv
  have hN : 2 ≤ (nibs (x :: r)).length := by rw [nibs_length]; simp only [List.length_cons]; omega
  have hNm : (nibs (x :: r)).length ≤ 1000000 := by rw [nibs_length]; omega
  have hnl := nibs_lt hv.lt
  have hsp2 := hsp.mono (R' := fun e w' => ∃ g N cap, e = .returned (.slice (some ⟨g, 0, none⟩) N cap) ∧ Tch [] w w' ∧ Hid (RdA [] w' (.slice (some ⟨g, 0, none⟩) N cap) (nibs (x :: r))) ∧ 2 ≤ N ∧ N ≤ cap ∧ g < w'.heap.size ∧ w'.cell? ⟨g, 0, none⟩ = some (.int .u8 ((x / 16 : Nat) : Int)) ∧ w'.cell? ⟨g, 1, none⟩ = some (.int .u8 ((x % 16 : Nat) : Int))) (fun e w' h => by
    obtain ⟨v', rfl, hT, hown⟩ := h
    obtain ⟨g, cap, rfl, hcap, _⟩ := own_at hown (by omega)
    have hr := (RdB.own hown (fun y hy => Nat.lt_of_lt_of_le (hnl y hy) (by decide))).rdA (X := []) (by simp)
    obtain ⟨b, o, hp, hbw, _, hc⟩ := hr.at_ (by intro e; rw [e] at hN; simp at hN)
    cases hp
    exact ⟨g, _, cap, rfl, hT, Lib.hid hr, hN, hcap, hbw, hc 0 (by omega), hc 1 (by omega)⟩)
  have HNL := Lib.hid (fun y hy => Nat.lt_of_lt_of_le (hnl y hy) (by decide : 16 ≤ 256))
  clear hsp hN hNm hnl hv
  have HE := Lib.hid (show readL (x :: r) = some (s :: nibs r, true) by
    rw [readL_cons, if_neg (by omega), if_pos (by omega)]
    have e1 : decide (2 ≤ x / 16) = true := by simp; omega
    rw [e1]
    have e2 : x % 16 = s := by omega
    rw [e2]; rfl)
  have HDR := Lib.hid (show (nibs (x :: r)).drop 1 = s :: nibs r by
    rw [nibs_cons]
    have e2 : x % 16 = s := by omega
    rw [e2]; rfl)
  have hnl2 : ∀ y ∈ (nibs (x :: r)).drop 1, y < 256 := fun y hy => HNL.out y (List.mem_of_mem_drop hy)
  rw [HDR.out] at hnl2
  have HLT := Lib.hid hnl2
  clear hnl2
  have HLM := Lib.hid (show (s :: nibs r).length ≤ 100000000 by simp only [List.length_cons, nibs_length]; simp only [List.length_cons] at hm; omega)
  rw [show x / 16 = 3 by omega, show x % 16 = s by omega] at hsp2
  clear hg
  have HSP := Lib.hid hsp2
  clear hsp2
  go_enter Try.func13, Try.ntmps13
  go_upto_region 5 with (go_at_call 14; (with_reducible refine HSP.out.mono ?_); clear HSP; rintro e w1 ⟨g, N, cap, rfl, hT, HR, hN2, hNc, hgw, hc0, hc1⟩; have hN0 : (0 : Int) < (N : Int) := (by omega); have hN00 : 0 < N := (by omega); have hN1 : (1 : Int) < (N : Int) := (by omega); have hN11 : 1 < N := (by omega); have hN3 : ¬ N = 0 := (by omega))
  have hq1 : (1 : Int) ≤ (N : Int) := by omega
  have hq2 : 1 ≤ N := by omega
  have hq3 : (N : Int) ≤ (cap : Int) := by omega
  have hsz := hT.size
  have hcp : ¬ cap = 1 := by omega
  have hsrc := HR.out.from_ne 1 hq2
  rw [HDR.out] at hsrc
  have HSRC := Lib.hid (fun (w2 : World) (hT : Tch [] w1 w2) => (hsrc.tch hT).rdB)
  clear hsrc
  go_region_held3 (fun w' => w'.cell? ⟨g, 0, none⟩ = some (.int .u8 (3 : Int)))
    (first
      | go_keep
      | (go_split_ands
         exact (hT2.cell (p := ⟨g, 0, none⟩) (by simpa using hgw) (by simp)).trans (by assumption)))
    ((refine step_cloneB (B := w.heap.size) (by rfl) _ _ (by rfl) (by rfl) (by rfl) (by simp; omega) (HSRC.out _ ((Tch.refl _ _).drew)) HLM.out ?_; intro v2 w2 hown2 hT2))
  all_goals
    have HH := Lib.hid (And.intro hown2 hT2)
    clear hown2 hT2
    go_wp2
    go_ret3
    exact rdpost_yes HE.out (hT.trans (((Tch.refl _ _).drew).trans HH.out.2)) ((RdB.own HH.out.1 HLT.out).rdA (by simp))

theorem RRead_any (v : Value) (l : List Nat) (w : World) (hm : l.length ≤ 100000) (hv : RdA [] w v l) : Calls Try.prog 13 #[v] w (RdPost w (readL l)) := by
  match l, hm, hv with
  | [], _, hv => exact rread_nil v w hv
  | x :: r, hm, hv =>
    have hx := hv.lt x List.mem_cons_self
    by_cases h3 : 3 < x / 16
    · exact rread_great v x r w hm hv h3
    · obtain ⟨s, hs⟩ : ∃ s, s = x % 16 := ⟨_, rfl⟩
      by_cases h0 : x / 16 = 0
      · by_cases hz : s = 0
        · exact rread_good0 v x r w hm hv (by omega)
        · exact rread_bad0 v x s r w hm hv (by omega) (by omega) hz
      · by_cases h2 : x / 16 = 2
        · by_cases hz : s = 0
          · exact rread_good2 v x r w hm hv (by omega)
          · exact rread_bad2 v x s r w hm hv (by omega) (by omega) hz
        · by_cases h1 : x / 16 = 1
          · exact rread_good1 v x s r w hm hv (by omega) (by omega)
          · exact rread_good3 v x s r w hm hv (by omega) (by omega)
end Go.Proofs.Ytgdojomaknbheaa
