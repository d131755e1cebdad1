/- parse, at every kind of head. -/
import Derived.Test.YtacnechjofnnjaaR15
namespace Go.Proofs.Ytacnechjofnnjaa
open Go.RowKit

def ParseOK (j : Nat) : Prop := ∀ (X : List Nat) (v : Value) (l : List Nat) (w : World) (d : Int), l.length ≤ 100000000 → (∀ x ∈ X, x < w.heap.size) → RdA X w v l → d + j = 32 → 0 ≤ d →
  Calls Try.prog 17 #[v, .int .i64 d] w (ParsePost X j l w)
def ListOK (j : Nat) : Prop := ∀ (X : List Nat) (v : Value) (l : List Nat) (w : World) (d : Int), l.length ≤ 100000000 → (∀ x ∈ X, x < w.heap.size) → RdA X w v l → d + j = 32 → 0 ≤ d →
  Calls Try.prog 27 #[v, .int .i64 d] w (ListPost X j l w)
set_option maxHeartbeats 600000 in
set_option maxRecDepth 100000 in
theorem parse_nil (X : List Nat) (v : Value) (j : Nat) (w : World) (d : Int) (hv : RdA X w v []) : Calls Try.prog 17 #[v, .int .i64 d] w (ParsePost X j [] w) := by
  have hdec : dec j [] = .error 4 := by rw [dec_eq, if_neg (by simp)]; rfl
  have hc := (split_any X v [] w (by simp) hv).mono (R' := fun e w' => e = .returned (.tuple #[.slice none 0 0, .slice none 0 0, .bool false]) ∧ Tch [] w w') (fun e w' h => ⟨h.2, h.1⟩)
  obtain ⟨p, c, rfl, _⟩ := hv
  have HC := Lib.hid hc
  have HD := Lib.hid hdec
  clear hc hdec
  simp only [List.length_nil] at *
  go_enter Try.func17, Try.ntmps17
  go_wp2_with (go_at_call 26; refine HC.out.mono ?_; rintro e w1 ⟨rfl, hT1⟩)
  go_ret3
  exact parsepost_no HD.out rfl hT1
set_option maxHeartbeats 600000 in
set_option maxRecDepth 100000 in
theorem parse_deep (X : List Nat) (v : Value) (x : Nat) (r : List Nat) (j : Nat) (w : World) (d : Int) (hn : (x :: r).length ≤ 100000000) (hv : RdA X w v (x :: r)) (hd : d + j = 32) (hx : 192 ≤ x) (hj : j = 0) : Calls Try.prog 17 #[v, .int .i64 d] w (ParsePost X j (x :: r) w) := by
  obtain ⟨p, n, c, rfl⟩ := slice_keep hv
  obtain ⟨p', c', hp, _, hb, h4⟩ := id hv
  have hxb := hb x List.mem_cons_self
  cases hp
  obtain ⟨b, o, rfl, hbw, _, h8⟩ := h4 (by simp)
  have hc0 := h8 0 (by simp)
  rw [Nat.add_zero] at hc0
  simp only [List.getD_cons_zero] at hc0
  have hspl := split_any X _ (x :: r) w hn hv
  have hdec : dec j (x :: r) = .error 3 := by rw [dec_eq, if_pos ⟨by simpa using hx, hj⟩]
  have HD := Lib.hid hdec
  obtain rfl : d = 32 := by omega
  have hx1 : (192 : Int) ≤ x := by omega
  clear hdec h8 h4 hv hb hspl
  simp only [List.length_cons] at *
  go_enter Try.func17, Try.ntmps17
  go_wp2
  go_ret3
  exact parsepost_no HD.out rfl (Tch.refl _ _)
set_option maxHeartbeats 600000 in
set_option maxRecDepth 100000 in
theorem parse_none_low (X : List Nat) (v : Value) (x : Nat) (r : List Nat) (j : Nat) (w : World) (d : Int) (hn : (x :: r).length ≤ 100000000) (hv : RdA X w v (x :: r)) (hd : d + j = 32) (hx : x < 192) (hs : spl (x :: r) = none) : Calls Try.prog 17 #[v, .int .i64 d] w (ParsePost X j (x :: r) w) := by
  obtain ⟨p, n, c, rfl⟩ := slice_keep hv
  obtain ⟨p', c', hp, _, hb, h4⟩ := id hv
  have hxb := hb x List.mem_cons_self
  cases hp
  obtain ⟨b, o, rfl, hbw, _, h8⟩ := h4 (by simp)
  have hc0 := h8 0 (by simp)
  rw [Nat.add_zero] at hc0
  simp only [List.getD_cons_zero] at hc0
  have hspl := split_any X _ (x :: r) w hn hv
  have hdec : dec j (x :: r) = .error 4 := by rw [dec_eq, if_neg (by simp; omega), hs]
  have hc := hspl.mono (R' := fun e w' => e = .returned (.tuple #[.slice none 0 0, .slice none 0 0, .bool false]) ∧ Tch [] w w') (fun e w' h => by
    obtain ⟨h1, h2⟩ := h
    rw [hs] at h2
    exact ⟨h2, h1⟩)
  have HD := Lib.hid hdec
  have HC := Lib.hid hc
  have hx1 : ¬ (192 : Int) ≤ x := by omega
  clear hdec h8 h4 hv hb hspl hc hs
  simp only [List.length_cons] at *
  go_enter Try.func17, Try.ntmps17
  go_wp2_with (go_at_call 26; refine HC.out.mono ?_; rintro e w1 ⟨rfl, hT1⟩)
  go_ret3
  exact parsepost_no HD.out rfl hT1
set_option maxHeartbeats 600000 in
set_option maxRecDepth 100000 in
theorem parse_none_list (X : List Nat) (v : Value) (x : Nat) (r : List Nat) (j : Nat) (w : World) (d : Int) (hn : (x :: r).length ≤ 100000000) (hv : RdA X w v (x :: r)) (hd : d + j = 32) (hx : 192 ≤ x) (hj : 0 < j) (hs : spl (x :: r) = none) : Calls Try.prog 17 #[v, .int .i64 d] w (ParsePost X j (x :: r) w) := by
  obtain ⟨p, n, c, rfl⟩ := slice_keep hv
  obtain ⟨p', c', hp, _, hb, h4⟩ := id hv
  have hxb := hb x List.mem_cons_self
  cases hp
  obtain ⟨b, o, rfl, hbw, _, h8⟩ := h4 (by simp)
  have hc0 := h8 0 (by simp)
  rw [Nat.add_zero] at hc0
  simp only [List.getD_cons_zero] at hc0
  have hspl := split_any X _ (x :: r) w hn hv
  have hdec : dec j (x :: r) = .error 4 := by rw [dec_eq, if_neg (by simp; omega), hs]
  have hc := hspl.mono (R' := fun e w' => e = .returned (.tuple #[.slice none 0 0, .slice none 0 0, .bool false]) ∧ Tch [] w w') (fun e w' h => by
    obtain ⟨h1, h2⟩ := h
    rw [hs] at h2
    exact ⟨h2, h1⟩)
  have HD := Lib.hid hdec
  have HC := Lib.hid hc
  have hx1 : (192 : Int) ≤ x := by omega
  have hd1 : (d == 32) = false := by simp; omega
  have hd2 : ¬ d = 32 := by omega
  clear hdec h8 h4 hv hb hspl hc hs
  simp only [List.length_cons] at *
  go_enter Try.func17, Try.ntmps17
  go_wp2_with (go_at_call 26; refine HC.out.mono ?_; rintro e w1 ⟨rfl, hT1⟩)
  go_ret3
  exact parsepost_no HD.out rfl hT1
set_option maxHeartbeats 600000 in
set_option maxRecDepth 100000 in
theorem parse_single (X : List Nat) (v : Value) (x : Nat) (r : List Nat) (j : Nat) (w : World) (d : Int) (hn : (x :: r).length ≤ 100000000) (hv : RdA X w v (x :: r)) (hd : d + j = 32) (h n0 : Nat) (hx : x < 128) (hs : spl (x :: r) = some (h, n0)) : Calls Try.prog 17 #[v, .int .i64 d] w (ParsePost X j (x :: r) w) := by
  obtain ⟨p, n, c, rfl⟩ := slice_keep hv
  obtain ⟨p', c', hp, _, hb, h4⟩ := id hv
  have hxb := hb x List.mem_cons_self
  cases hp
  obtain ⟨b, o, rfl, hbw, _, h8⟩ := h4 (by simp)
  have hc0 := h8 0 (by simp)
  rw [Nat.add_zero] at hc0
  simp only [List.getD_cons_zero] at hc0
  have hspl := split_any X _ (x :: r) w hn hv
  have hle := spl_some hs
  have hc := hspl.mono (R' := fun e w' => ∃ p1 n1 c1 p2 n2 c2, e = .returned (.tuple #[.slice p1 n1 c1, .slice p2 n2 c2, .bool true]) ∧ RdA X w' (.slice p1 n1 c1) (((x :: r).drop h).take n0) ∧ RdA X w' (.slice p2 n2 c2) ((x :: r).drop (h + n0)) ∧ Tch [] w w') (fun e w' h => by
    obtain ⟨h1, h2⟩ := h
    rw [hs] at h2
    obtain ⟨v1, v2, h3, h5, h6⟩ := h2
    obtain ⟨p1, n1, c1, rfl⟩ := slice_keep h5
    obtain ⟨p2, n2, c2, rfl⟩ := slice_keep h6
    exact ⟨p1, n1, c1, p2, n2, c2, h3, h5, h6, h1⟩)
  have HC := Lib.hid hc
  have hh : h = 0 ∧ n0 = 1 := by rw [spl_cons, if_pos hx] at hs; cases hs; exact ⟨rfl, rfl⟩
  obtain ⟨rfl, rfl⟩ := hh
  have hdec : dec j (x :: r) = .ok (.str [x], r) := by rw [dec_eq, if_neg (by simp; omega), hs]; simp only []; rw [if_pos (by simp; omega)]; rfl
  have HD := Lib.hid hdec
  have hmk := mkS
  have hx1 : ¬ (192 : Int) ≤ x := by omega
  have hx2 : (x : Int) < 128 := by omega
  clear hdec h8 h4 hv hb hspl hc hs hle
  simp only [List.length_cons] at *
  go_enter Try.func17, Try.ntmps17
  go_wp2_with (go_at_call 26; refine HC.out.mono ?_; rintro e w1 ⟨p1, n1, c1, p2, n2, c2, rfl, hv1, hv2, hT1⟩; have hc1 := (hT1.cell (p := ⟨b, o, none⟩) hbw (by simp)).trans hc0; have HV := Lib.hid (And.intro hv1 hv2); clear hv1 hv2)
  go_ret3
  refine parsepost_yes HD.out hT1 ?_ HV.out.2
  unfold PcV
  rw [if_pos (by simpa [single] using hx)]; rfl
set_option maxHeartbeats 600000 in
set_option maxRecDepth 100000 in
theorem parse_text (X : List Nat) (v : Value) (x : Nat) (r : List Nat) (j : Nat) (w : World) (d : Int) (hn : (x :: r).length ≤ 100000000) (hv : RdA X w v (x :: r)) (hd : d + j = 32) (h n0 : Nat) (hx : 128 ≤ x) (hx2 : x < 192) (hs : spl (x :: r) = some (h, n0)) : Calls Try.prog 17 #[v, .int .i64 d] w (ParsePost X j (x :: r) w) := by
  obtain ⟨p, n, c, rfl⟩ := slice_keep hv
  obtain ⟨p', c', hp, _, hb, h4⟩ := id hv
  have hxb := hb x List.mem_cons_self
  cases hp
  obtain ⟨b, o, rfl, hbw, _, h8⟩ := h4 (by simp)
  have hc0 := h8 0 (by simp)
  rw [Nat.add_zero] at hc0
  simp only [List.getD_cons_zero] at hc0
  have hspl := split_any X _ (x :: r) w hn hv
  have hle := spl_some hs
  have hc := hspl.mono (R' := fun e w' => ∃ p1 n1 c1 p2 n2 c2, e = .returned (.tuple #[.slice p1 n1 c1, .slice p2 n2 c2, .bool true]) ∧ RdA X w' (.slice p1 n1 c1) (((x :: r).drop h).take n0) ∧ RdA X w' (.slice p2 n2 c2) ((x :: r).drop (h + n0)) ∧ Tch [] w w') (fun e w' h => by
    obtain ⟨h1, h2⟩ := h
    rw [hs] at h2
    obtain ⟨v1, v2, h3, h5, h6⟩ := h2
    obtain ⟨p1, n1, c1, rfl⟩ := slice_keep h5
    obtain ⟨p2, n2, c2, rfl⟩ := slice_keep h6
    exact ⟨p1, n1, c1, p2, n2, c2, h3, h5, h6, h1⟩)
  have HC := Lib.hid hc
  have hdec : dec j (x :: r) = .ok (.str (((x :: r).drop h).take n0), (x :: r).drop (h + n0)) := by rw [dec_eq, if_neg (by simp; omega), hs]; simp only []; rw [if_pos (by simp; omega)]
  have hsg : single (((x :: r).drop h).take n0) = false := by
    rcases spl_head hb hs with ⟨h1, _⟩ | ⟨_, _, _, h1⟩ | ⟨h1, _⟩
    · simp at h1; omega
    · exact h1
    · simp at h1; omega
  have HD := Lib.hid (And.intro hdec hsg)
  have hmk := mkT
  have hx1 : ¬ (192 : Int) ≤ x := by omega
  have hx3 : ¬ (x : Int) < 128 := by omega
  have hx4 : (x : Int) < 192 := by omega
  clear hdec h8 h4 hv hb hspl hc hs hle hsg
  simp only [List.length_cons] at *
  go_enter Try.func17, Try.ntmps17
  go_wp2_with (go_at_call 26; refine HC.out.mono ?_; rintro e w1 ⟨p1, n1, c1, p2, n2, c2, rfl, hv1, hv2, hT1⟩; have hc1 := (hT1.cell (p := ⟨b, o, none⟩) hbw (by simp)).trans hc0; have HV := Lib.hid (And.intro hv1 hv2); clear hv1 hv2)
  go_ret3
  refine parsepost_yes HD.out.1 hT1 ?_ HV.out.2
  unfold PcV
  rw [if_neg (by rw [HD.out.2]; decide)]
  exact ⟨_, rfl, HV.out.1⟩
set_option maxHeartbeats 600000 in
set_option maxRecDepth 100000 in
theorem parse_list (X : List Nat) (v : Value) (x : Nat) (r : List Nat) (j : Nat) (w : World) (d : Int) (hn : (x :: r).length ≤ 100000000) (hv : RdA X w v (x :: r)) (hd : d + j = 32) (h n0 j' : Nat) (ih : ListOK j') (hj : j = j' + 1) (hd0 : 0 ≤ d) (hX : ∀ x ∈ X, x < w.heap.size) (hx : 192 ≤ x) (hs : spl (x :: r) = some (h, n0)) : Calls Try.prog 17 #[v, .int .i64 d] w (ParsePost X j (x :: r) w) := by
  obtain ⟨p, n, c, rfl⟩ := slice_keep hv
  obtain ⟨p', c', hp, _, hb, h4⟩ := id hv
  have hxb := hb x List.mem_cons_self
  cases hp
  obtain ⟨b, o, rfl, hbw, _, h8⟩ := h4 (by simp)
  have hc0 := h8 0 (by simp)
  rw [Nat.add_zero] at hc0
  simp only [List.getD_cons_zero] at hc0
  have hspl := split_any X _ (x :: r) w hn hv
  have hle := spl_some hs
  have hc := hspl.mono (R' := fun e w' => ∃ p1 n1 c1 p2 n2 c2, e = .returned (.tuple #[.slice p1 n1 c1, .slice p2 n2 c2, .bool true]) ∧ RdA X w' (.slice p1 n1 c1) (((x :: r).drop h).take n0) ∧ RdA X w' (.slice p2 n2 c2) ((x :: r).drop (h + n0)) ∧ Tch [] w w') (fun e w' h => by
    obtain ⟨h1, h2⟩ := h
    rw [hs] at h2
    obtain ⟨v1, v2, h3, h5, h6⟩ := h2
    obtain ⟨p1, n1, c1, rfl⟩ := slice_keep h5
    obtain ⟨p2, n2, c2, rfl⟩ := slice_keep h6
    exact ⟨p1, n1, c1, p2, n2, c2, h3, h5, h6, h1⟩)
  have HC := Lib.hid hc
  obtain ⟨body, hbody⟩ : ∃ body, body = ((x :: r).drop h).take n0 := ⟨_, rfl⟩
  have hbl : body.length = n0 := by rw [hbody, List.length_take, List.length_drop]; omega
  have hdec : dec j (x :: r) = match decL (dec j') n0 body with
      | .error e => .error e
      | .ok ts => .ok (.lst ts, (x :: r).drop (h + n0)) := by
    subst hj
    rw [dec_eq, if_neg (by simp), hs, hbody]; simp only []; rw [if_neg (by simp; omega)]
    cases decL (dec j') n0 (List.take n0 (List.drop h (x :: r))) <;> rfl
  rw [← hbody] at HC
  have hlist := fun (w1 : World) (u : Value) (hT : Tch [] w w1) (hu : RdA X w1 u body) => (ih X u body w1 (d + 1) (by have := hle.1; omega) (fun y hy => Nat.lt_of_lt_of_le (hX y hy) hT.size) hu (by omega) (by omega)).mono (R' := fun e w' => ∃ p3 n3 k3, ∃ en : Int, e = .returned (.tuple #[.slice p3 n3 k3, .int .i64 en]) ∧ Tch [] w1 w' ∧
      ∀ (v2 : Value), RdA X w1 v2 ((x :: r).drop (h + n0)) → ParsePost X j (x :: r) w (.returned (.tuple #[.iface 61 (.slice p3 n3 k3), v2, .int .i64 en])) w') (fun e w' hh => by
    obtain ⟨h1, h2⟩ := hh
    rw [hbl] at h2
    split at h2
    · rename_i e' he
      obtain ⟨p3, n3, k3, rfl⟩ := h2
      refine ⟨p3, n3, k3, _, rfl, h1, fun v2 _ => parsepost_no (by rw [hdec, he]) rfl (hT.trans h1)⟩
    · rename_i ts he
      obtain ⟨p3, k3, rfl, hpc⟩ := h2
      refine ⟨p3, _, k3, _, rfl, h1, fun v2 hv2 => parsepost_yes (by rw [hdec, he]) (hT.trans h1) (by subst hj; exact hpc) (hv2.tch (h1.mono (by simp)))⟩)
  have HL := Lib.hid hlist
  have hmk := mkL
  have hx1 : (192 : Int) ≤ x := by omega
  have hd1 : (d == 32) = false := by simp; omega
  have hd2 : ¬ d = 32 := by omega
  have hd3 : d ≤ 31 := by omega
  have hx3 : ¬ (x : Int) < 128 := by omega
  have hx4 : ¬ (x : Int) < 192 := by omega
  clear hdec h8 h4 hv hb hspl hc hs hle hlist hbody hbl hj hd
  simp only [List.length_cons] at *
  go_enter Try.func17, Try.ntmps17
  go_wp2_with (first
    | (go_at_call 26; refine HC.out.mono ?_; rintro e w1 ⟨p1, n1, c1, p2, n2, c2, rfl, hv1, hv2, hT1⟩; have hc1 := (hT1.cell (p := ⟨b, o, none⟩) hbw (by simp)).trans hc0; have HV := Lib.hid (And.intro hv1 hv2); clear hv1 hv2)
    | (go_at_call 27; refine (HL.out _ _ hT1 HV.out.1).mono ?_; rintro e w2 ⟨p3, n3, k3, en, rfl, hT2, hfin⟩; have HF := Lib.hid hfin; clear hfin))
  go_ret3
  exact HF.out _ HV.out.2
theorem parse_of (j : Nat) (ih : ∀ j', j = j' + 1 → ListOK j') : ParseOK j := by
  intro X v l w d hn hX hv hd hd0
  cases l with
  | nil => exact parse_nil X v j w d hv
  | cons x r =>
    by_cases hx : 192 ≤ x
    · cases j with
      | zero => exact parse_deep X v x r 0 w d hn hv hd hx rfl
      | succ j' =>
        cases hs : spl (x :: r) with
        | none => exact parse_none_list X v x r (j' + 1) w d hn hv hd hx (by omega) hs
        | some hn2 =>
          obtain ⟨h, n0⟩ := hn2
          exact parse_list X v x r (j' + 1) w d hn hv hd h n0 j' (ih j' rfl) rfl hd0 hX hx hs
    · cases hs : spl (x :: r) with
      | none => exact parse_none_low X v x r j w d hn hv hd (by omega) hs
      | some hn2 =>
        obtain ⟨h, n0⟩ := hn2
        by_cases hx2 : x < 128
        · exact parse_single X v x r j w d hn hv hd h n0 hx2 hs
        · exact parse_text X v x r j w d hn hv hd h n0 (by omega) (by omega) hs
end Go.Proofs.Ytacnechjofnnjaa
