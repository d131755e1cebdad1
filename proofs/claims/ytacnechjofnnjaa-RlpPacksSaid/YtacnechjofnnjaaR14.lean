/- What a head tells of, at any bytes; how many items there are. -/
import Derived.Test.YtacnechjofnnjaaR12
import Derived.Test.YtacnechjofnnjaaR13
namespace Go.Proofs.Ytacnechjofnnjaa
open Go.RowKit

/-- How long a slice is. -/
def slLen : Value → Nat
  | .slice _ n _ => n
  | _ => 0
theorem length_any (p : Option Addr) (n c m : Nat) (X : List Nat) (l : List Nat) (w : World) (hv : RdA X w (.slice p n c) l) (hm : 1 ≤ m ∧ m ≤ 8) (hn : n ≤ 100000000) :
    Calls Try.prog 31 #[.slice p n c, .int .i64 (m : Int)] w (LenPost l m w) := by
  by_cases h : m ≤ l.length ∧ l.getD 0 0 ≠ 0 ∧ m ≤ 4
  · exact length_yes p n c m X l w hv ⟨hm.1, h.2.2⟩ hn h.1 h.2.1
  · exact length_no p n c m X l w hv hm hn (fun h1 h2 => by
      by_cases h4 : m ≤ 4
      · exact absurd ⟨h1, h2, h4⟩ h
      · omega)
set_option maxHeartbeats 600000 in
set_option maxRecDepth 100000 in
/-- A head with a length of its own, that doesn't hold. -/
theorem split_long_bad (X : List Nat) (v : Value) (x : Nat) (r : List Nat) (w : World) (hx : 128 ≤ x) (hx64 : 55 < x % 64) (hn : (x :: r).length ≤ 100000000) (hv : RdA X w v (x :: r)) (hk : lenOk r (x % 64 - 55) = false) : Calls Try.prog 26 #[v] w (SplPost X (x :: r) w) := by
  obtain ⟨p, n, c, rfl⟩ := slice_keep hv
  have hln := hv.len
  have hcap := hv.cap
  have hs : spl (x :: r) = none := by
    rw [spl_cons, if_neg (by omega), if_neg (by omega), hk, if_neg (by decide)]
  have HN := Lib.hid (splpost_no (X := X) hs (Tch.refl [] w))
  obtain ⟨p', c', hp, _, hb, h4⟩ := id hv
  have hxb := hb x List.mem_cons_self
  cases hp
  obtain ⟨b, o, rfl, _, _, h8⟩ := h4 (by simp)
  have hc0 := h8 0 (by simp)
  rw [Nat.add_zero] at hc0
  simp only [List.getD_cons_zero] at hc0
  have hcap2 : r.length + 1 ≤ c := hcap
  have hn2 : r.length + 1 ≤ 100000000 := hn
  simp only [List.length_cons] at *
  have hx1 : ¬ (x : Int) < 128 := by omega
  have hmod : ((x % 64 : Nat) : Int) = (x : Int) % 64 := by omega
  have hm55 : (55 : Int) < (x : Int) % 64 := by omega
  have hsz : ((x % 64 - 55 : Nat) : Int) = (x : Int) % 64 - 55 := by omega
  by_cases hc1 : c = 1
  · subst hc1
    have hr0 : r = [] := List.eq_nil_of_length_eq_zero (by omega)
    subst hr0
    have hl := length_any (some ⟨b, o, none⟩) 0 0 (x % 64 - 55) X [] w ⟨_, _, rfl, Nat.le_refl _, by simp, fun h => absurd rfl h⟩ (by omega) (by omega)
    rw [hsz] at hl
    have hl2 := hl.mono (R' := fun e w' => w = w' ∧ ∃ u : Nat, u < 4294967296 ∧ e = .returned (.tuple #[.int .i64 (u : Int), .bool false])) (fun e w' h => by
      obtain ⟨h1, u, h2, _, h3⟩ := h
      rw [hk] at h2
      exact ⟨h1, u, h3, h2⟩)
    have HL := Lib.hid hl2
    clear h8 h4 hv hb hl hl2 hk hs
    simp only [List.length_nil, Nat.zero_add] at *
    go_enter Try.func26, Try.ntmps26
    go_wp2_with (go_at_call 31; refine HL.out.mono ?_; rintro e w' ⟨rfl, u, hu, rfl⟩)
    go_ret3
    exact HN.out
  · have h3 := hv.from_ne 1 (by omega)
    simp only [List.drop_succ_cons, List.drop_zero, Nat.add_sub_cancel] at h3
    have hl := length_any _ _ _ (x % 64 - 55) X r w h3 (by omega) (by omega)
    rw [hsz] at hl
    have hl2 := hl.mono (R' := fun e w' => w = w' ∧ ∃ u : Nat, u < 4294967296 ∧ e = .returned (.tuple #[.int .i64 (u : Int), .bool false])) (fun e w' h => by
      obtain ⟨h1, u, h2, _, h3⟩ := h
      rw [hk] at h2
      exact ⟨h1, u, h3, h2⟩)
    have HL := Lib.hid hl2
    clear h8 h4 hv hb hl hl2 hk hs h3
    go_enter Try.func26, Try.ntmps26
    go_wp2_with (go_at_call 31; refine HL.out.mono ?_; rintro e w' ⟨rfl, u, hu, rfl⟩)
    go_ret3
    exact HN.out
set_option maxHeartbeats 600000 in
set_option maxRecDepth 100000 in
/-- A head with a length of its own, that holds. -/
theorem split_long_ok (X : List Nat) (v : Value) (x : Nat) (r : List Nat) (w : World) (hx : 128 ≤ x) (hx64 : 55 < x % 64) (hn : (x :: r).length ≤ 100000000) (hv : RdA X w v (x :: r)) (hk : lenOk r (x % 64 - 55) = true) : Calls Try.prog 26 #[v] w (SplPost X (x :: r) w) := by
  obtain ⟨p, n, c, rfl⟩ := slice_keep hv
  have hln := hv.len
  have hcap := hv.cap
  obtain ⟨p', c', hp, _, hb, h4⟩ := id hv
  have hxb := hb x List.mem_cons_self
  cases hp
  obtain ⟨b, o, rfl, _, _, h8⟩ := h4 (by simp)
  have hc0 := h8 0 (by simp)
  rw [Nat.add_zero] at hc0
  simp only [List.getD_cons_zero] at hc0
  have hcap2 : r.length + 1 ≤ c := hcap
  have hn2 : r.length + 1 ≤ 100000000 := hn
  have hlr : (x :: r).length = r.length + 1 := rfl
  obtain ⟨m, hm⟩ : ∃ m, m = x % 64 - 55 := ⟨_, rfl⟩
  rw [← hm] at hk
  have hk' := hk
  unfold lenOk at hk'
  simp only [Bool.and_eq_true, decide_eq_true_eq, bne_iff_ne] at hk'
  obtain ⟨⟨⟨k1, k2⟩, k3⟩, k4⟩ := hk'
  have hx129 : ((x : Int) == 129) = false := by simp; omega
  have hspl : spl (x :: r) = if r.length - m < val (r.take m) then none else some (1 + m, val (r.take m)) := by
    rw [spl_cons, if_neg (by omega), if_neg (by omega), ← hm, hk, if_pos rfl]
    unfold chk
    rw [hlr, show r.length + 1 - (1 + m) = r.length - m by omega]
    by_cases h : r.length - m < val (r.take m)
    · rw [if_pos h, if_pos h]
    · rw [if_neg h, if_neg h, if_neg (by omega)]
  simp only [List.length_cons] at *
  have hx1 : ¬ (x : Int) < 128 := by omega
  have hmod : ((x % 64 : Nat) : Int) = (x : Int) % 64 := by omega
  have hm55 : (55 : Int) < (x : Int) % 64 := by omega
  have hsz : (x : Int) % 64 - 55 = (m : Int) := by omega
  have h3 := hv.from_ne 1 (by omega)
  simp only [List.drop_succ_cons, List.drop_zero, Nat.add_sub_cancel] at h3
  have hl := length_any _ _ _ m X r w h3 (by omega) (by omega)
  obtain ⟨V, hV⟩ : ∃ V, V = val (r.take m) := ⟨_, rfl⟩
  rw [← hV] at hspl k4
  have hl2 := hl.mono (R' := fun e w' => w = w' ∧ e = .returned (.tuple #[.int .i64 (V : Int), .bool true])) (fun e w' h => by
    obtain ⟨h1, u, h2, h5, _⟩ := h
    rw [hk] at h2
    rw [h5 hk, ← hV] at h2
    exact ⟨h1, h2⟩)
  have hcc : c ≠ 1 := by omega
  have h6 := h3.from_ne m (by omega)
  by_cases hfit : r.length - m < V
  · rw [if_pos hfit] at hspl
    have HN := Lib.hid (splpost_no (X := X) hspl (Tch.refl [] w))
    have HL := Lib.hid hl2
    have HM := Lib.hid hm
    clear hm hlr
    have hgt : ((r.length : Int) - (m : Int)) < (V : Int) := by omega
    clear h8 h4 hv hb hl hl2 hk hspl h3 h6 hV k2
    go_enter Try.func26, Try.ntmps26
    go_wp2_with (go_at_call 31; refine HL.out.mono ?_; rintro e w' ⟨rfl, rfl⟩)
    all_goals
      go_ret3
      exact HN.out
  · rw [if_neg hfit] at hspl
    have HL := Lib.hid hl2
    have hgt : ¬ ((r.length : Int) - (m : Int)) < (V : Int) := by omega
    have hcm : c - 1 ≠ m := by omega
    have hfin : ∀ (q : Option Addr) (m2 k c1 n1 : Nat) (w' : World), Tch [] w w' → c1 = c - 1 - m → n1 = V → m2 = r.length - m - V → k = c - 1 - m - V → (c - 1 - m ≠ V → q = some ⟨b, o + 1 + m + V, none⟩) → SplPost X (x :: r) w (.returned (.tuple #[.slice (some ⟨b, o + 1 + m, none⟩) n1 c1, .slice q m2 k, .bool true])) w' := fun q m2 k c1 n1 w' hT h1 hn1 h2 hk2 h5 => by
      subst h1; subst hn1
      refine splpost_yes hspl hT ?_ ?_
      · have := h6.take (k := n1) (by omega)
        rw [show (x :: r).drop (1 + m) = r.drop m by rw [Nat.add_comm]; rfl]
        exact this
      · rw [show (x :: r).drop (1 + m + n1) = (r.drop m).drop n1 by rw [List.drop_drop, show 1 + m + n1 = (m + n1) + 1 by omega]; rfl]
        by_cases h7 : c - 1 - m = n1
        · have h9 : m2 = 0 := by omega
          rw [h9]
          exact h6.gone (by omega)
        · rw [h5 h7, h2, hk2]
          exact h6.from_ne n1 (by omega)
    have HF := Lib.hid hfin
    have HM := Lib.hid hm
    clear h8 h4 hv hb hl hl2 hk hspl h3 h6 hV k2 hfin hm hlr
    by_cases h7 : c - 1 - m = V
    · go_enter Try.func26, Try.ntmps26
      go_wp2_with (go_at_call 31; refine HL.out.mono ?_; rintro e w' ⟨rfl, rfl⟩)
      go_quiet (fail)
      go_wp2
      go_ret3
      refine HF.out _ _ _ _ _ _ ((Tch.refl _ _).drewN _) ?_ ?_ ?_ ?_ (fun h => absurd h7 h)
      all_goals first | rfl | exact h7.symm | omega
    · go_enter Try.func26, Try.ntmps26
      go_wp2_with (go_at_call 31; refine HL.out.mono ?_; rintro e w' ⟨rfl, rfl⟩)
      go_quiet (fail)
      go_wp2
      go_ret3
      refine HF.out _ _ _ _ _ _ ((Tch.refl _ _).drewN _) ?_ ?_ ?_ ?_ (fun _ => ?_)
      all_goals first | rfl | omega
/-- What a head tells of. -/
theorem split_any (X : List Nat) (v : Value) (l : List Nat) (w : World) (hn : l.length ≤ 100000000) (hv : RdA X w v l) : Calls Try.prog 26 #[v] w (SplPost X l w) := by
  cases l with
  | nil => exact split_nil X v w hv
  | cons x r =>
    by_cases hx : x < 128
    · exact split_low X v x r w hx hn hv
    · by_cases h64 : x % 64 ≤ 55
      · by_cases hno : r.length < x % 64 ∨ (x = 129 ∧ r.getD 0 0 < 128)
        · exact split_short_no X v x r w (by omega) h64 hn hv hno
        · exact split_short_yes X v x r w (by omega) h64 hn hv (by omega) (fun h => hno (.inr h))
      · cases hk : lenOk r (x % 64 - 55) with
        | false => exact split_long_bad X v x r w (by omega) (by omega) hn hv hk
        | true => exact split_long_ok X v x r w (by omega) (by omega) hn hv hk
set_option maxHeartbeats 600000 in
set_option maxRecDepth 100000 in
/-- How many items there are. -/
theorem count_any (v : Value) (l : List Nat) (w : World) (hn : l.length ≤ 100000000) (hv : RdA [] w v l) : Calls Try.prog 32 #[v] w fun e w' => Tch [] w w' ∧ ∃ k : Nat, k ≤ l.length ∧ e = .returned (.int .i64 (k : Int)) := by
  have hsp := fun (u : Value) (q : List Nat) (w1 : World) (hq : q.length ≤ 100000000) (hu : RdA [] w1 u q) => (split_any [] u q w1 hq hu)
  have HS := Lib.hid hsp
  obtain ⟨p0, n0, c0, rfl⟩ := slice_keep hv
  have hln := Lib.hid hv.len
  clear hsp
  go_enter Try.func32, Try.ntmps32
  go_wp2
  go_loopw [0, 3] (fun u i wr => ∃ (k : Nat) (q : List Nat), q.length + k ≤ l.length ∧ i = .int .i64 (k : Int) ∧ RdA [] wr u q ∧ Tch [] w wr) (fun u _ _ => slLen u)
  case atStart => exact ⟨0, l, by omega, rfl, hv, Tch.refl _ _⟩
  case round =>
    obtain ⟨k, q, hk, rfl, hu, hT⟩ := hrel
    have hc := HS.out _ q wr (by omega) hu
    obtain ⟨p1, n1, c1, rfl⟩ := slice_keep hu
    have hln1 := Lib.hid hu.len
    cases hq : spl q with
    | none =>
      have hc2 := hc.mono (R' := fun e w' => e = .returned (.tuple #[.slice none 0 0, .slice none 0 0, .bool false]) ∧ Tch [] wr w') (fun e w' h => by
        obtain ⟨h1, h2⟩ := h
        rw [hq] at h2
        exact ⟨h2, h1⟩)
      have HC := Lib.hid hc2
      clear hc hc2
      go_wp2_with (go_at_call 26; refine HC.out.mono ?_; rintro e w1 ⟨rfl, hT1⟩)
      go_ret
      exact ⟨hT.trans hT1, k, by omega, rfl⟩
    | some hn2 =>
      obtain ⟨h, n2⟩ := hn2
      have hle := spl_some hq
      have hc2 := hc.mono (R' := fun e w' => ∃ v1 p2 n2' c2, e = .returned (.tuple #[v1, .slice p2 n2' c2, .bool true]) ∧ RdA [] w' (.slice p2 n2' c2) (q.drop (h + n2)) ∧ Tch [] wr w') (fun e w' h => by
        obtain ⟨h1, h2⟩ := h
        rw [hq] at h2
        obtain ⟨v1, v2, h3, _, h5⟩ := h2
        obtain ⟨p2, n2', c2, rfl⟩ := slice_keep h5
        exact ⟨v1, p2, n2', c2, h3, h5, h1⟩)
      have HC := Lib.hid hc2
      clear hc hc2
      go_wp2_with (go_at_call 26; refine HC.out.mono ?_; rintro e w1 ⟨v1, p2, n2', c2, rfl, hv2, hT1⟩)
      have hln2 := hv2.len
      rw [List.length_drop] at hln2
      have HL2 := Lib.hid hln2
      clear hln2
      go_roundw
      case rel => exact ⟨k + 1, q.drop (h + n2), by rw [List.length_drop]; omega, by go_num, hv2, hT.trans hT1⟩
      case measure =>
        have h1 := HL2.out
        have h2 := hln1.out
        simp [slLen]; omega
end Go.Proofs.Ytacnechjofnnjaa
