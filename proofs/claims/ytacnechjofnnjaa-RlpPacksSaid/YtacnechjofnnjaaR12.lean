/- What a head tells of: the heads that hold. -/
import Derived.Test.YtacnechjofnnjaaR11
namespace Go.Proofs.Ytacnechjofnnjaa
open Go.RowKit

theorem RdA.from_if {X : List Nat} {w : World} {b o n c : Nat} {l : List Nat} (k : Nat) (h : RdA X w (.slice (some ⟨b, o, none⟩) n c) l) (hk : k ≤ n) : RdA X w (.slice (if c = k then some ⟨b, o, none⟩ else some ⟨b, o + k, none⟩) (n - k) (c - k)) (l.drop k) := by
  by_cases hc : c = k
  · rw [if_pos hc]; subst hc
    rw [Nat.sub_self]
    exact h.from_eq
  · rw [if_neg hc]; exact h.from_ne k hk
set_option maxHeartbeats 2000000 in
set_option maxRecDepth 100000 in
theorem split_short_yes (X : List Nat) (v : Value) (x : Nat) (r : List Nat) (w : World) (hx : 128 ≤ x) (hx64 : x % 64 ≤ 55) (hn : (x :: r).length ≤ 100000000) (hv : RdA X w v (x :: r)) (hfit : x % 64 ≤ r.length) (hno : ¬ (x = 129 ∧ r.getD 0 0 < 128)) : Calls Try.prog 26 #[v] w (SplPost X (x :: r) w) := by
  obtain ⟨p, n, c, rfl⟩ := slice_keep hv
  have hln := hv.len
  have hcap := hv.cap
  have hs : spl (x :: r) = some (1, x % 64) := by
    rw [spl_cons, if_neg (by omega), if_pos hx64]
    unfold chk
    rw [if_neg (by simp; omega), if_neg (by simpa using hno)]
  obtain ⟨p', c', hp, _, hb, h4⟩ := id hv
  have hxb := hb x List.mem_cons_self
  cases hp
  obtain ⟨b, o, rfl, _, _, h8⟩ := h4 (by simp)
  have hc0 := h8 0 (by simp)
  rw [Nat.add_zero] at hc0
  simp only [List.getD_cons_zero] at hc0
  have hlr : (x :: r).length = r.length + 1 := rfl
  have hcap2 : r.length + 1 ≤ c := hcap
  have HV := Lib.hid (And.intro hv hs)
  rw [hlr] at *
  have hx1 : ¬ (x : Int) < 128 := by omega
  have hmod : ((x % 64 : Nat) : Int) = (x : Int) % 64 := by omega
  have hm55 : ¬ (55 : Int) < (x : Int) % 64 := by omega
  have hge : ¬ ((r.length : Nat) : Int) < (x : Int) % 64 := by omega
  by_cases hc1 : c = 1
  · subst hc1
    have hr0 : r.length = 0 := by omega
    have hx0 : (x : Int) % 64 = 0 := by omega
    have hx129 : ((x : Int) == 129) = false := by simp; omega
    clear h8 h4 hv hb
    go_enter Try.func26, Try.ntmps26
    go_wp2
    go_quiet (fail)
    go_wp2
    go_ret3
    have hr : r = [] := List.eq_nil_of_length_eq_zero hr0
    have hxm : x % 64 = 0 := by omega
    refine splpost_yes HV.out.2 ((Tch.refl _ _).drewN _) ?_ ?_
    · rw [hxm, List.take_zero]; exact ⟨_, _, rfl, Nat.zero_le _, by simp, fun h => absurd rfl h⟩
    · exact HV.out.1.gone (by rw [hr]; simp)
  · by_cases hx9 : x = 129
    · subst hx9
      have hc2 := h8 1 (by simp; omega)
      simp only [List.getD_cons_succ] at hc2
      generalize hy : r.getD 0 0 = y at *
      have hy' : ¬ (y : Int) < 128 := by omega
      clear h8 h4 hv hb
      have hfin : ∀ (q : Option Addr) (w' : World), Tch [] w w' → (c = 2 → r.length - 1 = 0) → (c ≠ 2 → q = some ⟨b, o + 1 + 1, none⟩) → SplPost X (129 :: r) w (.returned (.tuple #[.slice (some ⟨b, o + 1, none⟩) 1 (c - 1), .slice q (r.length - 1) (c - 1 - 1), .bool true])) w' := fun q w' hT h1 h2 => by
        have h3 := HV.out.1.from_ne 1 (by omega)
        refine splpost_yes HV.out.2 hT (h3.take (k := 1) (by simp; omega)) ?_
        by_cases hcc : c = 2
        · have h5 := h1 hcc
          rw [h5]
          have := h3.gone (q := q) (m := c - 1 - 1) (k := 1) (by simp; omega)
          rw [List.drop_drop] at this
          exact this
        · rw [h2 hcc]
          have := h3.from_ne 1 (by simp; omega)
          rw [List.drop_drop] at this
          exact this
      have HF := Lib.hid hfin
      clear hfin
      by_cases hcc2 : c = 2
      · subst hcc2
        go_enter Try.func26, Try.ntmps26
        go_wp2
        go_quiet (fail)
        go_wp2
        go_ret3
        exact HF.out _ _ ((Tch.refl _ _).drewN _) (fun _ => by omega) (fun h => absurd rfl h)
      · go_enter Try.func26, Try.ntmps26
        go_wp2
        go_quiet (fail)
        go_wp2
        go_ret3
        exact HF.out _ _ ((Tch.refl _ _).drewN _) (fun h => absurd h hcc2) (fun _ => rfl)
    · have hx129 : ((x : Int) == 129) = false := by simp; omega
      clear h8 h4 hv hb
      have hfin : ∀ (q : Option Addr) (m k c1 : Nat) (w' : World), Tch [] w w' → c1 = c - 1 → m = r.length - x % 64 → k = c - 1 - x % 64 → (c - 1 ≠ x % 64 → q = some ⟨b, o + 1 + x % 64, none⟩) → SplPost X (x :: r) w (.returned (.tuple #[.slice (some ⟨b, o + 1, none⟩) (x % 64) c1, .slice q m k, .bool true])) w' := fun q m k c1 w' hT hc1 hm hk h2 => by
        subst hc1
        have h3 := HV.out.1.from_ne 1 (by omega)
        refine splpost_yes HV.out.2 hT (h3.take (k := x % 64) (by simpa using hfit)) ?_
        by_cases hcc : c - 1 = x % 64
        · have h5 : m = 0 := by omega
          rw [h5]
          have := h3.gone (q := q) (m := k) (k := x % 64) (by simp; omega)
          rw [List.drop_drop] at this
          exact this
        · rw [h2 hcc, hm, hk]
          have := h3.from_ne (x % 64) (by simpa using hfit)
          rw [List.drop_drop] at this
          exact this
      have HF := Lib.hid hfin
      clear hfin
      by_cases hcc2 : c - 1 = x % 64
      · go_enter Try.func26, Try.ntmps26
        go_wp2
        go_quiet (fail)
        go_wp2
        go_ret3
        refine HF.out _ _ _ _ _ ((Tch.refl _ _).drewN _) ?_ ?_ ?_ (fun h => absurd hcc2 h)
        all_goals first | rfl | exact hcc2.symm | (rw [hcc2])
      · go_enter Try.func26, Try.ntmps26
        go_wp2
        go_quiet (fail)
        go_wp2
        go_ret3
        exact HF.out _ _ _ _ _ ((Tch.refl _ _).drewN _) rfl rfl rfl (fun _ => rfl)
end Go.Proofs.Ytacnechjofnnjaa
