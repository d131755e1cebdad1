/- A length in a head, and what a head tells of. -/
import Derived.Test.YtacnechjofnnjaaR10
namespace Go.Proofs.Ytacnechjofnnjaa
open Go.RowKit

theorem take_snoc' (l : List Nat) (k : Nat) (h : k < l.length) : l.take (k + 1) = l.take k ++ [l.getD k 0] := by
  rw [List.take_succ_eq_append_getElem h, List.getD_eq_getElem?_getD, List.getElem?_eq_getElem h]; rfl
set_option maxHeartbeats 2000000 in
set_option maxRecDepth 100000 in
theorem length_yes (p : Option Addr) (n c m : Nat) (X : List Nat) (l : List Nat) (w : World) (hv : RdA X w (.slice p n c) l) (hm : 1 ≤ m ∧ m ≤ 4) (hn : n ≤ 100000000) (h1 : m ≤ l.length) (h2 : l.getD 0 0 ≠ 0) :
    Calls Try.prog 31 #[.slice p n c, .int .i64 (m : Int)] w (LenPost l m w) := by
  have hl4 := lengthSize_any 16777216 w (by omega) (by omega)
  rw [lsz_four (by omega) (by omega)] at hl4
  have hln := hv.len
  have hcap := hv.cap
  have hb256 := hv.lt
  have hvm : ∀ q, q ≤ m → val (l.take q) < 256 ^ q := fun q hq => by
    have := val_lt (l.take q) (fun x hx => hb256 x (List.mem_of_mem_take hx))
    rwa [List.length_take, Nat.min_eq_left (by omega)] at this
  have hstep : ∀ q, q < m → val (l.take (q + 1)) = val (l.take q) * 256 + l.getD q 0 ∧ l.getD q 0 < 256 ∧ val (l.take q) < 16777216 := fun q hq => by
    refine ⟨by rw [take_snoc' l q (by omega), val_snoc], ?_, ?_⟩
    · have e : l.getD q 0 = l[q]'(by omega) := by rw [List.getD_eq_getElem?_getD, List.getElem?_eq_getElem (by omega)]; rfl
      rw [e]; exact hb256 _ (List.getElem_mem _)
    · have := hvm q (by omega)
      have h3 : (256 : Nat) ^ q ≤ 256 ^ 3 := Nat.pow_le_pow_right (by omega) (by omega)
      omega
  have hend : val (l.take m) < 4294967296 := by
    have := hvm m (Nat.le_refl _)
    have h3 : (256 : Nat) ^ m ≤ 256 ^ 4 := Nat.pow_le_pow_right (by omega) (by omega)
    omega
  have hfin : LenPost l m w (.returned (.tuple #[.int .i64 (val (l.take m) : Int), .bool (decide (55 < (val (l.take m) : Int)))])) w := by
    have e : lenOk l m = decide (55 < (val (l.take m) : Int)) := by
      unfold lenOk
      rw [show decide (m ≤ l.length) = true from decide_eq_true h1, show decide (m ≤ 4) = true from decide_eq_true hm.2, show (l.getD 0 0 != 0) = true by rw [bne_iff_ne]; exact h2]
      simp only [Bool.true_and]
      exact decide_eq_decide.2 (by omega)
    exact ⟨rfl, _, (by rw [e]), fun _ => rfl, hend⟩
  have HF := Lib.hid hfin
  have HL := Lib.hid hl4
  have HV := Lib.hid hstep
  have hne : l ≠ [] := by intro e; subst e; simp at h1; omega
  obtain ⟨p', c', hp, _, _, h4⟩ := hv
  cases hp
  obtain ⟨b, o, rfl, _, _, h8⟩ := h4 hne
  have hc0 := h8 0 (by omega)
  rw [Nat.add_zero] at hc0
  have H8 := Lib.hid h8
  have hd1 : ¬ ((l.length : Nat) : Int) < (m : Int) := by omega
  generalize hx : l.getD 0 0 = x at hc0 h2
  have hx0 : ((x : Int) == 0) = false := by simp; omega
  have hm4 : decide ((4 : Int) < (m : Int)) = false := decide_eq_false (by omega)
  clear h8 h4 hfin hl4 hstep hvm hend hb256
  go_enter Try.func31, Try.ntmps31
  go_wp2_with (go_at_call 29; refine HL.out.mono ?_; rintro e w' ⟨rfl, rfl⟩)
  clear HL
  go_loop [6, 28] (fun nv i => ∃ q : Nat, q ≤ m ∧ i = .int .i64 (q : Int) ∧ nv = .int .i64 (val (l.take q) : Int)) (fun _ i => m - (intOf i).toNat)
  case atStart => exact ⟨0, by omega, rfl, rfl⟩
  case round =>
    obtain ⟨q, hq, rfl, rfl⟩ := hrel
    by_cases hqm : q < m
    · have hcq := H8.out q (by omega)
      obtain ⟨h5, h6, h7⟩ := HV.out q hqm
      have hor := or_byte (val (l.take q)) (l.getD q 0) h6 h7
      have HQ := Lib.hid h5
      clear h5
      generalize val (l.take q) = V at *
      generalize l.getD q 0 = y at *
      go_wp2
      go_round
      case rel => exact ⟨q + 1, by omega, by go_num, by rw [HQ.out]; simp⟩
      case measure => simp [intOf]; omega
    · obtain rfl : q = m := by omega
      generalize hV : val (l.take q) = V at *
      go_wp2
      go_ret2
      exact HF.out
/-- What a head tells of: how many bytes it has, how many follow. -/
def chk (c : Nat) (l : List Nat) (h n : Nat) : Option (Nat × Nat) := if l.length - h < n then none else if c = 129 ∧ l.getD h 0 < 128 then none else some (h, n)
def spl : List Nat → Option (Nat × Nat)
  | [] => none
  | c :: r => if c < 128 then some (0, 1) else if c % 64 ≤ 55 then chk c (c :: r) 1 (c % 64) else if lenOk r (c % 64 - 55) then chk c (c :: r) (1 + (c % 64 - 55)) (val (r.take (c % 64 - 55))) else none
theorem spl_cons (c : Nat) (r : List Nat) : spl (c :: r) = if c < 128 then some (0, 1) else if c % 64 ≤ 55 then chk c (c :: r) 1 (c % 64) else if lenOk r (c % 64 - 55) then chk c (c :: r) (1 + (c % 64 - 55)) (val (r.take (c % 64 - 55))) else none := rfl
def SplPost (X : List Nat) (l : List Nat) (w : World) (e : Ending) (w' : World) : Prop :=
  Tch [] w w' ∧ match spl l with
    | none => e = .returned (.tuple #[.slice none 0 0, .slice none 0 0, .bool false])
    | some (h, n) => ∃ v1 v2, e = .returned (.tuple #[v1, v2, .bool true]) ∧ RdA X w' v1 ((l.drop h).take n) ∧ RdA X w' v2 (l.drop (h + n))
theorem splpost_no {X : List Nat} {l : List Nat} {w w' : World} (h : spl l = none) (hT : Tch [] w w') : SplPost X l w (.returned (.tuple #[.slice none 0 0, .slice none 0 0, .bool false])) w' := ⟨hT, by rw [h]⟩
theorem splpost_yes {X : List Nat} {l : List Nat} {w w' : World} {v1 v2 : Value} {h n : Nat} (hs : spl l = some (h, n)) (hT : Tch [] w w') (h1 : RdA X w v1 ((l.drop h).take n)) (h2 : RdA X w v2 (l.drop (h + n))) : SplPost X l w (.returned (.tuple #[v1, v2, .bool true])) w' :=
  ⟨hT, by rw [hs]; exact ⟨v1, v2, rfl, h1.tch (hT.mono (by simp)), h2.tch (hT.mono (by simp))⟩⟩
theorem RdA.from_ne {X : List Nat} {w : World} {b o n c : Nat} {l : List Nat} (k : Nat) (h : RdA X w (.slice (some ⟨b, o, none⟩) n c) l) (hk : k ≤ n) : RdA X w (.slice (some ⟨b, o + k, none⟩) (n - k) (c - k)) (l.drop k) := by
  obtain ⟨p', c', h1, h2, h3, h4⟩ := h
  cases h1
  refine ⟨_, _, by rw [List.length_drop], by rw [List.length_drop]; omega, fun x hx => h3 x (List.mem_of_mem_drop hx), fun hl => ?_⟩
  have hlt : k < l.length := by
    rcases Nat.lt_or_ge k l.length with h | h
    · exact h
    · exact absurd (List.drop_eq_nil_of_le h) hl
  obtain ⟨b', o', h5, h6, h7, h8⟩ := h4 (by intro e; subst e; simp at hlt)
  cases h5
  refine ⟨b, o + k, rfl, h6, h7, fun i hi => ?_⟩
  rw [List.length_drop] at hi
  rw [Nat.add_assoc, h8 (k + i) (by omega)]
  simp
theorem RdA.gone {X : List Nat} {w : World} {p q : Option Addr} {n c m k : Nat} {l : List Nat} (h : RdA X w (.slice p n c) l) (hk : n ≤ k) : RdA X w (.slice q 0 m) (l.drop k) := by
  rw [List.drop_eq_nil_of_le (by rw [← h.len]; exact hk)]
  exact ⟨q, m, rfl, Nat.zero_le _, by simp, fun h => absurd rfl h⟩
theorem RdA.from_eq {X : List Nat} {w : World} {p q : Option Addr} {n k : Nat} {l : List Nat} (h : RdA X w (.slice p n k) l) : RdA X w (.slice q (n - k) 0) (l.drop k) := by
  obtain ⟨p', c', h1, h2, h3, h4⟩ := h
  cases h1
  rw [List.drop_eq_nil_of_le h2, Nat.sub_eq_zero_of_le h2]
  exact ⟨q, 0, rfl, Nat.le_refl _, by simp, fun h => absurd rfl h⟩
set_option maxHeartbeats 2000000 in
set_option maxRecDepth 100000 in
theorem split_nil (X : List Nat) (v : Value) (w : World) (hv : RdA X w v []) : Calls Try.prog 26 #[v] w (SplPost X [] w) := by
  obtain ⟨p, c, rfl, _⟩ := hv
  simp only [List.length_nil]
  go_enter Try.func26, Try.ntmps26
  go_wp2
  go_ret3
  exact splpost_no rfl (Tch.refl _ _)
set_option maxHeartbeats 2000000 in
set_option maxRecDepth 100000 in
theorem split_low (X : List Nat) (v : Value) (x : Nat) (r : List Nat) (w : World) (hx : x < 128) (hn : (x :: r).length ≤ 100000000) (hv : RdA X w v (x :: r)) : Calls Try.prog 26 #[v] w (SplPost X (x :: r) w) := by
  obtain ⟨p, n, c, rfl⟩ := slice_keep hv
  have hln := hv.len
  have hcap := hv.cap
  have h1n : 1 ≤ n := by rw [hln]; simp
  obtain ⟨p', c', hp, _, _, h4⟩ := id hv
  cases hp
  obtain ⟨b, o, rfl, _, _, h8⟩ := h4 (by simp)
  have hc0 := h8 0 (by simp)
  rw [Nat.add_zero] at hc0
  simp only [List.getD_cons_zero] at hc0
  have HV := Lib.hid hv
  generalize hN : (x :: r).length = N at *
  have hx' : (x : Int) < 128 := by omega
  clear h8 h4 hv
  have hspl : spl (x :: r) = some (0, 1) := by rw [spl_cons, if_pos hx]
  by_cases hc1 : c = 1
  · subst hc1
    go_enter Try.func26, Try.ntmps26
    go_wp2
    go_quiet (fail)
    go_wp2
    go_ret3
    exact splpost_yes hspl ((Tch.refl _ _).drewN _) (HV.out.take h1n) (HV.out.gone HV.out.cap)
  · go_enter Try.func26, Try.ntmps26
    go_wp2
    go_quiet (fail)
    go_wp2
    go_ret3
    exact splpost_yes hspl ((Tch.refl _ _).drewN _) (HV.out.take h1n) (HV.out.from_ne 1 h1n)
set_option maxHeartbeats 2000000 in
set_option maxRecDepth 100000 in
/-- A head without a length of its own; what follows it is missing, or it is not the right one. -/
theorem split_short_no (X : List Nat) (v : Value) (x : Nat) (r : List Nat) (w : World) (hx : 128 ≤ x) (hx64 : x % 64 ≤ 55) (hn : (x :: r).length ≤ 100000000) (hv : RdA X w v (x :: r)) (hno : r.length < x % 64 ∨ (x = 129 ∧ r.getD 0 0 < 128)) : Calls Try.prog 26 #[v] w (SplPost X (x :: r) w) := by
  obtain ⟨p, n, c, rfl⟩ := slice_keep hv
  have hln := hv.len
  have hcap := hv.cap
  have h1n : 1 ≤ n := by rw [hln]; simp
  have hs : spl (x :: r) = none := by
    rw [spl_cons, if_neg (by omega), if_pos hx64]
    unfold chk
    rcases hno with h | ⟨h1, h2⟩
    · rw [if_pos (by simp; omega)]
    · by_cases h3 : (x :: r).length - 1 < x % 64
      · rw [if_pos h3]
      · rw [if_neg h3, if_pos ⟨h1, by simpa using h2⟩]
  have HN := Lib.hid (splpost_no (X := X) hs (Tch.refl [] w))
  obtain ⟨p', c', hp, _, hb, h4⟩ := id hv
  have hxb := hb x List.mem_cons_self
  cases hp
  obtain ⟨b, o, rfl, _, _, h8⟩ := h4 (by simp)
  have hc0 := h8 0 (by simp)
  rw [Nat.add_zero] at hc0
  simp only [List.getD_cons_zero] at hc0
  have hlr : (x :: r).length = r.length + 1 := rfl
  rw [hlr] at *
  have hx1 : ¬ (x : Int) < 128 := by omega
  have hmod : ((x % 64 : Nat) : Int) = (x : Int) % 64 := by omega
  have hm55 : ¬ (55 : Int) < (x : Int) % 64 := by omega
  by_cases hshort : r.length < x % 64
  · have hlt : ((r.length : Nat) : Int) < (x : Int) % 64 := by omega
    clear h8 h4 hv hb
    go_enter Try.func26, Try.ntmps26
    go_wp2
    all_goals
      go_ret3
      exact HN.out
  · obtain ⟨h1, h2⟩ : x = 129 ∧ r.getD 0 0 < 128 := by rcases hno with h | h; exact absurd h hshort; exact h
    subst h1
    have hrl : 0 < r.length := by omega
    have hc2 := h8 1 (by simp; omega)
    simp only [List.getD_cons_succ] at hc2
    generalize hy : r.getD 0 0 = y at *
    clear hno
    have hy' : (y : Int) < 128 := by omega
    have hge : ¬ ((r.length : Nat) : Int) < 1 := by omega
    have hcap2 : r.length + 1 ≤ c := hcap
    have hcc : ¬ c = 1 := by omega
    clear h8 h4 hv hb
    go_enter Try.func26, Try.ntmps26
    go_wp2
    all_goals
      go_ret3
      exact HN.out
end Go.Proofs.Ytacnechjofnnjaa
