/- Pieces of bytes; a length that stands in a head. -/
import Derived.Test.YtdjhjgockgmbkaaGreatDoorM04
set_option linter.unusedVariables false
set_option linter.unusedSimpArgs false
namespace Go.Proofs.YtdjhjgockgmbkaaGreatDoor
open Go.RowKit

/-- The number that bytes are. -/
def val (l : List Nat) : Nat := l.foldl (fun a x => a * 256 + x) 0
theorem val_snoc (l : List Nat) (x : Nat) : val (l ++ [x]) = val l * 256 + x := by simp [val]
theorem fold_lt : ∀ (l : List Nat) (a : Nat), (∀ x ∈ l, x < 256) → l.foldl (fun a x => a * 256 + x) a < (a + 1) * 256 ^ l.length
  | [], a, _ => by simp
  | x :: r, a, h => by
    have h1 := fold_lt r (a * 256 + x) (fun y hy => h y (List.mem_cons_of_mem _ hy))
    have h2 := h x List.mem_cons_self
    rw [List.foldl_cons, List.length_cons, Nat.pow_succ]
    refine Nat.lt_of_lt_of_le h1 ?_
    calc (a * 256 + x + 1) * 256 ^ r.length ≤ ((a + 1) * 256) * 256 ^ r.length := Nat.mul_le_mul_right _ (by omega)
      _ = (a + 1) * (256 ^ r.length * 256) := by rw [Nat.mul_assoc, Nat.mul_comm 256]
theorem val_lt (l : List Nat) (h : ∀ x ∈ l, x < 256) : val l < 256 ^ l.length := by
  have := fold_lt l 0 h
  rw [Nat.zero_add, Nat.one_mul] at this
  exact this
def lenOk (l : List Nat) (m : Nat) : Bool := decide (m ≤ l.length) && (l.getD 0 0 != 0) && decide (m ≤ 4) && decide (55 < val (l.take m))
/-- What the length in a head is read as. -/
def LenPost (l : List Nat) (m : Nat) (w : World) (e : Ending) (w' : World) : Prop := w = w' ∧ ∃ v : Nat, e = .returned (.tuple #[.int .i64 (v : Int), .bool (lenOk l m)]) ∧ (lenOk l m = true → v = val (l.take m)) ∧ v < 4294967296
theorem or_byte (n x : Nat) (hx : x < 256) (hn : n < 16777216) : bits BinOp.or IntKind.i64 ((n : Int) * 256) (x : Int) = ((n * 256 + x : Nat) : Int) := by
  have key : (BitVec.ofInt 64 ((n : Int) * 256) ||| BitVec.ofInt 64 (x : Int)).toNat = n * 256 + x := by
    rw [BitVec.toNat_or, BitVec.toNat_ofInt, BitVec.toNat_ofInt]
    have e1 : ((n : Int) * 256 % ((2 ^ 64 : Nat) : Int)).toNat = n <<< 8 := by rw [Nat.shiftLeft_eq]; omega
    have e2 : ((x : Int) % ((2 ^ 64 : Nat) : Int)).toNat = x := by omega
    rw [e1, e2, ← Nat.shiftLeft_add_eq_or_of_lt (show x < 2 ^ 8 by omega), Nat.shiftLeft_eq]
  show IntKind.i64.wrap ((BitVec.ofInt 64 ((n : Int) * 256) ||| BitVec.ofInt 64 (x : Int)).toNat : Nat) = _
  rw [key, IntKind.wrap_i64]
  omega
set_option maxHeartbeats 2000000 in
set_option maxRecDepth 100000 in
theorem length_no (p : Option Addr) (n c m : Nat) (X : List Nat) (l : List Nat) (w : World) (hv : RdA X w (.slice p n c) l) (hm : 1 ≤ m ∧ m ≤ 8) (hn : n ≤ 100000000) (h : m ≤ l.length → l.getD 0 0 ≠ 0 → 4 < m) :
    Calls Tryz.prog 117 #[.slice p n c, .int .i64 (m : Int)] w (LenPost l m w) := by
  have hl4 := lengthSize_any 16777216 w (by omega) (by omega)
  rw [lsz_four (by omega) (by omega)] at hl4
  have hln := hv.len
  have hno : lenOk l m = false := by
    unfold lenOk
    by_cases h1 : m ≤ l.length
    · by_cases h2 : l.getD 0 0 = 0
      · rw [h2]; simp
      · rw [show decide (m ≤ 4) = false from decide_eq_false (by have := h h1 h2; omega)]; simp
    · rw [show decide (m ≤ l.length) = false from decide_eq_false h1]; rfl
  have hfin : LenPost l m w (.returned (.tuple #[.int .i64 0, .bool false])) w := ⟨rfl, 0, (by rw [hno]; rfl), (fun h => absurd h (by rw [hno]; decide)), (by omega)⟩
  have HF := Lib.hid hfin
  have HL := Lib.hid hl4
  clear hfin hno hl4
  by_cases h1 : m ≤ n
  · have hne : l ≠ [] := by intro e; subst e; simp at hln; omega
    obtain ⟨p', c', hp, _, _, h4⟩ := hv
    cases hp
    obtain ⟨b, o, rfl, _, _, h8⟩ := h4 hne
    have hc0 := h8 0 (by omega)
    rw [Nat.add_zero] at hc0
    have hd1 : ¬ ((l.length : Nat) : Int) < (m : Int) := by omega
    by_cases h2 : l.getD 0 0 = 0
    · rw [h2] at hc0
      clear h8 h4
      go_enter Tryz.func117, Tryz.ntmps117
      go_wp2
      go_ret2
      exact HF.out
    · have h42 := h (by omega) h2
      generalize l.getD 0 0 = x at *
      have hx0 : ((x : Int) == 0) = false := by simp; omega
      have hx1 : ¬ (x : Int) = 0 := by omega
      clear h8 h4
      go_enter Tryz.func117, Tryz.ntmps117
      go_wp2_with (go_at_call 114; refine HL.out.mono ?_; rintro e w' ⟨rfl, rfl⟩)
      go_ret2
      exact HF.out
  · have hd1 : (n : Int) < (m : Int) := by omega
    clear hv
    go_enter Tryz.func117, Tryz.ntmps117
    go_wp2
    go_ret2
    exact HF.out
end Go.Proofs.YtdjhjgockgmbkaaGreatDoor

/- A length in a head, and what a head tells of. -/
namespace Go.Proofs.YtdjhjgockgmbkaaGreatDoor
open Go.RowKit

theorem take_snoc' (l : List Nat) (k : Nat) (h : k < l.length) : l.take (k + 1) = l.take k ++ [l.getD k 0] := by
  rw [List.take_succ_eq_append_getElem h, List.getD_eq_getElem?_getD, List.getElem?_eq_getElem h]; rfl
set_option maxHeartbeats 2000000 in
set_option maxRecDepth 100000 in
theorem length_yes (p : Option Addr) (n c m : Nat) (X : List Nat) (l : List Nat) (w : World) (hv : RdA X w (.slice p n c) l) (hm : 1 ≤ m ∧ m ≤ 4) (hn : n ≤ 100000000) (h1 : m ≤ l.length) (h2 : l.getD 0 0 ≠ 0) :
    Calls Tryz.prog 117 #[.slice p n c, .int .i64 (m : Int)] w (LenPost l m w) := by
  have hl4 := lengthSize_any 16777216 w (by omega) (by omega)
  rw [lsz_four (by omega) (by omega)] at hl4
  have hln := hv.len
  have hcap := hv.cap
  have hb256 := hv.lt
  have hvm : ∀ q, q ≤ m → val (l.take q) < 256 ^ q := fun q hq => by
    have := val_lt (l.take q) (fun x hx => hb256 x (List.mem_of_mem_take hx))
    rwa [List.length_take, Nat.min_eq_left (by omega)] at this
  have hstep : ∀ q, q < m → val (l.take (q + 1)) = val (l.take q) * 256 + l.getD q 0 ∧ l.getD q 0 < 256 ∧ val (l.take q) < 16777216 := fun q hq => by
    refine ⟨by rw [take_snoc' l q (by omega), val_snoc], ?_, ?_⟩
    · have e : l.getD q 0 = l[q]'(by omega) := by rw [List.getD_eq_getElem?_getD, List.getElem?_eq_getElem (by omega)]; rfl
      rw [e]; exact hb256 _ (List.getElem_mem _)
    · have := hvm q (by omega)
      have h3 : (256 : Nat) ^ q ≤ 256 ^ 3 := Nat.pow_le_pow_right (by omega) (by omega)
      omega
  have hend : val (l.take m) < 4294967296 := by
    have := hvm m (Nat.le_refl _)
    have h3 : (256 : Nat) ^ m ≤ 256 ^ 4 := Nat.pow_le_pow_right (by omega) (by omega)
    omega
  have hfin : LenPost l m w (.returned (.tuple #[.int .i64 (val (l.take m) : Int), .bool (decide (55 < (val (l.take m) : Int)))])) w := by
    have e : lenOk l m = decide (55 < (val (l.take m) : Int)) := by
      unfold lenOk
      rw [show decide (m ≤ l.length) = true from decide_eq_true h1, show decide (m ≤ 4) = true from decide_eq_true hm.2, show (l.getD 0 0 != 0) = true by rw [bne_iff_ne]; exact h2]
      simp only [Bool.true_and]
      exact decide_eq_decide.2 (by omega)
    exact ⟨rfl, _, (by rw [e]), fun _ => rfl, hend⟩
  have HF := Lib.hid hfin
  have HL := Lib.hid hl4
  have HV := Lib.hid hstep
  have hne : l ≠ [] := by intro e; subst e; simp at h1; omega
  obtain ⟨p', c', hp, _, _, h4⟩ := hv
  cases hp
  obtain ⟨b, o, rfl, _, _, h8⟩ := h4 hne
  have hc0 := h8 0 (by omega)
  rw [Nat.add_zero] at hc0
  have H8 := Lib.hid h8
  have hd1 : ¬ ((l.length : Nat) : Int) < (m : Int) := by omega
  generalize hx : l.getD 0 0 = x at hc0 h2
  have hx0 : ((x : Int) == 0) = false := by simp; omega
  have hm4 : decide ((4 : Int) < (m : Int)) = false := decide_eq_false (by omega)
  clear h8 h4 hfin hl4 hstep hvm hend hb256
  go_enter Tryz.func117, Tryz.ntmps117
  go_wp2_with (go_at_call 114; refine HL.out.mono ?_; rintro e w' ⟨rfl, rfl⟩)
  clear HL
  go_loop [6, 28] (fun nv i => ∃ q : Nat, q ≤ m ∧ i = .int .i64 (q : Int) ∧ nv = .int .i64 (val (l.take q) : Int)) (fun _ i => m - (intOf i).toNat)
  case atStart => exact ⟨0, by omega, rfl, rfl⟩
  case round =>
    obtain ⟨q, hq, rfl, rfl⟩ := hrel
    by_cases hqm : q < m
    · have hcq := H8.out q (by omega)
      obtain ⟨h5, h6, h7⟩ := HV.out q hqm
      have hor := or_byte (val (l.take q)) (l.getD q 0) h6 h7
      have HQ := Lib.hid h5
      clear h5
      generalize val (l.take q) = V at *
      generalize l.getD q 0 = y at *
      go_wp2
      go_round
      case rel => exact ⟨q + 1, by omega, by go_num, by rw [HQ.out]; simp⟩
      case measure => simp [intOf]; omega
    · obtain rfl : q = m := by omega
      generalize hV : val (l.take q) = V at *
      go_wp2
      go_ret2
      exact HF.out
/-- What a head tells of: how many bytes it has, how many follow. -/
def chk (c : Nat) (l : List Nat) (h n : Nat) : Option (Nat × Nat) := if l.length - h < n then none else if c = 129 ∧ l.getD h 0 < 128 then none else some (h, n)
def spl : List Nat → Option (Nat × Nat)
  | [] => none
  | c :: r => if c < 128 then some (0, 1) else if c % 64 ≤ 55 then chk c (c :: r) 1 (c % 64) else if lenOk r (c % 64 - 55) then chk c (c :: r) (1 + (c % 64 - 55)) (val (r.take (c % 64 - 55))) else none
theorem spl_cons (c : Nat) (r : List Nat) : spl (c :: r) = if c < 128 then some (0, 1) else if c % 64 ≤ 55 then chk c (c :: r) 1 (c % 64) else if lenOk r (c % 64 - 55) then chk c (c :: r) (1 + (c % 64 - 55)) (val (r.take (c % 64 - 55))) else none := rfl
def SplPost (X : List Nat) (l : List Nat) (w : World) (e : Ending) (w' : World) : Prop :=
  Tch [] w w' ∧ match spl l with
    | none => e = .returned (.tuple #[.slice none 0 0, .slice none 0 0, .bool false])
    | some (h, n) => ∃ v1 v2, e = .returned (.tuple #[v1, v2, .bool true]) ∧ RdA X w' v1 ((l.drop h).take n) ∧ RdA X w' v2 (l.drop (h + n))
theorem splpost_no {X : List Nat} {l : List Nat} {w w' : World} (h : spl l = none) (hT : Tch [] w w') : SplPost X l w (.returned (.tuple #[.slice none 0 0, .slice none 0 0, .bool false])) w' := ⟨hT, by rw [h]⟩
theorem splpost_yes {X : List Nat} {l : List Nat} {w w' : World} {v1 v2 : Value} {h n : Nat} (hs : spl l = some (h, n)) (hT : Tch [] w w') (h1 : RdA X w v1 ((l.drop h).take n)) (h2 : RdA X w v2 (l.drop (h + n))) : SplPost X l w (.returned (.tuple #[v1, v2, .bool true])) w' :=
  ⟨hT, by rw [hs]; exact ⟨v1, v2, rfl, h1.tch (hT.mono (by simp)), h2.tch (hT.mono (by simp))⟩⟩
set_option maxHeartbeats 2000000 in
set_option maxRecDepth 100000 in
theorem split_nil (X : List Nat) (v : Value) (w : World) (hv : RdA X w v []) : Calls Tryz.prog 90 #[v] w (SplPost X [] w) := by
  obtain ⟨p, c, rfl, _⟩ := hv
  simp only [List.length_nil]
  go_enter Tryz.func90, Tryz.ntmps90
  go_wp2
  go_ret3
  exact splpost_no rfl (Tch.refl _ _)
set_option maxHeartbeats 2000000 in
set_option maxRecDepth 100000 in
theorem split_low (X : List Nat) (v : Value) (x : Nat) (r : List Nat) (w : World) (hx : x < 128) (hn : (x :: r).length ≤ 100000000) (hv : RdA X w v (x :: r)) : Calls Tryz.prog 90 #[v] w (SplPost X (x :: r) w) := by
  obtain ⟨p, n, c, rfl⟩ := slice_keep hv
  have hln := hv.len
  have hcap := hv.cap
  have h1n : 1 ≤ n := by rw [hln]; simp
  obtain ⟨p', c', hp, _, _, h4⟩ := id hv
  cases hp
  obtain ⟨b, o, rfl, _, _, h8⟩ := h4 (by simp)
  have hc0 := h8 0 (by simp)
  rw [Nat.add_zero] at hc0
  simp only [List.getD_cons_zero] at hc0
  have HV := Lib.hid hv
  generalize hN : (x :: r).length = N at *
  have hx' : (x : Int) < 128 := by omega
  clear h8 h4 hv
  have hspl : spl (x :: r) = some (0, 1) := by rw [spl_cons, if_pos hx]
  by_cases hc1 : c = 1
  · subst hc1
    go_enter Tryz.func90, Tryz.ntmps90
    go_wp2
    go_quiet (fail)
    go_wp2
    go_ret3
    exact splpost_yes hspl ((Tch.refl _ _).drewN _) (HV.out.take h1n) (HV.out.gone HV.out.cap)
  · go_enter Tryz.func90, Tryz.ntmps90
    go_wp2
    go_quiet (fail)
    go_wp2
    go_ret3
    exact splpost_yes hspl ((Tch.refl _ _).drewN _) (HV.out.take h1n) (HV.out.from_ne 1 h1n)
set_option maxHeartbeats 2000000 in
set_option maxRecDepth 100000 in
/-- A head without a length of its own; what follows it is missing, or it is not the right one. -/
theorem split_short_no (X : List Nat) (v : Value) (x : Nat) (r : List Nat) (w : World) (hx : 128 ≤ x) (hx64 : x % 64 ≤ 55) (hn : (x :: r).length ≤ 100000000) (hv : RdA X w v (x :: r)) (hno : r.length < x % 64 ∨ (x = 129 ∧ r.getD 0 0 < 128)) : Calls Tryz.prog 90 #[v] w (SplPost X (x :: r) w) := by
  obtain ⟨p, n, c, rfl⟩ := slice_keep hv
  have hln := hv.len
  have hcap := hv.cap
  have h1n : 1 ≤ n := by rw [hln]; simp
  have hs : spl (x :: r) = none := by
    rw [spl_cons, if_neg (by omega), if_pos hx64]
    unfold chk
    rcases hno with h | ⟨h1, h2⟩
    · rw [if_pos (by simp; omega)]
    · by_cases h3 : (x :: r).length - 1 < x % 64
      · rw [if_pos h3]
      · rw [if_neg h3, if_pos ⟨h1, by simpa using h2⟩]
  have HN := Lib.hid (splpost_no (X := X) hs (Tch.refl [] w))
  obtain ⟨p', c', hp, _, hb, h4⟩ := id hv
  have hxb := hb x List.mem_cons_self
  cases hp
  obtain ⟨b, o, rfl, _, _, h8⟩ := h4 (by simp)
  have hc0 := h8 0 (by simp)
  rw [Nat.add_zero] at hc0
  simp only [List.getD_cons_zero] at hc0
  have hlr : (x :: r).length = r.length + 1 := rfl
  rw [hlr] at *
  have hx1 : ¬ (x : Int) < 128 := by omega
  have hmod : ((x % 64 : Nat) : Int) = (x : Int) % 64 := by omega
  have hm55 : ¬ (55 : Int) < (x : Int) % 64 := by omega
  by_cases hshort : r.length < x % 64
  · have hlt : ((r.length : Nat) : Int) < (x : Int) % 64 := by omega
    clear h8 h4 hv hb
    go_enter Tryz.func90, Tryz.ntmps90
    go_wp2
    all_goals
      go_ret3
      exact HN.out
  · obtain ⟨h1, h2⟩ : x = 129 ∧ r.getD 0 0 < 128 := by rcases hno with h | h; exact absurd h hshort; exact h
    subst h1
    have hrl : 0 < r.length := by omega
    have hc2 := h8 1 (by simp; omega)
    simp only [List.getD_cons_succ] at hc2
    generalize hy : r.getD 0 0 = y at *
    clear hno
    have hy' : (y : Int) < 128 := by omega
    have hge : ¬ ((r.length : Nat) : Int) < 1 := by omega
    have hcap2 : r.length + 1 ≤ c := hcap
    have hcc : ¬ c = 1 := by omega
    clear h8 h4 hv hb
    go_enter Tryz.func90, Tryz.ntmps90
    go_wp2
    all_goals
      go_ret3
      exact HN.out
end Go.Proofs.YtdjhjgockgmbkaaGreatDoor

/- What a head tells of: the heads that hold. -/
namespace Go.Proofs.YtdjhjgockgmbkaaGreatDoor
open Go.RowKit

set_option maxHeartbeats 2000000 in
set_option maxRecDepth 100000 in
theorem split_short_yes (X : List Nat) (v : Value) (x : Nat) (r : List Nat) (w : World) (hx : 128 ≤ x) (hx64 : x % 64 ≤ 55) (hn : (x :: r).length ≤ 100000000) (hv : RdA X w v (x :: r)) (hfit : x % 64 ≤ r.length) (hno : ¬ (x = 129 ∧ r.getD 0 0 < 128)) : Calls Tryz.prog 90 #[v] w (SplPost X (x :: r) w) := by
  obtain ⟨p, n, c, rfl⟩ := slice_keep hv
  have hln := hv.len
  have hcap := hv.cap
  have hs : spl (x :: r) = some (1, x % 64) := by
    rw [spl_cons, if_neg (by omega), if_pos hx64]
    unfold chk
    rw [if_neg (by simp; omega), if_neg (by simpa using hno)]
  obtain ⟨p', c', hp, _, hb, h4⟩ := id hv
  have hxb := hb x List.mem_cons_self
  cases hp
  obtain ⟨b, o, rfl, _, _, h8⟩ := h4 (by simp)
  have hc0 := h8 0 (by simp)
  rw [Nat.add_zero] at hc0
  simp only [List.getD_cons_zero] at hc0
  have hlr : (x :: r).length = r.length + 1 := rfl
  have hcap2 : r.length + 1 ≤ c := hcap
  have HV := Lib.hid (And.intro hv hs)
  rw [hlr] at *
  have hx1 : ¬ (x : Int) < 128 := by omega
  have hmod : ((x % 64 : Nat) : Int) = (x : Int) % 64 := by omega
  have hm55 : ¬ (55 : Int) < (x : Int) % 64 := by omega
  have hge : ¬ ((r.length : Nat) : Int) < (x : Int) % 64 := by omega
  by_cases hc1 : c = 1
  · subst hc1
    have hr0 : r.length = 0 := by omega
    have hx0 : (x : Int) % 64 = 0 := by omega
    have hx129 : ((x : Int) == 129) = false := by simp; omega
    clear h8 h4 hv hb
    go_enter Tryz.func90, Tryz.ntmps90
    go_wp2
    go_quiet (fail)
    go_wp2
    go_ret3
    have hr : r = [] := List.eq_nil_of_length_eq_zero hr0
    have hxm : x % 64 = 0 := by omega
    refine splpost_yes HV.out.2 ((Tch.refl _ _).drewN _) ?_ ?_
    · rw [hxm, List.take_zero]; exact ⟨_, _, rfl, Nat.zero_le _, by simp, fun h => absurd rfl h⟩
    · exact HV.out.1.gone (by rw [hr]; simp)
  · by_cases hx9 : x = 129
    · subst hx9
      have hc2 := h8 1 (by simp; omega)
      simp only [List.getD_cons_succ] at hc2
      generalize hy : r.getD 0 0 = y at *
      have hy' : ¬ (y : Int) < 128 := by omega
      clear h8 h4 hv hb
      have hfin : ∀ (q : Option Addr) (w' : World), Tch [] w w' → (c = 2 → r.length - 1 = 0) → (c ≠ 2 → q = some ⟨b, o + 1 + 1, none⟩) → SplPost X (129 :: r) w (.returned (.tuple #[.slice (some ⟨b, o + 1, none⟩) 1 (c - 1), .slice q (r.length - 1) (c - 1 - 1), .bool true])) w' := fun q w' hT h1 h2 => by
        have h3 := HV.out.1.from_ne 1 (by omega)
        refine splpost_yes HV.out.2 hT (h3.take (k := 1) (by simp; omega)) ?_
        by_cases hcc : c = 2
        · have h5 := h1 hcc
          rw [h5]
          have := h3.gone (q := q) (m := c - 1 - 1) (k := 1) (by simp; omega)
          rw [List.drop_drop] at this
          exact this
        · rw [h2 hcc]
          have := h3.from_ne 1 (by simp; omega)
          rw [List.drop_drop] at this
          exact this
      have HF := Lib.hid hfin
      clear hfin
      by_cases hcc2 : c = 2
      · subst hcc2
        go_enter Tryz.func90, Tryz.ntmps90
        go_wp2
        go_quiet (fail)
        go_wp2
        go_ret3
        exact HF.out _ _ ((Tch.refl _ _).drewN _) (fun _ => by omega) (fun h => absurd rfl h)
      · go_enter Tryz.func90, Tryz.ntmps90
        go_wp2
        go_quiet (fail)
        go_wp2
        go_ret3
        exact HF.out _ _ ((Tch.refl _ _).drewN _) (fun h => absurd h hcc2) (fun _ => rfl)
    · have hx129 : ((x : Int) == 129) = false := by simp; omega
      clear h8 h4 hv hb
      have hfin : ∀ (q : Option Addr) (m k c1 : Nat) (w' : World), Tch [] w w' → c1 = c - 1 → m = r.length - x % 64 → k = c - 1 - x % 64 → (c - 1 ≠ x % 64 → q = some ⟨b, o + 1 + x % 64, none⟩) → SplPost X (x :: r) w (.returned (.tuple #[.slice (some ⟨b, o + 1, none⟩) (x % 64) c1, .slice q m k, .bool true])) w' := fun q m k c1 w' hT hc1 hm hk h2 => by
        subst hc1
        have h3 := HV.out.1.from_ne 1 (by omega)
        refine splpost_yes HV.out.2 hT (h3.take (k := x % 64) (by simpa using hfit)) ?_
        by_cases hcc : c - 1 = x % 64
        · have h5 : m = 0 := by omega
          rw [h5]
          have := h3.gone (q := q) (m := k) (k := x % 64) (by simp; omega)
          rw [List.drop_drop] at this
          exact this
        · rw [h2 hcc, hm, hk]
          have := h3.from_ne (x % 64) (by simpa using hfit)
          rw [List.drop_drop] at this
          exact this
      have HF := Lib.hid hfin
      clear hfin
      by_cases hcc2 : c - 1 = x % 64
      · go_enter Tryz.func90, Tryz.ntmps90
        go_wp2
        go_quiet (fail)
        go_wp2
        go_ret3
        refine HF.out _ _ _ _ _ ((Tch.refl _ _).drewN _) ?_ ?_ ?_ (fun h => absurd hcc2 h)
        all_goals first | rfl | exact hcc2.symm | (rw [hcc2])
      · go_enter Tryz.func90, Tryz.ntmps90
        go_wp2
        go_quiet (fail)
        go_wp2
        go_ret3
        exact HF.out _ _ _ _ _ ((Tch.refl _ _).drewN _) rfl rfl rfl (fun _ => rfl)
end Go.Proofs.YtdjhjgockgmbkaaGreatDoor

/- Reading: what bytes are as an item, as plain mathematics; that it undoes the writing, and the writing it. -/
namespace Go.Proofs.YtdjhjgockgmbkaaGreatDoor
open Go.RowKit

/-- What bytes begin with: an item and what follows it, or an error. -/
abbrev Res (α : Type) := Except Nat α
def decL (f : List Nat → Res (It × List Nat)) : Nat → List Nat → Res (List It)
  | 0, l => if l = [] then .ok [] else .error 4
  | n + 1, l => if l = [] then .ok [] else match f l with
    | .error e => .error e
    | .ok (t, r) => match decL f n r with
      | .error e => .error e
      | .ok ts => .ok (t :: ts)
/-- j: how many lists may still be begun. -/
def dec : Nat → List Nat → Res (It × List Nat)
  | j, l => if 192 ≤ l.getD 0 0 ∧ j = 0 then .error 3 else match spl l with
    | none => .error 4
    | some (h, n) => if l.getD 0 0 < 192 then .ok (.str ((l.drop h).take n), l.drop (h + n)) else match j with
      | 0 => .error 3
      | j + 1 => match decL (dec j) n ((l.drop h).take n) with
        | .error e => .error e
        | .ok ts => .ok (.lst ts, l.drop (h + n))
theorem chk_some {c h n h' n' : Nat} {l : List Nat} (e : chk c l h n = some (h', n')) : h' = h ∧ n' = n ∧ n ≤ l.length - h ∧ ¬ (c = 129 ∧ l.getD h 0 < 128) := by
  unfold chk at e
  split at e
  · cases e
  · split at e
    · cases e
    · cases e; exact ⟨rfl, rfl, by omega, by assumption⟩
/-- What a head that holds says. -/
theorem spl_some {l : List Nat} {h n : Nat} (e : spl l = some (h, n)) : h + n ≤ l.length ∧ 0 < h + n := by
  cases l with
  | nil => cases e
  | cons c r =>
    rw [spl_cons] at e
    split at e
    · cases e; simp
    · split at e
      · obtain ⟨rfl, rfl, h3, _⟩ := chk_some e
        simp at *; omega
      · split at e
        · rename_i hk
          obtain ⟨rfl, rfl, h3, _⟩ := chk_some e
          unfold lenOk at hk
          simp only [Bool.and_eq_true, decide_eq_true_eq] at hk
          simp at *; omega
        · cases e
theorem be_val (l : List Nat) (h : ∀ x ∈ l, x < 256) (h0 : l.getD 0 0 ≠ 0) : be (val l) = l := by
  induction hl : l.length generalizing l with
  | zero => have : l = [] := List.eq_nil_of_length_eq_zero hl; subst this; simp at h0
  | succ n ih =>
    have hne : l ≠ [] := by intro e; subst e; simp at hl
    obtain ⟨q, x, rfl⟩ : ∃ q x, l = q ++ [x] := ⟨l.dropLast, l.getLast hne, (List.dropLast_concat_getLast hne).symm⟩
    have hx : x < 256 := h x (by simp)
    rw [val_snoc]
    by_cases hq : q = []
    · subst hq
      have hx0 : x ≠ 0 := by simpa using h0
      have e : val [] * 256 + x = x := by simp [val]
      rw [e, be_pos (by omega), show x / 256 = 0 by omega, be_zero, Nat.mod_eq_of_lt hx]
    · have hq0 : q.getD 0 0 ≠ 0 := by
        cases q with
        | nil => exact absurd rfl hq
        | cons a s => simpa using h0
      have hv : 0 < val q := by
        rcases Nat.eq_zero_or_pos (val q) with h1 | h1
        · have := ih q (fun y hy => h y (by simp [hy])) hq0 (by simpa using hl)
          rw [h1, be_zero] at this
          exact absurd this.symm hq
        · exact h1
      rw [be_pos (by omega), show (val q * 256 + x) / 256 = val q by omega, show (val q * 256 + x) % 256 = x by omega, ih q (fun y hy => h y (by simp [hy])) hq0 (by simpa using hl)]
theorem val_be (n : Nat) : val (be n) = n := by
  induction n using Nat.strongRecOn with
  | _ n ih =>
    rcases Nat.eq_zero_or_pos n with h | h
    · subst h; rw [be_zero]; rfl
    · rw [be_pos h, val_snoc, ih _ (by omega)]; omega
theorem be_head {n : Nat} (h : 0 < n) : (be n).getD 0 0 ≠ 0 := by
  induction n using Nat.strongRecOn with
  | _ n ih =>
    rw [be_pos h]
    rcases Nat.eq_zero_or_pos (n / 256) with h1 | h1
    · rw [h1, be_zero]; simp; omega
    · have := ih (n / 256) (by omega) h1
      cases hb : be (n / 256) with
      | nil => rw [hb] at this; simp at this
      | cons a s => rw [hb] at this; simpa using this
/-- A head that holds is the head of just so many bytes. -/
theorem spl_head {l : List Nat} {h n : Nat} (hb : ∀ x ∈ l, x < 256) (e : spl l = some (h, n)) :
    (l.getD 0 0 < 128 ∧ h = 0 ∧ n = 1) ∨ (128 ≤ l.getD 0 0 ∧ l.getD 0 0 < 192 ∧ l.take h = hd 128 n ∧ single ((l.drop h).take n) = false) ∨ (192 ≤ l.getD 0 0 ∧ l.take h = hd 192 n) := by
  cases l with
  | nil => cases e
  | cons c r =>
    have hc : c < 256 := hb c List.mem_cons_self
    simp only [List.getD_cons_zero]
    rw [spl_cons] at e
    split at e
    · cases e; exact .inl ⟨by assumption, rfl, rfl⟩
    · right
      rename_i hc1
      have key : ∀ base, (base = 128 ∨ base = 192) → base ≤ c → c < base + 64 → (c :: r).take h = hd base n := by
        intro base hbase h1 h2
        have hcm : c % 64 = c - base := by omega
        split at e
        · obtain ⟨rfl, rfl, _, _⟩ := chk_some e
          unfold hd
          rw [if_pos (by assumption), hcm]
          simp; omega
        · split at e
          · rename_i hk
            obtain ⟨rfl, rfl, _, _⟩ := chk_some e
            unfold lenOk at hk
            simp only [Bool.and_eq_true, decide_eq_true_eq, bne_iff_ne] at hk
            obtain ⟨⟨⟨k1, k2⟩, k3⟩, k4⟩ := hk
            have hr0 : (r.take (c % 64 - 55)).getD 0 0 ≠ 0 := by
              rw [List.getD_eq_getElem?_getD, List.getElem?_take, if_pos (by omega), ← List.getD_eq_getElem?_getD]; exact k2
            have hbe := be_val (r.take (c % 64 - 55)) (fun x hx => hb x (List.mem_cons_of_mem _ (List.mem_of_mem_take hx))) hr0
            unfold hd
            rw [if_neg (by omega)]
            unfold lsz
            rw [hbe, List.length_take, Nat.min_eq_left k1, Nat.add_comm 1, List.take_succ_cons]
            congr 1; omega
          · cases e
      rcases Nat.lt_or_ge c 192 with h1 | h1
      · left
        refine ⟨by omega, h1, key 128 (.inl rfl) (by omega) (by omega), ?_⟩
        have hk : n ≤ (c :: r).length - h ∧ ¬ (c = 129 ∧ (c :: r).getD h 0 < 128) ∧ (n = 1 → c = 129) := by
          split at e
          · obtain ⟨rfl, rfl, k1, k2⟩ := chk_some e
            exact ⟨k1, k2, fun h => by omega⟩
          · split at e
            · rename_i hk
              obtain ⟨rfl, rfl, k1, k2⟩ := chk_some e
              unfold lenOk at hk
              simp only [Bool.and_eq_true, decide_eq_true_eq, bne_iff_ne] at hk
              exact ⟨k1, k2, fun h => by omega⟩
            · cases e
        obtain ⟨k1, k2, k3⟩ := hk
        unfold single
        split
        · rename_i x hx
          have hl := congrArg List.length hx
          simp only [List.length_take, List.length_drop, List.length_singleton] at hl
          have h129 := k3 (by omega)
          have hx0 : (c :: r).getD h 0 = x := by
            have e2 := congrArg (fun q => q.getD 0 0) hx
            simp only [List.getD_eq_getElem?_getD, List.getElem?_take, List.getElem?_drop] at e2
            rw [if_pos (by omega)] at e2
            rw [List.getD_eq_getElem?_getD]
            simpa using e2
          rw [hx0] at k2
          exact decide_eq_false (fun h => k2 ⟨h129, h⟩)
        · rfl
      · right
        exact ⟨h1, key 192 (.inr rfl) h1 (by omega)⟩
theorem split3 (l : List Nat) (h n : Nat) : l = l.take h ++ (l.drop h).take n ++ l.drop (h + n) := by
  rw [List.append_assoc, show l.drop (h + n) = (l.drop h).drop n by rw [List.drop_drop], List.take_append_drop, List.take_append_drop]
theorem encs_cons (x : It) (r : List It) : encs (x :: r) = enc x ++ encs r := by rw [encs]
/-- What was read has just the bytes that were read. -/
theorem decL_enc {f : List Nat → Res (It × List Nat)} (hf : ∀ l t r, (∀ x ∈ l, x < 256) → f l = .ok (t, r) → l = enc t ++ r) : ∀ (n : Nat) (l : List Nat) (ts : List It), (∀ x ∈ l, x < 256) → decL f n l = .ok ts → l = encs ts
  | 0, l, ts, hb, h => by
    unfold decL at h
    split at h
    · cases h; rename_i h; rw [h]; rw [encs]
    · cases h
  | n + 1, l, ts, hb, h => by
    unfold decL at h
    split at h
    · cases h; rename_i h; rw [h]; rw [encs]
    · split at h
      · cases h
      · rename_i t r hfl
        have h1 := hf l t r hb hfl
        split at h
        · cases h
        · rename_i ts' hts
          cases h
          have h2 := decL_enc hf n r ts' (fun x hx => hb x (by rw [h1]; simp [hx])) hts
          rw [encs_cons, ← h2]; exact h1
theorem dec_eq (j : Nat) (l : List Nat) : dec j l = if 192 ≤ l.getD 0 0 ∧ j = 0 then .error 3 else match spl l with
    | none => .error 4
    | some (h, n) => if l.getD 0 0 < 192 then .ok (.str ((l.drop h).take n), l.drop (h + n)) else match j with
      | 0 => .error 3
      | j + 1 => match decL (dec j) n ((l.drop h).take n) with
        | .error e => .error e
        | .ok ts => .ok (.lst ts, l.drop (h + n)) := by cases j <;> rw [dec]
theorem dec_enc : ∀ (j : Nat) (l : List Nat) (t : It) (r : List Nat), (∀ x ∈ l, x < 256) → dec j l = .ok (t, r) → l = enc t ++ r
  | j, l, t, r, hb, h => by
    rw [dec_eq] at h
    split at h
    · cases h
    · split at h
      · cases h
      · rename_i hh nn hs
        have hsp := split3 l hh nn
        have hhd := spl_head hb hs
        have hle := spl_some hs
        have hlen : ((l.drop hh).take nn).length = nn := by rw [List.length_take, List.length_drop]; omega
        split at h
        · cases h
          rename_i hlt
          rw [enc_str]
          unfold encS
          rcases hhd with ⟨h1, rfl, rfl⟩ | ⟨h1, h2, h3, h4⟩ | ⟨h1, _⟩
          · have h5 : single ((l.drop 0).take 1) = true := by
              cases l with
              | nil => simp at hle
              | cons c q => simpa [single] using h1
            rw [if_pos h5]
            simpa using hsp
          · rw [if_neg (by rw [h4]; decide), hlen, ← h3]
            exact hsp
          · omega
        · rename_i hge
          split at h
          · cases h
          · rename_i j' hjj
            split at h
            · cases h
            · rename_i ts hts
              cases h
              have h2 := decL_enc (dec_enc j') nn _ ts (fun x hx => hb x (List.mem_of_mem_drop (List.mem_of_mem_take hx))) hts
              rw [enc_lst, ← h2, hlen]
              rcases hhd with ⟨h1, _⟩ | ⟨_, h1, _⟩ | ⟨_, h3⟩
              · omega
              · omega
              · rw [← h3]; exact hsp
/-- What comes of the head of so many bytes. -/
theorem spl_hd {base n : Nat} {body r : List Nat} (hbase : base = 128 ∨ base = 192) (hn : body.length = n) (hz : lsz n ≤ 4) (hno : base = 128 → single body = false) :
    spl (hd base n ++ (body ++ r)) = some ((hd base n).length, n) ∧ base ≤ (hd base n ++ (body ++ r)).getD 0 0 ∧ (hd base n ++ (body ++ r)).getD 0 0 < base + 64 := by
  by_cases h : n ≤ 55
  · have e : hd base n = [base + n] := by unfold hd; rw [if_pos h]
    rw [e]
    refine ⟨?_, by simp, by simp; omega⟩
    have em : (base + n) % 64 = n := by omega
    rw [List.singleton_append, spl_cons, if_neg (by omega), em, if_pos h]
    unfold chk
    rw [if_neg (by simp; omega)]
    by_cases h1 : base + n = 129
    · have hb : base = 128 := by omega
      have hn1 : n = 1 := by omega
      have hs := hno hb
      subst hb
      rw [if_neg]
      · rfl
      · rintro ⟨_, h2⟩
        match body, hn, hs with
        | [x], _, hs => simp [single] at hs; simp at h2; omega
        | [], hn, _ => simp at hn; omega
        | _ :: _ :: _, hn, _ => simp at hn; omega
    · rw [if_neg (fun h2 => h1 h2.1)]; rfl
  · have e : hd base n = (base + 55 + lsz n) :: be n := by unfold hd; rw [if_neg h]
    have hl1 : 0 < lsz n := by unfold lsz; rw [be_pos (by omega)]; simp
    rw [e]
    refine ⟨?_, by simp; omega, by simp; omega⟩
    have em : (base + 55 + lsz n) % 64 - 55 = lsz n := by omega
    have em2 : ¬ (base + 55 + lsz n) % 64 ≤ 55 := by omega
    have hbl : (be n).length = lsz n := rfl
    have htake : (be n ++ (body ++ r)).take (lsz n) = be n := by rw [← hbl, List.take_left]
    have hok : lenOk (be n ++ (body ++ r)) (lsz n) = true := by
      unfold lenOk
      rw [htake, val_be]
      have h0 : (be n ++ (body ++ r)).getD 0 0 ≠ 0 := by
        have := be_head (n := n) (by omega)
        cases hb : be n with
        | nil => rw [hb] at this; simp at this
        | cons a s => rw [hb] at this; simpa using this
      simp only [Bool.and_eq_true, decide_eq_true_eq, bne_iff_ne]
      exact ⟨⟨⟨by simp [hbl], h0⟩, hz⟩, by omega⟩
    rw [List.cons_append, spl_cons, if_neg (by omega), if_neg em2, em, if_pos hok, htake, val_be]
    unfold chk
    rw [if_neg (by simp [hbl]; omega), if_neg (by omega)]
    simp [hbl]; omega
theorem single_cons {l : List Nat} (h : single l = true) : ∃ x, l = [x] ∧ x < 128 := by
  match l, h with
  | [x], h => exact ⟨x, rfl, by simpa [single] using h⟩
theorem lsz_mono {n m : Nat} (h : n ≤ m) : lsz n ≤ lsz m := by
  induction m using Nat.strongRecOn generalizing n with
  | _ m ih =>
    rcases Nat.eq_zero_or_pos n with h0 | h0
    · subst h0; unfold lsz; rw [be_zero]; simp
    · have h1 := ih (m / 256) (by omega) (n := n / 256) (Nat.div_le_div_right h)
      unfold lsz at *
      rw [be_pos h0, be_pos (show 0 < m by omega), List.length_append, List.length_append]
      simp; omega
theorem decL_go {f : List Nat → Res (It × List Nat)} (j : Nat) (hf : ∀ t r, (enc t).length ≤ 16777216 → f (enc t ++ r) = if dep t ≤ j then .ok (t, r) else .error 3) : ∀ (ts : List It) (n : Nat), (encs ts).length ≤ n → (encs ts).length ≤ 16777216 → decL f n (encs ts) = if deps ts ≤ j then .ok ts else .error 3
  | [], n, _, _ => by
    rw [show encs [] = [] by rw [encs], show deps [] = 0 by rw [deps], if_pos (Nat.zero_le _)]
    cases n <;> (unfold decL; rw [if_pos rfl])
  | t :: ts, 0, h, _ => by
    rw [encs_cons, List.length_append] at h
    have := enc_pos t
    omega
  | t :: ts, n + 1, h, h16 => by
    rw [encs_cons, List.length_append] at h h16
    have hp := enc_pos t
    unfold decL
    rw [encs_cons, if_neg (by intro e; have := congrArg List.length e; rw [List.length_append, List.length_nil] at this; omega), hf t (encs ts) (by omega), show deps (t :: ts) = max (dep t) (deps ts) by rw [deps]]
    by_cases h1 : dep t ≤ j
    · rw [if_pos h1]
      simp only []
      rw [decL_go j hf ts n (by omega) (by omega)]
      by_cases h2 : deps ts ≤ j
      · rw [if_pos h2, if_pos (by omega)]
      · rw [if_neg h2, if_neg (by omega)]
    · rw [if_neg h1, if_neg (by omega)]
/-- An item's bytes are read as it. -/
theorem enc_dec : ∀ (j : Nat) (t : It) (r : List Nat), (enc t).length ≤ 16777216 → dec j (enc t ++ r) = if dep t ≤ j then .ok (t, r) else .error 3
  | j, .str l, r, h => by
    rw [show dep (.str l) = 0 by rw [dep], if_pos (Nat.zero_le _), dec_eq, enc_str]
    rw [enc_str] at h
    unfold encS at h ⊢
    by_cases hs : single l = true
    · obtain ⟨x, rfl, hx⟩ := single_cons hs
      rw [if_pos hs]
      have e : spl ([x] ++ r) = some (0, 1) := by rw [List.singleton_append, spl_cons, if_pos hx]
      rw [e, if_neg (by simp; omega)]
      simp only []
      rw [if_pos (by simp; omega)]; simp
    · rw [if_neg hs] at h ⊢
      rw [List.length_append] at h
      have hz : lsz l.length ≤ 4 := Nat.le_trans (lsz_mono (show l.length ≤ 16777216 by omega)) (by unfold lsz; decide +kernel)
      obtain ⟨h1, h2, h3⟩ := spl_hd (base := 128) (r := r) (.inl rfl) rfl hz (fun _ => by simpa using hs)
      rw [List.append_assoc, h1, if_neg (by omega)]
      simp only []
      rw [if_pos (by omega)]
      simp [← List.drop_drop]
  | j, .lst ts, r, h => by
    rw [show dep (.lst ts) = deps ts + 1 by rw [dep], dec_eq, enc_lst]
    rw [enc_lst, List.length_append] at h
    have hz : lsz (encs ts).length ≤ 4 := Nat.le_trans (lsz_mono (show (encs ts).length ≤ 16777216 by omega)) (by unfold lsz; decide +kernel)
    obtain ⟨h1, h2, h3⟩ := spl_hd (base := 192) (r := r) (.inr rfl) rfl hz (fun h => by omega)
    rw [List.append_assoc, h1]
    cases j with
    | zero => rw [if_pos ⟨h2, rfl⟩, if_neg (by omega)]
    | succ j =>
      rw [if_neg (by omega)]
      simp only []
      rw [if_neg (by omega)]
      have hd1 : (hd 192 (encs ts).length ++ (encs ts ++ r)).drop (hd 192 (encs ts).length).length = encs ts ++ r := by simp
      have hd2 : (hd 192 (encs ts).length ++ (encs ts ++ r)).drop ((hd 192 (encs ts).length).length + (encs ts).length) = r := by rw [← List.drop_drop, hd1]; simp
      rw [hd1, hd2, show (encs ts ++ r).take (encs ts).length = encs ts by simp, decL_go j (fun t r => enc_dec j t r) ts _ (Nat.le_refl _) (by omega)]
      by_cases hj : deps ts ≤ j
      · rw [if_pos hj, if_pos (by omega)]
      · rw [if_neg hj, if_neg (by omega)]
/-- What is read, of which nothing is left, or why there is none. -/
def rd (l : List Nat) : Res It := if 16777216 < l.length then .error 3 else match dec 32 l with
  | .error e => .error e
  | .ok (t, r) => if r = [] then .ok t else .error 4
theorem rd_enc {l : List Nat} {t : It} (hb : ∀ x ∈ l, x < 256) (h : rd l = .ok t) : l = enc t := by
  unfold rd at h
  split at h
  · cases h
  · split at h
    · cases h
    · rename_i t' r hd
      have := dec_enc 32 l t' r hb hd
      split at h
      · rename_i hr; cases h; rw [hr, List.append_nil] at this; exact this
      · cases h
theorem enc_rd {t : It} (h : (enc t).length ≤ 16777216) : rd (enc t) = if dep t ≤ 32 then .ok t else .error 3 := by
  unfold rd
  rw [if_neg (by omega)]
  have := enc_dec 32 t [] h
  rw [List.append_nil] at this
  rw [this]
  by_cases hd : dep t ≤ 32
  · rw [if_pos hd, if_pos hd]; simp
  · rw [if_neg hd, if_neg hd]
def app (ts : List It) : Res (List It) → Res (List It)
  | .error e => .error e
  | .ok us => .ok (ts ++ us)
theorem app_app (a b : List It) (r : Res (List It)) : app a (app b r) = app (a ++ b) r := by
  cases r with
  | error e => rfl
  | ok u => simp [app]
theorem decL_nil (f : List Nat → Res (It × List Nat)) (n : Nat) : decL f n [] = .ok [] := by cases n <;> (unfold decL; rw [if_pos rfl])
theorem decL_ok {f : List Nat → Res (It × List Nat)} {n : Nat} {l r : List Nat} {t : It} (hl : l ≠ []) (h : f l = .ok (t, r)) : decL f (n + 1) l = app [t] (decL f n r) := by
  rw [decL, if_neg hl, h]
  simp only []
  cases decL f n r <;> rfl
theorem decL_err {f : List Nat → Res (It × List Nat)} {n : Nat} {l : List Nat} {e : Nat} (hl : l ≠ []) (h : f l = .error e) : decL f (n + 1) l = .error e := by
  rw [decL, if_neg hl, h]
theorem dec_rest {j : Nat} {l r : List Nat} {t : It} (h : dec j l = .ok (t, r)) : ∃ h n, spl l = some (h, n) ∧ r = l.drop (h + n) ∧ r.length < l.length := by
  rw [dec_eq] at h
  split at h
  · cases h
  · split at h
    · cases h
    · rename_i hh nn hs
      have hle := spl_some hs
      refine ⟨hh, nn, hs, ?_⟩
      split at h
      · cases h; exact ⟨rfl, by rw [List.length_drop]; omega⟩
      · split at h
        · cases h
        · split at h
          · cases h
          · cases h; exact ⟨rfl, by rw [List.length_drop]; omega⟩
end Go.Proofs.YtdjhjgockgmbkaaGreatDoor
