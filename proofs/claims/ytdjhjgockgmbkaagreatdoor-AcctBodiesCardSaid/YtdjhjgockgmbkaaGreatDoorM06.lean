/- What a head tells of, at any bytes; how many items there are. -/
import Derived.Test.YtdjhjgockgmbkaaGreatDoorM05
import Derived.Deep.AppendLies
set_option linter.unusedVariables false
set_option linter.unusedSimpArgs false
namespace Go.Proofs.YtdjhjgockgmbkaaGreatDoor
open Go.RowKit

/-- How long a slice is. -/
def slLen : Value → Nat
  | .slice _ n _ => n
  | _ => 0
theorem length_any (p : Option Addr) (n c m : Nat) (X : List Nat) (l : List Nat) (w : World) (hv : RdA X w (.slice p n c) l) (hm : 1 ≤ m ∧ m ≤ 8) (hn : n ≤ 100000000) :
    Calls Tryz.prog 117 #[.slice p n c, .int .i64 (m : Int)] w (LenPost l m w) := by
  by_cases h : m ≤ l.length ∧ l.getD 0 0 ≠ 0 ∧ m ≤ 4
  · exact length_yes p n c m X l w hv ⟨hm.1, h.2.2⟩ hn h.1 h.2.1
  · exact length_no p n c m X l w hv hm hn (fun h1 h2 => by
      by_cases h4 : m ≤ 4
      · exact absurd ⟨h1, h2, h4⟩ h
      · omega)
set_option maxHeartbeats 600000 in
set_option maxRecDepth 100000 in
/-- A head with a length of its own, that doesn't hold. -/
theorem split_long_bad (X : List Nat) (v : Value) (x : Nat) (r : List Nat) (w : World) (hx : 128 ≤ x) (hx64 : 55 < x % 64) (hn : (x :: r).length ≤ 100000000) (hv : RdA X w v (x :: r)) (hk : lenOk r (x % 64 - 55) = false) : Calls Tryz.prog 90 #[v] w (SplPost X (x :: r) w) := by
  obtain ⟨p, n, c, rfl⟩ := slice_keep hv
  have hln := hv.len
  have hcap := hv.cap
  have hs : spl (x :: r) = none := by
    rw [spl_cons, if_neg (by omega), if_neg (by omega), hk, if_neg (by decide)]
  have HN := Lib.hid (splpost_no (X := X) hs (Tch.refl [] w))
  obtain ⟨p', c', hp, _, hb, h4⟩ := id hv
  have hxb := hb x List.mem_cons_self
  cases hp
  obtain ⟨b, o, rfl, _, _, h8⟩ := h4 (by simp)
  have hc0 := h8 0 (by simp)
  rw [Nat.add_zero] at hc0
  simp only [List.getD_cons_zero] at hc0
  have hcap2 : r.length + 1 ≤ c := hcap
  have hn2 : r.length + 1 ≤ 100000000 := hn
  simp only [List.length_cons] at *
  have hx1 : ¬ (x : Int) < 128 := by omega
  have hmod : ((x % 64 : Nat) : Int) = (x : Int) % 64 := by omega
  have hm55 : (55 : Int) < (x : Int) % 64 := by omega
  have hsz : ((x % 64 - 55 : Nat) : Int) = (x : Int) % 64 - 55 := by omega
  by_cases hc1 : c = 1
  · subst hc1
    have hr0 : r = [] := List.eq_nil_of_length_eq_zero (by omega)
    subst hr0
    have hl := length_any (some ⟨b, o, none⟩) 0 0 (x % 64 - 55) X [] w ⟨_, _, rfl, Nat.le_refl _, by simp, fun h => absurd rfl h⟩ (by omega) (by omega)
    rw [hsz] at hl
    have hl2 := hl.mono (R' := fun e w' => w = w' ∧ ∃ u : Nat, u < 4294967296 ∧ e = .returned (.tuple #[.int .i64 (u : Int), .bool false])) (fun e w' h => by
      obtain ⟨h1, u, h2, _, h3⟩ := h
      rw [hk] at h2
      exact ⟨h1, u, h3, h2⟩)
    have HL := Lib.hid hl2
    clear h8 h4 hv hb hl hl2 hk hs
    simp only [List.length_nil, Nat.zero_add] at *
    go_enter Tryz.func90, Tryz.ntmps90
    go_wp2_with (go_at_call 117; refine HL.out.mono ?_; rintro e w' ⟨rfl, u, hu, rfl⟩)
    go_ret3
    exact HN.out
  · have h3 := hv.from_ne 1 (by omega)
    simp only [List.drop_succ_cons, List.drop_zero, Nat.add_sub_cancel] at h3
    have hl := length_any _ _ _ (x % 64 - 55) X r w h3 (by omega) (by omega)
    rw [hsz] at hl
    have hl2 := hl.mono (R' := fun e w' => w = w' ∧ ∃ u : Nat, u < 4294967296 ∧ e = .returned (.tuple #[.int .i64 (u : Int), .bool false])) (fun e w' h => by
      obtain ⟨h1, u, h2, _, h3⟩ := h
      rw [hk] at h2
      exact ⟨h1, u, h3, h2⟩)
    have HL := Lib.hid hl2
    clear h8 h4 hv hb hl hl2 hk hs h3
    go_enter Tryz.func90, Tryz.ntmps90
    go_wp2_with (go_at_call 117; refine HL.out.mono ?_; rintro e w' ⟨rfl, u, hu, rfl⟩)
    go_ret3
    exact HN.out
set_option maxHeartbeats 600000 in
set_option maxRecDepth 100000 in
/-- A head with a length of its own, that holds. -/
theorem split_long_ok (X : List Nat) (v : Value) (x : Nat) (r : List Nat) (w : World) (hx : 128 ≤ x) (hx64 : 55 < x % 64) (hn : (x :: r).length ≤ 100000000) (hv : RdA X w v (x :: r)) (hk : lenOk r (x % 64 - 55) = true) : Calls Tryz.prog 90 #[v] w (SplPost X (x :: r) w) := by
  obtain ⟨p, n, c, rfl⟩ := slice_keep hv
  have hln := hv.len
  have hcap := hv.cap
  obtain ⟨p', c', hp, _, hb, h4⟩ := id hv
  have hxb := hb x List.mem_cons_self
  cases hp
  obtain ⟨b, o, rfl, _, _, h8⟩ := h4 (by simp)
  have hc0 := h8 0 (by simp)
  rw [Nat.add_zero] at hc0
  simp only [List.getD_cons_zero] at hc0
  have hcap2 : r.length + 1 ≤ c := hcap
  have hn2 : r.length + 1 ≤ 100000000 := hn
  have hlr : (x :: r).length = r.length + 1 := rfl
  obtain ⟨m, hm⟩ : ∃ m, m = x % 64 - 55 := ⟨_, rfl⟩
  rw [← hm] at hk
  have hk' := hk
  unfold lenOk at hk'
  simp only [Bool.and_eq_true, decide_eq_true_eq, bne_iff_ne] at hk'
  obtain ⟨⟨⟨k1, k2⟩, k3⟩, k4⟩ := hk'
  have hx129 : ((x : Int) == 129) = false := by simp; omega
  have hspl : spl (x :: r) = if r.length - m < val (r.take m) then none else some (1 + m, val (r.take m)) := by
    rw [spl_cons, if_neg (by omega), if_neg (by omega), ← hm, hk, if_pos rfl]
    unfold chk
    rw [hlr, show r.length + 1 - (1 + m) = r.length - m by omega]
    by_cases h : r.length - m < val (r.take m)
    · rw [if_pos h, if_pos h]
    · rw [if_neg h, if_neg h, if_neg (by omega)]
  simp only [List.length_cons] at *
  have hx1 : ¬ (x : Int) < 128 := by omega
  have hmod : ((x % 64 : Nat) : Int) = (x : Int) % 64 := by omega
  have hm55 : (55 : Int) < (x : Int) % 64 := by omega
  have hsz : (x : Int) % 64 - 55 = (m : Int) := by omega
  have h3 := hv.from_ne 1 (by omega)
  simp only [List.drop_succ_cons, List.drop_zero, Nat.add_sub_cancel] at h3
  have hl := length_any _ _ _ m X r w h3 (by omega) (by omega)
  obtain ⟨V, hV⟩ : ∃ V, V = val (r.take m) := ⟨_, rfl⟩
  rw [← hV] at hspl k4
  have hl2 := hl.mono (R' := fun e w' => w = w' ∧ e = .returned (.tuple #[.int .i64 (V : Int), .bool true])) (fun e w' h => by
    obtain ⟨h1, u, h2, h5, _⟩ := h
    rw [hk] at h2
    rw [h5 hk, ← hV] at h2
    exact ⟨h1, h2⟩)
  have hcc : c ≠ 1 := by omega
  have h6 := h3.from_ne m (by omega)
  by_cases hfit : r.length - m < V
  · rw [if_pos hfit] at hspl
    have HN := Lib.hid (splpost_no (X := X) hspl (Tch.refl [] w))
    have HL := Lib.hid hl2
    have HM := Lib.hid hm
    clear hm hlr
    have hgt : ((r.length : Int) - (m : Int)) < (V : Int) := by omega
    clear h8 h4 hv hb hl hl2 hk hspl h3 h6 hV k2
    go_enter Tryz.func90, Tryz.ntmps90
    go_wp2_with (go_at_call 117; refine HL.out.mono ?_; rintro e w' ⟨rfl, rfl⟩)
    all_goals
      go_ret3
      exact HN.out
  · rw [if_neg hfit] at hspl
    have HL := Lib.hid hl2
    have hgt : ¬ ((r.length : Int) - (m : Int)) < (V : Int) := by omega
    have hcm : c - 1 ≠ m := by omega
    have hfin : ∀ (q : Option Addr) (m2 k c1 n1 : Nat) (w' : World), Tch [] w w' → c1 = c - 1 - m → n1 = V → m2 = r.length - m - V → k = c - 1 - m - V → (c - 1 - m ≠ V → q = some ⟨b, o + 1 + m + V, none⟩) → SplPost X (x :: r) w (.returned (.tuple #[.slice (some ⟨b, o + 1 + m, none⟩) n1 c1, .slice q m2 k, .bool true])) w' := fun q m2 k c1 n1 w' hT h1 hn1 h2 hk2 h5 => by
      subst h1; subst hn1
      refine splpost_yes hspl hT ?_ ?_
      · have := h6.take (k := n1) (by omega)
        rw [show (x :: r).drop (1 + m) = r.drop m by rw [Nat.add_comm]; rfl]
        exact this
      · rw [show (x :: r).drop (1 + m + n1) = (r.drop m).drop n1 by rw [List.drop_drop, show 1 + m + n1 = (m + n1) + 1 by omega]; rfl]
        by_cases h7 : c - 1 - m = n1
        · have h9 : m2 = 0 := by omega
          rw [h9]
          exact h6.gone (by omega)
        · rw [h5 h7, h2, hk2]
          exact h6.from_ne n1 (by omega)
    have HF := Lib.hid hfin
    have HM := Lib.hid hm
    clear h8 h4 hv hb hl hl2 hk hspl h3 h6 hV k2 hfin hm hlr
    by_cases h7 : c - 1 - m = V
    · go_enter Tryz.func90, Tryz.ntmps90
      go_wp2_with (go_at_call 117; refine HL.out.mono ?_; rintro e w' ⟨rfl, rfl⟩)
      go_quiet (fail)
      go_wp2
      go_ret3
      refine HF.out _ _ _ _ _ _ ((Tch.refl _ _).drewN _) ?_ ?_ ?_ ?_ (fun h => absurd h7 h)
      all_goals first | rfl | exact h7.symm | omega
    · go_enter Tryz.func90, Tryz.ntmps90
      go_wp2_with (go_at_call 117; refine HL.out.mono ?_; rintro e w' ⟨rfl, rfl⟩)
      go_quiet (fail)
      go_wp2
      go_ret3
      refine HF.out _ _ _ _ _ _ ((Tch.refl _ _).drewN _) ?_ ?_ ?_ ?_ (fun _ => ?_)
      all_goals first | rfl | omega
/-- What a head tells of. -/
theorem rsplit_any (X : List Nat) (v : Value) (l : List Nat) (w : World) (hn : l.length ≤ 100000000) (hv : RdA X w v l) : Calls Tryz.prog 90 #[v] w (SplPost X l w) := by
  cases l with
  | nil => exact split_nil X v w hv
  | cons x r =>
    by_cases hx : x < 128
    · exact split_low X v x r w hx hn hv
    · by_cases h64 : x % 64 ≤ 55
      · by_cases hno : r.length < x % 64 ∨ (x = 129 ∧ r.getD 0 0 < 128)
        · exact split_short_no X v x r w (by omega) h64 hn hv hno
        · exact split_short_yes X v x r w (by omega) h64 hn hv (by omega) (fun h => hno (.inr h))
      · cases hk : lenOk r (x % 64 - 55) with
        | false => exact split_long_bad X v x r w (by omega) (by omega) hn hv hk
        | true => exact split_long_ok X v x r w (by omega) (by omega) hn hv hk
set_option maxHeartbeats 600000 in
set_option maxRecDepth 100000 in
/-- How many items there are. -/
theorem count_any (v : Value) (l : List Nat) (w : World) (hn : l.length ≤ 100000000) (hv : RdA [] w v l) : Calls Tryz.prog 118 #[v] w fun e w' => Tch [] w w' ∧ ∃ k : Nat, k ≤ l.length ∧ e = .returned (.int .i64 (k : Int)) := by
  have hsp := fun (u : Value) (q : List Nat) (w1 : World) (hq : q.length ≤ 100000000) (hu : RdA [] w1 u q) => (rsplit_any [] u q w1 hq hu)
  have HS := Lib.hid hsp
  obtain ⟨p0, n0, c0, rfl⟩ := slice_keep hv
  have hln := Lib.hid hv.len
  clear hsp
  go_enter Tryz.func118, Tryz.ntmps118
  go_wp2
  go_loopw [0, 3] (fun u i wr => ∃ (k : Nat) (q : List Nat), q.length + k ≤ l.length ∧ i = .int .i64 (k : Int) ∧ RdA [] wr u q ∧ Tch [] w wr) (fun u _ _ => slLen u)
  case atStart => exact ⟨0, l, by omega, rfl, hv, Tch.refl _ _⟩
  case round =>
    obtain ⟨k, q, hk, rfl, hu, hT⟩ := hrel
    have hc := HS.out _ q wr (by omega) hu
    obtain ⟨p1, n1, c1, rfl⟩ := slice_keep hu
    have hln1 := Lib.hid hu.len
    cases hq : spl q with
    | none =>
      have hc2 := hc.mono (R' := fun e w' => e = .returned (.tuple #[.slice none 0 0, .slice none 0 0, .bool false]) ∧ Tch [] wr w') (fun e w' h => by
        obtain ⟨h1, h2⟩ := h
        rw [hq] at h2
        exact ⟨h2, h1⟩)
      have HC := Lib.hid hc2
      clear hc hc2
      go_wp2_with (go_at_call 90; refine HC.out.mono ?_; rintro e w1 ⟨rfl, hT1⟩)
      go_ret
      exact ⟨hT.trans hT1, k, by omega, rfl⟩
    | some hn2 =>
      obtain ⟨h, n2⟩ := hn2
      have hle := spl_some hq
      have hc2 := hc.mono (R' := fun e w' => ∃ v1 p2 n2' c2, e = .returned (.tuple #[v1, .slice p2 n2' c2, .bool true]) ∧ RdA [] w' (.slice p2 n2' c2) (q.drop (h + n2)) ∧ Tch [] wr w') (fun e w' h => by
        obtain ⟨h1, h2⟩ := h
        rw [hq] at h2
        obtain ⟨v1, v2, h3, _, h5⟩ := h2
        obtain ⟨p2, n2', c2, rfl⟩ := slice_keep h5
        exact ⟨v1, p2, n2', c2, h3, h5, h1⟩)
      have HC := Lib.hid hc2
      clear hc hc2
      go_wp2_with (go_at_call 90; refine HC.out.mono ?_; rintro e w1 ⟨v1, p2, n2', c2, rfl, hv2, hT1⟩)
      have hln2 := hv2.len
      rw [List.length_drop] at hln2
      have HL2 := Lib.hid hln2
      clear hln2
      go_roundw
      case rel => exact ⟨k + 1, q.drop (h + n2), by rw [List.length_drop]; omega, by go_num, hv2, hT.trans hT1⟩
      case measure =>
        have h1 := HL2.out
        have h2 := hln1.out
        simp [slLen]; omega
end Go.Proofs.YtdjhjgockgmbkaaGreatDoor

/- Zeros in front are struck: bytes.TrimLeft at a single byte, rlp.Big. -/
namespace Go.Proofs.YtdjhjgockgmbkaaGreatDoor
open Go.RowKit

/-- Bytes without the zeros in front. -/
def stripZ : List Nat → List Nat
  | [] => []
  | x :: r => if x = 0 then stripZ r else x :: r
theorem stripZ_zero (r : List Nat) : stripZ (0 :: r) = stripZ r := by show (if 0 = 0 then _ else _) = _; rw [if_pos rfl]
theorem stripZ_pos {x : Nat} (r : List Nat) (h : x ≠ 0) : stripZ (x :: r) = x :: r := by show (if x = 0 then _ else _) = _; rw [if_neg h]
theorem at_ofN {X : List Nat} {w : World} {p : Option Addr} {n c : Nat} {l : List Nat} (h : RdA X w (.slice p n c) l) (hl : l ≠ []) : ∃ b o, p = some ⟨b, o, none⟩ ∧ b < w.heap.size ∧ ∀ i, i < l.length → w.cell? ⟨b, o + i, none⟩ = some (.int .u8 ((l.getD i 0 : Nat) : Int)) := by
  obtain ⟨_, _, h1, _, _, h4⟩ := h
  cases h1
  obtain ⟨b, o, h5, h6, _, h7⟩ := h4 hl
  exact ⟨b, o, h5, h6, h7⟩
theorem RdA.none_ (X : List Nat) (w : World) (p : Option Addr) (c : Nat) : RdA X w (.slice p 0 c) [] := ⟨p, c, rfl, Nat.zero_le _, by simp, fun h => absurd rfl h⟩
theorem st_fromN {P : Program} {ops : Array Oper} {rest : List Oper} {o : Oper} {a : Act} {w : World} {Q : Exit → Act → World → Prop} {v l r : Value} (hgd : o.guard = none) (ty : TypeId) (x lo : Operand) (ho : o.op = .slice ty x (some lo) none none) (hx : a.eval x = v) (hl : a.eval lo = l)
    (hr : ∀ w, (Instr.sliceAt ty v (some l) none none).run P w = .ok r w) (h : wpList P ops Q rest (a.put o.dst r) w) : wpList P ops Q (o :: rest) a w :=
  wpList_plain hgd fun K hK => by
    unfold Oper.wp execOp
    simp only [ho, hx, hl, Option.map_some, Option.map_none, Sem.run_bind, hr, Result.andThen_ok, Sem.run_pure]
    exact hK _ _ h
set_option maxHeartbeats 1000000 in
set_option maxRecDepth 100000 in
theorem trimLeftByte_any (X : List Nat) (v : Value) (l : List Nat) (w : World) (hm : l.length ≤ 1000000) (hv : RdA X w v l) :
    Calls Tryz.prog 109 #[v, .int .u8 0] w fun e w' => ∃ v', e = .returned v' ∧ w = w' ∧ RdA X w v' (stripZ l) := by
  obtain ⟨p, n, c, rfl⟩ := slice_keep hv
  have HV := Lib.hid hv
  have HM := Lib.hid hm
  clear hv hm
  go_enter Tryz.func109, Tryz.ntmps109
  go_wp2
  go_loopw [0] (fun u wr => ∃ q, wr = w ∧ Hid (RdA X w u q) ∧ Hid (stripZ q = stripZ l) ∧ Hid (q.length ≤ 1000000)) (fun u _ => slLen u)
  case atStart => exact ⟨l, rfl, HV, Lib.hid rfl, HM⟩
  case round =>
    obtain ⟨q, rfl, HQ, HE, HN⟩ := hrel
    obtain ⟨pu, nu, cu, rfl⟩ := slice_keep HQ.out
    have hcap := HQ.out.cap
    have hnn : nu ≤ 1000000 := by have := HN.out; have := HQ.out.len; omega
    cases q with
    | nil =>
      have hlen := HQ.out.len
      obtain rfl : nu = 0 := by simpa using hlen
      clear hlen hcap
      go_wp2
      go_ret
      refine ⟨_, rfl, rfl, ?_⟩
      rw [← HE.out]
      exact RdA.none_ _ _ _ _
    | cons x r =>
      have hlen := HQ.out.len
      obtain ⟨b, o, rfl, hbw, hc⟩ := at_ofN HQ.out (by simp)
      have hc0 := hc 0 (by simp)
      rw [Nat.add_zero] at hc0
      simp only [List.getD_cons_zero] at hc0
      have hx := HQ.out.lt x List.mem_cons_self
      simp only [List.length_cons] at hlen
      have h0 : 0 < nu := by omega
      have h0i : (0 : Int) < (nu : Int) := by omega
      have h0n : ¬ nu = 0 := by omega
      clear hc
      by_cases hx0 : x = 0
      · subst hx0
        obtain ⟨p3, c3, hsl, hc3, hrd⟩ := slice_from (some ⟨b, o, none⟩) nu cu 1 (by omega) hcap
        have hr := hrd X wr _ HQ.out
        simp only [List.drop_succ_cons, List.drop_zero] at hr
        have HR := Lib.hid hr
        have HSL := Lib.hid hsl
        have HLN := Lib.hid hlen
        clear hr hrd hsl hc3 hlen
        go_wp2_with (refine st_fromN (v := .slice (some ⟨b, o, none⟩) nu cu) (l := .int .i64 1) (r := .slice p3 (nu - 1) c3) rfl 26 _ _ (by rfl) (by rfl) (by rfl) HSL.out ?_)
        go_roundw
        case rel => exact ⟨r, by first | trivial | rfl, HR, Lib.hid (by rw [← HE.out, stripZ_zero]), Lib.hid (by have := HN.out; simp at this; omega)⟩
        case measure => simp [slLen]; omega
      · have e2 : ¬ (x : Int) = 0 := by omega
        have e3 : ((x : Int) == 0) = false := by rw [beq_eq_false_iff_ne]; omega
        clear hlen hcap
        go_wp2
        go_ret
        refine ⟨_, rfl, rfl, ?_⟩
        rw [← HE.out, stripZ_pos r hx0]
        exact HQ.out
set_option maxHeartbeats 1000000 in
set_option maxRecDepth 100000 in
theorem trimLeft_any (X : List Nat) (v : Value) (l : List Nat) (w : World) (hm : l.length ≤ 1000000) (hv : RdA X w v l) :
    Calls Tryz.prog 77 #[v, .string ⟨#[0]⟩] w fun e w' => ∃ v', e = .returned v' ∧ w = w' ∧ RdA X w v' (stripZ l) := by
  obtain ⟨p, n, c, rfl⟩ := slice_keep hv
  have HK := Lib.hid (trimLeftByte_any X _ l w hm hv)
  have hlen := hv.len
  have k1 : ((⟨#[0]⟩ : ByteArray).toList == (⟨#[]⟩ : ByteArray).toList) = false := by rw [ByteArray.toList_eq, ByteArray.toList_eq]; decide
  by_cases h0 : n = 0
  · subst h0
    obtain rfl : l = [] := List.eq_nil_of_length_eq_zero hlen.symm
    clear hv hlen hm
    go_enter Tryz.func77, Tryz.ntmps77
    go_wp2
    go_ret
    exact ⟨_, rfl, rfl, RdA.none_ _ _ _ _⟩
  · have e1 : ((n : Int) == 0) = false := by rw [beq_eq_false_iff_ne]; omega
    have e2 : ¬ (n : Int) = 0 := by omega
    clear hv hlen hm
    go_enter Tryz.func77, Tryz.ntmps77
    go_wp2_with (go_at_call 109; refine HK.out.mono ?_; rintro e w2 ⟨v2, rfl, rfl, hr⟩)
    go_ret
    exact ⟨_, rfl, rfl, hr⟩
end Go.Proofs.YtdjhjgockgmbkaaGreatDoor

/- rlp.Big; the document's Bytes, Big. -/
namespace Go.Proofs.YtdjhjgockgmbkaaGreatDoor
open Go.RowKit

theorem wordN_type : Tryz.prog.underlying 23 = some (.array 32 5) := by kernel_rfl
theorem wordN_size : (Tryz.prog.info? 23).map (·.size) = some 32 := by kernel_rfl
theorem itemN_size : (Tryz.prog.info? 68).map (·.size) = some 3 := by kernel_rfl
theorem itemN_zero : (Tryz.prog.info? 68).bind (·.zero) = some (.agg #[.bool false, .slice none 0 0, .slice none 0 0]) := by kernel_rfl
theorem oneN3 {a b c : Value} (ha : a.oneCell' = true) (hb : b.oneCell' = true) (hc : c.oneCell' = true) : (#[a, b, c] : Array Value).all (·.oneCell') = true := by simp [ha, hb, hc]
theorem apartN {bs : List Nat} {w0 w : World} {L : List Ent} {e f : Ent} (h : St bs w0 w (e :: f :: L)) : e.1 ≠ f.1 := (List.pairwise_cons.1 h.apart).1 f List.mem_cons_self
/-- A word of these bytes. -/
def wv (W : List Nat) : Array Value := bc 32 fun i => W.getD i 0
theorem RdA.ofWord {X : List Nat} {w : World} {b : Nat} {t : TypeId} {W : List Nat} (h : Blk w b t (wv W)) (hn : W.length = 32) (hl : ∀ x ∈ W, x < 256) (hb : b ∉ X) : RdA X w (.slice (some ⟨b, 0, none⟩) 32 32) W :=
  ⟨_, _, by rw [hn], by omega, hl, fun _ => ⟨b, 0, rfl, h.lt, hb, fun i hi => by rw [Nat.zero_add]; exact h.cell (bc_get (by omega))⟩⟩
/-- An item of bytes is handed back. -/
def BytesPost (X : List Nat) (L : List Nat) (w : World) (e : Ending) (w' : World) : Prop :=
  Tch [] w w' ∧ ∃ p n c, e = .returned (.agg #[.bool false, .slice p n c, .slice none 0 0]) ∧ RdA X w' (.slice p n c) L
set_option maxHeartbeats 2000000 in
set_option maxRecDepth 100000 in
theorem refBytes_any (X : List Nat) (v : Value) (L : List Nat) (w : World) (hv : RdA X w v L) : Calls Tryz.prog 31 #[v] w (BytesPost X L w) := by
  obtain ⟨f0, f1, f2, hty, _⟩ := item_ty
  obtain ⟨p, n, c, rfl⟩ := slice_keep hv
  have hS := St.start w
  have HV := Lib.hid hv
  clear hv
  go_enter Tryz.func31, Tryz.ntmps31
  go_wp2_with (first
    | (refine st_new (L := []) hS rfl 68 rfl itemN_zero ?_; clear hS; intro w2 b2 hS)
    | (refine st_store (c' := #[.bool false, .slice p n c, .slice none 0 0]) hS rfl 68 _ _ rfl rfl rfl (by repeat (first | exact Upd.head | apply Upd.tail)) itemN_size (by rfl) (by rfl) (oneN3 rfl rfl rfl) ?_; clear hS; intro w4 hS))
  refine post_cell 2 68 rfl rfl rfl (hS.get .head) hty rfl itemN_size rfl ?_
  exact ⟨hS.frame, _, _, _, rfl, HV.out.tch (hS.frame.mono (by simp))⟩
theorem strip_drop : ∀ (W : List Nat) (k : Nat), (∀ i, i < k → W.getD i 0 = 0) → k ≤ W.length → (k = W.length ∨ W.getD k 0 ≠ 0) → stripZ W = W.drop k
  | [], k, _, hk, _ => by
    obtain rfl : k = 0 := by simpa using hk
    rfl
  | x :: r, 0, _, _, h => by
    rcases h with h | h
    · simp at h
    · rw [stripZ_pos r (by simpa using h), List.drop_zero]
  | x :: r, k + 1, h0, hk, h => by
    have hx := h0 0 (by omega)
    simp only [List.getD_cons_zero] at hx
    subst hx
    rw [stripZ_zero, List.drop_succ_cons]
    refine strip_drop r k (fun i hi => ?_) (by simpa using hk) ?_
    · have := h0 (i + 1) (by omega); simpa using this
    · rcases h with h | h
      · left; simpa using h
      · right; simpa using h
end Go.Proofs.YtdjhjgockgmbkaaGreatDoor

/- Bytes appended to bytes of the call's own; short lists of bytes built. -/
namespace Go.Proofs.YtdjhjgockgmbkaaGreatDoor
open Go.RowKit

theorem append_any_nil (ty : TypeId) (q : Option Addr) (n c c' : Nat) (w : World) (hn : n ≤ c) (hq : q = none → n = 0 ∧ c = 0) : (Builtin.append_ #[26, 26] ty #[.slice q n c, .slice none 0 c']).run Tryz.prog w = .ok (.slice q n c) w := by
  obtain ⟨i, hi, hz, hs, hb⟩ := info_parts A_info
  cases q with
  | none =>
    obtain ⟨rfl, rfl⟩ := hq rfl
    simp [Builtin.append_, run_underlying bytes_ty, sizeOf, typeInfo, hi, storeCells, Builtin.lenOf, Builtin.firstCells]
  | some a => simp [Builtin.append_, run_underlying bytes_ty, sizeOf, typeInfo, hi, storeCells, Builtin.lenOf, Builtin.firstCells, hn]
/-- append(v, u...), v the call's own. -/
theorem st_appB {ops : Array Oper} {rest : List Oper} {o : Oper} {a : Act} {w0 w : World} {Q : Exit → Act → World → Prop} {v u : Value} {l m : List Nat} {ty : TypeId} (hgd : o.guard = none) (s x : Operand)
    (ho : o.op = .call { callee := .builtin .append, args := #[s, x], argTypes := #[26, 26] }) (hs : a.eval s = v) (hx : a.eval x = u) (hown : w.ownsRow w0.heap.size 5 1 v l.length (nb l)) (hT : Tch [] w0 w) (hu : RdB w u m) (hl : l.length + m.length ≤ 100000000)
    (h : ∀ v' w', w'.ownsRow w0.heap.size 5 1 v' (l ++ m).length (nb (l ++ m)) → Tch [] w0 w' → wpList Tryz.prog ops Q rest (a.put o.dst v') w') : wpList Tryz.prog ops Q (o :: rest) a w := by
  obtain ⟨i0, hi, hz0, hz1, hz2⟩ := info_parts A_info
  obtain ⟨p, c, rfl, hlc, hb, h4⟩ := hu
  cases p with
  | none =>
    have hl0 : m = [] := by
      cases m with
      | nil => rfl
      | cons x r => obtain ⟨_, _, h, _⟩ := h4 (by simp); cases h
    subst hl0
    have hv : ∃ q n c, v = .slice q n c ∧ n ≤ c ∧ (q = none → n = 0 ∧ c = 0) := by
      obtain ⟨_, h2⟩ := hown
      rcases h2 with ⟨rfl, _⟩ | ⟨g, cap, cur, rfl, _, _, hn, _⟩
      · exact ⟨none, 0, 0, rfl, Nat.le_refl _, fun _ => ⟨rfl, rfl⟩⟩
      · exact ⟨_, _, _, rfl, hn, fun h => by cases h⟩
    obtain ⟨q, n, cq, rfl, hn, hq⟩ := hv
    refine wpList_plain hgd fun K hK => ?_
    unfold Oper.wp execOp
    simp only [ho, resolve, invoke, builtin, Sem.run_bind, Sem.run_pure, Result.andThen_ok, List.map_toArray, List.map_cons, List.map_nil, hs, hx, List.length_nil, append_any_nil _ q n cq c w hn hq]
    exact hK _ _ (h _ _ (by rw [List.append_nil]; exact hown) hT)
  | some ad =>
    refine wpList_append_own w hgd s x 26 ho w0.heap.size 5 i0 (.int .u8 0) 1 1 bytes_ty hi hz0 hz1 hz2 rfl (by decide) _ _ _ hs hown ad m.length c (nb m) hx (by rw [nb_length, Nat.mul_one]) ?_ (fun u hu => by obtain ⟨x, _, rfl⟩ := List.mem_map.1 hu; rfl) (by unfold maxLen; omega) (by omega) hT.size ?_
    · intro j u hu
      obtain ⟨hj, rfl⟩ := nb_ne hu
      obtain ⟨b, o, h5, h6, h7⟩ := h4 (by intro e; subst e; simp at hj)
      cases h5
      have hadd : (⟨b, o, none⟩ : Addr).add j = ⟨b, o + j, none⟩ := by unfold Addr.add; split <;> simp_all
      rw [hadd]; exact h7 j hj
    · intro v' w' hown' hgrow _
      refine h v' w' ?_ ⟨hgrow.os.trans hT.os, hgrow.tape.trans hT.tape, hgrow.output.trans hT.output, Nat.le_trans hT.size hgrow.size, fun k hk _ => (hgrow.block k (Nat.lt_of_lt_of_le hk hT.size) (fun e => ?_)).trans (hT.block k hk (by simp))⟩
      · have e : nb (l ++ m) = nb l ++ nb m := by simp [nb]
        rw [e, List.length_append]; exact hown'
      · have := (hown.lt k e.symm).1; omega
/-- A list of bytes laid into a new block. -/
theorem RdB.lit (w : World) (t : TypeId) (l : List Nat) (hl : ∀ x ∈ l, x < 256) (cs : Array Value) (hc : cs = (nb l).toArray) : RdB (w.alloc (.cells cs t)) (.slice (some ⟨w.heap.size, 0, none⟩) l.length l.length) l := by
  subst hc
  refine ⟨_, _, rfl, Nat.le_refl _, hl, fun _ => ⟨_, _, rfl, (Blk.new w t _).lt, fun i hi => ?_⟩⟩
  rw [Nat.zero_add, (Blk.new w t _).cell (v := .int .u8 ((l.getD i 0 : Nat) : Int)) (by rw [List.getElem?_toArray]; exact nb_get hi)]
theorem own_nil (w w0 : World) : w.ownsRow w0.heap.size 5 1 (.slice none 0 0) ([] : List Nat).length (nb []) := ⟨rfl, .inl ⟨rfl, rfl⟩⟩
/-- The same, as the call's own. -/
theorem own_lit {w w0 : World} (l : List Nat) (hw : w0.heap.size ≤ w.heap.size) (hl : l.length ≤ 1000) (cs : Array Value) (hc : cs = (nb l).toArray) : (w.alloc (.cells cs 5)).ownsRow w0.heap.size 5 1 (.slice (some ⟨w.heap.size, 0, none⟩) l.length l.length) l.length (nb l) := by
  subst hc
  refine ⟨by rw [nb_length, Nat.mul_one], .inr ⟨_, _, _, rfl, hw, Blk.new w _ _, Nat.le_refl _, by unfold maxLen; omega, by simp [nb_length], ?_⟩⟩
  rw [Nat.mul_one, ← nb_length l]
  exact List.take_length
theorem u8_agg (w : World) : (isAgg 5).run Tryz.prog w = .ok false w := by simp [isAgg, run_underlying byte_ty]
end Go.Proofs.YtdjhjgockgmbkaaGreatDoor
