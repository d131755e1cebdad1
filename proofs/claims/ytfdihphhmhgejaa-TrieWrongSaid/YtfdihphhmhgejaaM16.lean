/- About how much an item has: what the law's own size says of its bytes. -/
import Derived.Test.YtfdihphhmhgejaaM15
set_option linter.unusedVariables false
set_option linter.unusedSimpArgs false
namespace Go.Proofs.Ytfdihphhmhgejaa
open Go.RowKit
set_option maxRecDepth 100000

theorem encS_le {l : List Nat} (h : l.length < 4294967296) : (encS l).length ≤ 5 + l.length := by
  unfold encS
  split
  · omega
  · rw [List.length_append, hd_length]
    have := hsz_le h
    omega
theorem encs_succ {l : List It} {k : Nat} (h : k < l.length) : encs (l.take (k + 1)) = encs (l.take k) ++ enc l[k] := by
  rw [List.take_succ_eq_append_getElem h, encs_append, encs_one]
theorem enc_lst_le {l : List It} (h : (encs l).length < 4294967296) : (enc (.lst l)).length ≤ 5 + (encs l).length := by
  rw [enc_lst, List.length_append, hd_length]
  have := hsz_le h
  omega
/-- What size answers: a number, and where it is below the bound, how many bytes the item has at most. -/
def SizePost (k left : Nat) (y0 yb yl : Value) (w : World) (e : Ending) (w' : World) : Prop :=
  Tch [] w w' ∧ ∃ n : Nat, e = .returned (.int .i64 (n : Int)) ∧ 1 ≤ n ∧ n ≤ left + 4611686018427387904 ∧ ∀ it, ItC [] w k y0 yb yl it → n < left → (enc it).length ≤ 5 * n
/-- What it says when so many of the list's items have been gone through. -/
def SizeInv (k left : Nat) (yl : Value) (w : World) (m n : Nat) : Prop :=
  ∀ its, (∃ p c, yl = .slice p its.length c) → (its ≠ [] → ∃ b o c, yl = .slice (some ⟨b, o, none⟩) its.length c ∧ ∀ i (h : i < its.length), ∃ z0 zb zl, w.cell? ⟨b, o + i * 3, none⟩ = some z0 ∧ w.cell? ⟨b, o + i * 3 + 1, none⟩ = some zb ∧ w.cell? ⟨b, o + i * 3 + 2, none⟩ = some zl ∧ ItC [] w k z0 zb zl its[i]) → n < left → (encs (its.take m)).length ≤ 5 * (n - 1)
theorem sizeinv_start (k left : Nat) (yl : Value) (w : World) (n : Nat) : SizeInv k left yl w 0 n := fun its _ _ _ => by simp [encs]
theorem sizeinv_step {k left m n n' b o N c : Nat} {yl z0 zb zl : Value} {w : World} (hI : SizeInv k left yl w m n) (hn1 : 1 ≤ n) (hyl : yl = .slice (some ⟨b, o, none⟩) N c) (h0 : w.cell? ⟨b, o + m * 3, none⟩ = some z0) (h1 : w.cell? ⟨b, o + m * 3 + 1, none⟩ = some zb) (h2 : w.cell? ⟨b, o + m * 3 + 2, none⟩ = some zl)
    (hch : ∀ it, ItC [] w k z0 zb zl it → n' < left - n → (enc it).length ≤ 5 * n') : SizeInv k left yl w (m + 1) (n + n') := by
  intro its hl hc hlt
  have hprev := hI its hl hc (by omega)
  rcases Nat.lt_or_ge m its.length with hm | hm
  · rw [encs_succ hm, List.length_append]
    obtain ⟨b', o', c', he, hcs⟩ := hc (by intro e; subst e; simp at hm)
    rw [hyl] at he
    cases he
    obtain ⟨x0, xb, xl, g0, g1, g2, hit⟩ := hcs m hm
    rw [h0] at g0; rw [h1] at g1; rw [h2] at g2
    cases g0; cases g1; cases g2
    have := hch _ hit (by omega)
    omega
  · rw [List.take_of_length_le (by omega)]
    rw [List.take_of_length_le hm] at hprev
    omega
theorem size_end {k left n nb cb : Nat} {pb pl : Option Addr} {nl cl : Nat} {y0 : Value} {w w' : World} (hT : Tch [] w w') (hl1 : 1 ≤ left) (hl5 : left ≤ 5000) (hn : 1 + nb ≤ n) (hmax : n ≤ left + 4611686018427387904) (hI : ∀ m, n < left → m = nl → SizeInv k left (.slice pl nl cl) w m n) :
    SizePost (k + 1) left y0 (.slice pb nb cb) (.slice pl nl cl) w (.returned (.int .i64 (n : Int))) w' := by
  refine ⟨hT, n, rfl, by omega, hmax, fun it hit hlt => ?_⟩
  cases it with
  | str l =>
    unfold ItC at hit
    have hl : nb = l.length := by
      obtain ⟨_, _, he, _⟩ := hit.2.1
      cases he; rfl
    rw [enc_str]
    have := encS_le (l := l) (by omega)
    omega
  | lst its =>
    unfold ItC at hit
    obtain ⟨_, p, c, he, h2, h3⟩ := hit
    cases he
    have := hI _ hlt rfl its ⟨_, _, rfl⟩ (fun hne => by
      obtain ⟨b, o, rfl, _, _, hcs⟩ := h3 hne
      exact ⟨b, o, _, rfl, hcs⟩) hlt
    rw [List.take_length] at this
    have h4 := enc_lst_le (l := its) (by omega)
    omega
end Go.Proofs.Ytfdihphhmhgejaa

/- The law's own size, Big. -/
namespace Go.Proofs.Ytfdihphhmhgejaa
open Go.RowKit
set_option maxRecDepth 100000

/-- What Big answers: where it is false the item has no more than so many bytes. -/
def BigPost (k : Nat) (y0 yb yl : Value) (w : World) (e : Ending) (w' : World) : Prop :=
  Tch [] w w' ∧ ∃ q : Bool, e = .returned (.bool q) ∧ ∀ it, ItC [] w k y0 yb yl it → q = false → (enc it).length ≤ 25000
end Go.Proofs.Ytfdihphhmhgejaa

/- The document's Deep. -/
namespace Go.Proofs.Ytfdihphhmhgejaa
open Go.RowKit
set_option maxRecDepth 100000

/-- How deep, at most one more than so many. -/
def deepN (most d : Nat) : Nat := if d ≤ most then d else most + 1
theorem deepN_max (j a b : Nat) : deepN j (max a b) = max (deepN j a) (deepN j b) := by
  unfold deepN
  repeat' split
  all_goals omega
theorem deepN_succ (j d : Nat) : deepN j d + 1 = deepN (j + 1) (d + 1) := by
  unfold deepN
  repeat' split
  all_goals omega
theorem deepN_le (j d : Nat) : deepN j d ≤ j + 1 := by unfold deepN; split <;> omega
theorem deps_succ {l : List It} {k : Nat} (h : k < l.length) : deps (l.take (k + 1)) = max (deps (l.take k)) (dep l[k]) := by
  rw [List.take_succ_eq_append_getElem h, deps_append]
  simp [deps]
def DeepOK (k : Nat) : Prop := ∀ (y0 yb yl : Value) (it : It) (most : Nat) (w : World), ItC [] w k y0 yb yl it → most ≤ 32 → Calls Try.prog 15 #[.agg #[y0, yb, yl], .int .i64 (most : Int)] w fun e w' => e = .returned (.int .i64 ((deepN most (dep it) : Nat) : Int)) ∧ Tch [] w w'
set_option maxHeartbeats 2000000 in
set_option maxRecDepth 100000 in
theorem deep_step (k : Nat) (ih : DeepOK k) : DeepOK (k + 1) := by
  intro y0 yb yl it most w hit hm32
  have hS := St.start w
  have HI := Lib.hid ih
  clear ih
  cases it with
  | str l =>
    unfold ItC at hit
    obtain ⟨rfl, _⟩ := hit
    rw [dep_str]
    go_enter Try.func15, Try.ntmps15
    go_wp2_with (refine st_box (L := []) hS rfl 27 _ rfl rfl ?_; clear hS; intro w0 b0 hS; have d0 := (hS.get .head).cell (j := 0) rfl)
    go_ret
    exact ⟨rfl, hS.frame⟩
  | lst its =>
    unfold ItC at hit
    obtain ⟨rfl, p, c, rfl, ⟨hcc, hll⟩, hcells⟩ := hit
    rw [dep_lst]
    by_cases hm0 : most = 0
    · subst hm0
      have e0 : deepN 0 (deps its + 1) = 1 := by unfold deepN; rw [if_neg (by omega)]
      rw [e0]
      clear hcells
      go_enter Try.func15, Try.ntmps15
      go_wp2_with (refine st_box (L := []) hS rfl 27 _ rfl rfl ?_; clear hS; intro w0 b0 hS; have d0 := (hS.get .head).cell (j := 0) rfl)
      go_ret
      exact ⟨rfl, hS.frame⟩
    · obtain ⟨j, hj⟩ : ∃ j, most = j + 1 := ⟨most - 1, by omega⟩
      obtain ⟨n, hn⟩ : ∃ n, n = its.length := ⟨_, rfl⟩
      rw [← hn] at hcc hll ⊢
      have HL := Lib.hid hn
      have HC := Lib.hid hcells
      have hj1 : ((most : Int) == 0) = false := by rw [beq_eq_false_iff_ne]; omega
      have hsub : (most : Int) - 1 = (j : Int) := by omega
      have hj32 : j ≤ 32 := by omega
      have HDN := Lib.hid (show deepN most (deps its + 1) = deepN j (deps its) + 1 by rw [hj, deepN_succ])
      rw [HDN.out]
      clear hcells hn hj
      go_enter Try.func15, Try.ntmps15
      go_wp2_with (refine st_box (L := []) hS rfl 27 _ rfl rfl ?_; clear hS; intro w0 b0 hS; have d0 := (hS.get .head).cell (j := 0) rfl; have d2 := (hS.get .head).cell (j := 2) rfl)
      clear d0 d2
      go_loopw [5, 6] (fun nv i wr => ∃ m q : Nat, i = .int .i64 (m : Int) ∧ nv = .int .i64 (q : Int) ∧ m ≤ n ∧ q ≤ 33 ∧ St [] w wr [(b0, 27, #[.bool true, yb, .slice p n c])] ∧ Hid (q = deepN j (deps (its.take m)))) (fun _ i _ => n - (intOf i).toNat)
      case atStart => exact ⟨0, 0, rfl, rfl, Nat.zero_le _, by omega, hS, Lib.hid (by simp [deps, deepN])⟩
      case round =>
        clear hS
        obtain ⟨m, q, rfl, rfl, hm, hq33, hS, HA⟩ := hrel
        have d2 := (hS.get .head).cell (j := 2) rfl
        by_cases hlt : m < n
        · have e1 : (m : Int) < (n : Int) := by omega
          have hml : m < its.length := by have := HL.out; omega
          obtain ⟨b, o, rfl, hbw, hbX, hcs⟩ := HC.out (by intro e; subst e; simp at hml)
          obtain ⟨z0, zb, zl, g0, g1, g2, hz⟩ := hcs m hml
          have hT := hS.frame
          have f0 := (hT.cell (p := ⟨b, o + m * 3, none⟩) hbw (by simp)).trans g0
          have f1 := (hT.cell (p := ⟨b, o + m * 3 + 1, none⟩) hbw (by simp)).trans g1
          have f2 := (hT.cell (p := ⟨b, o + m * 3 + 2, none⟩) hbw (by simp)).trans g2
          obtain ⟨dm, hdm⟩ : ∃ dm, dm = deepN j (dep its[m]) := ⟨_, rfl⟩
          have hd33 : dm ≤ 33 := by have := deepN_le j (dep its[m]); omega
          have hcall := HI.out z0 zb zl its[m] j wr (hz.tch hT) (by omega)
          rw [← hdm] at hcall
          have HK := Lib.hid hcall
          have HST := Lib.hid (show max q dm = deepN j (deps (its.take (m + 1))) by rw [deps_succ hml, deepN_max, ← HA.out, hdm])
          clear hcs g0 g1 g2 hz hcall hdm
          by_cases hgt : q < dm
          · have e3 : (q : Int) < (dm : Int) := by omega
            go_wp2_with (go_at_call 15; (with_reducible refine HK.out.mono ?_); rintro e w3 ⟨rfl, hT3⟩; replace hS := hS.call hT3)
            go_roundw
            case rel => exact ⟨m + 1, dm, by go_num, rfl, hlt, hd33, hS, Lib.hid (by rw [← HST.out]; omega)⟩
            case measure => simp [intOf]; omega
          · have e3 : ¬ (q : Int) < (dm : Int) := by omega
            go_wp2_with (go_at_call 15; (with_reducible refine HK.out.mono ?_); rintro e w3 ⟨rfl, hT3⟩; replace hS := hS.call hT3)
            go_roundw
            case rel => exact ⟨m + 1, q, by go_num, rfl, hlt, hq33, hS, Lib.hid (by rw [← HST.out]; omega)⟩
            case measure => simp [intOf]; omega
        · have e1 : ¬ (m : Int) < (n : Int) := by omega
          have HE := Lib.hid (show q = deepN j (deps its) by have := HA.out; rwa [List.take_of_length_le (by have := HL.out; omega)] at this)
          go_wp2
          go_ret
          rw [← HE.out]
          exact ⟨rfl, hS.frame⟩
theorem deep_any : ∀ k, DeepOK k
  | 0 => fun _ _ _ _ _ _ h => h.elim
  | k + 1 => deep_step k (deep_any k)
end Go.Proofs.Ytfdihphhmhgejaa
