/- The document's Deep. -/
import Derived.Test.YtanmpcgackfpaaaGreatM01
import Derived.Test.YtanmpcgackfpaaaGreatM11
import Derived.Test.YtanmpcgackfpaaaGreatM12
import Derived.Lib.SlBytesConst
set_option linter.unusedVariables false
set_option linter.unusedSimpArgs false
namespace Go.Proofs.YtanmpcgackfpaaaGreat
section
open Go.RowKit
set_option maxRecDepth 100000
def deepN (most d : Nat) : Nat := if d ≤ most then d else most + 1
theorem deepN_max (j a b : Nat) : deepN j (max a b) = max (deepN j a) (deepN j b) := by
  unfold deepN
  repeat' split
  all_goals omega
theorem deepN_succ (j d : Nat) : deepN j d + 1 = deepN (j + 1) (d + 1) := by
  unfold deepN
  repeat' split
  all_goals omega
theorem deepN_le (j d : Nat) : deepN j d ≤ j + 1 := by unfold deepN; split <;> omega
theorem deps_succ {l : List It} {k : Nat} (h : k < l.length) : deps (l.take (k + 1)) = max (deps (l.take k)) (dep l[k]) := by
  rw [List.take_succ_eq_append_getElem h, deps_append]
  simp [deps]
def DeepOK (k : Nat) : Prop := ∀ (y0 yb yl : Value) (it : It) (most : Nat) (w : World), ItC [] w k y0 yb yl it → most ≤ 32 → Calls Tryz.prog 62 #[.agg #[y0, yb, yl], .int .i64 (most : Int)] w fun e w' => e = .returned (.int .i64 ((deepN most (dep it) : Nat) : Int)) ∧ Tch [] w w'
set_option maxHeartbeats 2000000 in
set_option maxRecDepth 100000 in
theorem deep_step (k : Nat) (ih : DeepOK k) : DeepOK (k + 1) := by
  intro y0 yb yl it most w hit hm32
  have hS := St.start w
  have HI := hQz ih
  clear ih
  cases it with
  | str l =>
    unfold ItC at hit
    obtain ⟨rfl, _⟩ := hit
    rw [qg4]
    go_enter Tryz.func62, Tryz.ntmps62
    go_wp2_with (refine qi0 (L := []) hS rfl 101 _ rfl rfl ?_; clear hS; intro w0 b0 hS; have d0 := (hS.get .head).cell (j := 0) rfl)
    go_ret
    exact ⟨rfl, hS.frame⟩
  | lst its =>
    unfold ItC at hit
    obtain ⟨rfl, p, c, rfl, ⟨hcc, hll⟩, hcells⟩ := hit
    rw [dep_lst]
    by_cases hm0 : most = 0
    · subst hm0
      have e0 : deepN 0 (deps its + 1) = 1 := by unfold deepN; rw [if_neg (by omega)]
      rw [e0]
      clear hcells
      go_enter Tryz.func62, Tryz.ntmps62
      go_wp2_with (refine qi0 (L := []) hS rfl 101 _ rfl rfl ?_; clear hS; intro w0 b0 hS; have d0 := (hS.get .head).cell (j := 0) rfl)
      go_ret
      exact ⟨rfl, hS.frame⟩
    · obtain ⟨j, hj⟩ : ∃ j, most = j + 1 := ⟨most - 1, by omega⟩
      obtain ⟨n, hn⟩ : ∃ n, n = its.length := ⟨_, rfl⟩
      rw [← hn] at hcc hll ⊢
      have HL := hQz hn
      have HC := hQz hcells
      have hj1 : ((most : Int) == 0) = false := by rw [beq_eq_false_iff_ne]; omega
      have hsub : (most : Int) - 1 = (j : Int) := by omega
      have hj32 : j ≤ 32 := by omega
      have HDN := hQz (show deepN most (deps its + 1) = deepN j (deps its) + 1 by rw [hj, deepN_succ])
      rw [HDN.out]
      clear hcells hn hj
      go_enter Tryz.func62, Tryz.ntmps62
      go_wp2_with (refine qi0 (L := []) hS rfl 101 _ rfl rfl ?_; clear hS; intro w0 b0 hS; have d0 := (hS.get .head).cell (j := 0) rfl; have d2 := (hS.get .head).cell (j := 2) rfl)
      clear d0 d2
      go_loopw [5, 6] (fun nv i wr => ∃ m q : Nat, i = .int .i64 (m : Int) ∧ nv = .int .i64 (q : Int) ∧ m ≤ n ∧ q ≤ 33 ∧ St [] w wr [(b0, 101, #[.bool true, yb, .slice p n c])] ∧ Hid (q = deepN j (deps (its.take m)))) (fun _ i _ => n - (intOf i).toNat)
      case atStart => exact ⟨0, 0, rfl, rfl, Nat.zero_le _, by omega, hS, hQz (by simp [deps, deepN])⟩
      case round =>
        clear hS
        obtain ⟨m, q, rfl, rfl, hm, hq33, hS, HA⟩ := hrel
        have d2 := (hS.get .head).cell (j := 2) rfl
        by_cases hlt : m < n
        · have e1 : (m : Int) < (n : Int) := by omega
          have hml : m < its.length := by have := HL.out; omega
          obtain ⟨b, o, rfl, hbw, hbX, hcs⟩ := HC.out (by intro e; subst e; simp at hml)
          obtain ⟨z0, zb, zl, g0, g1, g2, hz⟩ := hcs m hml
          have hT := hS.frame
          have f0 := (hT.cell (p := ⟨b, o + m * 3, none⟩) hbw (by simp)).trans g0
          have f1 := (hT.cell (p := ⟨b, o + m * 3 + 1, none⟩) hbw (by simp)).trans g1
          have f2 := (hT.cell (p := ⟨b, o + m * 3 + 2, none⟩) hbw (by simp)).trans g2
          obtain ⟨dm, hdm⟩ : ∃ dm, dm = deepN j (dep its[m]) := ⟨_, rfl⟩
          have hd33 : dm ≤ 33 := by have := deepN_le j (dep its[m]); omega
          have hcall := HI.out z0 zb zl its[m] j wr (hz.tch hT) (by omega)
          rw [← hdm] at hcall
          have HK := hQz hcall
          have HST := hQz (show max q dm = deepN j (deps (its.take (m + 1))) by rw [deps_succ hml, deepN_max, ← HA.out, hdm])
          clear hcs g0 g1 g2 hz hcall hdm
          by_cases hgt : q < dm
          · have e3 : (q : Int) < (dm : Int) := by omega
            go_wp2_with (go_at_call 62; (with_reducible refine HK.out.mono ?_); rintro e w3 ⟨rfl, hT3⟩; replace hS := hS.call hT3)
            go_roundw
            case rel => exact ⟨m + 1, dm, by go_num, rfl, hlt, hd33, hS, hQz (by rw [← HST.out]; omega)⟩
            case measure => simp [intOf]; omega
          · have e3 : ¬ (q : Int) < (dm : Int) := by omega
            go_wp2_with (go_at_call 62; (with_reducible refine HK.out.mono ?_); rintro e w3 ⟨rfl, hT3⟩; replace hS := hS.call hT3)
            go_roundw
            case rel => exact ⟨m + 1, q, by go_num, rfl, hlt, hq33, hS, hQz (by rw [← HST.out]; omega)⟩
            case measure => simp [intOf]; omega
        · have e1 : ¬ (m : Int) < (n : Int) := by omega
          have HE := hQz (show q = deepN j (deps its) by have := HA.out; rwa [List.take_of_length_le (by have := HL.out; omega)] at this)
          go_wp2
          go_ret
          rw [← HE.out]
          exact ⟨rfl, hS.frame⟩
theorem deep_any : ∀ k, DeepOK k
  | 0 => fun _ _ _ _ _ _ h => h.elim
  | k + 1 => deep_step k (deep_any k)
end
section
open Go.RowKit
theorem range_getD (l : List Nat) : ((List.range l.length).map fun i => l.getD i 0) = l := by
  apply List.ext_getElem (by simp)
  intro i h1 h2
  simp [h2]
theorem PackPost.rdB {it : It} {w w' : World} {e : Ending} (h : PackPost it w e w') (h1 : dep it ≤ 32) (h2 : (enc it).length ≤ 16777216) (h3 : ∀ x ∈ enc it, x < 256) :
    ∃ v, e = .returned (.tuple #[v, .int .i64 0]) ∧ Tch [] w w' ∧ RdB w' v (enc it) := by
  obtain ⟨hT, h⟩ := h
  rw [if_pos ⟨h1, h2⟩] at h
  obtain ⟨b, _, he, hB⟩ := h
  have hr := RdB.blk hB (fun i hi => by
    have : (enc it).getD i 0 = (enc it)[i] := by simp [hi]
    rw [this]; exact h3 _ (List.getElem_mem hi))
  rw [range_getD] at hr
  exact ⟨_, he, hT, hr⟩
end
section
open Go.RowKit
def val (l : List Nat) : Nat := l.foldl (fun a x => a * 256 + x) 0
theorem val_snoc (l : List Nat) (x : Nat) : val (l ++ [x]) = val l * 256 + x := by simp [val]
def lenOk (l : List Nat) (m : Nat) : Bool := decide (m ≤ l.length) && (l.getD 0 0 != 0) && decide (m ≤ 4) && decide (55 < val (l.take m))
end
section
open Go.RowKit
def chk (c : Nat) (l : List Nat) (h n : Nat) : Option (Nat × Nat) := if l.length - h < n then none else if c = 129 ∧ l.getD h 0 < 128 then none else some (h, n)
def spl : List Nat → Option (Nat × Nat)
  | [] => none
  | c :: r => if c < 128 then some (0, 1) else if c % 64 ≤ 55 then chk c (c :: r) 1 (c % 64) else if lenOk r (c % 64 - 55) then chk c (c :: r) (1 + (c % 64 - 55)) (val (r.take (c % 64 - 55))) else none
theorem spl_cons (c : Nat) (r : List Nat) : spl (c :: r) = if c < 128 then some (0, 1) else if c % 64 ≤ 55 then chk c (c :: r) 1 (c % 64) else if lenOk r (c % 64 - 55) then chk c (c :: r) (1 + (c % 64 - 55)) (val (r.take (c % 64 - 55))) else none := rfl
end
end Go.Proofs.YtanmpcgackfpaaaGreat
