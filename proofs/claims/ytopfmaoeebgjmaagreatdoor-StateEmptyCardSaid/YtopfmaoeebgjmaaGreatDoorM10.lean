/- The hash takes bytes in. -/
import Derived.Test.YtopfmaoeebgjmaaGreatDoorM01
import Derived.Test.YtopfmaoeebgjmaaGreatDoorM04
import Derived.Test.YtopfmaoeebgjmaaGreatDoorM08
import Derived.Deep.QuietTactic
import Derived.BigQuiet
set_option linter.unusedVariables false
set_option linter.unusedSimpArgs false
namespace Go.Proofs.YtopfmaoeebgjmaaGreatDoor
open Go.RowKit
def bl (f : Nat → Nat) (m : Nat) : List Nat := (List.range m).map f
theorem bl_succ (f : Nat → Nat) (m : Nat) : bl f (m + 1) = bl f m ++ [f m] := by simp [bl, List.range_succ]
theorem bl_lt {f : Nat → Nat} {m : Nat} (h : ∀ i, i < m → f i < 256) : ∀ v ∈ bl f m, v < 256 := by
  intro v hv
  obtain ⟨i, hi, rfl⟩ := List.mem_map.1 hv
  exact h i (by simpa using hi)
theorem take_one (s : Sp) (f : Nat → Nat) (m : Nat) : absL s (bl f (m + 1)) = abs1 (absL s (bl f m)) (f m) := by rw [bl_succ, absL_append]; rfl
theorem take_eight (s : Sp) (f : Nat → Nat) (m : Nat) (h8 : (absL s (bl f m)).t % 8 = 0) (ht : (absL s (bl f m)).t < 136) (hf : ∀ i, i < 8 → f (m + i) < 256) : absL s (bl f (m + 8)) = abs8 (absL s (bl f m)) (fun i => f (m + i)) := by
  rw [← abs8_is h8 ht hf]
  have e : ∀ k, absL s (bl f (m + k + 1)) = abs1 (absL s (bl f (m + k))) (f (m + k)) := fun k => take_one s f (m + k)
  have e7 : absL s (bl f (m + 8)) = abs1 (absL s (bl f (m + 7))) (f (m + 7)) := e 7
  have e6 : absL s (bl f (m + 7)) = abs1 (absL s (bl f (m + 6))) (f (m + 6)) := e 6
  have e5 : absL s (bl f (m + 6)) = abs1 (absL s (bl f (m + 5))) (f (m + 5)) := e 5
  have e4 : absL s (bl f (m + 5)) = abs1 (absL s (bl f (m + 4))) (f (m + 4)) := e 4
  have e3 : absL s (bl f (m + 4)) = abs1 (absL s (bl f (m + 3))) (f (m + 3)) := e 3
  have e2 : absL s (bl f (m + 3)) = abs1 (absL s (bl f (m + 2))) (f (m + 2)) := e 2
  have e1 : absL s (bl f (m + 2)) = abs1 (absL s (bl f (m + 1))) (f (m + 1)) := e 1
  have e0 : absL s (bl f (m + 1)) = abs1 (absL s (bl f m)) (f m) := take_one s f m
  rw [e7, e6, e5, e4, e3, e2, e1, e0]
  simp only [absL_cons, absL_nil, Nat.add_zero]
theorem spn_zero {A : Nat → Nat} {t : Nat} : (spn A t).setIfInBounds 25 (.int .i64 0) = spn A 0 := spn_put (u := 0)
theorem abs8_at {A1 A2 : Nat → Nat} {t1 t' q x J : Nat} {g : Nat → Nat} (hJ : J = joinN g) (hq : q = t1 / 8) (hx : x = A1 q) (h2 : A2 = fun i => if i = q then x ^^^ J else A1 i) (ht : t' = t1 + 8) : abs8 ⟨A1, t1⟩ g = if t' = 136 then ⟨permN A2, 0⟩ else ⟨A2, t'⟩ := by
  have e : A2 = fun i => if i = t1 / 8 then A1 i ^^^ joinN g else A1 i := by
    rw [h2]
    funext i
    rw [← hq, ← hJ]
    by_cases h : i = q
    · rw [if_pos h, if_pos h, hx, h]
    · rw [if_neg h, if_neg h]
  rw [e, ht]
  rfl
theorem abs1_to {A1 A2 : Nat → Nat} {t1 t' v : Nat} (h2 : A2 = xorAt A1 t1 v) (ht : t' = t1 + 1) : abs1 ⟨A1, t1⟩ v = if t' = 136 then ⟨permN A2, 0⟩ else ⟨A2, t'⟩ := by rw [h2, ht]; rfl
theorem rest_of {pb o o1 n m l c c1 k : Nat} (hl : l = n - m) (ho : o1 = o + m) (hc : c1 = c - m) (hlt : m < n) (hnc : n ≤ c) (hk : k ≤ l) : (m + k < n → Value.slice (if c1 = k then some ⟨pb, o1, none⟩ else some ⟨pb, o1 + k, none⟩) (l - k) (c1 - k) = .slice (some ⟨pb, o + (m + k), none⟩) (n - (m + k)) (c - (m + k))) ∧ (m + k = n → ∃ p d, Value.slice (if c1 = k then some ⟨pb, o1, none⟩ else some ⟨pb, o1 + k, none⟩) (l - k) (c1 - k) = .slice p 0 d) := by
  refine ⟨fun h => ?_, fun h => ⟨_, _, by rw [show l - k = 0 by omega]⟩⟩
  rw [if_neg (by omega), show l - k = n - (m + k) by omega, show c1 - k = c - (m + k) by omega, show o1 + k = o + (m + k) by omega]
def slen : Value → Nat
  | .slice _ l _ => l
  | _ => 0
set_option maxHeartbeats 4000000 in
set_option maxRecDepth 100000 in
theorem absorb_any (b pb o n c t : Nat) (f A : Nat → Nat) (w : World) (hok : SpOk ⟨A, t⟩) (hB : Blk w b 173 (spn A t)) (hF : Bs w pb o n f) (hne : pb ≠ b) (hn : n < 1000000) (hnc : n ≤ c) :
    Calls Tryz.prog 90 #[.pointer (some ⟨b, 0, none⟩), .slice (some ⟨pb, o, none⟩) n c] w fun e w' => e = .returned (.tuple #[]) ∧ Tch [b] w w' ∧ Blk w' b 173 (spn (absL ⟨A, t⟩ (bl f n)).A (absL ⟨A, t⟩ (bl f n)).t) := by
  have HN := hQz (And.intro hok (And.intro hF (show pb ∉ [b] by simpa using hne)))
  have hS := St.one hB
  clear hok hF hB hne
  go_enter Tryz.func90, Tryz.ntmps90
  go_wp2
  go_loopw [1] (fun pv wr => ∃ m : Nat, m ≤ n ∧ (m < n → pv = .slice (some ⟨pb, o + m, none⟩) (n - m) (c - m)) ∧ (m = n → ∃ p d, pv = .slice p 0 d) ∧ St [b] w wr [(b, 173, spn (absL ⟨A, t⟩ (bl f m)).A (absL ⟨A, t⟩ (bl f m)).t)]) (fun pv _ => slen pv)
  case atStart =>
    refine ⟨0, by omega, fun _ => rfl, fun h => ⟨_, _, by rw [← h]⟩, hS⟩
  case round =>
    clear hS
    obtain ⟨m, hm, h1, h2, hS⟩ := hrel
    rcases Nat.eq_or_lt_of_le hm with he | hlt
    · obtain ⟨p, d, rfl⟩ := h2 he
      subst he
      clear h1 h2
      go_wp2
      refine bodyPost_end (results_none rfl _ _ _) rfl ⟨rfl, hS.frame, hS.get .head⟩
    · obtain rfl := h1 hlt
      clear h2 h1
      obtain ⟨⟨A1, t1⟩, hs⟩ : ∃ s : Sp, s = absL ⟨A, t⟩ (bl f m) := ⟨_, rfl⟩
      have ok1 : SpOk ⟨A1, t1⟩ := by rw [hs]; exact absL_ok HN.out.1 (bl_lt fun i hi => (HN.out.2.1.2 i (by omega)).2)
      have ht1 : t1 < 136 := ok1.2
      have lA1 : Lan A1 := ok1.1
      rw [← hs] at hS
      replace hS : St [b] w wr [(b, 173, spn A1 t1)] := hS
      obtain ⟨l, hl⟩ : ∃ l, l = n - m := ⟨_, rfl⟩
      rw [← hl]
      have hFm : Bs wr pb (o + m) l (fun i => f (m + i)) := Bs.skip (n := l) ((show n = m + l by omega) ▸ HN.out.2.1.tch hS.frame HN.out.2.2)
      have hl0 : 0 < l := by omega
      obtain ⟨o1, ho1⟩ : ∃ o1, o1 = o + m := ⟨_, rfl⟩
      obtain ⟨c1, hc1⟩ : ∃ c1, c1 = c - m := ⟨_, rfl⟩
      rw [← ho1] at hFm
      rw [← ho1, ← hc1]
      have hlm : l < 1000000 := by omega
      have HL := hQz (And.intro hl (And.intro ho1 (And.intro hc1 (And.intro hs (And.intro hlt (And.intro hn hnc))))))
      clear hl ho1 hc1 hs hlt hm hn hnc
      have hpos : decide (0 < (l : Int)) = true := by simp; omega
      have hpos2 : decide (0 < l) = true := by simp; omega
      by_cases h8 : t1 % 8 = 0 ∧ 8 ≤ l
      · obtain ⟨h8a, h8b⟩ := h8
        obtain ⟨q, hq⟩ : ∃ q, q = t1 / 8 := ⟨_, rfl⟩
        have q2 : q < 25 := by omega
        have q3 : (q : Int) < 25 := by omega
        have t2 : (t1 : Int) % 8 = 0 := by omega
        have t3 : (t1 : Int) / 8 = (q : Int) := by omega
        have u1 : IntKind.i64.wrap (q : Int) = (q : Int) := IntWalk.i64_in _ (by omega)
        have d8 : decide (8 ≤ (l : Int)) = true := by simp; omega
        have d9 : decide (8 ≤ l) = true := by simpa using h8b
        have gT := (hS.get .head).cell (spn_t A1 t1)
        have gq := (hS.get .head).cell (spn_get (A := A1) (t := t1) q2)
        have hj := fun (k : Nat) => kjoin_any pb o1 l c1 (fun i => f (m + i)) (wr.drewN k) h8b (hFm.tch ((Tch.refl [] wr).drewN k) (by simp))
        have hJl := joinN_lt (b := fun i => f (m + i)) (fun i hi => (hFm.2 i (by omega)).2)
        have hx := u64_xor_nat (A1 q) (joinN fun i => f (m + i)) (lA1 q) hJl
        have hst := spn_set (A := A1) (t := t1) (v := A1 q ^^^ joinN fun i => f (m + i)) q2
        have hres := take_eight ⟨A, t⟩ f m
        rw [← HL.out.2.2.2.1] at hres
        have hres2 := hres h8a ht1 (fun i hi => (hFm.2 i (by omega)).2)
        obtain ⟨J, hJ⟩ : ∃ J, J = joinN fun i => f (m + i) := ⟨_, rfl⟩
        have HR := hQz (And.intro hres2 (And.intro hJ hq))
        rw [← hJ] at hj hx hst hJl
        obtain ⟨x, hxq⟩ : ∃ x, x = A1 q := ⟨_, rfl⟩
        rw [← hxq] at gq hx hst
        have HX := hQz (And.intro hx (And.intro hst hxq))
        have HJ := hQz hj
        have HS := hQz hS
        have hfin : ∀ (A2 : Nat → Nat) (t' : Nat), A2 = (fun i => if i = q then x ^^^ J else A1 i) → t' = t1 + 8 → absL ⟨A, t⟩ (bl f (m + 8)) = if t' = 136 then ⟨permN A2, 0⟩ else ⟨A2, t'⟩ := fun A2 t' h2 h3 => by rw [hres2]; exact abs8_at hJ hq hxq h2 h3
        have HF := hQz hfin
        have HK := hQz h8b
        have h8c : 8 ≤ l := h8b
        have h8d : (8 : Int) ≤ (l : Int) := by omega
        have HLA := hQz lA1
        have HJL := hQz hJl
        have HQ := hQz hxq
        clear hres hres2 hJ hx hst hxq hj hS hFm h8a h8b hq ok1 lA1 hfin hJl HR
        go_wp2
        refine wp_region_head (C := fun w' => ∃ k, w' = wr.drewN k) 16 (by kernel_rfl) (by kernel_rfl) ⟨1, rfl⟩ ?_
        simp only [List.take_succ_cons, List.take_zero, List.drop_succ_cons, List.drop_zero]
        repeat (quiet_step ((go_at_call 108; exact Calls.quiet_of (HJ.out _))))
        refine wpQuiet_nil ?_
        rintro w1 ⟨nq, rfl⟩
        have hS := HS.out.drewN nq
        clear HS HJ gT gq u1
        go_upto_region 4 with (first | (refine st_store1 (j := q) hS rfl 113 _ _ rfl rfl rfl u64_size (by repeat (first | exact Upd.head | apply Upd.tail)) (by rw [spn_size]; omega) ?_; clear hS; intro w1 hS))
        rw [HX.out.1, HX.out.2.1] at hS
        obtain ⟨A2, hA2⟩ : ∃ A2 : Nat → Nat, A2 = fun i => if i = q then x ^^^ J else A1 i := ⟨_, rfl⟩
        rw [← hA2] at hS
        obtain ⟨t', ht'⟩ : ∃ t', t' = t1 + 8 := ⟨_, rfl⟩
        have tn : (t1 : Int) + 8 = (t' : Int) := by omega
        have HA2 := hQz (And.intro hA2 ht')
        clear hA2
        go_upto_region 7 with (fail)
        obtain ⟨pv, hpv⟩ : ∃ pv, pv = Value.slice (if c1 = 8 then some ⟨pb, o1, none⟩ else some ⟨pb, o1 + 8, none⟩) (l - 8) (c1 - 8) := ⟨_, rfl⟩
        rw [← hpv]
        have HPV := hQz hpv
        clear hpv
        have lA2 : Lan A2 := fun i => by rw [HA2.out.1]; show (if i = q then x ^^^ J else A1 i) < _; split; exact x64 (by rw [HQ.out]; exact HLA.out q) HJL.out; exact HLA.out i
        have hP : ∀ w : World, Blk w b 173 (spn A2 t') → Calls Tryz.prog 110 #[.pointer (some ⟨b, 0, none⟩)] w fun e w' => e = .returned (.tuple #[]) ∧ Tch [b] w w' ∧ Blk w' b 173 (spn (permN A2) t') := fun w h => permute_any b 173 (tk t') A2 w h (by rw [tk_size]; decide) lA2
        have HP := hQz hP
        have hfn := HF.out A2 t' HA2.out.1 HA2.out.2
        clear lA2 hP
        by_cases h136 : t' = 136
        · rw [if_pos h136] at hfn
          have c136 : ((t' : Int) == 136) = true := by simp; omega
          have HF2 := hQz hfn
          clear ht' h136 hfn
          go_upto_region 8 with (first | (refine st_cell (j := 25) hS rfl 3 _ rfl rfl (by repeat (first | exact At.head | apply At.tail)) (spn_t _ _) int_agg ?_) | (refine st_store1 (j := 25) hS rfl 3 _ _ rfl rfl rfl int_size (by repeat (first | exact Upd.head | apply Upd.tail)) (by rw [spn_size]; decide) ?_; clear hS; intro w1 hS))
          rw [spn_put] at hS
          have hM1 := trivial
          go_wp2_with (first | (have _t := hM1; clear _t; go_at_call 110; refine (HP.out _ (hS.get .head)).mono ?_; rintro e w1 ⟨rfl, hT, hB⟩; replace hS := hS.on1 .head hT hB; clear hT hB) | (have _t := hM1; clear _t; refine st_store1 (j := 25) hS rfl 3 _ _ rfl rfl rfl int_size (by repeat (first | exact Upd.head | apply Upd.tail)) (by rw [spn_size]; decide) ?_; clear hS; intro w1 hS) | (refine st_cell (j := 25) hS rfl 3 _ rfl rfl (by repeat (first | exact At.head | apply At.tail)) (spn_t _ _) int_agg ?_))
          rw [spn_zero] at hS
          try simp only [Act.put, ppA, ppB, ppC]
          go_roundw
          case rel => exact ⟨m + 8, by have := HL.out.1; have := HL.out.2.2.2.2.1; have := HK.out; omega, (by rw [HPV.out]; exact (rest_of HL.out.1 HL.out.2.1 HL.out.2.2.1 HL.out.2.2.2.2.1 HL.out.2.2.2.2.2.2 HK.out).1), (by rw [HPV.out]; exact (rest_of HL.out.1 HL.out.2.1 HL.out.2.2.1 HL.out.2.2.2.2.1 HL.out.2.2.2.2.2.2 HK.out).2), by rw [HF2.out]; exact hS⟩
          case measure => rw [HPV.out]; have := HK.out; simp [slen]; omega
        · rw [if_neg h136] at hfn
          have c136 : ((t' : Int) == 136) = false := by simp; omega
          have HF2 := hQz hfn
          clear ht' h136 hfn
          go_upto_region 8 with (first | (refine st_cell (j := 25) hS rfl 3 _ rfl rfl (by repeat (first | exact At.head | apply At.tail)) (spn_t _ _) int_agg ?_) | (refine st_store1 (j := 25) hS rfl 3 _ _ rfl rfl rfl int_size (by repeat (first | exact Upd.head | apply Upd.tail)) (by rw [spn_size]; decide) ?_; clear hS; intro w1 hS))
          rw [spn_put] at hS
          go_wp2_with (first | (refine st_cell (j := 25) hS rfl 3 _ rfl rfl (by repeat (first | exact At.head | apply At.tail)) (spn_t _ _) int_agg ?_))
          try simp only [Act.put, ppA, ppB, ppC]
          go_roundw
          case rel => exact ⟨m + 8, by have := HL.out.1; have := HL.out.2.2.2.2.1; have := HK.out; omega, (by rw [HPV.out]; exact (rest_of HL.out.1 HL.out.2.1 HL.out.2.2.1 HL.out.2.2.2.2.1 HL.out.2.2.2.2.2.2 HK.out).1), (by rw [HPV.out]; exact (rest_of HL.out.1 HL.out.2.1 HL.out.2.2.1 HL.out.2.2.2.2.1 HL.out.2.2.2.2.2.2 HK.out).2), by rw [HF2.out]; exact hS⟩
          case measure => rw [HPV.out]; have := HK.out; simp [slen]; omega
      · have g0 : wr.cell? ⟨pb, o1, none⟩ = some (.int .u8 ((f m : Nat) : Int)) := (hFm.2 0 hl0).1
        have lv : f m < 256 := (hFm.2 0 hl0).2
        have hres := take_one ⟨A, t⟩ f m
        rw [← HL.out.2.2.2.1] at hres
        obtain ⟨v, hv⟩ : ∃ v, v = f m := ⟨_, rfl⟩
        rw [← hv] at g0 lv hres
        obtain ⟨A2, hA2⟩ : ∃ A2 : Nat → Nat, A2 = xorAt A1 t1 v := ⟨_, rfl⟩
        obtain ⟨t', ht'⟩ : ∃ t', t' = t1 + 1 := ⟨_, rfl⟩
        have tn : (t1 : Int) + 1 = (t' : Int) := by omega
        have gT := (hS.get .head).cell (spn_t A1 t1)
        have hR : ∀ w : World, Blk w b 173 (spn A1 t1) → Calls Tryz.prog 109 #[.pointer (some ⟨b, 0, none⟩), .int .u8 (v : Int), .int .i64 (t1 : Int)] w fun e w' => e = .returned (.tuple #[]) ∧ Tch [b] w w' ∧ Blk w' b 173 (spn A2 t1) := fun w h => by rw [hA2]; exact add_any b t1 v t1 A1 w lA1 lv ht1 h
        have HR15 := hQz hR
        have HLA := hQz (show Lan A2 by rw [hA2]; exact xorAt_lan lA1 lv)
        have HK := hQz (show 1 ≤ l from hl0)
        have HF := hQz (fun (B2 : Nat → Nat) (u' : Nat) (h2 : B2 = xorAt A1 t1 v) (h3 : u' = t1 + 1) => hres.trans (abs1_to h2 h3))
        have HA2 := hQz (And.intro hA2 ht')
        have HS := hQz hS
        have u1 : (0 : Int) < (l : Int) := by omega
        have u2 : (1 : Int) ≤ (l : Int) := by omega
        have u3 : 1 ≤ l := hl0
        clear hres hv hA2 hR hS hFm ok1 lA1
        by_cases ha : t1 % 8 = 0
        · have t2 : (t1 : Int) % 8 = 0 := by omega
          have d8 : decide (8 ≤ (l : Int)) = false := by simp; omega
          have d9 : decide (8 ≤ l) = false := by simp; omega
          clear h8 ha
          go_wp2
          refine wp_region_head (C := fun w' => ∃ k, w' = wr.drewN k) 8 (by kernel_rfl) (by kernel_rfl) ⟨1, rfl⟩ ?_
          simp only [List.take_succ_cons, List.take_zero, List.drop_succ_cons, List.drop_zero]
          repeat (quiet_step (fail))
          refine wpQuiet_nil ?_
          rintro w1 ⟨nq, rfl⟩
          have hS := HS.out.drewN nq
          clear HS gT g0 u1
          go_upto_region 7 with (first | (go_at_call 109; refine (HR15.out _ (hS.get .head)).mono ?_; rintro e w1 ⟨rfl, hT, hB⟩; replace hS := hS.on1 .head hT hB; clear hT hB))
          obtain ⟨pv, hpv⟩ : ∃ pv, pv = Value.slice (if c1 = 1 then some ⟨pb, o1, none⟩ else some ⟨pb, o1 + 1, none⟩) (l - 1) (c1 - 1) := ⟨_, rfl⟩
          rw [← hpv]
          have HPV := hQz hpv
          clear hpv
          have lA2 : Lan A2 := HLA.out
          have hP : ∀ w : World, Blk w b 173 (spn A2 t') → Calls Tryz.prog 110 #[.pointer (some ⟨b, 0, none⟩)] w fun e w' => e = .returned (.tuple #[]) ∧ Tch [b] w w' ∧ Blk w' b 173 (spn (permN A2) t') := fun w h => permute_any b 173 (tk t') A2 w h (by rw [tk_size]; decide) lA2
          have HP := hQz hP
          have hfn := HF.out A2 t' HA2.out.1 HA2.out.2
          clear lA2 hP
          by_cases h136 : t' = 136
          · rw [if_pos h136] at hfn
            have c136 : ((t' : Int) == 136) = true := by simp; omega
            have HF2 := hQz hfn
            clear ht' h136 hfn
            go_upto_region 8 with (first | (refine st_cell (j := 25) hS rfl 3 _ rfl rfl (by repeat (first | exact At.head | apply At.tail)) (spn_t _ _) int_agg ?_) | (refine st_store1 (j := 25) hS rfl 3 _ _ rfl rfl rfl int_size (by repeat (first | exact Upd.head | apply Upd.tail)) (by rw [spn_size]; decide) ?_; clear hS; intro w1 hS))
            rw [spn_put] at hS
            have hM1 := trivial
            go_wp2_with (first | (have _t := hM1; clear _t; go_at_call 110; refine (HP.out _ (hS.get .head)).mono ?_; rintro e w1 ⟨rfl, hT, hB⟩; replace hS := hS.on1 .head hT hB; clear hT hB) | (have _t := hM1; clear _t; refine st_store1 (j := 25) hS rfl 3 _ _ rfl rfl rfl int_size (by repeat (first | exact Upd.head | apply Upd.tail)) (by rw [spn_size]; decide) ?_; clear hS; intro w1 hS) | (refine st_cell (j := 25) hS rfl 3 _ rfl rfl (by repeat (first | exact At.head | apply At.tail)) (spn_t _ _) int_agg ?_))
            rw [spn_zero] at hS
            try simp only [Act.put, ppA, ppB, ppC]
            go_roundw
            case rel => exact ⟨m + 1, by have := HL.out.1; have := HL.out.2.2.2.2.1; have := HK.out; omega, (by rw [HPV.out]; exact (rest_of HL.out.1 HL.out.2.1 HL.out.2.2.1 HL.out.2.2.2.2.1 HL.out.2.2.2.2.2.2 HK.out).1), (by rw [HPV.out]; exact (rest_of HL.out.1 HL.out.2.1 HL.out.2.2.1 HL.out.2.2.2.2.1 HL.out.2.2.2.2.2.2 HK.out).2), by rw [HF2.out]; exact hS⟩
            case measure => rw [HPV.out]; have := HK.out; simp [slen]; omega
          · rw [if_neg h136] at hfn
            have c136 : ((t' : Int) == 136) = false := by simp; omega
            have HF2 := hQz hfn
            clear ht' h136 hfn
            go_upto_region 8 with (first | (refine st_cell (j := 25) hS rfl 3 _ rfl rfl (by repeat (first | exact At.head | apply At.tail)) (spn_t _ _) int_agg ?_) | (refine st_store1 (j := 25) hS rfl 3 _ _ rfl rfl rfl int_size (by repeat (first | exact Upd.head | apply Upd.tail)) (by rw [spn_size]; decide) ?_; clear hS; intro w1 hS))
            rw [spn_put] at hS
            go_wp2_with (first | (refine st_cell (j := 25) hS rfl 3 _ rfl rfl (by repeat (first | exact At.head | apply At.tail)) (spn_t _ _) int_agg ?_))
            try simp only [Act.put, ppA, ppB, ppC]
            go_roundw
            case rel => exact ⟨m + 1, by have := HL.out.1; have := HL.out.2.2.2.2.1; have := HK.out; omega, (by rw [HPV.out]; exact (rest_of HL.out.1 HL.out.2.1 HL.out.2.2.1 HL.out.2.2.2.2.1 HL.out.2.2.2.2.2.2 HK.out).1), (by rw [HPV.out]; exact (rest_of HL.out.1 HL.out.2.1 HL.out.2.2.1 HL.out.2.2.2.2.1 HL.out.2.2.2.2.2.2 HK.out).2), by rw [HF2.out]; exact hS⟩
            case measure => rw [HPV.out]; have := HK.out; simp [slen]; omega
        · have t2 : ((t1 : Int) % 8 == 0) = false := by simp; omega
          clear h8 ha
          go_wp2
          refine wp_region_head (C := fun w' => ∃ k, w' = wr.drewN k) 8 (by kernel_rfl) (by kernel_rfl) ⟨1, rfl⟩ ?_
          simp only [List.take_succ_cons, List.take_zero, List.drop_succ_cons, List.drop_zero]
          repeat (quiet_step (fail))
          refine wpQuiet_nil ?_
          rintro w1 ⟨nq, rfl⟩
          have hS := HS.out.drewN nq
          clear HS gT g0 u1
          go_upto_region 7 with (first | (go_at_call 109; refine (HR15.out _ (hS.get .head)).mono ?_; rintro e w1 ⟨rfl, hT, hB⟩; replace hS := hS.on1 .head hT hB; clear hT hB))
          obtain ⟨pv, hpv⟩ : ∃ pv, pv = Value.slice (if c1 = 1 then some ⟨pb, o1, none⟩ else some ⟨pb, o1 + 1, none⟩) (l - 1) (c1 - 1) := ⟨_, rfl⟩
          rw [← hpv]
          have HPV := hQz hpv
          clear hpv
          have lA2 : Lan A2 := HLA.out
          have hP : ∀ w : World, Blk w b 173 (spn A2 t') → Calls Tryz.prog 110 #[.pointer (some ⟨b, 0, none⟩)] w fun e w' => e = .returned (.tuple #[]) ∧ Tch [b] w w' ∧ Blk w' b 173 (spn (permN A2) t') := fun w h => permute_any b 173 (tk t') A2 w h (by rw [tk_size]; decide) lA2
          have HP := hQz hP
          have hfn := HF.out A2 t' HA2.out.1 HA2.out.2
          clear lA2 hP
          by_cases h136 : t' = 136
          · rw [if_pos h136] at hfn
            have c136 : ((t' : Int) == 136) = true := by simp; omega
            have HF2 := hQz hfn
            clear ht' h136 hfn
            go_upto_region 8 with (first | (refine st_cell (j := 25) hS rfl 3 _ rfl rfl (by repeat (first | exact At.head | apply At.tail)) (spn_t _ _) int_agg ?_) | (refine st_store1 (j := 25) hS rfl 3 _ _ rfl rfl rfl int_size (by repeat (first | exact Upd.head | apply Upd.tail)) (by rw [spn_size]; decide) ?_; clear hS; intro w1 hS))
            rw [spn_put] at hS
            have hM1 := trivial
            go_wp2_with (first | (have _t := hM1; clear _t; go_at_call 110; refine (HP.out _ (hS.get .head)).mono ?_; rintro e w1 ⟨rfl, hT, hB⟩; replace hS := hS.on1 .head hT hB; clear hT hB) | (have _t := hM1; clear _t; refine st_store1 (j := 25) hS rfl 3 _ _ rfl rfl rfl int_size (by repeat (first | exact Upd.head | apply Upd.tail)) (by rw [spn_size]; decide) ?_; clear hS; intro w1 hS) | (refine st_cell (j := 25) hS rfl 3 _ rfl rfl (by repeat (first | exact At.head | apply At.tail)) (spn_t _ _) int_agg ?_))
            rw [spn_zero] at hS
            try simp only [Act.put, ppA, ppB, ppC]
            go_roundw
            case rel => exact ⟨m + 1, by have := HL.out.1; have := HL.out.2.2.2.2.1; have := HK.out; omega, (by rw [HPV.out]; exact (rest_of HL.out.1 HL.out.2.1 HL.out.2.2.1 HL.out.2.2.2.2.1 HL.out.2.2.2.2.2.2 HK.out).1), (by rw [HPV.out]; exact (rest_of HL.out.1 HL.out.2.1 HL.out.2.2.1 HL.out.2.2.2.2.1 HL.out.2.2.2.2.2.2 HK.out).2), by rw [HF2.out]; exact hS⟩
            case measure => rw [HPV.out]; have := HK.out; simp [slen]; omega
          · rw [if_neg h136] at hfn
            have c136 : ((t' : Int) == 136) = false := by simp; omega
            have HF2 := hQz hfn
            clear ht' h136 hfn
            go_upto_region 8 with (first | (refine st_cell (j := 25) hS rfl 3 _ rfl rfl (by repeat (first | exact At.head | apply At.tail)) (spn_t _ _) int_agg ?_) | (refine st_store1 (j := 25) hS rfl 3 _ _ rfl rfl rfl int_size (by repeat (first | exact Upd.head | apply Upd.tail)) (by rw [spn_size]; decide) ?_; clear hS; intro w1 hS))
            rw [spn_put] at hS
            go_wp2_with (first | (refine st_cell (j := 25) hS rfl 3 _ rfl rfl (by repeat (first | exact At.head | apply At.tail)) (spn_t _ _) int_agg ?_))
            try simp only [Act.put, ppA, ppB, ppC]
            go_roundw
            case rel => exact ⟨m + 1, by have := HL.out.1; have := HL.out.2.2.2.2.1; have := HK.out; omega, (by rw [HPV.out]; exact (rest_of HL.out.1 HL.out.2.1 HL.out.2.2.1 HL.out.2.2.2.2.1 HL.out.2.2.2.2.2.2 HK.out).1), (by rw [HPV.out]; exact (rest_of HL.out.1 HL.out.2.1 HL.out.2.2.1 HL.out.2.2.2.2.1 HL.out.2.2.2.2.2.2 HK.out).2), by rw [HF2.out]; exact hS⟩
            case measure => rw [HPV.out]; have := HK.out; simp [slen]; omega
end Go.Proofs.YtopfmaoeebgjmaaGreatDoor
