/- Pairs and entries in memory: which are too long, which have no value. -/
import Derived.Test.YtanmpcgackfpaaaGreatM01
import Derived.Test.YtanmpcgackfpaaaGreatM16
import Derived.Test.YtanmpcgackfpaaaGreatM18
import Derived.Laws.Externs
set_option linter.unusedVariables false
set_option linter.unusedSimpArgs false
namespace Go.Proofs.YtanmpcgackfpaaaGreat
section
open Go.RowKit Tr
def PairsAt (w : World) (v : Value) (ps : List En) : Prop := ∃ p c, v = .slice p ps.length c ∧ ps.length ≤ c ∧ (ps ≠ [] → ∃ b o, p = some ⟨b, o, none⟩ ∧ b < w.heap.size ∧
  ∀ i (h : i < ps.length), ∃ kv vv, w.cell? ⟨b, o + i * 2, none⟩ = some kv ∧ w.cell? ⟨b, o + i * 2 + 1, none⟩ = some vv ∧ RdB w kv ps[i].1 ∧ RdB w vv ps[i].2)
theorem PairsAt.tch {w w' : World} {v : Value} {ps : List En} (h : PairsAt w v ps) (hT : Tch [] w w') : PairsAt w' v ps := by
  obtain ⟨p, c, h1, h2, h3⟩ := h
  refine ⟨p, c, h1, h2, fun hn => ?_⟩
  obtain ⟨b, o, h4, h5, h6⟩ := h3 hn
  refine ⟨b, o, h4, Nat.lt_of_lt_of_le h5 hT.size, fun i hi => ?_⟩
  obtain ⟨kv, vv, g0, g1, g2, g3⟩ := h6 i hi
  exact ⟨kv, vv, by rw [hT.cell (p := ⟨b, o + i * 2, none⟩) h5 (by simp)]; exact g0, by rw [hT.cell (p := ⟨b, o + i * 2 + 1, none⟩) h5 (by simp)]; exact g1, g2.tch hT (by simp), g3.tch hT (by simp)⟩
theorem RdB.shape' {w : World} {v : Value} {l : List Nat} (h : RdB w v l) : ∃ p c, v = .slice p l.length c := ⟨_, _, h.choose_spec.choose_spec.1⟩
theorem pairD_size : (Tryz.prog.info? 28).map (·.size) = some 2 := by kernel_rfl
set_option maxHeartbeats 1000000 in
set_option maxRecDepth 100000 in
theorem tl1_any (kv vv : Value) (k v : List Nat) (w : World) (hk : RdB w kv k) (hv : RdB w vv v) :
    Calls Tryz.prog 71 #[.agg #[kv, vv]] w fun e w' => e = .returned (.bool (longP (k, v))) ∧ Tch [] w w' := by
  have hS := St.start w
  obtain ⟨p1, c1, rfl⟩ := hk.shape'
  obtain ⟨p2, c2, rfl⟩ := hv.shape'
  clear hk hv
  by_cases h1 : 64 < k.length
  · have d1 : (64 : Int) < (k.length : Int) := by omega
    have hl : longP (k, v) = true := by simp [longP, h1]
    rw [hl]
    clear hl
    go_enter Tryz.func71, Tryz.ntmps71
    go_wp2_with (first
      | (refine qi0 hS rfl 28 _ rfl rfl ?_; clear hS; intro w1 b1 hS; have hc0 := (hS.get .head).cell (j := 0) rfl; have hc1 := (hS.get .head).cell (j := 1) rfl))
    go_ret
    exact ⟨rfl, hS.frame⟩
  · have d1 : ¬ (64 : Int) < (k.length : Int) := by omega
    by_cases h2 : 1048576 < v.length
    · have d2 : (1048576 : Int) < (v.length : Int) := by omega
      have hl : longP (k, v) = true := by simp [longP, h2]
      rw [hl]
      clear hl
      go_enter Tryz.func71, Tryz.ntmps71
      go_wp2_with (first
        | (refine qi0 hS rfl 28 _ rfl rfl ?_; clear hS; intro w1 b1 hS; have hc0 := (hS.get .head).cell (j := 0) rfl; have hc1 := (hS.get .head).cell (j := 1) rfl))
      go_ret
      exact ⟨rfl, hS.frame⟩
    · have d2 : ¬ (1048576 : Int) < (v.length : Int) := by omega
      have hl : longP (k, v) = false := by simp [longP]; omega
      rw [hl]
      clear hl
      go_enter Tryz.func71, Tryz.ntmps71
      go_wp2_with (first
        | (refine qi0 hS rfl 28 _ rfl rfl ?_; clear hS; intro w1 b1 hS; have hc0 := (hS.get .head).cell (j := 0) rfl; have hc1 := (hS.get .head).cell (j := 1) rfl))
      go_ret
      exact ⟨rfl, hS.frame⟩
def IdxPost (r : Bool) (w : World) (e : Ending) (w' : World) : Prop := Tch [] w w' ∧ ((r = true ∧ ∃ z : Nat, e = .returned (.int .i64 (z : Int))) ∨ (r = false ∧ e = .returned (.int .i64 (-1))))
def noValue (p : En) : Bool := p.2.isEmpty
set_option maxHeartbeats 1000000 in
set_option maxRecDepth 100000 in
theorem he1_any (kv vv : Value) (k v : List Nat) (w : World) (hk : RdB w kv k) (hv : RdB w vv v) :
    Calls Tryz.prog 76 #[.agg #[kv, vv]] w fun e w' => e = .returned (.bool (noValue (k, v))) ∧ Tch [] w w' := by
  have hS := St.start w
  obtain ⟨p1, c1, rfl⟩ := hk.shape'
  obtain ⟨p2, c2, rfl⟩ := hv.shape'
  clear hk hv
  cases v with
  | nil =>
    go_enter Tryz.func76, Tryz.ntmps76
    go_wp2_with (first
      | (refine qi0 hS rfl 137 _ rfl rfl ?_; clear hS; intro w1 b1 hS; have hc0 := (hS.get .head).cell (j := 0) rfl; have hc1 := (hS.get .head).cell (j := 1) rfl))
    go_ret
    exact ⟨rfl, hS.frame⟩
  | cons x r =>
    obtain ⟨n, hn⟩ : ∃ n, n = (x :: r).length := ⟨_, rfl⟩
    rw [← hn]
    have d1 : ((n : Int) == 0) = false := beq_eq_false_iff_ne.2 (by simp at hn; omega)
    clear hn
    go_enter Tryz.func76, Tryz.ntmps76
    go_wp2_with (first
      | (refine qi0 hS rfl 137 _ rfl rfl ?_; clear hS; intro w1 b1 hS; have hc0 := (hS.get .head).cell (j := 0) rfl; have hc1 := (hS.get .head).cell (j := 1) rfl))
    go_ret
    exact ⟨rfl, hS.frame⟩
set_option maxHeartbeats 2000000 in
set_option maxRecDepth 100000 in
theorem pairX_idx (v : Value) (ps : List En) (w : World) (hv : PairsAt w v ps) (hn : ps.length ≤ 4611686018427387904) :
    Calls Tryz.prog 105 #[v, .func (.func 71) #[] #[]] w (IdxPost (ps.any longP) w) := by
  obtain ⟨p, c, rfl, hc, hcells⟩ := hv
  obtain ⟨n, hnn⟩ : ∃ n, n = ps.length := ⟨_, rfl⟩
  rw [← hnn] at hc hn ⊢
  have HL := hQz hnn
  have HC := hQz hcells
  clear hnn hcells
  have hany : ∀ k, k < n → (∀ j (h : j < ps.length), j < k → longP ps[j] = false) → ∀ h : k < ps.length, longP ps[k] = true → ps.any longP = true := fun k _ _ h hp => List.any_eq_true.2 ⟨_, List.getElem_mem h, hp⟩
  have hnone : (∀ j (h : j < ps.length), longP ps[j] = false) → ps.any longP = false := fun h => by
    rw [List.any_eq_false]
    intro x hx
    obtain ⟨j, hj, rfl⟩ := List.mem_iff_getElem.1 hx
    simp [h j hj]
  have HA := hQz (And.intro hany hnone)
  clear hany hnone
  go_enter Tryz.func105, Tryz.ntmps105
  go_wp2
  go_loopw [8] (fun i wr => ∃ k : Nat, i = .int .i64 (k : Int) ∧ k ≤ n ∧ Tch [] w wr ∧ Hid (∀ j (h : j < ps.length), j < k → longP ps[j] = false)) (fun i _ => n - (intOf i).toNat)
  case atStart => exact ⟨0, rfl, Nat.zero_le _, Tch.refl _ _, hQz (fun j _ h => by omega)⟩
  case round =>
    obtain ⟨k, rfl, hk, hT, HE⟩ := hrel
    by_cases hlt : k < n
    · have d1 : (k : Int) < (n : Int) := by omega
      have d0 : (0 : Int) ≤ (k : Int) := by omega
      have hkl : k < ps.length := by have := HL.out; omega
      obtain ⟨b, o, rfl, hbw, hcs⟩ := HC.out (by intro e; subst e; simp at hkl)
      obtain ⟨kv, vv, g0, g1, hkv, hvv⟩ := hcs k hkl
      have hc0 := (hT.cell (p := ⟨b, o + k * 2, none⟩) hbw (by simp)).trans g0
      have hc1 := (hT.cell (p := ⟨b, o + k * 2 + 1, none⟩) hbw (by simp)).trans g1
      have hcall := tl1_any kv vv ps[k].1 ps[k].2 wr (hkv.tch hT (by simp)) (hvv.tch hT (by simp))
      have HK := hQz (fun h => HA.out.1 k hlt HE.out hkl h)
      have HN := hQz (fun (h : longP ps[k] = false) => fun j (hj : j < ps.length) (hjk : j < k + 1) => by
        rcases Nat.lt_succ_iff_lt_or_eq.1 hjk with h1 | h1
        · exact HE.out j hj h1
        · subst h1; exact h)
      cases hx : longP ps[k] with
      | true =>
        rw [show longP (ps[k].1, ps[k].2) = longP ps[k] from rfl, hx] at hcall
        have HR := hQz (HK.out hx)
        clear hx HK HN hcs g0 g1
        go_wp2_with (go_at_call 71; refine hcall.mono ?_; rintro e w2 ⟨rfl, hT2⟩)
        go_ret
        exact ⟨hT.trans hT2, .inl ⟨HR.out, k, rfl⟩⟩
      | false =>
        rw [show longP (ps[k].1, ps[k].2) = longP ps[k] from rfl, hx] at hcall
        have HR := hQz (HN.out hx)
        clear hx HK HN hcs g0 g1
        go_wp2_with (go_at_call 71; refine hcall.mono ?_; rintro e w2 ⟨rfl, hT2⟩)
        go_roundw
        case rel => exact ⟨k + 1, by go_num, hlt, hT.trans hT2, HR⟩
        case measure => simp [intOf]; omega
    · have hR := hQz (HA.out.2 (fun j hj => HE.out j hj (by have := HL.out; omega)))
      have d1 : ¬ (k : Int) < (n : Int) := by omega
      clear HA HE
      go_wp2
      go_ret
      exact ⟨hT, .inr ⟨hR.out, rfl⟩⟩
set_option maxHeartbeats 1000000 in
theorem pairX_has (v : Value) (ps : List En) (w : World) (hv : PairsAt w v ps) (hn : ps.length ≤ 4611686018427387904) :
    Calls Tryz.prog 70 #[v, .func (.func 71) #[] #[]] w fun e w' => e = .returned (.bool (ps.any longP)) ∧ Tch [] w w' := by
  have hcall := pairX_idx v ps w hv hn
  obtain ⟨p, c, rfl, _, _⟩ := hv
  cases ha : ps.any longP with
  | true =>
    replace hcall := hcall.mono (R' := fun e w' => Tch [] w w' ∧ ∃ z : Nat, e = .returned (.int .i64 (z : Int)) ∧ (0 : Int) ≤ (z : Int)) (fun e w' h => by
      rcases h with ⟨hT, ⟨_, z, hz⟩ | ⟨h1, _⟩⟩
      · exact ⟨hT, z, hz, by omega⟩
      · rw [ha] at h1; cases h1)
    clear ha
    go_enter Tryz.func70, Tryz.ntmps70
    go_wp2_with (go_at_call 105; refine hcall.mono ?_; rintro e w2 ⟨hT, z, rfl, hz⟩)
    go_ret
    exact ⟨rfl, hT⟩
  | false =>
    replace hcall := hcall.mono (R' := fun e w' => Tch [] w w' ∧ e = .returned (.int .i64 (-1))) (fun e w' h => by
      rcases h with ⟨hT, ⟨h1, _⟩ | ⟨_, hz⟩⟩
      · rw [ha] at h1; cases h1
      · exact ⟨hT, hz⟩)
    clear ha
    go_enter Tryz.func70, Tryz.ntmps70
    go_wp2_with (go_at_call 105; refine hcall.mono ?_; rintro e w2 ⟨hT, rfl⟩)
    go_ret
    exact ⟨rfl, hT⟩
set_option maxHeartbeats 2000000 in
set_option maxRecDepth 100000 in
theorem entX_idx (v : Value) (ps : List En) (w : World) (hv : PairsAt w v ps) (hn : ps.length ≤ 4611686018427387904) :
    Calls Tryz.prog 108 #[v, .func (.func 76) #[] #[]] w (IdxPost (ps.any noValue) w) := by
  obtain ⟨p, c, rfl, hc, hcells⟩ := hv
  obtain ⟨n, hnn⟩ : ∃ n, n = ps.length := ⟨_, rfl⟩
  rw [← hnn] at hc hn ⊢
  have HL := hQz hnn
  have HC := hQz hcells
  clear hnn hcells
  have hany : ∀ k, k < n → (∀ j (h : j < ps.length), j < k → noValue ps[j] = false) → ∀ h : k < ps.length, noValue ps[k] = true → ps.any noValue = true := fun k _ _ h hp => List.any_eq_true.2 ⟨_, List.getElem_mem h, hp⟩
  have hnone : (∀ j (h : j < ps.length), noValue ps[j] = false) → ps.any noValue = false := fun h => by
    rw [List.any_eq_false]
    intro x hx
    obtain ⟨j, hj, rfl⟩ := List.mem_iff_getElem.1 hx
    simp [h j hj]
  have HA := hQz (And.intro hany hnone)
  clear hany hnone
  go_enter Tryz.func108, Tryz.ntmps108
  go_wp2
  go_loopw [8] (fun i wr => ∃ k : Nat, i = .int .i64 (k : Int) ∧ k ≤ n ∧ Tch [] w wr ∧ Hid (∀ j (h : j < ps.length), j < k → noValue ps[j] = false)) (fun i _ => n - (intOf i).toNat)
  case atStart => exact ⟨0, rfl, Nat.zero_le _, Tch.refl _ _, hQz (fun j _ h => by omega)⟩
  case round =>
    obtain ⟨k, rfl, hk, hT, HE⟩ := hrel
    by_cases hlt : k < n
    · have d1 : (k : Int) < (n : Int) := by omega
      have d0 : (0 : Int) ≤ (k : Int) := by omega
      have hkl : k < ps.length := by have := HL.out; omega
      obtain ⟨b, o, rfl, hbw, hcs⟩ := HC.out (by intro e; subst e; simp at hkl)
      obtain ⟨kv, vv, g0, g1, hkv, hvv⟩ := hcs k hkl
      have hc0 := (hT.cell (p := ⟨b, o + k * 2, none⟩) hbw (by simp)).trans g0
      have hc1 := (hT.cell (p := ⟨b, o + k * 2 + 1, none⟩) hbw (by simp)).trans g1
      have hcall := he1_any kv vv ps[k].1 ps[k].2 wr (hkv.tch hT (by simp)) (hvv.tch hT (by simp))
      have HK := hQz (fun h => HA.out.1 k hlt HE.out hkl h)
      have HN := hQz (fun (h : noValue ps[k] = false) => fun j (hj : j < ps.length) (hjk : j < k + 1) => by
        rcases Nat.lt_succ_iff_lt_or_eq.1 hjk with h1 | h1
        · exact HE.out j hj h1
        · subst h1; exact h)
      cases hx : noValue ps[k] with
      | true =>
        rw [show noValue (ps[k].1, ps[k].2) = noValue ps[k] from rfl, hx] at hcall
        have HR := hQz (HK.out hx)
        clear hx HK HN hcs g0 g1
        go_wp2_with (go_at_call 76; refine hcall.mono ?_; rintro e w2 ⟨rfl, hT2⟩)
        go_ret
        exact ⟨hT.trans hT2, .inl ⟨HR.out, k, rfl⟩⟩
      | false =>
        rw [show noValue (ps[k].1, ps[k].2) = noValue ps[k] from rfl, hx] at hcall
        have HR := hQz (HN.out hx)
        clear hx HK HN hcs g0 g1
        go_wp2_with (go_at_call 76; refine hcall.mono ?_; rintro e w2 ⟨rfl, hT2⟩)
        go_roundw
        case rel => exact ⟨k + 1, by go_num, hlt, hT.trans hT2, HR⟩
        case measure => simp [intOf]; omega
    · have hR := hQz (HA.out.2 (fun j hj => HE.out j hj (by have := HL.out; omega)))
      have d1 : ¬ (k : Int) < (n : Int) := by omega
      clear HA HE
      go_wp2
      go_ret
      exact ⟨hT, .inr ⟨hR.out, rfl⟩⟩
set_option maxHeartbeats 1000000 in
theorem entX_has (v : Value) (ps : List En) (w : World) (hv : PairsAt w v ps) (hn : ps.length ≤ 4611686018427387904) :
    Calls Tryz.prog 75 #[v, .func (.func 76) #[] #[]] w fun e w' => e = .returned (.bool (ps.any noValue)) ∧ Tch [] w w' := by
  have hcall := entX_idx v ps w hv hn
  obtain ⟨p, c, rfl, _, _⟩ := hv
  cases ha : ps.any noValue with
  | true =>
    replace hcall := hcall.mono (R' := fun e w' => Tch [] w w' ∧ ∃ z : Nat, e = .returned (.int .i64 (z : Int)) ∧ (0 : Int) ≤ (z : Int)) (fun e w' h => by
      rcases h with ⟨hT, ⟨_, z, hz⟩ | ⟨h1, _⟩⟩
      · exact ⟨hT, z, hz, by omega⟩
      · rw [ha] at h1; cases h1)
    clear ha
    go_enter Tryz.func75, Tryz.ntmps75
    go_wp2_with (go_at_call 108; refine hcall.mono ?_; rintro e w2 ⟨hT, z, rfl, hz⟩)
    go_ret
    exact ⟨rfl, hT⟩
  | false =>
    replace hcall := hcall.mono (R' := fun e w' => Tch [] w w' ∧ e = .returned (.int .i64 (-1))) (fun e w' h => by
      rcases h with ⟨hT, ⟨h1, _⟩ | ⟨_, hz⟩⟩
      · rw [ha] at h1; cases h1
      · exact ⟨hT, hz⟩)
    clear ha
    go_enter Tryz.func75, Tryz.ntmps75
    go_wp2_with (go_at_call 108; refine hcall.mono ?_; rintro e w2 ⟨hT, rfl⟩)
    go_ret
    exact ⟨rfl, hT⟩
set_option maxHeartbeats 1000000 in
theorem tooLong_any (v : Value) (ps : List En) (w : World) (hv : PairsAt w v ps) (hn : ps.length ≤ 4611686018427387904) :
    Calls Tryz.prog 42 #[v] w fun e w' => e = .returned (.bool (decide (100000 < ps.length) || ps.any longP)) ∧ Tch [] w w' := by
  have hcall := pairX_has v ps w hv hn
  obtain ⟨p, c, rfl, _, _⟩ := hv
  by_cases h : 100000 < ps.length
  · have d1 : (100000 : Int) < (ps.length : Int) := by omega
    rw [decide_eq_true h, Bool.true_or]
    clear h
    go_enter Tryz.func42, Tryz.ntmps42
    go_wp2_with fail
    go_ret
    exact ⟨rfl, Tch.refl _ _⟩
  · have d1 : ¬ (100000 : Int) < (ps.length : Int) := by omega
    rw [decide_eq_false h, Bool.false_or]
    generalize ps.any longP = r at hcall ⊢
    clear h
    go_enter Tryz.func42, Tryz.ntmps42
    go_wp2_with (go_at_call 70; refine hcall.mono ?_; rintro e w2 ⟨rfl, hT⟩)
    go_ret
    exact ⟨rfl, hT⟩
set_option maxHeartbeats 1000000 in
theorem hasEmpty_any (v : Value) (ps : List En) (w : World) (hv : PairsAt w v ps) (hn : ps.length ≤ 4611686018427387904) :
    Calls Tryz.prog 44 #[v] w fun e w' => e = .returned (.bool (ps.any noValue)) ∧ Tch [] w w' := by
  have hcall := entX_has v ps w hv hn
  obtain ⟨p, c, rfl, _, _⟩ := hv
  generalize ps.any noValue = r at hcall ⊢
  go_enter Tryz.func44, Tryz.ntmps44
  go_wp2_with (go_at_call 75; refine hcall.mono ?_; rintro e w2 ⟨rfl, hT⟩)
  go_ret
  exact ⟨rfl, hT⟩
end
section
open Go.RowKit Tr
def cmpL (A B : List Nat) : Int :=
  match (List.range (min A.length B.length)).find? fun i => A.getD i 0 != B.getD i 0 with
  | some i => if A.getD i 0 < B.getD i 0 then -1 else 1
  | none => if A.length < B.length then -1 else if B.length < A.length then 1 else 0
theorem cmpL_nil_l (B : List Nat) : cmpL [] B = if 0 < B.length then -1 else 0 := by
  unfold cmpL
  simp
theorem cmpL_nil_r (A : List Nat) : cmpL A [] = if 0 < A.length then 1 else 0 := by
  unfold cmpL
  simp
theorem cmpL_cons (x y : Nat) (A B : List Nat) : cmpL (x :: A) (y :: B) = if x < y then -1 else if y < x then 1 else cmpL A B := by
  unfold cmpL
  have hr : List.range (min (x :: A).length (y :: B).length) = 0 :: (List.range (min A.length B.length)).map Nat.succ := by
    rw [List.length_cons, List.length_cons, Nat.add_min_add_right, List.range_succ_eq_map]
  rw [hr, List.find?_cons]
  by_cases h : x = y
  · subst h
    simp only [List.getD_cons_zero, bne_self_eq_false, List.find?_map, Nat.lt_irrefl, if_false]
    have hf : ((fun i => (x :: A).getD i 0 != (x :: B).getD i 0) ∘ Nat.succ) = fun i => A.getD i 0 != B.getD i 0 := by
      funext i
      simp
    rw [hf]
    cases (List.range (min A.length B.length)).find? fun i => A.getD i 0 != B.getD i 0 with
    | none => simp
    | some i => simp
  · have hb : ((x :: A).getD 0 0 != (y :: B).getD 0 0) = true := by simpa using h
    simp only [hb]
    simp only [List.getD_cons_zero]
    by_cases h1 : x < y
    · rw [if_pos h1, if_pos h1]
    · rw [if_neg h1, if_neg h1, if_pos (by omega)]
theorem cmpL_eq : ∀ A B : List Nat, cmpL A B = cmpN A B
  | [], [] => by rw [cmpL_nil_l, cmp_nil_nil]; simp
  | [], y :: B => by
    rw [cmpL_nil_l]
    unfold cmpN
    rw [if_pos (show lt [] (y :: B) from trivial)]
    simp
  | x :: A, [] => by
    rw [cmpL_nil_r]
    unfold cmpN
    rw [if_neg (show ¬ lt (x :: A) [] from fun h => h), if_pos (show lt [] (x :: A) from trivial)]
    simp
  | x :: A, y :: B => by rw [cmpL_cons, cmp_cons, cmpL_eq A B]
theorem strB_get (l : List Nat) (i : Nat) (h : i < l.length) : (strB l)[i]! = UInt8.ofNat (l.getD i 0) := by
  have hs : i < (strB l).size := by rw [strB_size]; exact h
  rw [getElem!_pos (strB l) i hs]
  show (strB l).data[i] = _
  simp [strB, h]
theorem ofNat_ne {a b : Nat} (ha : a < 256) (hb : b < 256) : (UInt8.ofNat a != UInt8.ofNat b) = (a != b) := by
  by_cases h : a = b
  · subst h; simp
  · have : UInt8.ofNat a ≠ UInt8.ofNat b := fun e => by
      have := congrArg UInt8.toNat e
      simp [Nat.mod_eq_of_lt ha, Nat.mod_eq_of_lt hb] at this
      exact h this
    rw [show (UInt8.ofNat a != UInt8.ofNat b) = true from bne_iff_ne.2 this, show (a != b) = true from bne_iff_ne.2 h]
theorem ofNat_lt {a b : Nat} (ha : a < 256) (hb : b < 256) : (UInt8.ofNat a < UInt8.ofNat b) ↔ a < b := by
  rw [UInt8.lt_iff_toNat_lt]
  simp [Nat.mod_eq_of_lt ha, Nat.mod_eq_of_lt hb]
theorem find_congr {p q : Nat → Bool} : ∀ (l : List Nat), (∀ i ∈ l, p i = q i) → l.find? p = l.find? q
  | [], _ => rfl
  | x :: l, h => by
    rw [List.find?_cons, List.find?_cons, h x List.mem_cons_self, find_congr l fun i hi => h i (List.mem_cons_of_mem _ hi)]
theorem cmp_strB (A B : List Nat) (ha : ∀ x ∈ A, x < 256) (hb : ∀ x ∈ B, x < 256) : Extern.BytealgCompare.cmp (strB A) (strB B) = cmpN A B := by
  rw [← cmpL_eq]
  unfold Extern.BytealgCompare.cmp cmpL
  rw [strB_size, strB_size]
  have hg : ∀ {L : List Nat}, (∀ x ∈ L, x < 256) → ∀ i, L.getD i 0 < 256 := fun {L} h i => by
    rw [List.getD_eq_getElem?_getD]
    cases hq : L[i]? with
    | none => decide
    | some y => exact h y (List.mem_of_getElem? hq)
  have hf := find_congr (p := fun i => (strB A)[i]! != (strB B)[i]!) (q := fun i => A.getD i 0 != B.getD i 0) (List.range (min A.length B.length)) (fun i hi => by
    have hi' := List.mem_range.1 hi
    rw [strB_get A i (by omega), strB_get B i (by omega), ofNat_ne (hg ha i) (hg hb i)])
  rw [hf]
  cases hq : (List.range (min A.length B.length)).find? fun i => A.getD i 0 != B.getD i 0 with
  | none => rfl
  | some i =>
    have hi := List.mem_range.1 (List.mem_of_find?_eq_some hq)
    show (if (strB A)[i]! < (strB B)[i]! then (-1 : Int) else 1) = (if A.getD i 0 < B.getD i 0 then -1 else 1)
    rw [strB_get A i (by omega), strB_get B i (by omega)]
    by_cases h : A.getD i 0 < B.getD i 0
    · rw [if_pos h, if_pos ((ofNat_lt (hg ha i) (hg hb i)).2 h)]
    · rw [if_neg h, if_neg (fun q => h ((ofNat_lt (hg ha i) (hg hb i)).1 q))]
theorem run_loadBytes {P : Program} (w : World) (b : Nat) : ∀ (l : List Nat) (o : Nat) (acc : List UInt8), (∀ x ∈ l, x < 256) → (∀ i, i < l.length → w.cell? ⟨b, o + i, none⟩ = some (.int .u8 ((l.getD i 0 : Nat) : Int))) →
    (Extern.Bytes.loadBytes ⟨b, o, none⟩ l.length ⟨acc.toArray⟩).run P w = .ok ⟨(acc ++ l.map UInt8.ofNat).toArray⟩ w
  | [], o, acc, _, _ => by simp [Extern.Bytes.loadBytes]
  | x :: l, o, acc, hx, h => by
    have h0 := h 0 (by simp)
    rw [Nat.add_zero, List.getD_cons_zero] at h0
    have hadd : (⟨b, o, none⟩ : Addr).add 1 = ⟨b, o + 1, none⟩ := rfl
    have ih := run_loadBytes (P := P) w b l (o + 1) (acc ++ [UInt8.ofNat x]) (fun y hy => hx y (List.mem_cons_of_mem _ hy)) (fun i hi => by
      have := h (i + 1) (by simpa using hi)
      rw [List.getD_cons_succ] at this
      rwa [show o + 1 + i = o + (i + 1) by omega])
    have hpush : (⟨acc.toArray⟩ : ByteArray).push (x : Int).toNat.toUInt8 = ⟨(acc ++ [UInt8.ofNat x]).toArray⟩ := by
      show ByteArray.mk (acc.toArray.push _) = _
      simp
    show (Sem.run P (Extern.Bytes.loadBytes ⟨b, o, none⟩ (l.length + 1) ⟨acc.toArray⟩) w) = _
    unfold Extern.Bytes.loadBytes
    simp only [Sem.run_bind, run_load, h0, Result.andThen_ok, hadd]
    rw [hpush]
    rw [ih]
    simp
theorem run_bytesOf {P : Program} {w : World} {v : Value} {l : List Nat} (h : RdB w v l) : (Extern.Bytes.bytesOf v).run P w = .ok (strB l) w := by
  obtain ⟨p, c, rfl, h2, h3, h4⟩ := h
  cases p with
  | none =>
    have hl : l = [] := by
      cases l with
      | nil => rfl
      | cons x r => obtain ⟨_, _, h, _⟩ := h4 (by simp); cases h
    subst hl
    simp [Extern.Bytes.bytesOf, strB]
    rfl
  | some a =>
    by_cases hl : l = []
    · subst hl
      simp [Extern.Bytes.bytesOf, Extern.Bytes.loadBytes, strB]
      rfl
    · obtain ⟨b, o, h5, h6, h7⟩ := h4 hl
      cases h5
      have := run_loadBytes (P := P) w b l o [] h3 h7
      show (Sem.run P (Extern.Bytes.loadBytes ⟨b, o, none⟩ l.length ByteArray.empty) w) = _
      rw [List.nil_append] at this
      exact this
theorem bytealg_run (args : Array Value) (w : World) : (callFunc 53 args).run Tryz.prog w = ((Extern.BytealgCompare.compare args).run Tryz.prog w).andThen fun v w' => .ok (.value v) w' :=
  run_callFunc_extern Tryz.func53 (by kernel_rfl) (by kernel_rfl) (by kernel_rfl) (by kernel_rfl) args w
theorem compare_run {w : World} {va vb : Value} {A B : List Nat} (ha : RdB w va A) (hb : RdB w vb B) : (callFunc 53 #[va, vb]).run Tryz.prog w = .ok (.value (.int .i64 (cmpN A B))) w := by
  rw [bytealg_run]
  have hA : ∀ x ∈ A, x < 256 := ha.choose_spec.choose_spec.2.2.1
  have hB : ∀ x ∈ B, x < 256 := hb.choose_spec.choose_spec.2.2.1
  show (Sem.run Tryz.prog (do pure (goInt (Extern.BytealgCompare.cmp (← Extern.Bytes.bytesOf va) (← Extern.Bytes.bytesOf vb)))) w).andThen _ = _
  simp only [Sem.run_bind, run_bytesOf ha, run_bytesOf hb, Result.andThen_ok, Sem.run_pure, cmp_strB A B hA hB, goInt]
theorem compare_any (va vb : Value) (A B : List Nat) (w : World) (ha : RdB w va A) (hb : RdB w vb B) : Calls Tryz.prog 29 #[va, vb] w fun e w' => e = .returned (.int .i64 (cmpN A B)) ∧ w' = w := by
  have hr := compare_run ha hb
  obtain ⟨p1, c1, rfl⟩ := ha.shape'
  obtain ⟨p2, c2, rfl⟩ := hb.shape'
  generalize cmpN A B = r at hr ⊢
  clear ha hb
  go_enter Tryz.func29, Tryz.ntmps29
  go_wp2
  go_ret
  exact ⟨rfl, rfl⟩
end
end Go.Proofs.YtanmpcgackfpaaaGreat
