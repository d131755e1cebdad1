/- KeccakSums: the walk. -/
import Derived.Test.YtaofhbnnldkegaaK20
namespace Go.Proofs.Ytaofhbnnldkegaa
open Go.RowKit

theorem x_lenL {a : Act} {w : World} {o : Oper} {p : Option Addr} {n c : Nat} {x : Operand} (ho : o.op = .call { callee := .builtin .len, args := #[x], argTypes := #[22] }) (hx : a.eval x = .slice p n c) : (execOp a.eval o).run Try.prog w = .ok (.value (.int .i64 (n : Int))) w := by
  have ht : Try.prog.underlying 22 = some (.slice 24) := by kernel_rfl
  unfold execOp; simp [ho, resolve, invoke, builtin, hx, Builtin.len_, run_underlying ht, goInt]
/-- Parts that lie in a row. -/
def PartsAt (w : World) (pp : Option Addr) (n : Nat) (LS : Nat → List Nat) : Prop := 0 < n → ∃ pl po, pp = some ⟨pl, po, none⟩ ∧ pl < w.heap.size ∧ ∀ i, i < n → ∃ v, w.cell? ⟨pl, po + i, none⟩ = some v ∧ RdA [] w v (LS i)
theorem cat_len {LS : Nat → List Nat} : ∀ {k : Nat}, (∀ i, i < k → (LS i).length ≤ 1000) → (cat LS k).length ≤ 1000 * k
  | 0, _ => by simp [cat]
  | k + 1, h => by
    have h1 := cat_len (LS := LS) (k := k) (fun i hi => h i (by omega))
    have h2 := h k (by omega)
    show (cat LS k ++ LS k).length ≤ _
    rw [List.length_append]; omega
set_option maxHeartbeats 4000000 in
set_option maxRecDepth 100000 in
theorem sums_long (pp : Option Addr) (n cc : Nat) (w : World) (h : 30 < n) :
    Calls Try.prog 3 #[.slice pp n cc] w fun e w' => e = .returned (.bool true) ∧ Tch [] w w' := by
  go_enter Try.func3, Try.ntmps3
  go_upto_region 2 with (go_at_call 6; refine (alive_any _).mono ?_; rintro e w1 ⟨rfl, hT1⟩)
  refine k_seq (C := fun w' => Tch [] w1 w') (Tch.refl _ _) ?_
  refine k_boolm rfl _ rfl rfl ?_; try simp only [Act.put, List.setIfInBounds_toArray, List.set_cons_zero, List.set_cons_succ]
  refine k_not rfl _ _ rfl rfl ?_; try simp only [Act.put, List.setIfInBounds_toArray, List.set_cons_zero, List.set_cons_succ]
  refine k_boolm rfl _ rfl rfl ?_; try simp only [Act.put, List.setIfInBounds_toArray, List.set_cons_zero, List.set_cons_succ]
  refine k_slice rfl _ rfl rfl ?_; try simp only [Act.put, List.setIfInBounds_toArray, List.set_cons_zero, List.set_cons_succ]
  refine k_in rfl (fun w' _ => x_lenL rfl rfl) ?_; try simp only [Act.put, List.setIfInBounds_toArray, List.set_cons_zero, List.set_cons_succ]
  refine k_gtr rfl _ _ _ rfl rfl rfl (decide_eq_true (by omega)) ?_; try simp only [Act.put, List.setIfInBounds_toArray, List.set_cons_zero, List.set_cons_succ]
  refine k_pickF rfl _ _ _ rfl rfl rfl ?_; try simp only [Act.put, List.setIfInBounds_toArray, List.set_cons_zero, List.set_cons_succ]
  refine k_end ?_
  intro w2 hT2
  go_wp2
  go_ret
  exact ⟨rfl, hT1.trans hT2⟩
set_option maxHeartbeats 40000000 in
set_option maxRecDepth 100000 in
theorem sums_main (pp : Option Addr) (n cc : Nat) (LS : Nat → List Nat) (w : World) (h : ¬ 30 < n) (hP : PartsAt w pp n LS) :
    Calls Try.prog 3 #[.slice pp n cc] w fun e w' => e = .returned (.bool true) ∧ Tch [] w w' := by
  have HP := Lib.hid hP
  have HN0 := Lib.hid h
  clear hP
  go_enter Try.func3, Try.ntmps3
  go_upto_region 2 with (go_at_call 6; refine (alive_any _).mono ?_; rintro e w1 ⟨rfl, hT1⟩)
  refine k_seq (C := fun w' => Tch [] w1 w') (Tch.refl _ _) ?_
  refine k_boolm rfl _ rfl rfl ?_; try simp only [Act.put, List.setIfInBounds_toArray, List.set_cons_zero, List.set_cons_succ]
  refine k_not rfl _ _ rfl rfl ?_; try simp only [Act.put, List.setIfInBounds_toArray, List.set_cons_zero, List.set_cons_succ]
  refine k_boolm rfl _ rfl rfl ?_; try simp only [Act.put, List.setIfInBounds_toArray, List.set_cons_zero, List.set_cons_succ]
  refine k_slice rfl _ rfl rfl ?_; try simp only [Act.put, List.setIfInBounds_toArray, List.set_cons_zero, List.set_cons_succ]
  refine k_in rfl (fun w' _ => x_lenL rfl rfl) ?_; try simp only [Act.put, List.setIfInBounds_toArray, List.set_cons_zero, List.set_cons_succ]
  refine k_gtr rfl _ _ _ rfl rfl rfl (decide_eq_false (by have := HN0.out; omega)) ?_; try simp only [Act.put, List.setIfInBounds_toArray, List.set_cons_zero, List.set_cons_succ]
  refine k_pickF rfl _ _ _ rfl rfl rfl ?_; try simp only [Act.put, List.setIfInBounds_toArray, List.set_cons_zero, List.set_cons_succ]
  refine k_end ?_
  intro w2 hT2
  have HT2 := Lib.hid (hT1.trans hT2)
  clear hT1 hT2 h
  go_upto_region 6 with (fail)
  go_loopw [4, 5] (fun u i wr => ∃ k : Nat, k ≤ n ∧ i = .int .i64 (k : Int) ∧ wr.ownsRow w2.heap.size 5 1 u (cat LS k).length (nb (cat LS k)) ∧ Tch [] w2 wr ∧ ∀ i, i < k → (LS i).length ≤ 1000) (fun _ i _ => n - (intOf i).toNat)
  case atStart => exact ⟨0, Nat.zero_le _, rfl, own_nil _ _, Tch.refl _ _, fun i hi => by omega⟩
  case round =>
    obtain ⟨k, hk, rfl, hown, hT, hle⟩ := hrel
    by_cases hlt : k < n
    · obtain ⟨pl, po, hpp, hlt1, hcs⟩ := HP.out (by omega)
      obtain ⟨v, hcv, hrv⟩ := hcs k hlt
      have hTw := HT2.out.trans hT
      obtain ⟨p, m, c, rfl⟩ := slice_keep hrv
      have hlm := hrv.len
      have g : wr.cell? ⟨pl, po + k, none⟩ = some (.slice p m c) := (hTw.cell (p := ⟨pl, po + k, none⟩) hlt1 (by simp)).trans hcv
      have HR := Lib.hid (hrv.tch hTw).rdB
      have HLM := Lib.hid hlm
      have HLE := Lib.hid hle
      have HO := Lib.hid hown
      have HT := Lib.hid hT
      subst hpp
      have hd : (k : Int) < (n : Int) := by omega
      clear hcs hcv hrv hlm hle hown hT hTw hlt1
      by_cases hm : 1000 < m
      · have hd2 : decide ((1000 : Int) < (m : Int)) = true := by simp; omega
        have hd3 : (1000 : Int) < (m : Int) := by omega
        go_wp2
        go_ret
        exact ⟨rfl, HT2.out.trans HT.out⟩
      · have hd3 : ¬ (1000 : Int) < (m : Int) := by omega
        have hlc := cat_len HLE.out
        have hn30 := HN0.out
        go_wp2_with (at_builtin; (refine st_appB (w0 := w2) (w := wr) (u := .slice p m c) (l := cat LS k) (m := LS k) (ty := 5) rfl _ _ rfl rfl rfl HO.out HT.out HR.out (by have := HLM.out; omega) ?_; intro v4 w4 hown4 hT4))
        go_roundw
        case rel => exact ⟨_, _, .int .i64 ((k : Int) + 1), ⟨k + 1, by omega, by go_num, hown4, fun i hi => by
          by_cases h : i = k
          · subst h; have := HLM.out; omega
          · exact HLE.out i (by omega)⟩, rfl, rfl, rfl⟩
        case measure => simp [intOf]; omega
    · obtain rfl : k = n := by omega
      obtain ⟨pu, cu, rfl⟩ := own_slice hown
      have hlc := cat_len hle
      have hn30 := HN0.out
      have HN := Lib.hid (show (cat LS k).length < 1000000 by omega)
      have hlt256 : ∀ x ∈ cat LS k, x < 256 := cat_lt fun i hi => by
        obtain ⟨pl, po, _, _, hcs⟩ := HP.out (by omega)
        obtain ⟨v, _, hrv⟩ := hcs i hi
        exact hrv.lt
      have hrd := RdB.own hown hlt256
      generalize hNe : (cat LS k).length = N at *
      have HTW := Lib.hid (HT2.out.trans hT)
      have hS := St.start wr
      clear hlc hn30 hown
      go_upto_region 12 with (first
        | (go_at_call 7; go_must (refine (keccak_rd _ (cat LS k) wr hrd (by rw [hNe]; have := HN.out; omega)).mono ?_; rintro e w5 ⟨rfl, hT5⟩; replace hS := hS.call hT5))
        | (refine st_new hS rfl 26 rfl word_zero ?_; clear hS; intro w6 b6 hS)
        | (refine st_store (b := b6) (c' := wf (hashN (cat LS k))) hS rfl 26 _ _ rfl rfl rfl .head word_size (wf_size _) (wf_size _) (wf_one _) ?_; clear hS; intro w7 hS))
      try simp only [Act.put, List.setIfInBounds_toArray, List.set_cons_zero, List.set_cons_succ]
      have hb6 := hS.get .head
      have hfr := hS.frame
      have HF := Lib.hid hfr
      have KH := Lib.hid (fun (w' : World) (h : Tch [] w7 w') => h.blk hb6 (by simp))
      have KU := Lib.hid (fun (w' : World) (h : Tch [] w7 w') => hrd.tch (hfr.trans h) (by simp))
      have KS := Lib.hid (fun (w' : World) (h : Tch [] w7 w') => show Calls Try.prog 8 #[.slice pp k cc] w' (fun e w'' => e = .returned (.agg (wf (hashN (cat LS k)))) ∧ Tch [] w' w'') from by
        have hTt := HTW.out.trans (hfr.trans h)
        by_cases hk0 : 0 < k
        · obtain ⟨pl, po, hpp, hlt1, hcs⟩ := HP.out hk0
          subst hpp
          exact sum_any pl po k cc LS w' (by have := HN0.out; omega) (fun _ => Nat.lt_of_lt_of_le hlt1 hTt.size) (fun i hi => by
            obtain ⟨v, hcv, hrv⟩ := hcs i hi
            exact ⟨v, (hTt.cell (p := ⟨pl, po + i, none⟩) hlt1 (by simp)).trans hcv, (hrv.tch hTt).rdB.part (by have := hle i hi; omega)⟩) (some ⟨pl, po, none⟩) (fun _ => rfl)
        · obtain rfl : k = 0 := by omega
          exact sum_any 0 0 0 cc LS w' (by decide) (by omega) (fun i hi => by omega) pp (by omega))
      rw [← hNe] at HN
      clear hb6 hfr hS hrd hlt256 hle hT HP hk hlt hNe
      refine wp_region_held_drew (S := fun w' => Tch [] w7 w') (by kernel_rfl) ((Tch.refl _ _).drew) (fun hC => ?_)
      generalize World.drew w7 = u0 at hC ⊢
      refine held_in (v := .slice pp k cc) 0 rfl (by kernel_rfl) (by kernel_rfl) (by kernel_rfl) (fun _ _ _ h => h) hC rfl (fun w' hw' => x_val (.inl rfl) rfl) ?_
      try simp only [Act.put, List.setIfInBounds_toArray, List.set_cons_zero, List.set_cons_succ]
      refine held_in (v := .agg (wf (hashN (cat LS k)))) 2 rfl (by kernel_rfl) (by kernel_rfl) (by kernel_rfl) (fun _ _ _ h => h) hC rfl (fun w' hw' => x_load _ _ rfl rfl (KH.out w' hw') word_type word_size (wf_size _)) ?_
      try simp only [Act.put, List.setIfInBounds_toArray, List.set_cons_zero, List.set_cons_succ]
      refine held_one 1 (by kernel_rfl) ?_
      refine held_call (v1 := .slice pp k cc) rfl rfl rfl (by rfl) Try.call8 (KS.out u0 hC) ?_
      rintro e u1 ⟨rfl, hU⟩
      replace hC := hC.trans hU
      clear hU
      refine ⟨_, rfl, hC, ?_⟩
      try simp only [Act.put, List.setIfInBounds_toArray, List.set_cons_zero, List.set_cons_succ]
      refine held_in (v := .bool true) 3 rfl (by kernel_rfl) (by kernel_rfl) (by kernel_rfl) (fun _ _ _ h => h) hC rfl (fun w' hw' => x_hash _ _ _ rfl rfl rfl) ?_
      try simp only [Act.put, List.setIfInBounds_toArray, List.set_cons_zero, List.set_cons_succ]
      refine held_in (v := .bool true) 4 rfl (by kernel_rfl) (by kernel_rfl) (by kernel_rfl) (fun _ _ _ h => h) hC rfl (fun w' hw' => x_val (.inl rfl) rfl) ?_
      try simp only [Act.put, List.setIfInBounds_toArray, List.set_cons_zero, List.set_cons_succ]
      refine held_in (v := .slice pu N cu) 5 rfl (by kernel_rfl) (by kernel_rfl) (by kernel_rfl) (fun _ _ _ h => h) hC rfl (fun w' hw' => x_val (.inl rfl) rfl) ?_
      try simp only [Act.put, List.setIfInBounds_toArray, List.set_cons_zero, List.set_cons_succ]
      refine held_in (v := .agg (wf (hashN (cat LS k)))) 8 rfl (by kernel_rfl) (by kernel_rfl) (by kernel_rfl) (fun _ _ _ h => h) hC rfl (fun w' hw' => x_load _ _ rfl rfl (KH.out w' hw') word_type word_size (wf_size _)) ?_
      try simp only [Act.put, List.setIfInBounds_toArray, List.set_cons_zero, List.set_cons_succ]
      refine held_one 6 (by kernel_rfl) ?_
      refine held_build2 (t := 24) (c := #[.slice pu N cu]) #[(0, .slice pu N cu)] rfl rfl rfl (by simp only [List.map_toArray, List.map_cons, List.map_nil]; rfl) (build1 _ _ _ _) ?_
      refine ⟨hC.trans ((Tch.refl [] u1).alloc _), ?_⟩
      try simp only [Act.put, List.setIfInBounds_toArray, List.set_cons_zero, List.set_cons_succ]
      refine held_one 7 (by kernel_rfl) ?_
      refine held_call (v1 := .slice (some ⟨u1.heap.size, 0, none⟩) 1 1) rfl rfl rfl (by rfl) Try.call8 (sum_new _ (cat LS k) u1 (KU.out u1 hC) HN.out) ?_
      rintro e u2 ⟨rfl, hU⟩
      replace hC := hC.trans hU
      clear hU
      refine ⟨_, rfl, hC, ?_⟩
      try simp only [Act.put, List.setIfInBounds_toArray, List.set_cons_zero, List.set_cons_succ]
      refine held_in (v := .bool true) 9 rfl (by kernel_rfl) (by kernel_rfl) (by kernel_rfl) (fun _ _ _ h => h) hC rfl (fun w' hw' => x_hash _ _ _ rfl rfl rfl) ?_
      try simp only [Act.put, List.setIfInBounds_toArray, List.set_cons_zero, List.set_cons_succ]
      refine held_in (v := .bool true) 10 rfl (by kernel_rfl) (by kernel_rfl) (by kernel_rfl) (fun _ _ _ h => h) hC rfl (fun w' hw' => x_pickT _ _ _ rfl rfl rfl) ?_
      try simp only [Act.put, List.setIfInBounds_toArray, List.set_cons_zero, List.set_cons_succ]
      refine held_in (v := .bool true) 11 rfl (by kernel_rfl) (by kernel_rfl) (by kernel_rfl) (fun _ _ _ h => h) hC rfl (fun w' hw' => x_val (.inr rfl) rfl) ?_
      try simp only [Act.put, List.setIfInBounds_toArray, List.set_cons_zero, List.set_cons_succ]
      refine wpAnyH_done (by kernel_rfl) ?_ _
      go_wp2
      go_ret
      exact ⟨rfl, (HTW.out.trans HF.out).trans hC⟩
theorem sums_any (pp : Option Addr) (n cc : Nat) (LS : Nat → List Nat) (w : World) (hP : PartsAt w pp n LS) :
    Calls Try.prog 3 #[.slice pp n cc] w fun e w' => e = .returned (.bool true) ∧ Tch [] w w' := by
  by_cases h : 30 < n
  · exact sums_long pp n cc w h
  · exact sums_main pp n cc LS w h hP

end Go.Proofs.Ytaofhbnnldkegaa
