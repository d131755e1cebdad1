/- Common, the program's and the document's; the document's example. -/
import Derived.Test.YtgdojomaknbheaaP12
namespace Go.Proofs.Ytgdojomaknbheaa
open Go.RowKit

/-- How many elements two lists begin alike with. -/
def lcp : List Nat → List Nat → Nat
  | x :: a, y :: b => if x = y then lcp a b + 1 else 0
  | _, _ => 0
theorem lcp_stop : ∀ (n : Nat) (a b : List Nat), n ≤ a.length → n ≤ b.length → a.take n = b.take n → (n = a.length ∨ n = b.length ∨ a.getD n 0 ≠ b.getD n 0) → lcp a b = n
  | 0, [], _, _, _, _, _ => rfl
  | 0, _ :: _, [], _, _, _, _ => rfl
  | 0, x :: a, y :: b, _, _, _, h => by
    rcases h with h | h | h
    · simp at h
    · simp at h
    · show (if x = y then _ else _) = 0
      rw [if_neg (by simpa using h)]
  | n + 1, [], _, h, _, _, _ => by simp at h
  | n + 1, _ :: _, [], _, h, _, _ => by simp at h
  | n + 1, x :: a, y :: b, ha, hb, ht, h => by
    simp only [List.take_succ_cons, List.cons.injEq] at ht
    show (if x = y then _ else _) = n + 1
    rw [if_pos ht.1, lcp_stop n a b (by simpa using ha) (by simpa using hb) ht.2 (by simpa using h)]
theorem take_eq_snoc {a b : List Nat} {n : Nat} (ha : n < a.length) (hb : n < b.length) (h : a.take n = b.take n) (he : a.getD n 0 = b.getD n 0) : a.take (n + 1) = b.take (n + 1) := by
  rw [take_snoc ha, take_snoc hb, h, he]
set_option maxHeartbeats 4000000 in
set_option maxRecDepth 100000 in
theorem common_any (va vb : Value) (a b : List Nat) (w : World) (ha : a.length ≤ 1000000) (hb : b.length ≤ 1000000) (hva : RdA [] w va a) (hvb : RdA [] w vb b) :
    Calls Try.prog 15 #[va, vb] w fun e w' => e = .returned (.int .i64 (lcp a b : Int)) ∧ Tch [] w w' := by
  obtain ⟨pa, n, ca, rfl⟩ := slice_keep hva
  obtain ⟨pb, m, cb, rfl⟩ := slice_keep hvb
  have hla := hva.len
  have hlb := hvb.len
  have HAA := Lib.hid (fun h => hva.at_ h)
  have HBB := Lib.hid (fun h => hvb.at_ h)
  have HLL := Lib.hid (And.intro hla hlb)
  have HSTOP := Lib.hid (lcp_stop · a b)
  have hn6 : n ≤ 1000000 := by omega
  have hm6 : m ≤ 1000000 := by omega
  clear hva hvb hla hlb ha hb
  go_enter Try.func15, Try.ntmps15
  go_wp2
  go_loopw [5] (fun i wr => ∃ k : Nat, i = .int .i64 (k : Int) ∧ k ≤ n ∧ k ≤ m ∧ Tch [] w wr ∧ Hid (a.take k = b.take k)) (fun i _ => n - (intOf i).toNat)
  case atStart => exact ⟨0, rfl, Nat.zero_le _, Nat.zero_le _, Tch.refl _ _, Lib.hid rfl⟩
  case round =>
    obtain ⟨k, rfl, hk, hk2, hT, HE⟩ := hrel
    by_cases hn : k < n
    · have d1 : (k : Int) < (n : Int) := by omega
      by_cases hm : k < m
      · have d2 : (k : Int) < (m : Int) := by omega
        obtain ⟨b1, o1, rfl, hbw1, _, hc1⟩ := HAA.out (by intro e; have := HLL.out.1; subst e; simp at this; omega)
        obtain ⟨b2, o2, rfl, hbw2, _, hc2⟩ := HBB.out (by intro e; have := HLL.out.2; subst e; simp at this; omega)
        have e1 := (hT.cell (p := ⟨b1, o1 + k, none⟩) hbw1 (by simp)).trans (hc1 k (by have := HLL.out.1; omega))
        have e2 := (hT.cell (p := ⟨b2, o2 + k, none⟩) hbw2 (by simp)).trans (hc2 k (by have := HLL.out.2; omega))
        have k0 : (0 : Int) ≤ (k : Int) := by omega
        obtain ⟨x, hx⟩ : ∃ x, x = a.getD k 0 := ⟨_, rfl⟩
        obtain ⟨y, hy⟩ : ∃ y, y = b.getD k 0 := ⟨_, rfl⟩
        rw [← hx] at e1
        rw [← hy] at e2
        have HXY := Lib.hid (And.intro hx hy)
        clear hx hy hc1 hc2
        by_cases hxy : x = y
        · have d3 : ((x : Int) == (y : Int)) = true := by rw [beq_iff_eq]; omega
          have HXE := Lib.hid hxy
          clear hxy
          go_wp2
          refine k_region (C := fun w' => Tch [] wr w') (by kernel_rfl) (by kernel_rfl) ((Tch.refl _ _).drew) ?_
          refine k_intm rfl _ rfl rfl ?_; try simp only [Act.put, List.setIfInBounds_toArray, List.set_cons_zero, List.set_cons_succ]
          refine k_slice rfl _ rfl rfl ?_; try simp only [Act.put, List.setIfInBounds_toArray, List.set_cons_zero, List.set_cons_succ]
          refine k_lenSl rfl _ rfl rfl ?_; try simp only [Act.put, List.setIfInBounds_toArray, List.set_cons_zero, List.set_cons_succ]
          refine k_lss rfl _ _ _ rfl rfl rfl (by simp only [decide_eq_true_eq, decide_eq_false_iff_not]; omega) (t := true) ?_; try simp only [Act.put, List.setIfInBounds_toArray, List.set_cons_zero, List.set_cons_succ]
          refine k_boolm rfl _ rfl rfl ?_; try simp only [Act.put, List.setIfInBounds_toArray, List.set_cons_zero, List.set_cons_succ]
          refine k_intm rfl _ rfl rfl ?_; try simp only [Act.put, List.setIfInBounds_toArray, List.set_cons_zero, List.set_cons_succ]
          refine k_slice rfl _ rfl rfl ?_; try simp only [Act.put, List.setIfInBounds_toArray, List.set_cons_zero, List.set_cons_succ]
          refine k_lenSl rfl _ rfl rfl ?_; try simp only [Act.put, List.setIfInBounds_toArray, List.set_cons_zero, List.set_cons_succ]
          refine k_lss rfl _ _ _ rfl rfl rfl (by simp only [decide_eq_true_eq, decide_eq_false_iff_not]; omega) (t := true) ?_; try simp only [Act.put, List.setIfInBounds_toArray, List.set_cons_zero, List.set_cons_succ]
          refine k_pickT rfl _ _ _ rfl rfl rfl ?_; try simp only [Act.put, List.setIfInBounds_toArray, List.set_cons_zero, List.set_cons_succ]
          refine k_boolm rfl _ rfl rfl ?_; try simp only [Act.put, List.setIfInBounds_toArray, List.set_cons_zero, List.set_cons_succ]
          refine k_slice rfl _ rfl rfl ?_; try simp only [Act.put, List.setIfInBounds_toArray, List.set_cons_zero, List.set_cons_succ]
          refine k_intm rfl _ rfl rfl ?_; try simp only [Act.put, List.setIfInBounds_toArray, List.set_cons_zero, List.set_cons_succ]
          refine k_idxSl rfl _ _ _ rfl rfl rfl bytes_ty u8_size hn ?_; try simp only [Act.put, List.setIfInBounds_toArray, List.set_cons_zero, List.set_cons_succ]
          refine k_cellC rfl _ _ rfl rfl (fun w' h => (h.cell (p := ⟨b1, o1 + k, none⟩) (Nat.lt_of_lt_of_le hbw1 hT.size) (by simp)).trans e1) u8_agg ?_; try simp only [Act.put, List.setIfInBounds_toArray, List.set_cons_zero, List.set_cons_succ]
          refine k_slice rfl _ rfl rfl ?_; try simp only [Act.put, List.setIfInBounds_toArray, List.set_cons_zero, List.set_cons_succ]
          refine k_intm rfl _ rfl rfl ?_; try simp only [Act.put, List.setIfInBounds_toArray, List.set_cons_zero, List.set_cons_succ]
          refine k_idxSl rfl _ _ _ rfl rfl rfl bytes_ty u8_size hm ?_; try simp only [Act.put, List.setIfInBounds_toArray, List.set_cons_zero, List.set_cons_succ]
          refine k_cellC rfl _ _ rfl rfl (fun w' h => (h.cell (p := ⟨b2, o2 + k, none⟩) (Nat.lt_of_lt_of_le hbw2 hT.size) (by simp)).trans e2) u8_agg ?_; try simp only [Act.put, List.setIfInBounds_toArray, List.set_cons_zero, List.set_cons_succ]
          refine k_u8 rfl _ _ _ rfl rfl rfl d3 ?_; try simp only [Act.put, List.setIfInBounds_toArray, List.set_cons_zero, List.set_cons_succ]
          refine k_pickT rfl _ _ _ rfl rfl rfl ?_; try simp only [Act.put, List.setIfInBounds_toArray, List.set_cons_zero, List.set_cons_succ]
          refine k_end ?_
          intro w2 hTr
          have hT2 := hT.trans hTr
          go_wp2
          go_roundw
          case rel => exact ⟨k + 1, by go_num, hn, hm, hT2, Lib.hid (take_eq_snoc (by have := HLL.out.1; omega) (by have := HLL.out.2; omega) HE.out (by rw [← HXY.out.1, ← HXY.out.2]; exact HXE.out))⟩
          case measure => simp [intOf]; omega
        · have d3 : ((x : Int) == (y : Int)) = false := by rw [beq_eq_false_iff_ne]; omega
          have HXE := Lib.hid hxy
          clear hxy
          go_wp2
          refine k_region (C := fun w' => Tch [] wr w') (by kernel_rfl) (by kernel_rfl) ((Tch.refl _ _).drew) ?_
          refine k_intm rfl _ rfl rfl ?_; try simp only [Act.put, List.setIfInBounds_toArray, List.set_cons_zero, List.set_cons_succ]
          refine k_slice rfl _ rfl rfl ?_; try simp only [Act.put, List.setIfInBounds_toArray, List.set_cons_zero, List.set_cons_succ]
          refine k_lenSl rfl _ rfl rfl ?_; try simp only [Act.put, List.setIfInBounds_toArray, List.set_cons_zero, List.set_cons_succ]
          refine k_lss rfl _ _ _ rfl rfl rfl (by simp only [decide_eq_true_eq, decide_eq_false_iff_not]; omega) (t := true) ?_; try simp only [Act.put, List.setIfInBounds_toArray, List.set_cons_zero, List.set_cons_succ]
          refine k_boolm rfl _ rfl rfl ?_; try simp only [Act.put, List.setIfInBounds_toArray, List.set_cons_zero, List.set_cons_succ]
          refine k_intm rfl _ rfl rfl ?_; try simp only [Act.put, List.setIfInBounds_toArray, List.set_cons_zero, List.set_cons_succ]
          refine k_slice rfl _ rfl rfl ?_; try simp only [Act.put, List.setIfInBounds_toArray, List.set_cons_zero, List.set_cons_succ]
          refine k_lenSl rfl _ rfl rfl ?_; try simp only [Act.put, List.setIfInBounds_toArray, List.set_cons_zero, List.set_cons_succ]
          refine k_lss rfl _ _ _ rfl rfl rfl (by simp only [decide_eq_true_eq, decide_eq_false_iff_not]; omega) (t := true) ?_; try simp only [Act.put, List.setIfInBounds_toArray, List.set_cons_zero, List.set_cons_succ]
          refine k_pickT rfl _ _ _ rfl rfl rfl ?_; try simp only [Act.put, List.setIfInBounds_toArray, List.set_cons_zero, List.set_cons_succ]
          refine k_boolm rfl _ rfl rfl ?_; try simp only [Act.put, List.setIfInBounds_toArray, List.set_cons_zero, List.set_cons_succ]
          refine k_slice rfl _ rfl rfl ?_; try simp only [Act.put, List.setIfInBounds_toArray, List.set_cons_zero, List.set_cons_succ]
          refine k_intm rfl _ rfl rfl ?_; try simp only [Act.put, List.setIfInBounds_toArray, List.set_cons_zero, List.set_cons_succ]
          refine k_idxSl rfl _ _ _ rfl rfl rfl bytes_ty u8_size hn ?_; try simp only [Act.put, List.setIfInBounds_toArray, List.set_cons_zero, List.set_cons_succ]
          refine k_cellC rfl _ _ rfl rfl (fun w' h => (h.cell (p := ⟨b1, o1 + k, none⟩) (Nat.lt_of_lt_of_le hbw1 hT.size) (by simp)).trans e1) u8_agg ?_; try simp only [Act.put, List.setIfInBounds_toArray, List.set_cons_zero, List.set_cons_succ]
          refine k_slice rfl _ rfl rfl ?_; try simp only [Act.put, List.setIfInBounds_toArray, List.set_cons_zero, List.set_cons_succ]
          refine k_intm rfl _ rfl rfl ?_; try simp only [Act.put, List.setIfInBounds_toArray, List.set_cons_zero, List.set_cons_succ]
          refine k_idxSl rfl _ _ _ rfl rfl rfl bytes_ty u8_size hm ?_; try simp only [Act.put, List.setIfInBounds_toArray, List.set_cons_zero, List.set_cons_succ]
          refine k_cellC rfl _ _ rfl rfl (fun w' h => (h.cell (p := ⟨b2, o2 + k, none⟩) (Nat.lt_of_lt_of_le hbw2 hT.size) (by simp)).trans e2) u8_agg ?_; try simp only [Act.put, List.setIfInBounds_toArray, List.set_cons_zero, List.set_cons_succ]
          refine k_u8 rfl _ _ _ rfl rfl rfl d3 ?_; try simp only [Act.put, List.setIfInBounds_toArray, List.set_cons_zero, List.set_cons_succ]
          refine k_pickT rfl _ _ _ rfl rfl rfl ?_; try simp only [Act.put, List.setIfInBounds_toArray, List.set_cons_zero, List.set_cons_succ]
          refine k_end ?_
          intro w2 hTr
          have hT2 := hT.trans hTr
          go_wp2
          go_ret
          rw [HSTOP.out k (by have := HLL.out.1; omega) (by have := HLL.out.2; omega) HE.out (.inr (.inr (by rw [← HXY.out.1, ← HXY.out.2]; exact HXE.out)))]
          exact ⟨rfl, hT2⟩
      · have d2 : ¬ (k : Int) < (m : Int) := by omega
        go_wp2
        refine k_region (C := fun w' => Tch [] wr w') (by kernel_rfl) (by kernel_rfl) ((Tch.refl _ _).drew) ?_
        refine k_intm rfl _ rfl rfl ?_; try simp only [Act.put, List.setIfInBounds_toArray, List.set_cons_zero, List.set_cons_succ]
        refine k_slice rfl _ rfl rfl ?_; try simp only [Act.put, List.setIfInBounds_toArray, List.set_cons_zero, List.set_cons_succ]
        refine k_lenSl rfl _ rfl rfl ?_; try simp only [Act.put, List.setIfInBounds_toArray, List.set_cons_zero, List.set_cons_succ]
        refine k_lss rfl _ _ _ rfl rfl rfl (by simp only [decide_eq_true_eq, decide_eq_false_iff_not]; omega) (t := true) ?_; try simp only [Act.put, List.setIfInBounds_toArray, List.set_cons_zero, List.set_cons_succ]
        refine k_boolm rfl _ rfl rfl ?_; try simp only [Act.put, List.setIfInBounds_toArray, List.set_cons_zero, List.set_cons_succ]
        refine k_intm rfl _ rfl rfl ?_; try simp only [Act.put, List.setIfInBounds_toArray, List.set_cons_zero, List.set_cons_succ]
        refine k_slice rfl _ rfl rfl ?_; try simp only [Act.put, List.setIfInBounds_toArray, List.set_cons_zero, List.set_cons_succ]
        refine k_lenSl rfl _ rfl rfl ?_; try simp only [Act.put, List.setIfInBounds_toArray, List.set_cons_zero, List.set_cons_succ]
        refine k_lss rfl _ _ _ rfl rfl rfl (by simp only [decide_eq_true_eq, decide_eq_false_iff_not]; omega) (t := false) ?_; try simp only [Act.put, List.setIfInBounds_toArray, List.set_cons_zero, List.set_cons_succ]
        refine k_pickT rfl _ _ _ rfl rfl rfl ?_; try simp only [Act.put, List.setIfInBounds_toArray, List.set_cons_zero, List.set_cons_succ]
        refine k_boolm rfl _ rfl rfl ?_; try simp only [Act.put, List.setIfInBounds_toArray, List.set_cons_zero, List.set_cons_succ]
        refine k_skip rfl rfl rfl rfl rfl ?_; try simp only [Act.put, List.setIfInBounds_toArray, List.set_cons_zero, List.set_cons_succ]
        refine k_skip rfl rfl rfl rfl rfl ?_; try simp only [Act.put, List.setIfInBounds_toArray, List.set_cons_zero, List.set_cons_succ]
        refine k_skip rfl rfl rfl rfl rfl ?_; try simp only [Act.put, List.setIfInBounds_toArray, List.set_cons_zero, List.set_cons_succ]
        refine k_skip rfl rfl rfl rfl rfl ?_; try simp only [Act.put, List.setIfInBounds_toArray, List.set_cons_zero, List.set_cons_succ]
        refine k_skip rfl rfl rfl rfl rfl ?_; try simp only [Act.put, List.setIfInBounds_toArray, List.set_cons_zero, List.set_cons_succ]
        refine k_skip rfl rfl rfl rfl rfl ?_; try simp only [Act.put, List.setIfInBounds_toArray, List.set_cons_zero, List.set_cons_succ]
        refine k_skip rfl rfl rfl rfl rfl ?_; try simp only [Act.put, List.setIfInBounds_toArray, List.set_cons_zero, List.set_cons_succ]
        refine k_skip rfl rfl rfl rfl rfl ?_; try simp only [Act.put, List.setIfInBounds_toArray, List.set_cons_zero, List.set_cons_succ]
        refine k_skip rfl rfl rfl rfl rfl ?_; try simp only [Act.put, List.setIfInBounds_toArray, List.set_cons_zero, List.set_cons_succ]
        refine k_pickF rfl _ _ _ rfl rfl rfl ?_; try simp only [Act.put, List.setIfInBounds_toArray, List.set_cons_zero, List.set_cons_succ]
        refine k_end ?_
        intro w2 hTr
        have hT2 := hT.trans hTr
        go_wp2
        go_ret
        rw [HSTOP.out k (by have := HLL.out.1; omega) (by have := HLL.out.2; omega) HE.out (.inr (.inl (by have := HLL.out.2; omega)))]
        exact ⟨rfl, hT2⟩
    · have d1 : ¬ (k : Int) < (n : Int) := by omega
      go_wp2
      refine k_region (C := fun w' => Tch [] wr w') (by kernel_rfl) (by kernel_rfl) ((Tch.refl _ _).drew) ?_
      refine k_intm rfl _ rfl rfl ?_; try simp only [Act.put, List.setIfInBounds_toArray, List.set_cons_zero, List.set_cons_succ]
      refine k_slice rfl _ rfl rfl ?_; try simp only [Act.put, List.setIfInBounds_toArray, List.set_cons_zero, List.set_cons_succ]
      refine k_lenSl rfl _ rfl rfl ?_; try simp only [Act.put, List.setIfInBounds_toArray, List.set_cons_zero, List.set_cons_succ]
      refine k_lss rfl _ _ _ rfl rfl rfl (by simp only [decide_eq_true_eq, decide_eq_false_iff_not]; omega) (t := false) ?_; try simp only [Act.put, List.setIfInBounds_toArray, List.set_cons_zero, List.set_cons_succ]
      refine k_boolm rfl _ rfl rfl ?_; try simp only [Act.put, List.setIfInBounds_toArray, List.set_cons_zero, List.set_cons_succ]
      refine k_skip rfl rfl rfl rfl rfl ?_; try simp only [Act.put, List.setIfInBounds_toArray, List.set_cons_zero, List.set_cons_succ]
      refine k_skip rfl rfl rfl rfl rfl ?_; try simp only [Act.put, List.setIfInBounds_toArray, List.set_cons_zero, List.set_cons_succ]
      refine k_skip rfl rfl rfl rfl rfl ?_; try simp only [Act.put, List.setIfInBounds_toArray, List.set_cons_zero, List.set_cons_succ]
      refine k_skip rfl rfl rfl rfl rfl ?_; try simp only [Act.put, List.setIfInBounds_toArray, List.set_cons_zero, List.set_cons_succ]
      refine k_pickF rfl _ _ _ rfl rfl rfl ?_; try simp only [Act.put, List.setIfInBounds_toArray, List.set_cons_zero, List.set_cons_succ]
      refine k_boolm rfl _ rfl rfl ?_; try simp only [Act.put, List.setIfInBounds_toArray, List.set_cons_zero, List.set_cons_succ]
      refine k_skip rfl rfl rfl rfl rfl ?_; try simp only [Act.put, List.setIfInBounds_toArray, List.set_cons_zero, List.set_cons_succ]
      refine k_skip rfl rfl rfl rfl rfl ?_; try simp only [Act.put, List.setIfInBounds_toArray, List.set_cons_zero, List.set_cons_succ]
      refine k_skip rfl rfl rfl rfl rfl ?_; try simp only [Act.put, List.setIfInBounds_toArray, List.set_cons_zero, List.set_cons_succ]
      refine k_skip rfl rfl rfl rfl rfl ?_; try simp only [Act.put, List.setIfInBounds_toArray, List.set_cons_zero, List.set_cons_succ]
      refine k_skip rfl rfl rfl rfl rfl ?_; try simp only [Act.put, List.setIfInBounds_toArray, List.set_cons_zero, List.set_cons_succ]
      refine k_skip rfl rfl rfl rfl rfl ?_; try simp only [Act.put, List.setIfInBounds_toArray, List.set_cons_zero, List.set_cons_succ]
      refine k_skip rfl rfl rfl rfl rfl ?_; try simp only [Act.put, List.setIfInBounds_toArray, List.set_cons_zero, List.set_cons_succ]
      refine k_skip rfl rfl rfl rfl rfl ?_; try simp only [Act.put, List.setIfInBounds_toArray, List.set_cons_zero, List.set_cons_succ]
      refine k_skip rfl rfl rfl rfl rfl ?_; try simp only [Act.put, List.setIfInBounds_toArray, List.set_cons_zero, List.set_cons_succ]
      refine k_pickF rfl _ _ _ rfl rfl rfl ?_; try simp only [Act.put, List.setIfInBounds_toArray, List.set_cons_zero, List.set_cons_succ]
      refine k_end ?_
      intro w2 hTr
      have hT2 := hT.trans hTr
      go_wp2
      go_ret
      rw [HSTOP.out k (by have := HLL.out.1; omega) (by have := HLL.out.2; omega) HE.out (.inl (by have := HLL.out.1; omega))]
      exact ⟨rfl, hT2⟩
set_option maxHeartbeats 4000000 in
set_option maxRecDepth 100000 in
theorem rcommon_any (va vb : Value) (a b : List Nat) (w : World) (ha : a.length ≤ 1000000) (hb : b.length ≤ 1000000) (hva : RdA [] w va a) (hvb : RdA [] w vb b) :
    Calls Try.prog 16 #[va, vb] w fun e w' => e = .returned (.int .i64 (lcp a b : Int)) ∧ Tch [] w w' := by
  obtain ⟨pa, n, ca, rfl⟩ := slice_keep hva
  obtain ⟨pb, m, cb, rfl⟩ := slice_keep hvb
  have hla := hva.len
  have hlb := hvb.len
  have HAA := Lib.hid (fun h => hva.at_ h)
  have HBB := Lib.hid (fun h => hvb.at_ h)
  have HLL := Lib.hid (And.intro hla hlb)
  have HSTOP := Lib.hid (lcp_stop · a b)
  have hn6 : n ≤ 1000000 := by omega
  have hm6 : m ≤ 1000000 := by omega
  clear hva hvb hla hlb ha hb
  go_enter Try.func16, Try.ntmps16
  go_wp2
  go_loopw [5] (fun i wr => ∃ k : Nat, i = .int .i64 (k : Int) ∧ k ≤ n ∧ k ≤ m ∧ Tch [] w wr ∧ Hid (a.take k = b.take k)) (fun i _ => n - (intOf i).toNat)
  case atStart => exact ⟨0, rfl, Nat.zero_le _, Nat.zero_le _, Tch.refl _ _, Lib.hid rfl⟩
  case round =>
    obtain ⟨k, rfl, hk, hk2, hT, HE⟩ := hrel
    by_cases hn : k < n
    · have d1 : (k : Int) < (n : Int) := by omega
      by_cases hm : k < m
      · have d2 : (k : Int) < (m : Int) := by omega
        obtain ⟨b1, o1, rfl, hbw1, _, hc1⟩ := HAA.out (by intro e; have := HLL.out.1; subst e; simp at this; omega)
        obtain ⟨b2, o2, rfl, hbw2, _, hc2⟩ := HBB.out (by intro e; have := HLL.out.2; subst e; simp at this; omega)
        have e1 := (hT.cell (p := ⟨b1, o1 + k, none⟩) hbw1 (by simp)).trans (hc1 k (by have := HLL.out.1; omega))
        have e2 := (hT.cell (p := ⟨b2, o2 + k, none⟩) hbw2 (by simp)).trans (hc2 k (by have := HLL.out.2; omega))
        have k0 : (0 : Int) ≤ (k : Int) := by omega
        obtain ⟨x, hx⟩ : ∃ x, x = a.getD k 0 := ⟨_, rfl⟩
        obtain ⟨y, hy⟩ : ∃ y, y = b.getD k 0 := ⟨_, rfl⟩
        rw [← hx] at e1
        rw [← hy] at e2
        have HXY := Lib.hid (And.intro hx hy)
        clear hx hy hc1 hc2
        by_cases hxy : x = y
        · have d3 : ((x : Int) == (y : Int)) = true := by rw [beq_iff_eq]; omega
          have HXE := Lib.hid hxy
          clear hxy
          go_wp2
          refine k_region (C := fun w' => Tch [] wr w') (by kernel_rfl) (by kernel_rfl) ((Tch.refl _ _).drew) ?_
          refine k_intm rfl _ rfl rfl ?_; try simp only [Act.put, List.setIfInBounds_toArray, List.set_cons_zero, List.set_cons_succ]
          refine k_slice rfl _ rfl rfl ?_; try simp only [Act.put, List.setIfInBounds_toArray, List.set_cons_zero, List.set_cons_succ]
          refine k_lenSl rfl _ rfl rfl ?_; try simp only [Act.put, List.setIfInBounds_toArray, List.set_cons_zero, List.set_cons_succ]
          refine k_lss rfl _ _ _ rfl rfl rfl (by simp only [decide_eq_true_eq, decide_eq_false_iff_not]; omega) (t := true) ?_; try simp only [Act.put, List.setIfInBounds_toArray, List.set_cons_zero, List.set_cons_succ]
          refine k_boolm rfl _ rfl rfl ?_; try simp only [Act.put, List.setIfInBounds_toArray, List.set_cons_zero, List.set_cons_succ]
          refine k_intm rfl _ rfl rfl ?_; try simp only [Act.put, List.setIfInBounds_toArray, List.set_cons_zero, List.set_cons_succ]
          refine k_slice rfl _ rfl rfl ?_; try simp only [Act.put, List.setIfInBounds_toArray, List.set_cons_zero, List.set_cons_succ]
          refine k_lenSl rfl _ rfl rfl ?_; try simp only [Act.put, List.setIfInBounds_toArray, List.set_cons_zero, List.set_cons_succ]
          refine k_lss rfl _ _ _ rfl rfl rfl (by simp only [decide_eq_true_eq, decide_eq_false_iff_not]; omega) (t := true) ?_; try simp only [Act.put, List.setIfInBounds_toArray, List.set_cons_zero, List.set_cons_succ]
          refine k_pickT rfl _ _ _ rfl rfl rfl ?_; try simp only [Act.put, List.setIfInBounds_toArray, List.set_cons_zero, List.set_cons_succ]
          refine k_boolm rfl _ rfl rfl ?_; try simp only [Act.put, List.setIfInBounds_toArray, List.set_cons_zero, List.set_cons_succ]
          refine k_slice rfl _ rfl rfl ?_; try simp only [Act.put, List.setIfInBounds_toArray, List.set_cons_zero, List.set_cons_succ]
          refine k_intm rfl _ rfl rfl ?_; try simp only [Act.put, List.setIfInBounds_toArray, List.set_cons_zero, List.set_cons_succ]
          refine k_idxSl rfl _ _ _ rfl rfl rfl bytes_ty u8_size hn ?_; try simp only [Act.put, List.setIfInBounds_toArray, List.set_cons_zero, List.set_cons_succ]
          refine k_cellC rfl _ _ rfl rfl (fun w' h => (h.cell (p := ⟨b1, o1 + k, none⟩) (Nat.lt_of_lt_of_le hbw1 hT.size) (by simp)).trans e1) u8_agg ?_; try simp only [Act.put, List.setIfInBounds_toArray, List.set_cons_zero, List.set_cons_succ]
          refine k_slice rfl _ rfl rfl ?_; try simp only [Act.put, List.setIfInBounds_toArray, List.set_cons_zero, List.set_cons_succ]
          refine k_intm rfl _ rfl rfl ?_; try simp only [Act.put, List.setIfInBounds_toArray, List.set_cons_zero, List.set_cons_succ]
          refine k_idxSl rfl _ _ _ rfl rfl rfl bytes_ty u8_size hm ?_; try simp only [Act.put, List.setIfInBounds_toArray, List.set_cons_zero, List.set_cons_succ]
          refine k_cellC rfl _ _ rfl rfl (fun w' h => (h.cell (p := ⟨b2, o2 + k, none⟩) (Nat.lt_of_lt_of_le hbw2 hT.size) (by simp)).trans e2) u8_agg ?_; try simp only [Act.put, List.setIfInBounds_toArray, List.set_cons_zero, List.set_cons_succ]
          refine k_u8 rfl _ _ _ rfl rfl rfl d3 ?_; try simp only [Act.put, List.setIfInBounds_toArray, List.set_cons_zero, List.set_cons_succ]
          refine k_pickT rfl _ _ _ rfl rfl rfl ?_; try simp only [Act.put, List.setIfInBounds_toArray, List.set_cons_zero, List.set_cons_succ]
          refine k_end ?_
          intro w2 hTr
          have hT2 := hT.trans hTr
          go_wp2
          go_roundw
          case rel => exact ⟨k + 1, by go_num, hn, hm, hT2, Lib.hid (take_eq_snoc (by have := HLL.out.1; omega) (by have := HLL.out.2; omega) HE.out (by rw [← HXY.out.1, ← HXY.out.2]; exact HXE.out))⟩
          case measure => simp [intOf]; omega
        · have d3 : ((x : Int) == (y : Int)) = false := by rw [beq_eq_false_iff_ne]; omega
          have HXE := Lib.hid hxy
          clear hxy
          go_wp2
          refine k_region (C := fun w' => Tch [] wr w') (by kernel_rfl) (by kernel_rfl) ((Tch.refl _ _).drew) ?_
          refine k_intm rfl _ rfl rfl ?_; try simp only [Act.put, List.setIfInBounds_toArray, List.set_cons_zero, List.set_cons_succ]
          refine k_slice rfl _ rfl rfl ?_; try simp only [Act.put, List.setIfInBounds_toArray, List.set_cons_zero, List.set_cons_succ]
          refine k_lenSl rfl _ rfl rfl ?_; try simp only [Act.put, List.setIfInBounds_toArray, List.set_cons_zero, List.set_cons_succ]
          refine k_lss rfl _ _ _ rfl rfl rfl (by simp only [decide_eq_true_eq, decide_eq_false_iff_not]; omega) (t := true) ?_; try simp only [Act.put, List.setIfInBounds_toArray, List.set_cons_zero, List.set_cons_succ]
          refine k_boolm rfl _ rfl rfl ?_; try simp only [Act.put, List.setIfInBounds_toArray, List.set_cons_zero, List.set_cons_succ]
          refine k_intm rfl _ rfl rfl ?_; try simp only [Act.put, List.setIfInBounds_toArray, List.set_cons_zero, List.set_cons_succ]
          refine k_slice rfl _ rfl rfl ?_; try simp only [Act.put, List.setIfInBounds_toArray, List.set_cons_zero, List.set_cons_succ]
          refine k_lenSl rfl _ rfl rfl ?_; try simp only [Act.put, List.setIfInBounds_toArray, List.set_cons_zero, List.set_cons_succ]
          refine k_lss rfl _ _ _ rfl rfl rfl (by simp only [decide_eq_true_eq, decide_eq_false_iff_not]; omega) (t := true) ?_; try simp only [Act.put, List.setIfInBounds_toArray, List.set_cons_zero, List.set_cons_succ]
          refine k_pickT rfl _ _ _ rfl rfl rfl ?_; try simp only [Act.put, List.setIfInBounds_toArray, List.set_cons_zero, List.set_cons_succ]
          refine k_boolm rfl _ rfl rfl ?_; try simp only [Act.put, List.setIfInBounds_toArray, List.set_cons_zero, List.set_cons_succ]
          refine k_slice rfl _ rfl rfl ?_; try simp only [Act.put, List.setIfInBounds_toArray, List.set_cons_zero, List.set_cons_succ]
          refine k_intm rfl _ rfl rfl ?_; try simp only [Act.put, List.setIfInBounds_toArray, List.set_cons_zero, List.set_cons_succ]
          refine k_idxSl rfl _ _ _ rfl rfl rfl bytes_ty u8_size hn ?_; try simp only [Act.put, List.setIfInBounds_toArray, List.set_cons_zero, List.set_cons_succ]
          refine k_cellC rfl _ _ rfl rfl (fun w' h => (h.cell (p := ⟨b1, o1 + k, none⟩) (Nat.lt_of_lt_of_le hbw1 hT.size) (by simp)).trans e1) u8_agg ?_; try simp only [Act.put, List.setIfInBounds_toArray, List.set_cons_zero, List.set_cons_succ]
          refine k_slice rfl _ rfl rfl ?_; try simp only [Act.put, List.setIfInBounds_toArray, List.set_cons_zero, List.set_cons_succ]
          refine k_intm rfl _ rfl rfl ?_; try simp only [Act.put, List.setIfInBounds_toArray, List.set_cons_zero, List.set_cons_succ]
          refine k_idxSl rfl _ _ _ rfl rfl rfl bytes_ty u8_size hm ?_; try simp only [Act.put, List.setIfInBounds_toArray, List.set_cons_zero, List.set_cons_succ]
          refine k_cellC rfl _ _ rfl rfl (fun w' h => (h.cell (p := ⟨b2, o2 + k, none⟩) (Nat.lt_of_lt_of_le hbw2 hT.size) (by simp)).trans e2) u8_agg ?_; try simp only [Act.put, List.setIfInBounds_toArray, List.set_cons_zero, List.set_cons_succ]
          refine k_u8 rfl _ _ _ rfl rfl rfl d3 ?_; try simp only [Act.put, List.setIfInBounds_toArray, List.set_cons_zero, List.set_cons_succ]
          refine k_pickT rfl _ _ _ rfl rfl rfl ?_; try simp only [Act.put, List.setIfInBounds_toArray, List.set_cons_zero, List.set_cons_succ]
          refine k_end ?_
          intro w2 hTr
          have hT2 := hT.trans hTr
          go_wp2
          go_ret
          rw [HSTOP.out k (by have := HLL.out.1; omega) (by have := HLL.out.2; omega) HE.out (.inr (.inr (by rw [← HXY.out.1, ← HXY.out.2]; exact HXE.out)))]
          exact ⟨rfl, hT2⟩
      · have d2 : ¬ (k : Int) < (m : Int) := by omega
        go_wp2
        refine k_region (C := fun w' => Tch [] wr w') (by kernel_rfl) (by kernel_rfl) ((Tch.refl _ _).drew) ?_
        refine k_intm rfl _ rfl rfl ?_; try simp only [Act.put, List.setIfInBounds_toArray, List.set_cons_zero, List.set_cons_succ]
        refine k_slice rfl _ rfl rfl ?_; try simp only [Act.put, List.setIfInBounds_toArray, List.set_cons_zero, List.set_cons_succ]
        refine k_lenSl rfl _ rfl rfl ?_; try simp only [Act.put, List.setIfInBounds_toArray, List.set_cons_zero, List.set_cons_succ]
        refine k_lss rfl _ _ _ rfl rfl rfl (by simp only [decide_eq_true_eq, decide_eq_false_iff_not]; omega) (t := true) ?_; try simp only [Act.put, List.setIfInBounds_toArray, List.set_cons_zero, List.set_cons_succ]
        refine k_boolm rfl _ rfl rfl ?_; try simp only [Act.put, List.setIfInBounds_toArray, List.set_cons_zero, List.set_cons_succ]
        refine k_intm rfl _ rfl rfl ?_; try simp only [Act.put, List.setIfInBounds_toArray, List.set_cons_zero, List.set_cons_succ]
        refine k_slice rfl _ rfl rfl ?_; try simp only [Act.put, List.setIfInBounds_toArray, List.set_cons_zero, List.set_cons_succ]
        refine k_lenSl rfl _ rfl rfl ?_; try simp only [Act.put, List.setIfInBounds_toArray, List.set_cons_zero, List.set_cons_succ]
        refine k_lss rfl _ _ _ rfl rfl rfl (by simp only [decide_eq_true_eq, decide_eq_false_iff_not]; omega) (t := false) ?_; try simp only [Act.put, List.setIfInBounds_toArray, List.set_cons_zero, List.set_cons_succ]
        refine k_pickT rfl _ _ _ rfl rfl rfl ?_; try simp only [Act.put, List.setIfInBounds_toArray, List.set_cons_zero, List.set_cons_succ]
        refine k_boolm rfl _ rfl rfl ?_; try simp only [Act.put, List.setIfInBounds_toArray, List.set_cons_zero, List.set_cons_succ]
        refine k_skip rfl rfl rfl rfl rfl ?_; try simp only [Act.put, List.setIfInBounds_toArray, List.set_cons_zero, List.set_cons_succ]
        refine k_skip rfl rfl rfl rfl rfl ?_; try simp only [Act.put, List.setIfInBounds_toArray, List.set_cons_zero, List.set_cons_succ]
        refine k_skip rfl rfl rfl rfl rfl ?_; try simp only [Act.put, List.setIfInBounds_toArray, List.set_cons_zero, List.set_cons_succ]
        refine k_skip rfl rfl rfl rfl rfl ?_; try simp only [Act.put, List.setIfInBounds_toArray, List.set_cons_zero, List.set_cons_succ]
        refine k_skip rfl rfl rfl rfl rfl ?_; try simp only [Act.put, List.setIfInBounds_toArray, List.set_cons_zero, List.set_cons_succ]
        refine k_skip rfl rfl rfl rfl rfl ?_; try simp only [Act.put, List.setIfInBounds_toArray, List.set_cons_zero, List.set_cons_succ]
        refine k_skip rfl rfl rfl rfl rfl ?_; try simp only [Act.put, List.setIfInBounds_toArray, List.set_cons_zero, List.set_cons_succ]
        refine k_skip rfl rfl rfl rfl rfl ?_; try simp only [Act.put, List.setIfInBounds_toArray, List.set_cons_zero, List.set_cons_succ]
        refine k_skip rfl rfl rfl rfl rfl ?_; try simp only [Act.put, List.setIfInBounds_toArray, List.set_cons_zero, List.set_cons_succ]
        refine k_pickF rfl _ _ _ rfl rfl rfl ?_; try simp only [Act.put, List.setIfInBounds_toArray, List.set_cons_zero, List.set_cons_succ]
        refine k_end ?_
        intro w2 hTr
        have hT2 := hT.trans hTr
        go_wp2
        go_ret
        rw [HSTOP.out k (by have := HLL.out.1; omega) (by have := HLL.out.2; omega) HE.out (.inr (.inl (by have := HLL.out.2; omega)))]
        exact ⟨rfl, hT2⟩
    · have d1 : ¬ (k : Int) < (n : Int) := by omega
      go_wp2
      refine k_region (C := fun w' => Tch [] wr w') (by kernel_rfl) (by kernel_rfl) ((Tch.refl _ _).drew) ?_
      refine k_intm rfl _ rfl rfl ?_; try simp only [Act.put, List.setIfInBounds_toArray, List.set_cons_zero, List.set_cons_succ]
      refine k_slice rfl _ rfl rfl ?_; try simp only [Act.put, List.setIfInBounds_toArray, List.set_cons_zero, List.set_cons_succ]
      refine k_lenSl rfl _ rfl rfl ?_; try simp only [Act.put, List.setIfInBounds_toArray, List.set_cons_zero, List.set_cons_succ]
      refine k_lss rfl _ _ _ rfl rfl rfl (by simp only [decide_eq_true_eq, decide_eq_false_iff_not]; omega) (t := false) ?_; try simp only [Act.put, List.setIfInBounds_toArray, List.set_cons_zero, List.set_cons_succ]
      refine k_boolm rfl _ rfl rfl ?_; try simp only [Act.put, List.setIfInBounds_toArray, List.set_cons_zero, List.set_cons_succ]
      refine k_skip rfl rfl rfl rfl rfl ?_; try simp only [Act.put, List.setIfInBounds_toArray, List.set_cons_zero, List.set_cons_succ]
      refine k_skip rfl rfl rfl rfl rfl ?_; try simp only [Act.put, List.setIfInBounds_toArray, List.set_cons_zero, List.set_cons_succ]
      refine k_skip rfl rfl rfl rfl rfl ?_; try simp only [Act.put, List.setIfInBounds_toArray, List.set_cons_zero, List.set_cons_succ]
      refine k_skip rfl rfl rfl rfl rfl ?_; try simp only [Act.put, List.setIfInBounds_toArray, List.set_cons_zero, List.set_cons_succ]
      refine k_pickF rfl _ _ _ rfl rfl rfl ?_; try simp only [Act.put, List.setIfInBounds_toArray, List.set_cons_zero, List.set_cons_succ]
      refine k_boolm rfl _ rfl rfl ?_; try simp only [Act.put, List.setIfInBounds_toArray, List.set_cons_zero, List.set_cons_succ]
      refine k_skip rfl rfl rfl rfl rfl ?_; try simp only [Act.put, List.setIfInBounds_toArray, List.set_cons_zero, List.set_cons_succ]
      refine k_skip rfl rfl rfl rfl rfl ?_; try simp only [Act.put, List.setIfInBounds_toArray, List.set_cons_zero, List.set_cons_succ]
      refine k_skip rfl rfl rfl rfl rfl ?_; try simp only [Act.put, List.setIfInBounds_toArray, List.set_cons_zero, List.set_cons_succ]
      refine k_skip rfl rfl rfl rfl rfl ?_; try simp only [Act.put, List.setIfInBounds_toArray, List.set_cons_zero, List.set_cons_succ]
      refine k_skip rfl rfl rfl rfl rfl ?_; try simp only [Act.put, List.setIfInBounds_toArray, List.set_cons_zero, List.set_cons_succ]
      refine k_skip rfl rfl rfl rfl rfl ?_; try simp only [Act.put, List.setIfInBounds_toArray, List.set_cons_zero, List.set_cons_succ]
      refine k_skip rfl rfl rfl rfl rfl ?_; try simp only [Act.put, List.setIfInBounds_toArray, List.set_cons_zero, List.set_cons_succ]
      refine k_skip rfl rfl rfl rfl rfl ?_; try simp only [Act.put, List.setIfInBounds_toArray, List.set_cons_zero, List.set_cons_succ]
      refine k_skip rfl rfl rfl rfl rfl ?_; try simp only [Act.put, List.setIfInBounds_toArray, List.set_cons_zero, List.set_cons_succ]
      refine k_pickF rfl _ _ _ rfl rfl rfl ?_; try simp only [Act.put, List.setIfInBounds_toArray, List.set_cons_zero, List.set_cons_succ]
      refine k_end ?_
      intro w2 hTr
      have hT2 := hT.trans hTr
      go_wp2
      go_ret
      rw [HSTOP.out k (by have := HLL.out.1; omega) (by have := HLL.out.2; omega) HE.out (.inl (by have := HLL.out.1; omega))]
      exact ⟨rfl, hT2⟩
end Go.Proofs.Ytgdojomaknbheaa
