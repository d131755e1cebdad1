/- Common, the program's and the document's; the document's example. -/
import Derived.Test.YtfdihphhmhgejaaM30
import Derived.Test.YtfdihphhmhgejaaM28
set_option linter.unusedVariables false
set_option linter.unusedSimpArgs false
namespace Go.Proofs.Ytfdihphhmhgejaa
open Go.RowKit

/-- How many elements two lists begin alike with. -/
def lcp : List Nat → List Nat → Nat
  | x :: a, y :: b => if x = y then lcp a b + 1 else 0
  | _, _ => 0
theorem lcp_stop : ∀ (n : Nat) (a b : List Nat), n ≤ a.length → n ≤ b.length → a.take n = b.take n → (n = a.length ∨ n = b.length ∨ a.getD n 0 ≠ b.getD n 0) → lcp a b = n
  | 0, [], _, _, _, _, _ => rfl
  | 0, _ :: _, [], _, _, _, _ => rfl
  | 0, x :: a, y :: b, _, _, _, h => by
    rcases h with h | h | h
    · simp at h
    · simp at h
    · show (if x = y then _ else _) = 0
      rw [if_neg (by simpa using h)]
  | n + 1, [], _, h, _, _, _ => by simp at h
  | n + 1, _ :: _, [], _, h, _, _ => by simp at h
  | n + 1, x :: a, y :: b, ha, hb, ht, h => by
    simp only [List.take_succ_cons, List.cons.injEq] at ht
    show (if x = y then _ else _) = n + 1
    rw [if_pos ht.1, lcp_stop n a b (by simpa using ha) (by simpa using hb) ht.2 (by simpa using h)]
theorem take_eq_snoc {a b : List Nat} {n : Nat} (ha : n < a.length) (hb : n < b.length) (h : a.take n = b.take n) (he : a.getD n 0 = b.getD n 0) : a.take (n + 1) = b.take (n + 1) := by
  rw [take_snoc ha, take_snoc hb, h, he]
set_option maxHeartbeats 4000000 in
set_option maxRecDepth 100000 in
theorem common_any (va vb : Value) (a b : List Nat) (w : World) (ha : a.length ≤ 1000000) (hb : b.length ≤ 1000000) (hva : RdA [] w va a) (hvb : RdA [] w vb b) :
    Calls Try.prog 50 #[va, vb] w fun e w' => e = .returned (.int .i64 (lcp a b : Int)) ∧ Tch [] w w' := by
  obtain ⟨pa, n, ca, rfl⟩ := slice_keep hva
  obtain ⟨pb, m, cb, rfl⟩ := slice_keep hvb
  have hla := hva.len
  have hlb := hvb.len
  have HAA := Lib.hid (fun h => hva.at_ h)
  have HBB := Lib.hid (fun h => hvb.at_ h)
  have HLL := Lib.hid (And.intro hla hlb)
  have HSTOP := Lib.hid (lcp_stop · a b)
  have hn6 : n ≤ 1000000 := by omega
  have hm6 : m ≤ 1000000 := by omega
  clear hva hvb hla hlb ha hb
  go_enter Try.func50, Try.ntmps50
  go_wp2
  go_loopw [5] (fun i wr => ∃ k : Nat, i = .int .i64 (k : Int) ∧ k ≤ n ∧ k ≤ m ∧ Tch [] w wr ∧ Hid (a.take k = b.take k)) (fun i _ => n - (intOf i).toNat)
  case atStart => exact ⟨0, rfl, Nat.zero_le _, Nat.zero_le _, Tch.refl _ _, Lib.hid rfl⟩
  case round =>
    obtain ⟨k, rfl, hk, hk2, hT, HE⟩ := hrel
    by_cases hn : k < n
    · have d1 : (k : Int) < (n : Int) := by omega
      by_cases hm : k < m
      · have d2 : (k : Int) < (m : Int) := by omega
        obtain ⟨b1, o1, rfl, hbw1, _, hc1⟩ := HAA.out (by intro e; have := HLL.out.1; subst e; simp at this; omega)
        obtain ⟨b2, o2, rfl, hbw2, _, hc2⟩ := HBB.out (by intro e; have := HLL.out.2; subst e; simp at this; omega)
        have e1 := (hT.cell (p := ⟨b1, o1 + k, none⟩) hbw1 (by simp)).trans (hc1 k (by have := HLL.out.1; omega))
        have e2 := (hT.cell (p := ⟨b2, o2 + k, none⟩) hbw2 (by simp)).trans (hc2 k (by have := HLL.out.2; omega))
        have k0 : (0 : Int) ≤ (k : Int) := by omega
        obtain ⟨x, hx⟩ : ∃ x, x = a.getD k 0 := ⟨_, rfl⟩
        obtain ⟨y, hy⟩ : ∃ y, y = b.getD k 0 := ⟨_, rfl⟩
        rw [← hx] at e1
        rw [← hy] at e2
        have HXY := Lib.hid (And.intro hx hy)
        clear hx hy hc1 hc2
        by_cases hxy : x = y
        · have d3 : ((x : Int) == (y : Int)) = true := by rw [beq_iff_eq]; omega
          have HXE := Lib.hid hxy
          clear hxy
          go_wp2
          refine k_region (C := fun w' => Tch [] wr w') (by kernel_rfl) (by kernel_rfl) ((Tch.refl _ _).drew) ?_
          refine k_intm rfl _ rfl rfl ?_; try simp only [Act.put, List.setIfInBounds_toArray, List.set_cons_zero, List.set_cons_succ]
          refine k_slice rfl _ rfl rfl ?_; try simp only [Act.put, List.setIfInBounds_toArray, List.set_cons_zero, List.set_cons_succ]
          refine k_lenSl rfl _ rfl rfl ?_; try simp only [Act.put, List.setIfInBounds_toArray, List.set_cons_zero, List.set_cons_succ]
          refine k_lss rfl _ _ _ rfl rfl rfl (by simp only [decide_eq_true_eq, decide_eq_false_iff_not]; omega) (t := true) ?_; try simp only [Act.put, List.setIfInBounds_toArray, List.set_cons_zero, List.set_cons_succ]
          refine k_boolm rfl _ rfl rfl ?_; try simp only [Act.put, List.setIfInBounds_toArray, List.set_cons_zero, List.set_cons_succ]
          refine k_intm rfl _ rfl rfl ?_; try simp only [Act.put, List.setIfInBounds_toArray, List.set_cons_zero, List.set_cons_succ]
          refine k_slice rfl _ rfl rfl ?_; try simp only [Act.put, List.setIfInBounds_toArray, List.set_cons_zero, List.set_cons_succ]
          refine k_lenSl rfl _ rfl rfl ?_; try simp only [Act.put, List.setIfInBounds_toArray, List.set_cons_zero, List.set_cons_succ]
          refine k_lss rfl _ _ _ rfl rfl rfl (by simp only [decide_eq_true_eq, decide_eq_false_iff_not]; omega) (t := true) ?_; try simp only [Act.put, List.setIfInBounds_toArray, List.set_cons_zero, List.set_cons_succ]
          refine k_pickT rfl _ _ _ rfl rfl rfl ?_; try simp only [Act.put, List.setIfInBounds_toArray, List.set_cons_zero, List.set_cons_succ]
          refine k_boolm rfl _ rfl rfl ?_; try simp only [Act.put, List.setIfInBounds_toArray, List.set_cons_zero, List.set_cons_succ]
          refine k_slice rfl _ rfl rfl ?_; try simp only [Act.put, List.setIfInBounds_toArray, List.set_cons_zero, List.set_cons_succ]
          refine k_intm rfl _ rfl rfl ?_; try simp only [Act.put, List.setIfInBounds_toArray, List.set_cons_zero, List.set_cons_succ]
          refine k_idxSl rfl _ _ _ rfl rfl rfl bytes_ty u8_size hn ?_; try simp only [Act.put, List.setIfInBounds_toArray, List.set_cons_zero, List.set_cons_succ]
          refine k_cellC rfl _ _ rfl rfl (fun w' h => (h.cell (p := ⟨b1, o1 + k, none⟩) (Nat.lt_of_lt_of_le hbw1 hT.size) (by simp)).trans e1) u8_agg ?_; try simp only [Act.put, List.setIfInBounds_toArray, List.set_cons_zero, List.set_cons_succ]
          refine k_slice rfl _ rfl rfl ?_; try simp only [Act.put, List.setIfInBounds_toArray, List.set_cons_zero, List.set_cons_succ]
          refine k_intm rfl _ rfl rfl ?_; try simp only [Act.put, List.setIfInBounds_toArray, List.set_cons_zero, List.set_cons_succ]
          refine k_idxSl rfl _ _ _ rfl rfl rfl bytes_ty u8_size hm ?_; try simp only [Act.put, List.setIfInBounds_toArray, List.set_cons_zero, List.set_cons_succ]
          refine k_cellC rfl _ _ rfl rfl (fun w' h => (h.cell (p := ⟨b2, o2 + k, none⟩) (Nat.lt_of_lt_of_le hbw2 hT.size) (by simp)).trans e2) u8_agg ?_; try simp only [Act.put, List.setIfInBounds_toArray, List.set_cons_zero, List.set_cons_succ]
          refine k_u8 rfl _ _ _ rfl rfl rfl d3 ?_; try simp only [Act.put, List.setIfInBounds_toArray, List.set_cons_zero, List.set_cons_succ]
          refine k_pickT rfl _ _ _ rfl rfl rfl ?_; try simp only [Act.put, List.setIfInBounds_toArray, List.set_cons_zero, List.set_cons_succ]
          refine k_end ?_
          intro w2 hTr
          have hT2 := hT.trans hTr
          go_wp2
          go_roundw
          case rel => exact ⟨k + 1, by go_num, hn, hm, hT2, Lib.hid (take_eq_snoc (by have := HLL.out.1; omega) (by have := HLL.out.2; omega) HE.out (by rw [← HXY.out.1, ← HXY.out.2]; exact HXE.out))⟩
          case measure => simp [intOf]; omega
        · have d3 : ((x : Int) == (y : Int)) = false := by rw [beq_eq_false_iff_ne]; omega
          have HXE := Lib.hid hxy
          clear hxy
          go_wp2
          refine k_region (C := fun w' => Tch [] wr w') (by kernel_rfl) (by kernel_rfl) ((Tch.refl _ _).drew) ?_
          refine k_intm rfl _ rfl rfl ?_; try simp only [Act.put, List.setIfInBounds_toArray, List.set_cons_zero, List.set_cons_succ]
          refine k_slice rfl _ rfl rfl ?_; try simp only [Act.put, List.setIfInBounds_toArray, List.set_cons_zero, List.set_cons_succ]
          refine k_lenSl rfl _ rfl rfl ?_; try simp only [Act.put, List.setIfInBounds_toArray, List.set_cons_zero, List.set_cons_succ]
          refine k_lss rfl _ _ _ rfl rfl rfl (by simp only [decide_eq_true_eq, decide_eq_false_iff_not]; omega) (t := true) ?_; try simp only [Act.put, List.setIfInBounds_toArray, List.set_cons_zero, List.set_cons_succ]
          refine k_boolm rfl _ rfl rfl ?_; try simp only [Act.put, List.setIfInBounds_toArray, List.set_cons_zero, List.set_cons_succ]
          refine k_intm rfl _ rfl rfl ?_; try simp only [Act.put, List.setIfInBounds_toArray, List.set_cons_zero, List.set_cons_succ]
          refine k_slice rfl _ rfl rfl ?_; try simp only [Act.put, List.setIfInBounds_toArray, List.set_cons_zero, List.set_cons_succ]
          refine k_lenSl rfl _ rfl rfl ?_; try simp only [Act.put, List.setIfInBounds_toArray, List.set_cons_zero, List.set_cons_succ]
          refine k_lss rfl _ _ _ rfl rfl rfl (by simp only [decide_eq_true_eq, decide_eq_false_iff_not]; omega) (t := true) ?_; try simp only [Act.put, List.setIfInBounds_toArray, List.set_cons_zero, List.set_cons_succ]
          refine k_pickT rfl _ _ _ rfl rfl rfl ?_; try simp only [Act.put, List.setIfInBounds_toArray, List.set_cons_zero, List.set_cons_succ]
          refine k_boolm rfl _ rfl rfl ?_; try simp only [Act.put, List.setIfInBounds_toArray, List.set_cons_zero, List.set_cons_succ]
          refine k_slice rfl _ rfl rfl ?_; try simp only [Act.put, List.setIfInBounds_toArray, List.set_cons_zero, List.set_cons_succ]
          refine k_intm rfl _ rfl rfl ?_; try simp only [Act.put, List.setIfInBounds_toArray, List.set_cons_zero, List.set_cons_succ]
          refine k_idxSl rfl _ _ _ rfl rfl rfl bytes_ty u8_size hn ?_; try simp only [Act.put, List.setIfInBounds_toArray, List.set_cons_zero, List.set_cons_succ]
          refine k_cellC rfl _ _ rfl rfl (fun w' h => (h.cell (p := ⟨b1, o1 + k, none⟩) (Nat.lt_of_lt_of_le hbw1 hT.size) (by simp)).trans e1) u8_agg ?_; try simp only [Act.put, List.setIfInBounds_toArray, List.set_cons_zero, List.set_cons_succ]
          refine k_slice rfl _ rfl rfl ?_; try simp only [Act.put, List.setIfInBounds_toArray, List.set_cons_zero, List.set_cons_succ]
          refine k_intm rfl _ rfl rfl ?_; try simp only [Act.put, List.setIfInBounds_toArray, List.set_cons_zero, List.set_cons_succ]
          refine k_idxSl rfl _ _ _ rfl rfl rfl bytes_ty u8_size hm ?_; try simp only [Act.put, List.setIfInBounds_toArray, List.set_cons_zero, List.set_cons_succ]
          refine k_cellC rfl _ _ rfl rfl (fun w' h => (h.cell (p := ⟨b2, o2 + k, none⟩) (Nat.lt_of_lt_of_le hbw2 hT.size) (by simp)).trans e2) u8_agg ?_; try simp only [Act.put, List.setIfInBounds_toArray, List.set_cons_zero, List.set_cons_succ]
          refine k_u8 rfl _ _ _ rfl rfl rfl d3 ?_; try simp only [Act.put, List.setIfInBounds_toArray, List.set_cons_zero, List.set_cons_succ]
          refine k_pickT rfl _ _ _ rfl rfl rfl ?_; try simp only [Act.put, List.setIfInBounds_toArray, List.set_cons_zero, List.set_cons_succ]
          refine k_end ?_
          intro w2 hTr
          have hT2 := hT.trans hTr
          go_wp2
          go_ret
          rw [HSTOP.out k (by have := HLL.out.1; omega) (by have := HLL.out.2; omega) HE.out (.inr (.inr (by rw [← HXY.out.1, ← HXY.out.2]; exact HXE.out)))]
          exact ⟨rfl, hT2⟩
      · have d2 : ¬ (k : Int) < (m : Int) := by omega
        go_wp2
        refine k_region (C := fun w' => Tch [] wr w') (by kernel_rfl) (by kernel_rfl) ((Tch.refl _ _).drew) ?_
        refine k_intm rfl _ rfl rfl ?_; try simp only [Act.put, List.setIfInBounds_toArray, List.set_cons_zero, List.set_cons_succ]
        refine k_slice rfl _ rfl rfl ?_; try simp only [Act.put, List.setIfInBounds_toArray, List.set_cons_zero, List.set_cons_succ]
        refine k_lenSl rfl _ rfl rfl ?_; try simp only [Act.put, List.setIfInBounds_toArray, List.set_cons_zero, List.set_cons_succ]
        refine k_lss rfl _ _ _ rfl rfl rfl (by simp only [decide_eq_true_eq, decide_eq_false_iff_not]; omega) (t := true) ?_; try simp only [Act.put, List.setIfInBounds_toArray, List.set_cons_zero, List.set_cons_succ]
        refine k_boolm rfl _ rfl rfl ?_; try simp only [Act.put, List.setIfInBounds_toArray, List.set_cons_zero, List.set_cons_succ]
        refine k_intm rfl _ rfl rfl ?_; try simp only [Act.put, List.setIfInBounds_toArray, List.set_cons_zero, List.set_cons_succ]
        refine k_slice rfl _ rfl rfl ?_; try simp only [Act.put, List.setIfInBounds_toArray, List.set_cons_zero, List.set_cons_succ]
        refine k_lenSl rfl _ rfl rfl ?_; try simp only [Act.put, List.setIfInBounds_toArray, List.set_cons_zero, List.set_cons_succ]
        refine k_lss rfl _ _ _ rfl rfl rfl (by simp only [decide_eq_true_eq, decide_eq_false_iff_not]; omega) (t := false) ?_; try simp only [Act.put, List.setIfInBounds_toArray, List.set_cons_zero, List.set_cons_succ]
        refine k_pickT rfl _ _ _ rfl rfl rfl ?_; try simp only [Act.put, List.setIfInBounds_toArray, List.set_cons_zero, List.set_cons_succ]
        refine k_boolm rfl _ rfl rfl ?_; try simp only [Act.put, List.setIfInBounds_toArray, List.set_cons_zero, List.set_cons_succ]
        refine k_skip rfl rfl rfl rfl rfl ?_; try simp only [Act.put, List.setIfInBounds_toArray, List.set_cons_zero, List.set_cons_succ]
        refine k_skip rfl rfl rfl rfl rfl ?_; try simp only [Act.put, List.setIfInBounds_toArray, List.set_cons_zero, List.set_cons_succ]
        refine k_skip rfl rfl rfl rfl rfl ?_; try simp only [Act.put, List.setIfInBounds_toArray, List.set_cons_zero, List.set_cons_succ]
        refine k_skip rfl rfl rfl rfl rfl ?_; try simp only [Act.put, List.setIfInBounds_toArray, List.set_cons_zero, List.set_cons_succ]
        refine k_skip rfl rfl rfl rfl rfl ?_; try simp only [Act.put, List.setIfInBounds_toArray, List.set_cons_zero, List.set_cons_succ]
        refine k_skip rfl rfl rfl rfl rfl ?_; try simp only [Act.put, List.setIfInBounds_toArray, List.set_cons_zero, List.set_cons_succ]
        refine k_skip rfl rfl rfl rfl rfl ?_; try simp only [Act.put, List.setIfInBounds_toArray, List.set_cons_zero, List.set_cons_succ]
        refine k_skip rfl rfl rfl rfl rfl ?_; try simp only [Act.put, List.setIfInBounds_toArray, List.set_cons_zero, List.set_cons_succ]
        refine k_skip rfl rfl rfl rfl rfl ?_; try simp only [Act.put, List.setIfInBounds_toArray, List.set_cons_zero, List.set_cons_succ]
        refine k_pickF rfl _ _ _ rfl rfl rfl ?_; try simp only [Act.put, List.setIfInBounds_toArray, List.set_cons_zero, List.set_cons_succ]
        refine k_end ?_
        intro w2 hTr
        have hT2 := hT.trans hTr
        go_wp2
        go_ret
        rw [HSTOP.out k (by have := HLL.out.1; omega) (by have := HLL.out.2; omega) HE.out (.inr (.inl (by have := HLL.out.2; omega)))]
        exact ⟨rfl, hT2⟩
    · have d1 : ¬ (k : Int) < (n : Int) := by omega
      go_wp2
      refine k_region (C := fun w' => Tch [] wr w') (by kernel_rfl) (by kernel_rfl) ((Tch.refl _ _).drew) ?_
      refine k_intm rfl _ rfl rfl ?_; try simp only [Act.put, List.setIfInBounds_toArray, List.set_cons_zero, List.set_cons_succ]
      refine k_slice rfl _ rfl rfl ?_; try simp only [Act.put, List.setIfInBounds_toArray, List.set_cons_zero, List.set_cons_succ]
      refine k_lenSl rfl _ rfl rfl ?_; try simp only [Act.put, List.setIfInBounds_toArray, List.set_cons_zero, List.set_cons_succ]
      refine k_lss rfl _ _ _ rfl rfl rfl (by simp only [decide_eq_true_eq, decide_eq_false_iff_not]; omega) (t := false) ?_; try simp only [Act.put, List.setIfInBounds_toArray, List.set_cons_zero, List.set_cons_succ]
      refine k_boolm rfl _ rfl rfl ?_; try simp only [Act.put, List.setIfInBounds_toArray, List.set_cons_zero, List.set_cons_succ]
      refine k_skip rfl rfl rfl rfl rfl ?_; try simp only [Act.put, List.setIfInBounds_toArray, List.set_cons_zero, List.set_cons_succ]
      refine k_skip rfl rfl rfl rfl rfl ?_; try simp only [Act.put, List.setIfInBounds_toArray, List.set_cons_zero, List.set_cons_succ]
      refine k_skip rfl rfl rfl rfl rfl ?_; try simp only [Act.put, List.setIfInBounds_toArray, List.set_cons_zero, List.set_cons_succ]
      refine k_skip rfl rfl rfl rfl rfl ?_; try simp only [Act.put, List.setIfInBounds_toArray, List.set_cons_zero, List.set_cons_succ]
      refine k_pickF rfl _ _ _ rfl rfl rfl ?_; try simp only [Act.put, List.setIfInBounds_toArray, List.set_cons_zero, List.set_cons_succ]
      refine k_boolm rfl _ rfl rfl ?_; try simp only [Act.put, List.setIfInBounds_toArray, List.set_cons_zero, List.set_cons_succ]
      refine k_skip rfl rfl rfl rfl rfl ?_; try simp only [Act.put, List.setIfInBounds_toArray, List.set_cons_zero, List.set_cons_succ]
      refine k_skip rfl rfl rfl rfl rfl ?_; try simp only [Act.put, List.setIfInBounds_toArray, List.set_cons_zero, List.set_cons_succ]
      refine k_skip rfl rfl rfl rfl rfl ?_; try simp only [Act.put, List.setIfInBounds_toArray, List.set_cons_zero, List.set_cons_succ]
      refine k_skip rfl rfl rfl rfl rfl ?_; try simp only [Act.put, List.setIfInBounds_toArray, List.set_cons_zero, List.set_cons_succ]
      refine k_skip rfl rfl rfl rfl rfl ?_; try simp only [Act.put, List.setIfInBounds_toArray, List.set_cons_zero, List.set_cons_succ]
      refine k_skip rfl rfl rfl rfl rfl ?_; try simp only [Act.put, List.setIfInBounds_toArray, List.set_cons_zero, List.set_cons_succ]
      refine k_skip rfl rfl rfl rfl rfl ?_; try simp only [Act.put, List.setIfInBounds_toArray, List.set_cons_zero, List.set_cons_succ]
      refine k_skip rfl rfl rfl rfl rfl ?_; try simp only [Act.put, List.setIfInBounds_toArray, List.set_cons_zero, List.set_cons_succ]
      refine k_skip rfl rfl rfl rfl rfl ?_; try simp only [Act.put, List.setIfInBounds_toArray, List.set_cons_zero, List.set_cons_succ]
      refine k_pickF rfl _ _ _ rfl rfl rfl ?_; try simp only [Act.put, List.setIfInBounds_toArray, List.set_cons_zero, List.set_cons_succ]
      refine k_end ?_
      intro w2 hTr
      have hT2 := hT.trans hTr
      go_wp2
      go_ret
      rw [HSTOP.out k (by have := HLL.out.1; omega) (by have := HLL.out.2; omega) HE.out (.inl (by have := HLL.out.1; omega))]
      exact ⟨rfl, hT2⟩
end Go.Proofs.Ytfdihphhmhgejaa

/- build: an extension. -/
namespace Go.Proofs.Ytfdihphhmhgejaa
open Go.RowKit Tr

theorem lcp_cp : ∀ a b : List Nat, lcp a b = cp a b
  | [], [] => rfl
  | [], _ :: _ => rfl
  | _ :: _, [] => rfl
  | x :: a, y :: b => by
    show (if x = y then lcp a b + 1 else 0) = (if x = y then cp a b + 1 else 0)
    rw [lcp_cp a b]
theorem PairsAt.take {w : World} {p : Option Addr} {n c : Nat} {es : List En} (h : PairsAt w (.slice p n c) es) (k : Nat) (hk : k ≤ n) : PairsAt w (.slice p k c) (es.take k) := by
  obtain ⟨p', c', h1, h2, h3⟩ := h
  cases h1
  refine ⟨p, c, by rw [List.length_take, Nat.min_eq_left hk], by rw [List.length_take]; omega, fun hn => ?_⟩
  have hne : es ≠ [] := by intro e; subst e; simp at hn
  obtain ⟨b, o, h4, h5, h6⟩ := h3 hne
  refine ⟨b, o, h4, h5, fun i hi => ?_⟩
  obtain ⟨kv, vv, g0, g1, g2, g3⟩ := h6 i (by rw [List.length_take] at hi; omega)
  exact ⟨kv, vv, g0, g1, by simpa using g2, by simpa using g3⟩
theorem slice_fromE {w : World} {p : Option Addr} {n c : Nat} {es : List En} (h : PairsAt w (.slice p n c) es) (k : Nat) (hk : k ≤ n) (hn : n ≤ 4611686018427387904) : ∃ p' c', (∀ w, (Instr.sliceAt 72 (.slice p n c) (some (.int .i64 (k : Int))) none none).run Try.prog w = .ok (.slice p' (n - k) c') w) ∧ PairsAt w (.slice p' (n - k) c') (es.drop k) := by
  have hnc : n ≤ c ∧ n = es.length := by
    obtain ⟨p', c', h1, h2, _⟩ := h
    cases h1
    exact ⟨h2, rfl⟩
  refine ⟨if c = k then p else p.map (·.add (k * 2)), c - k, fun w => ?_, ?_⟩
  · have hel : Try.prog.elem 72 = 93 := by kernel_rfl
    have ht : Try.prog.underlying 72 = some (.slice (Try.prog.elem 72)) := by rw [hel]; exact entries_ty
    have e1 := run_sliceAt_slice (P := Try.prog) (w := w) 72 (.slice p n c) (some (.int .i64 (k : Int))) none none ht
    have e2 := run_slice_l (P := Try.prog) (w := w) 72 p n c ht .i64 (k : Int) (by omega) (by omega)
    rw [e1, e2, hel, ent_sizeOf]
    simp [Result.andThen, sliced]
  · obtain ⟨p', c', h1, h2, h3⟩ := h
    cases h1
    refine ⟨_, _, by rw [List.length_drop], by rw [List.length_drop]; omega, fun hl => ?_⟩
    have hlt : k < es.length := by
      rcases Nat.lt_or_ge k es.length with h | h
      · exact h
      · exact absurd (List.drop_eq_nil_of_le h) hl
    obtain ⟨b, o, rfl, h5, h6⟩ := h3 (by intro e; subst e; simp at hlt)
    refine ⟨b, o + k * 2, ?_, h5, fun i hi => ?_⟩
    · rw [if_neg (by omega)]
      simp only [Option.map_some, Addr.add]
      split
      · rename_i h0; rw [h0]; rfl
      · rfl
    · rw [List.length_drop] at hi
      obtain ⟨kv, vv, g0, g1, g2, g3⟩ := h6 (k + i) (by omega)
      refine ⟨kv, vv, ?_, ?_, ?_, ?_⟩
      · rw [show o + k * 2 + i * 2 = o + (k + i) * 2 by omega]; exact g0
      · rw [show o + k * 2 + i * 2 + 1 = o + (k + i) * 2 + 1 by omega]; exact g1
      · rw [List.getElem_drop]; exact g2
      · rw [List.getElem_drop]; exact g3
theorem slice_toE (p : Option Addr) (n c k : Nat) (hk : k ≤ n) (hc : n ≤ c) (hn : n ≤ 4611686018427387904) (w : World) : (Instr.sliceAt 72 (.slice p n c) none (some (.int .i64 (k : Int))) none).run Try.prog w = .ok (.slice p k c) w := by
  have hel : Try.prog.elem 72 = 93 := by kernel_rfl
  have ht : Try.prog.underlying 72 = some (.slice (Try.prog.elem 72)) := by rw [hel]; exact entries_ty
  have e1 := run_sliceAt_slice (P := Try.prog) (w := w) 72 (.slice p n c) none (some (.int .i64 (k : Int))) none ht
  have e2 := run_slice_h (P := Try.prog) (w := w) 72 p n c ht .i64 (k : Int) (by omega) (by omega)
  rw [e1, e2, hel, ent_sizeOf]
  cases p <;> simp [Result.andThen, sliced, Addr.add]
/-- What build may be asked of. -/
structure GoodE (D : Nat) (es : List En) : Prop where
  len : es.length ≤ 100000
  dep : ∀ e ∈ es, D ≤ e.1.length ∧ e.1.length ≤ 128 ∧ ∀ x ∈ e.1, x < 16
  srt : Sorted (rests D es)
theorem rests_rests (n D : Nat) (es : List En) : rests n (rests D es) = rests (D + n) es := by
  unfold rests
  rw [List.map_map]
  apply List.map_congr_left
  intro e _
  simp [List.drop_drop]
theorem TreeV.shape {B : Nat} {w : World} {T : TN} {v : Value} (h : TreeV B w T v) : v = .nilIface ∨ ∃ t a, v = .iface t (.pointer (some a)) := by
  cases T with
  | nil => exact .inl h
  | leaf p u => obtain ⟨b, _, _, h, _⟩ := h; exact .inr ⟨_, _, h⟩
  | ext p s => obtain ⟨b, _, _, h, _⟩ := h; exact .inr ⟨_, _, h⟩
  | branch s u => obtain ⟨b, _, _, h, _⟩ := h; exact .inr ⟨_, _, h⟩
theorem build_extN (p : Option Addr) (n c : Nat) (t : TypeId) (a : Addr) (w : World) : (Instr.build 103 #[(0, .slice p n c), (1, .iface t (.pointer (some a)))]).run Try.prog w = .ok (.agg #[.slice p n c, .iface t (.pointer (some a))]) w := by kernel_rfl
theorem build_extZ (p : Option Addr) (n c : Nat) (w : World) : (Instr.build 103 #[(0, .slice p n c), (1, .nilIface)]).run Try.prog w = .ok (.agg #[.slice p n c, .nilIface]) w := by kernel_rfl
theorem build_extV {B : Nat} {w0 : World} {T : TN} {v : Value} (h : TreeV B w0 T v) (p : Option Addr) (n c : Nat) (w : World) : (Instr.build 103 #[(0, .slice p n c), (1, v)]).run Try.prog w = .ok (.agg #[.slice p n c, v]) w := by
  rcases h.shape with rfl | ⟨t, a, rfl⟩
  · exact build_extZ p n c w
  · exact build_extN p n c t a w
section
variable {o : Oper} {a : Act} {ops : Array Oper} {rest : List Oper} {C : World → Prop} {Q : Act → Prop}
theorem k_fromS {v u n : Value} (hw : Region.wanted o (yielded ops a.tmps) = true) (x y : Operand) (t : TypeId) (ho : o.op = .slice t x (some y) none none) (hx : a.eval x = v) (hy : a.eval y = n) (hr : ∀ w, (Instr.sliceAt t v (some n) none none).run Try.prog w = .ok u w)
    (h : KQ ops C Q rest (a.put o.dst u)) : KQ ops C Q (o :: rest) a := k_pure hw (fun w => x_from x y t ho hx hy (hr w)) h
theorem k_lenE {p : Option Addr} {n c : Nat} (hw : Region.wanted o (yielded ops a.tmps) = true) (x : Operand) (ho : o.op = .call { callee := .builtin .len, args := #[x], argTypes := #[72] }) (hx : a.eval x = .slice p n c)
    (h : KQ ops C Q rest (a.put o.dst (.int .i64 (n : Int)))) : KQ ops C Q (o :: rest) a :=
  k_pure hw (fun w => by unfold execOp; simp [ho, resolve, invoke, builtin, hx, Builtin.len_, run_underlying entries_ty, goInt]) h
end
section
variable {a : Act} {w : World} {o : Oper}
theorem x_addD {m n : Nat} {x y : Operand} {ty yt : TypeId} (hm : m + n < 1000000000) (ho : o.op = .binOp .add 3 x y yt) (hx : a.eval x = .int .i64 (m : Int)) (hy : a.eval y = .int .i64 (n : Int)) : (execOp a.eval o).run Try.prog w = .ok (.value (.int .i64 ((m + n : Nat) : Int))) w := x_addN hm ho hx hy
end
def BuildOK (f : Nat) : Prop := ∀ (v : Value) (es : List En) (D : Nat) (w : World), PairsAt w v es → GoodE D es → D ≤ 128 → longest (rests D es) < f → Calls Try.prog 33 #[v, .int .i64 (D : Int)] w (BuildPost (buildT f (rests D es)) w)
set_option maxHeartbeats 4000000 in
set_option maxRecDepth 100000 in
theorem build_ext (f : Nat) (ih : BuildOK f) (v : Value) (es : List En) (D : Nat) (w : World) (hv : PairsAt w v es) (hg : GoodE D es) (h2 : 2 ≤ es.length) (e0 e1 : En) (he0 : e0 = es[0]'(by omega)) (he1 : e1 = es[es.length - 1]'(by omega))
    (hpos : 0 < cp (e0.1.drop D) (e1.1.drop D)) (hsh : Share (rests D es) (cp (e0.1.drop D) (e1.1.drop D))) (hlo : longest (rests D es) < f + 1) :
    Calls Try.prog 33 #[v, .int .i64 (D : Int)] w (BuildPost (.ext ((e0.1.drop D).take (cp (e0.1.drop D) (e1.1.drop D))) (buildT f (rests (cp (e0.1.drop D) (e1.1.drop D)) (rests D es)))) w) := by
  obtain ⟨p, c, rfl, hc, hcells⟩ := id hv
  obtain ⟨b, o, rfl, hbw, hcs⟩ := hcells (by intro e; subst e; simp at h2)
  obtain ⟨n, hnn⟩ : ∃ n, n = es.length := ⟨_, rfl⟩
  have hn2 : 2 ≤ n := by omega
  obtain ⟨kv, vv, g0, gx0, hkv, hvx0⟩ := hcs 0 (by omega)
  obtain ⟨kv1, vv1, g1, gx1, hkv1, hvx1⟩ := hcs (es.length - 1) (by omega)
  clear gx0 hvx0 gx1 hvx1
  rw [← he0] at hkv
  rw [← he1] at hkv1
  have hd0 := hg.dep e0 (by rw [he0]; exact List.getElem_mem _)
  have hd1 := hg.dep e1 (by rw [he1]; exact List.getElem_mem _)
  obtain ⟨p0, c0, hsl0, hfr0⟩ := from_rd hkv D hd0.1
  obtain ⟨p1, c1, hsl1, hfr1⟩ := from_rd hkv1 D hd1.1
  obtain ⟨q1, c2, rfl⟩ := hkv.shape'
  obtain ⟨q2, c3, rfl⟩ := hkv1.shape'
  rw [← hnn] at hc hv ⊢
  rw [← hnn] at g1
  have HC0 := Lib.hid (fun (w' : World) (hT : Tch [] w w') => (hT.cell (p := ⟨b, o + 0 * 2, none⟩) hbw (by simp)).trans g0)
  have HC1 := Lib.hid (fun (w' : World) (hT : Tch [] w w') => (hT.cell (p := ⟨b, o + (n - 1) * 2, none⟩) hbw (by simp)).trans g1)
  have HS0 := Lib.hid hsl0
  have HS1 := Lib.hid hsl1
  have HJ := Lib.hid (And.intro (show 0 < n by omega) (show n - 1 < n by omega))
  have HW := Lib.hid (show IntKind.i64.wrap ((n : Int) - 1) = ((n - 1 : Nat) : Int) by have := hg.len; rw [IntWalk.i64_in _ (by omega)]; omega)
  have HCM := Lib.hid (fun (w' : World) (hT : Tch [] w w') => common_any _ _ (e0.1.drop D) (e1.1.drop D) w' (by rw [List.length_drop]; omega) (by rw [List.length_drop]; omega) (hfr0.tch hT (by simp)).rdA0 (hfr1.tch hT (by simp)).rdA0)
  obtain ⟨m, hm⟩ : ∃ m, m = cp (e0.1.drop D) (e1.1.drop D) := ⟨_, rfl⟩
  simp only [lcp_cp, ← hm] at HCM
  have hmle : m ≤ e0.1.length - D := by
    have := (le_cp (n := m) (a := e0.1.drop D) (b := e1.1.drop D)).1 (Nat.le_of_eq hm)
    rw [List.length_drop] at this
    exact this.1
  have d1 : ((n : Int) == 0) = false := beq_eq_false_iff_ne.2 (by omega)
  have d2 : ((n : Int) == 1) = false := beq_eq_false_iff_ne.2 (by omega)
  rw [← hm] at hpos hsh ⊢
  have hgm : GoodE (D + m) es := ⟨hg.len, fun e he => by
    have h1 := hg.dep e he
    have h3 := (hsh (e.1.drop D, e.2) (List.mem_map.2 ⟨e, he, rfl⟩)).1
    rw [List.length_drop] at h3
    exact ⟨by omega, h1.2⟩, by rw [← rests_rests]; exact hg.srt.rests hsh⟩
  have hlm : longest (rests (D + m) es) < f := by
    rw [← rests_rests]
    rcases longest_rests hpos hsh hlo with h | h
    · exact h
    · have : es = [] := by simpa [rests] using h
      rw [this] at h2
      simp at h2
  have hD128 : D + m ≤ 128 := by have := hd0.2.1; have := hd0.1; omega
  have HIH := Lib.hid (fun (w' : World) (hT : Tch [] w w') => ih (.slice (some ⟨b, o, none⟩) n c) es (D + m) w' (hv.tch hT) hgm hD128 hlm)
  rw [rests_rests]
  have HFR := Lib.hid hfr0
  have hpi : (0 : Int) < (m : Int) := by omega
  have HM := Lib.hid (And.intro hmle (And.intro hpos hD128))
  have hcc0 : e0.1.length - D ≤ c0 := by
    obtain ⟨_, _, h1, h3, _⟩ := hfr0
    rw [List.length_drop] at h1 h3
    cases h1
    exact h3
  have HTO := Lib.hid (fun w' => slice_toP p0 (e0.1.length - D) c0 m hmle hcc0 w')
  have HNN := Lib.hid hnn
  clear hcells hcs g0 g1 hkv hkv1 hfr0 hfr1 hsl0 hsl1 hm hmle hpos hsh hlo hlm hgm he0 he1 hd0 hd1 hg hv ih hcc0 hnn h2
  go_enter Try.func33, Try.ntmps33
  go_upto_region 6 with fail
  refine k_region (C := fun w' => Tch [] w w') (by kernel_rfl) (by kernel_rfl) ((Tch.refl _ _).drew) ?_
  refine k_slice rfl _ rfl rfl ?_; try simp only [Act.put, List.setIfInBounds_toArray, List.set_cons_zero, List.set_cons_succ]
  refine k_idxE (j := 0) rfl _ _ rfl rfl (by rfl) HJ.out.1 ?_; try simp only [Act.put, List.setIfInBounds_toArray, List.set_cons_zero, List.set_cons_succ]
  refine k_fa rfl _ _ _ rfl rfl (fa_ent0 _ _) ?_; try simp only [Act.put, List.setIfInBounds_toArray, List.set_cons_zero, List.set_cons_succ]
  refine k_cellC rfl _ _ rfl rfl (fun w' h => HC0.out w' h) bytes_agg ?_; try simp only [Act.put, List.setIfInBounds_toArray, List.set_cons_zero, List.set_cons_succ]
  refine k_intm rfl _ rfl rfl ?_; try simp only [Act.put, List.setIfInBounds_toArray, List.set_cons_zero, List.set_cons_succ]
  refine k_fromS rfl _ _ _ rfl rfl rfl HS0.out ?_; try simp only [Act.put, List.setIfInBounds_toArray, List.set_cons_zero, List.set_cons_succ]
  refine k_slice rfl _ rfl rfl ?_; try simp only [Act.put, List.setIfInBounds_toArray, List.set_cons_zero, List.set_cons_succ]
  refine k_slice rfl _ rfl rfl ?_; try simp only [Act.put, List.setIfInBounds_toArray, List.set_cons_zero, List.set_cons_succ]
  refine k_lenE rfl _ rfl rfl ?_; try simp only [Act.put, List.setIfInBounds_toArray, List.set_cons_zero, List.set_cons_succ]
  refine k_sub (s := ((n - 1 : Nat) : Int)) rfl _ _ _ _ rfl rfl rfl HW.out ?_; try simp only [Act.put, List.setIfInBounds_toArray, List.set_cons_zero, List.set_cons_succ]
  refine k_idxE (j := n - 1) rfl _ _ rfl rfl rfl HJ.out.2 ?_; try simp only [Act.put, List.setIfInBounds_toArray, List.set_cons_zero, List.set_cons_succ]
  refine k_fa rfl _ _ _ rfl rfl (fa_ent0 _ _) ?_; try simp only [Act.put, List.setIfInBounds_toArray, List.set_cons_zero, List.set_cons_succ]
  refine k_cellC rfl _ _ rfl rfl (fun w' h => HC1.out w' h) bytes_agg ?_; try simp only [Act.put, List.setIfInBounds_toArray, List.set_cons_zero, List.set_cons_succ]
  refine k_intm rfl _ rfl rfl ?_; try simp only [Act.put, List.setIfInBounds_toArray, List.set_cons_zero, List.set_cons_succ]
  refine k_fromS rfl _ _ _ rfl rfl rfl HS1.out ?_; try simp only [Act.put, List.setIfInBounds_toArray, List.set_cons_zero, List.set_cons_succ]
  refine k_val (v := .slice p0 (e0.1.length - D) c0) rfl _ (.inr rfl) rfl ?_; try simp only [Act.put, List.setIfInBounds_toArray, List.set_cons_zero, List.set_cons_succ]
  refine k_val (v := .slice p1 (e1.1.length - D) c1) rfl _ (.inr rfl) rfl ?_; try simp only [Act.put, List.setIfInBounds_toArray, List.set_cons_zero, List.set_cons_succ]
  refine k_end ?_
  intro w1 hT1
  go_upto_region 9 with (go_at_call 50; refine (HCM.out _ hT1).mono ?_; rintro e w2 ⟨rfl, hT2⟩; replace hT1 := hT1.trans hT2; clear hT2)
  refine wp_region_held_drew (S := fun w' => Tch [] w w') (by kernel_rfl) (hT1.drew) (fun hC => ?_)
  generalize World.drew w2 = u0 at hC ⊢
  refine held_in (v := .slice p0 (e0.1.length - D) c0) 0 rfl (by kernel_rfl) (by kernel_rfl) (by kernel_rfl) (fun _ _ _ h => h) hC rfl (fun w' hw' => x_val (.inl rfl) rfl) ?_
  try simp only [Act.put, List.setIfInBounds_toArray, List.set_cons_zero, List.set_cons_succ]
  refine held_in (v := .int .i64 (m : Int)) 1 rfl (by kernel_rfl) (by kernel_rfl) (by kernel_rfl) (fun _ _ _ h => h) hC rfl (fun w' hw' => x_val (.inl rfl) rfl) ?_
  try simp only [Act.put, List.setIfInBounds_toArray, List.set_cons_zero, List.set_cons_succ]
  refine held_in (v := .slice p0 m c0) 2 rfl (by kernel_rfl) (by kernel_rfl) (by kernel_rfl) (fun _ _ _ h => h) hC rfl (fun w' hw' => x_to _ _ _ rfl rfl rfl (HTO.out w')) ?_
  try simp only [Act.put, List.setIfInBounds_toArray, List.set_cons_zero, List.set_cons_succ]
  refine held_in (v := (.slice (some ⟨b, o, none⟩) n c)) 3 rfl (by kernel_rfl) (by kernel_rfl) (by kernel_rfl) (fun _ _ _ h => h) hC rfl (fun w' hw' => x_val (.inl rfl) rfl) ?_
  try simp only [Act.put, List.setIfInBounds_toArray, List.set_cons_zero, List.set_cons_succ]
  refine held_in (v := .int .i64 (D : Int)) 4 rfl (by kernel_rfl) (by kernel_rfl) (by kernel_rfl) (fun _ _ _ h => h) hC rfl (fun w' hw' => x_val (.inl rfl) rfl) ?_
  try simp only [Act.put, List.setIfInBounds_toArray, List.set_cons_zero, List.set_cons_succ]
  refine held_in (v := .int .i64 (m : Int)) 5 rfl (by kernel_rfl) (by kernel_rfl) (by kernel_rfl) (fun _ _ _ h => h) hC rfl (fun w' hw' => x_val (.inl rfl) rfl) ?_
  try simp only [Act.put, List.setIfInBounds_toArray, List.set_cons_zero, List.set_cons_succ]
  refine held_in (v := .int .i64 ((D + m : Nat) : Int)) 6 rfl (by kernel_rfl) (by kernel_rfl) (by kernel_rfl) (fun _ _ _ h => h) hC rfl (fun w' hw' => x_addN (by have := HM.out.2.2; omega) rfl rfl rfl) ?_
  try simp only [Act.put, List.setIfInBounds_toArray, List.set_cons_zero, List.set_cons_succ]
  refine held_one 7 (by kernel_rfl) ?_
  refine held_call2 (v1 := (.slice (some ⟨b, o, none⟩) n c)) (v2 := .int .i64 ((D + m : Nat) : Int)) rfl rfl rfl (by rfl) (by rfl) Try.call33 (HIH.out u0 hC) ?_
  rintro e u1 ⟨hT3, u, rfl, hTV⟩
  have hC1 := hC.trans hT3
  refine ⟨_, rfl, hC1, ?_⟩
  try simp only [Act.put, List.setIfInBounds_toArray, List.set_cons_zero, List.set_cons_succ]
  refine held_in (v := .agg #[.slice p0 m c0, u]) 8 rfl (by kernel_rfl) (by kernel_rfl) (by kernel_rfl) (fun _ _ _ h => h) hC1 rfl (fun w' hw' => x_build ⟨_, _, rfl, rfl, rfl⟩ (build_extV hTV _ _ _ w')) ?_
  try simp only [Act.put, List.setIfInBounds_toArray, List.set_cons_zero, List.set_cons_succ]
  refine held_one 9 (by kernel_rfl) ?_
  refine held_box rfl rfl rfl (by rfl) ?_
  have hTa : Tch [] u1 (u1.alloc (.cells #[.slice p0 m c0, u] 103)) := (Tch.refl _ _).alloc _
  have hB1 := Blk.new u1 103 #[.slice p0 m c0, u]
  have hC2 := hC1.trans hTa
  refine ⟨hC2, ?_⟩
  generalize u1.alloc (.cells #[.slice p0 m c0, u] 103) = u2 at hTa hB1 hC2 ⊢
  try simp only [Act.put, List.setIfInBounds_toArray, List.set_cons_zero, List.set_cons_succ]
  refine held_in (v := .iface 101 (.pointer (some ⟨u1.heap.size, 0, none⟩))) 10 rfl (by kernel_rfl) (by kernel_rfl) (by kernel_rfl) (fun _ _ _ h => h) hC2 rfl (fun w' hw' => x_mkI _ _ rfl rfl (mkI_ext _ w')) ?_
  try simp only [Act.put, List.setIfInBounds_toArray, List.set_cons_zero, List.set_cons_succ]
  refine held_in (v := .iface 101 (.pointer (some ⟨u1.heap.size, 0, none⟩))) 11 rfl (by kernel_rfl) (by kernel_rfl) (by kernel_rfl) (fun _ _ _ h => h) hC2 rfl (fun w' hw' => x_val (.inr rfl) rfl) ?_
  try simp only [Act.put, List.setIfInBounds_toArray, List.set_cons_zero, List.set_cons_succ]
  refine wpAnyH_done (by kernel_rfl) ?_ _
  have hrd : RdB u2 (.slice p0 m c0) ((e0.1.drop D).take m) := (((HFR.out.tch hC2 (by simp)).rdA0).take HM.out.1).rdB
  have hfin : BuildPost (.ext ((e0.1.drop D).take m) (buildT f (rests (D + m) es))) w (.returned (.iface 101 (.pointer (some ⟨u1.heap.size, 0, none⟩)))) u2 := ⟨hC2, _, rfl, u1.heap.size, _, _, rfl, hC1.size, hB1, hrd, (hTV.tch hTa).low hC.size⟩
  clear HIH HTO HFR HCM HC0 HC1 HS0 HS1 HJ HW hC hC1 hC2 hTa hB1 hTV hT3 hT1
  go_wp2
  go_ret
  exact hfin
end Go.Proofs.Ytfdihphhmhgejaa

/- fork; build, whole. -/
namespace Go.Proofs.Ytfdihphhmhgejaa
open Go.RowKit Tr

theorem tw_lt {p : En → Bool} : ∀ (l : List En) (k : Nat) (_ : k < (l.takeWhile p).length) (h : k < l.length), p l[k] = true
  | [], _, _, h => by simp at h
  | a :: l, k, hk, h => by
    rw [List.takeWhile_cons] at hk
    by_cases ha : p a = true
    · rw [if_pos ha] at hk
      cases k with
      | zero => exact ha
      | succ k => simpa using tw_lt l k (by simpa using hk) (by simpa using h)
    · rw [if_neg ha] at hk; simp at hk
theorem tw_ge {p : En → Bool} : ∀ (l : List En) (h : (l.takeWhile p).length < l.length), p l[(l.takeWhile p).length] = false
  | [], h => by simp at h
  | a :: l, h => by
    by_cases ha : p a = true
    · have e : (a :: l).takeWhile p = a :: l.takeWhile p := by rw [List.takeWhile_cons, if_pos ha]
      simp only [e, List.length_cons, List.getElem_cons_succ]
      exact tw_ge l (by rw [e] at h; simpa using h)
    · have e : (a :: l).takeWhile p = [] := by rw [List.takeWhile_cons, if_neg ha]
      simp only [e, List.length_nil, List.getElem_cons_zero]
      simpa using ha
theorem tw_le {p : En → Bool} (l : List En) : (l.takeWhile p).length ≤ l.length := (List.takeWhile_sublist p).length_le
theorem brC_last_set (c : Nat → Value) (u v : Value) : (brC c u).setIfInBounds 16 v = brC c v := by
  unfold brC
  rw [List.setIfInBounds_toArray, List.set_append_right _ _ (by simp)]
  simp
theorem brC_set (c : Nat → Value) (u v : Value) {d : Nat} (h : d < 16) : (brC c u).setIfInBounds d v = brC (fun j => if j = d then v else c j) u := by
  unfold brC
  rw [List.setIfInBounds_toArray, List.set_append_left _ _ (by simpa using h)]
  congr 2
  apply List.ext_getElem?
  intro i
  rw [List.getElem?_set]
  by_cases hi : i < 16
  · rw [List.getElem?_map, List.getElem?_range hi]
    by_cases hd : d = i
    · subst hd; simp [h]
    · rw [if_neg hd, List.getElem?_map, List.getElem?_range hi]
      simp [Ne.symm hd]
  · rw [List.getElem?_eq_none (by simp; omega), if_neg (by omega), List.getElem?_eq_none (by simp; omega)]
theorem brC_noB {c : Nat → Value} {p : Option Addr} {n k : Nat} (h : ∀ j, j < 16 → ∀ x, c j ≠ .int .u8 x) : NoB (brC c (.slice p n k)) := by
  intro j x hx
  by_cases hj : j < 16
  · rw [brC_get c _ hj] at hx
    exact h j hj x (Option.some.inj hx)
  · by_cases h16 : j = 16
    · subst h16
      rw [brC_last] at hx
      cases hx
    · rw [Array.getElem?_eq_none (by rw [brC_size]; omega)] at hx
      cases hx
theorem build_br0 (w : World) : (Instr.build 117 #[]).run Try.prog w = .ok (.agg (brC (fun _ => .nilIface) (.slice none 0 0))) w := by kernel_rfl
theorem tnode_size : (Try.prog.info? 53).map (·.size) = some 1 := by kernel_rfl
theorem bytesS_size : (Try.prog.info? 22).map (·.size) = some 1 := by kernel_rfl
theorem arr16_ty : Try.prog.underlying 115 = some (.array 16 53) := by kernel_rfl
theorem fa_br0 (b : Nat) (w : World) : (Instr.fieldAt 117 (.pointer (some ⟨b, 0, none⟩)) 0).run Try.prog w = .ok (.pointer (some ⟨b, 0, none⟩)) w := by kernel_rfl
theorem idx16 (b : Nat) {d : Nat} (h : d < 16) (w : World) : (Instr.indexAt 115 (.pointer (some ⟨b, 0, none⟩)) (.int .i64 (d : Int))).run Try.prog w = .ok (.pointer (some ⟨b, d, none⟩)) w := by
  have hadd : (⟨b, 0, none⟩ : Addr).add d = ⟨b, d, none⟩ := by unfold Addr.add; split <;> simp_all
  simp [Instr.indexAt, run_underlying arr16_ty, Instr.sureAddr, asIntOf, sizeOf_one tnode_size, h, hadd]
section
variable {a : Act} {w : World} {o : Oper} {Q : Exit → Act → World → Prop}
theorem x_idxV {v i u : Value} {ty : TypeId} (x y : Operand) (ho : o.op = .indexAddr ty x y) (hx : a.eval x = v) (hy : a.eval y = i) (hr : (Instr.indexAt ty v i).run Try.prog w = .ok u w) : (execOp a.eval o).run Try.prog w = .ok (.value u) w := by
  unfold execOp; simp only [ho, hx, hy, Sem.run_bind, hr, Result.andThen_ok, Sem.run_pure]
/-- One cell is stored. -/
theorem held_store1 {l0 : List Oper} {n : Nat} {K : Act → World → Prop} {b j : Nat} {t ty : TypeId} {c : Array Value} {v : Value} {xo yo : Operand} (hB : Blk w b t c) (hj : j < c.size) (hv : v.oneCell' = true) (hi : (Try.prog.info? ty).map (·.size) = some 1)
    (ho : l0[n]? = some o) (hw : Region.wanted o (yielded l0.toArray a.tmps) = true) (hop : o.op = .store ty xo yo) (hx : a.eval xo = .pointer (some ⟨b, j, none⟩)) (hy : a.eval yo = v)
    (h : ∀ w', Only b w w' → Blk w' b t (c.setIfInBounds j v) → K (a.put o.dst undef) w') : wpOp Try.prog l0.toArray Q n K a w := by
  have ho' : l0.toArray[n]? = some o := by rw [List.getElem?_toArray]; exact ho
  have hc : v.cells = #[v] := by cases v <;> first | rfl | exact absurd hv (by simp [Value.oneCell'])
  have hr : (Instr.storeAt ty (.pointer (some ⟨b, j, none⟩)) v).run Try.prog w = .ok () (w.setCell ⟨b, j, none⟩ v) := by
    cases hq : Try.prog.info? ty with
    | none => simp [hq] at hi
    | some i =>
      have hs : i.size = 1 := by simpa [hq] using hi
      have hcell : w.cell? ⟨b, j, none⟩ = some c[j] := hB.cell (by simp [hj])
      simp [Instr.storeAt, Instr.sureAddr, storeVar, sizeOf, typeInfo, hq, hc, hs, storeCells, Addr.add, run_store Try.prog w ⟨b, j, none⟩ v .plain hv, hcell, hB.free j]
  unfold wpOp
  simp only [ho', hw, if_true]
  refine .inl ?_
  unfold Oper.wp execOp
  simp only [hop, hx, hy, Sem.run_bind, hr, Result.andThen_ok, Sem.run_pure]
  exact h _ (Only.setCell w ⟨b, j, none⟩ v) (hB.set j v)
end
theorem TreeV.one {B : Nat} {w : World} {T : TN} {v : Value} (h : TreeV B w T v) : v.oneCell' = true := by
  rcases h.shape with rfl | ⟨t, a, rfl⟩ <;> rfl
theorem TreeV.noB {B : Nat} {w : World} {T : TN} {v : Value} (h : TreeV B w T v) : ∀ x, v ≠ .int .u8 x := by
  rcases h.shape with rfl | ⟨t, a, rfl⟩ <;> simp
theorem longest_heads {d f : Nat} {L : List En} (hf : 0 < f) (h : longest L < f + 1) : longest (rests 1 (heads d L)) < f := by
  have h1 : longest (heads d L) < f + 1 := by
    have := (longest_le (l := L) (m := f)).1 (by omega)
    have h2 := (longest_le (l := heads d L) (m := f)).2 fun e he => this e (List.mem_filter.1 he).1
    omega
  rcases longest_rests (n := 1) (by decide) (heads_share (d := d) L) h1 with h2 | h2
  · exact h2
  · rw [h2]; exact hf
/-- What holds behind the digits below d. -/
def ForkI (f D : Nat) (es : List En) (bb : Nat) (w : World) (val : List Nat) (uv : Value) (d : Nat) (es' : List En) (v' : Value) (cs : Nat → Value) (W : World) : Prop :=
  PairsAt w v' es' ∧ rests D es' = fromD d (rests D es) ∧ (∀ e ∈ es', e ∈ es) ∧ (∀ j, d ≤ j → cs j = .nilIface) ∧ RdB w uv val ∧ ∀ j, j < d → TreeV (bb + 1) W (buildT f (rests 1 (heads j (rests D es)))) (cs j)
theorem fromD_mem {d D : Nat} {es es' : List En} (h : rests D es' = fromD d (rests D es)) {k : Nat} (hk : k < es'.length) : D < (es'[k]).1.length := by
  have hm : ((es'[k]).1.drop D, (es'[k]).2) ∈ fromD d (rests D es) := by
    rw [← h]
    exact List.mem_map.2 ⟨es'[k], List.getElem_mem hk, rfl⟩
  have h1 := (List.mem_filter.1 hm).2
  obtain ⟨x, r, h2, _⟩ := geD_iff.1 h1
  have := congrArg List.length h2
  simp only [List.length_drop, List.length_cons] at this
  omega
theorem rest_head {D : Nat} {es' : List En} {k : Nat} (hk : k < es'.length) (hD : D < (es'[k]).1.length) (d : Nat) (h2 : k < (rests D es').length) : (((rests D es')[k]).1.head? == some d) = ((es'[k]).1.getD D 0 == d) := by
  have e : (rests D es')[k] = ((es'[k]).1.drop D, (es'[k]).2) := by simp [rests]
  rw [e]
  have e2 : ((es'[k]).1.drop D).head? = some ((es'[k]).1.getD D 0) := by
    rw [List.head?_drop, List.getD_eq_getElem?_getD, List.getElem?_eq_getElem hD]; rfl
  rw [e2]
  simp
set_option maxHeartbeats 8000000 in
set_option maxRecDepth 100000 in
theorem fork_no (f : Nat) (ih : BuildOK f) (hf : 0 < f) (v : Value) (es : List En) (D : Nat) (w : World) (hv : PairsAt w v es) (hg : GoodE D es) (hne : 0 < es.length) (e0 : En) (he0 : e0 = es[0]) (hD : D + 1 ≤ 128) (hlo : longest (rests D es) < f + 1) (hDl : D < e0.1.length) :
    Calls Try.prog 51 #[v, .int .i64 (D : Int)] w (BuildPost (.branch (fun d => buildT f (rests 1 (heads d (rests D es)))) []) w) := by
  have hS := St.start w
  have kb := build_br0
  obtain ⟨p, c, rfl, hc, hcells⟩ := id hv
  obtain ⟨b, o, rfl, hbw, hcs⟩ := hcells (by intro e; subst e; simp at hne)
  obtain ⟨n, hnn⟩ : ∃ n, n = es.length := ⟨_, rfl⟩
  obtain ⟨kv, vv, g0, g1, hkv, hvv⟩ := hcs 0 hne
  rw [← he0] at hkv hvv
  obtain ⟨q1, c1, rfl⟩ := hkv.shape'
  obtain ⟨q2, c2, rfl⟩ := hvv.shape'
  rw [Nat.zero_mul, Nat.add_zero] at g0 g1
  rw [← hnn] at hc hv hne ⊢
  have hn100 : n ≤ 100000 := by have := hg.len; omega
  have dn : (0 : Int) < (n : Int) := by omega
  have HG := Lib.hid hg
  have HIHB := Lib.hid (fun (d : Nat) (v' : Value) (E : List En) (W : World) (hp : PairsAt W v' E) (hgE : GoodE (D + 1) E) (he : rests (D + 1) E = rests 1 (heads d (rests D es))) => by
    have := ih v' E (D + 1) W hp hgE hD (by rw [he]; exact longest_heads hf hlo)
    rw [he] at this
    exact this)
  have HDB := Lib.hid (show D < 128 by omega)
  have HGE := Lib.hid (fun (d h : Nat) (E : List En) (hE : rests D E = fromD d (rests D es)) (hsub : ∀ e ∈ E, e ∈ es) (hh : h = (heads d (rests D es)).length) => by
    have ht := (take_heads d hg.srt).1
    have hdr := (take_heads d hg.srt).2
    have e1 : rests D (E.take h) = heads d (rests D es) := by rw [← ht, ← hE, ← hh]; simp [rests, List.map_take]
    have e2 : rests D (E.drop h) = fromD (d + 1) (rests D es) := by rw [← hdr, ← hE, ← hh]; simp [rests, List.map_drop]
    have e3 : rests (D + 1) (E.take h) = rests 1 (heads d (rests D es)) := by rw [← e1, rests_rests]
    refine (⟨⟨?_, ?_, ?_⟩, e3, e2⟩ : GoodE (D + 1) (E.take h) ∧ rests (D + 1) (E.take h) = rests 1 (heads d (rests D es)) ∧ rests D (E.drop h) = fromD (d + 1) (rests D es))
    · have h1 : (rests D (E.take h)).length ≤ (rests D es).length := by rw [e1]; exact heads_len
      have h2 := hg.len
      simp only [rests, List.length_map] at h1
      omega
    · intro e he
      have hm : ((e.1.drop D), e.2) ∈ heads d (rests D es) := by rw [← e1]; exact List.mem_map.2 ⟨e, he, rfl⟩
      have h1 := (List.mem_filter.1 hm).2
      have h2 := hg.dep e (hsub e (List.mem_of_mem_take he))
      refine ⟨?_, h2.2⟩
      rcases Nat.lt_or_ge D e.1.length with h3 | h3
      · exact h3
      · rw [show (e.1.drop D, e.2).1 = e.1.drop D from rfl, List.drop_eq_nil_of_le h3] at h1
        simp at h1
    · rw [e3]; exact (hg.srt.heads).rests (heads_share _))
  have dl : ((e0.1.length : Int) == (D : Int)) = false := beq_eq_false_iff_ne.2 (by omega)
  have HV := Lib.hid hv
  have HVV := Lib.hid hvv
  have HE0 := Lib.hid (And.intro he0 hDl)
  have HNN := Lib.hid hnn
  have HSP := Lib.hid (show (e0.1.drop D, e0.2) :: rests D (es.drop 1) = rests D es by
    have h0 : 0 < es.length := by omega
    rw [he0]
    conv => rhs; rw [← List.drop_zero (l := es), List.drop_eq_getElem_cons h0]
    rfl)
  clear hcells hcs hkv hvv hv hg ih hlo he0 hDl hf hnn
  go_enter Try.func51, Try.ntmps51
  go_wp2_with (first
    | (refine st_box (c := brC (fun _ => .nilIface) (.slice none 0 0)) hS rfl 117 _ rfl rfl ?_; clear hS; intro w1 bb hS; have hc0 := (hS.frame.cell (p := ⟨b, o, none⟩) hbw (by simp)).trans g0; have hc1 := (hS.frame.cell (p := ⟨b, o + 1, none⟩) hbw (by simp)).trans g1)
    | fail)
  go_loopw [0, 26] (fun v i wr => ∃ (d : Nat) (es' : List En) (p' : Option Addr) (n' c' : Nat) (cs : Nat → Value), v = .slice p' n' c' ∧ i = .int .i64 (d : Int) ∧ d ≤ 16 ∧ Tch [] w wr ∧ Blk wr bb 117 (brC cs (.slice none 0 0)) ∧ Hid (n' = es'.length ∧ n' ≤ c') ∧ Hid (ForkI f D es bb w [] (.slice none 0 0) d es' (.slice p' n' c') cs wr)) (fun _ i _ => 16 - (intOf i).toNat)
  case atStart => exact ⟨0, es, some ⟨b, o, none⟩, n, c, fun _ => .nilIface, rfl, rfl, by decide, hS.frame, hS.get .head, Lib.hid ⟨HNN.out, hc⟩, Lib.hid ⟨HV.out, (by
      have hx := fromD_first (e := (e0.1.drop D, e0.2)) (l := rests D (es.drop 1)) (by rw [show (e0.1.drop D, e0.2) :: rests D (es.drop 1) = rests D es from HSP.out]; exact HG.out.srt)
      rw [show (e0.1.drop D, e0.2) :: rests D (es.drop 1) = rests D es from HSP.out] at hx
      rw [hx, if_neg (fun q => by have h1 := congrArg List.length q; have h2 := HE0.out.2; simp only [List.length_drop, List.length_nil] at h1; omega)]), fun e he => he, fun _ _ => rfl, RdB.nil w, fun j hj => by omega⟩⟩
  case round =>
    have hbb : w.heap.size ≤ bb := (hS.own .head).resolve_right (by simp)
    clear hS
    obtain ⟨d, es', p', n', c', cs, rfl, rfl, hd, hT, hB, HN, HI⟩ := hrel
    by_cases hlt : d < 16
    · have d1 : (d : Int) < 16 := by omega
      have d0 : (0 : Int) ≤ (d : Int) := by omega
      have hes : es'.length ≤ es.length := by
        have h1 := congrArg List.length HI.out.2.1
        have h2 : (fromD d (rests D es)).length ≤ (rests D es).length := List.length_filter_le _ _
        have h3 : (rests D es').length = es'.length := by simp [rests]
        have h4 : (rests D es).length = es.length := by simp [rests]
        omega
      have hn100 : n' ≤ 100000 := by have := HN.out.1; have := HG.out.len; omega
      have hn4 : n' ≤ 4611686018427387904 := by omega
      obtain ⟨T, hTT⟩ : ∃ T, T = (rests D es').takeWhile (fun e => e.1.head? == some d) := ⟨_, rfl⟩
      have hTh : T = heads d (rests D es) := by rw [hTT, HI.out.2.1]; exact (fromD_step d HG.out.srt).1
      obtain ⟨h, hh⟩ : ∃ h, h = T.length := ⟨_, rfl⟩
      have hhn : h ≤ n' := by
        have := tw_le (p := fun e : En => e.1.head? == some d) (rests D es')
        rw [← hTT, ← hh] at this
        have h3 : (rests D es').length = es'.length := by simp [rests]
        have := HN.out.1
        omega
      have hlr : (rests D es').length = n' := by have := HN.out.1; simp [rests, this]
      have HK := Lib.hid (show ∀ k (hk : k < (rests D es').length), ∃ (b' o' pb po cq len x : Nat), p' = some (⟨b', o', none⟩ : Addr) ∧ wr.cell? ⟨b', o' + k * 2, none⟩ = some (.slice (some ⟨pb, po, none⟩) len cq) ∧ wr.cell? ⟨pb, po + D, none⟩ = some (.int .u8 ((x : Nat) : Int)) ∧ D < len ∧ x < 256 ∧ (x == d) = (((rests D es')[k]).1.head? == some d) from fun k hk => by
        have hk' : k < es'.length := by simpa [rests] using hk
        have hDk := fromD_mem HI.out.2.1 hk'
        obtain ⟨pp, cc, hpp, hcc, hcl⟩ := HI.out.1
        obtain ⟨b', o', hp', hbw', hcs'⟩ := hcl (by intro e; subst e; simp at hk')
        obtain ⟨kv', vv', g0', _, hkv', _⟩ := hcs' k hk'
        obtain ⟨q, cq, hq1, _, hq3, hq4⟩ := hkv'
        obtain ⟨pb, po, hq, hpb, hpc⟩ := hq4 (by intro e; rw [e] at hDk; simp at hDk)
        refine ⟨b', o', pb, po, cq, (es'[k]'hk').1.length, (es'[k]'hk').1.getD D 0, (Value.slice.inj hpp).1.trans hp', ?_, (hT.cell (p := ⟨pb, po + D, none⟩) hpb (by simp)).trans (hpc D hDk), hDk, hq3 _ (by rw [List.getD_eq_getElem?_getD, List.getElem?_eq_getElem hDk]; exact List.getElem_mem hDk), (rest_head hk' hDk d hk).symm⟩
        rw [hT.cell (p := ⟨b', o' + k * 2, none⟩) hbw' (by simp), g0', hq1, hq])
      have HW := Lib.hid (show ∀ k (hk : k < (rests D es').length), (k < h → (((rests D es')[k]).1.head? == some d) = true) ∧ (k = h → (((rests D es')[k]).1.head? == some d) = false) from fun k hk => ⟨fun h1 => tw_lt (p := fun e : En => e.1.head? == some d) (rests D es') k (by rw [← hTT, ← hh]; exact h1) hk, fun h1 => by
          have h3 : k = ((rests D es').takeWhile (fun e : En => e.1.head? == some d)).length := by rw [← hTT, ← hh]; exact h1
          have h4 := tw_ge (p := fun e : En => e.1.head? == some d) (rests D es') (by rw [← h3]; exact hk)
          simp only [← h3] at h4
          exact h4⟩)
      have HLR := Lib.hid hlr
      have HT := Lib.hid (And.intro hTT (And.intro hTh (And.intro hh hhn)))
      have HC := Lib.hid (And.intro hT hB)
      have HD := Lib.hid hlt
      have HIH := Lib.hid hn4
      clear hTT hTh hes hn4 hT hB hlt hlr
      clear hh
      have HDD := HDB.out
      go_wp2
      go_loopw [7] (fun i wr2 => ∃ k : Nat, i = .int .i64 (k : Int) ∧ k ≤ h ∧ wr2 = wr) (fun i _ => n' - (intOf i).toNat)
      case atStart => exact ⟨0, rfl, Nat.zero_le _, by first | rfl | trivial⟩
      case round =>
        obtain ⟨k, rfl, hk, rfl⟩ := hrel
        by_cases hkn : k < n'
        · have e1 : (k : Int) < (n' : Int) := by omega
          have f0 : (0 : Int) ≤ (k : Int) := by omega
          obtain ⟨b', o', pb, po, cq, len, x, rfl, g0, g1, hDl, hx, hxd⟩ := HK.out k (by rw [HLR.out]; exact hkn)
          have e2 : (D : Int) < (len : Int) := by omega
          have e3 : (0 : Int) ≤ (D : Int) := by omega
          have e4 : IntKind.i64.wrap (x : Int) = (x : Int) := by rw [IntWalk.i64_in _ (by omega)]
          have HWk := HW.out k (by rw [HLR.out]; exact hkn)
          by_cases hkh : k < h
          · have hxe : x = d := by
              have := HWk.1 hkh
              rw [this] at hxd
              simpa using hxd
            have e5 : ((x : Int) == (d : Int)) = true := by rw [hxe]; simp
            have HH := Lib.hid (And.intro hkh hkn)
            clear hxe HWk hxd hkh hkn HW HK HI HN
            go_wp2
            go_roundw
            case rel => exact ⟨k + 1, by go_num, HH.out.1, by first | rfl | trivial⟩
            case measure => have := HH.out.2; simp [intOf]; omega
          · have hke : k = h := by omega
            have hxe : ¬ x = d := by
              have := HWk.2 hke
              rw [this] at hxd
              simpa using hxd
            have e5 : ((x : Int) == (d : Int)) = false := beq_eq_false_iff_ne.2 (by omega)
            subst hke
            clear hxe HWk hxd hkh
            obtain ⟨hT, hB⟩ := HC.out
            have hkk : k = (heads d (rests D es)).length := by rw [← HT.out.2.1]; exact HT.out.2.2.1
            have hkn' : k ≤ n' := HT.out.2.2.2
            have hge := HGE.out d k es' HI.out.2.1 HI.out.2.2.1 hkk
            have hpt := HI.out.1.take k hkn'
            obtain ⟨pz, cz, hslz, hpz⟩ := slice_fromE HI.out.1 k hkn' HIH.out
            have HS2 := Lib.hid hslz
            have hIB := fun (W : World) (hW : Tch [] w W) => HIHB.out d _ (es'.take k) W (hpt.tch hW) hge.1 hge.2.1
            have HIB := Lib.hid hIB
            have HTO := Lib.hid (fun w' => slice_toE (some ⟨b', o', none⟩) n' c' k hkn' HN.out.2 HIH.out w')
            have HDU := Lib.hid (And.intro HDB.out HD.out)
            have HPR := Lib.hid (And.intro hpz (And.intro hge.2.2 (And.intro hge.2.1 hkk)))
            clear hslz hpz hge hpt hIB hkk hkn'
            go_upto_region 11 with fail
            refine wp_region_held_drew (S := fun w' => Tch [bb] wr w') (by kernel_rfl) ((Tch.refl _ _).drew) (fun hC => ?_)
            have hTd : Tch [] wr wr.drew := (Tch.refl _ _).drew
            generalize World.drew wr = u0 at hC hTd ⊢
            have hB0 := hTd.blk hB (by simp)
            have hW0 := hT.trans hTd
            refine held_in (v := .pointer (some ⟨bb, 0, none⟩)) 0 rfl (by kernel_rfl) (by kernel_rfl) (by kernel_rfl) (fun _ _ _ h => h) hC rfl (fun w' hw' => x_val (.inl rfl) rfl) ?_
            try simp only [Act.put, List.setIfInBounds_toArray, List.set_cons_zero, List.set_cons_succ]
            refine held_in (v := .int .i64 (d : Int)) 1 rfl (by kernel_rfl) (by kernel_rfl) (by kernel_rfl) (fun _ _ _ h => h) hC rfl (fun w' hw' => x_val (.inl rfl) rfl) ?_
            try simp only [Act.put, List.setIfInBounds_toArray, List.set_cons_zero, List.set_cons_succ]
            refine held_in (v := (.slice (some ⟨b', o', none⟩) n' c')) 2 rfl (by kernel_rfl) (by kernel_rfl) (by kernel_rfl) (fun _ _ _ h => h) hC rfl (fun w' hw' => x_val (.inl rfl) rfl) ?_
            try simp only [Act.put, List.setIfInBounds_toArray, List.set_cons_zero, List.set_cons_succ]
            refine held_in (v := .int .i64 (k : Int)) 3 rfl (by kernel_rfl) (by kernel_rfl) (by kernel_rfl) (fun _ _ _ h => h) hC rfl (fun w' hw' => x_val (.inl rfl) rfl) ?_
            try simp only [Act.put, List.setIfInBounds_toArray, List.set_cons_zero, List.set_cons_succ]
            refine held_in (v := (.slice (some ⟨b', o', none⟩) k c')) 4 rfl (by kernel_rfl) (by kernel_rfl) (by kernel_rfl) (fun _ _ _ h => h) hC rfl (fun w' hw' => x_to _ _ _ rfl rfl rfl (HTO.out w')) ?_
            try simp only [Act.put, List.setIfInBounds_toArray, List.set_cons_zero, List.set_cons_succ]
            refine held_in (v := .int .i64 (D : Int)) 5 rfl (by kernel_rfl) (by kernel_rfl) (by kernel_rfl) (fun _ _ _ h => h) hC rfl (fun w' hw' => x_val (.inl rfl) rfl) ?_
            try simp only [Act.put, List.setIfInBounds_toArray, List.set_cons_zero, List.set_cons_succ]
            refine held_in (v := .int .i64 ((D + 1 : Nat) : Int)) 6 rfl (by kernel_rfl) (by kernel_rfl) (by kernel_rfl) (fun _ _ _ h => h) hC rfl (fun w' hw' => x_addN (by have := HDU.out.1; omega) rfl rfl rfl) ?_
            try simp only [Act.put, List.setIfInBounds_toArray, List.set_cons_zero, List.set_cons_succ]
            refine held_in (v := .pointer (some ⟨bb, 0, none⟩)) 8 rfl (by kernel_rfl) (by kernel_rfl) (by kernel_rfl) (fun _ _ _ h => h) hC rfl (fun w' hw' => x_nilck _ rfl rfl) ?_
            try simp only [Act.put, List.setIfInBounds_toArray, List.set_cons_zero, List.set_cons_succ]
            refine held_in (v := .pointer (some ⟨bb, 0, none⟩)) 9 rfl (by kernel_rfl) (by kernel_rfl) (by kernel_rfl) (fun _ _ _ h => h) hC rfl (fun w' hw' => x_fa _ _ _ rfl rfl (fa_br0 _ _)) ?_
            try simp only [Act.put, List.setIfInBounds_toArray, List.set_cons_zero, List.set_cons_succ]
            refine held_one 7 (by kernel_rfl) ?_
            refine held_call2 (v1 := (.slice (some ⟨b', o', none⟩) k c')) (v2 := .int .i64 ((D + 1 : Nat) : Int)) rfl rfl rfl (by rfl) (by rfl) Try.call33 (HIB.out u0 hW0) ?_
            rintro e u1 ⟨hT3, u, rfl, hTV⟩
            have hC1 := hC.trans (hT3.mono (by simp))
            have hB1 := hT3.blk hB0 (by simp)
            have hW1 := hW0.trans hT3
            refine ⟨_, rfl, hC1, ?_⟩
            try simp only [Act.put, List.setIfInBounds_toArray, List.set_cons_zero, List.set_cons_succ]
            refine held_in (v := .pointer (some ⟨bb, d, none⟩)) 10 rfl (by kernel_rfl) (by kernel_rfl) (by kernel_rfl) (fun _ _ _ h => h) hC1 rfl (fun w' hw' => x_idxV _ _ rfl rfl rfl (idx16 _ HDU.out.2 _)) ?_
            try simp only [Act.put, List.setIfInBounds_toArray, List.set_cons_zero, List.set_cons_succ]
            refine held_one 11 (by kernel_rfl) ?_
            refine held_store1 (j := d) (v := u) hB1 (by rw [brC_size]; have := HDU.out.2; omega) hTV.one tnode_size rfl rfl rfl (by rfl) (by rfl) ?_
            intro u2 hO hB2
            have hC2 := hC1.only hO (.inr (by simp))
            refine ⟨hC2, ?_⟩
            refine wpAnyH_done (by kernel_rfl) ?_ _
            have hW2 := hW1.only hO (.inl hbb)
            rw [brC_set _ _ _ HDU.out.2] at hB2
            have hbu : bb + 1 ≤ u0.heap.size := hB0.lt
            have hnB : NoB (brC cs (.slice none 0 0)) := brC_noB (fun j hj x => by
              by_cases hjd : j < d
              · exact (HI.out.2.2.2.2.2 j hjd).noB x
              · rw [HI.out.2.2.2.1 j (by omega)]; simp)
            have htch : ∀ {T : TN} {v : Value}, TreeV (bb + 1) u1 T v → TreeV (bb + 1) u2 T v := fun h => h.touch (X := [bb]) hO.tch (fun x hx => by
              rw [List.mem_singleton] at hx
              subst hx
              exact ⟨Nat.lt_succ_self _, _, _, hB1, hnB⟩)
            have HNEW := Lib.hid (show ForkI f D es bb w [] (.slice none 0 0) (d + 1) (es'.drop k) (.slice pz (n' - k) cz) (fun j => if j = d then u else cs j) u2 from
              ⟨HPR.out.1, HPR.out.2.1, fun e he => HI.out.2.2.1 e (List.mem_of_mem_drop he), fun j hj => by
                show (if j = d then u else cs j) = _
                rw [if_neg (by omega)]; exact HI.out.2.2.2.1 j (by omega), HI.out.2.2.2.2.1, fun j hj => by
                show TreeV _ _ _ (if j = d then u else cs j)
                by_cases hjd : j = d
                · subst hjd
                  rw [if_pos rfl]
                  exact htch (hTV.low hbu)
                · rw [if_neg hjd]
                  exact htch (((HI.out.2.2.2.2.2 j (by omega)).tch hTd).tch hT3)⟩)
            have hcn : n' - k = (es'.drop k).length ∧ n' - k ≤ cz := by
              obtain ⟨_, _, h1, h2, _⟩ := HPR.out.1
              obtain ⟨h3, h4, h5⟩ := Value.slice.inj h1
              subst h5
              exact ⟨by rw [List.length_drop, HN.out.1], by rw [h4]; exact h2⟩
            have HCN := Lib.hid hcn
            have hslz := HS2.out
            have HB2 := Lib.hid (And.intro hW2 hB2)
            clear hC hC1 hC2 hTd hT hB hB0 hB1 hW0 hW1 hW2 hB2 hT3 hTV hO hnB htch hbu hcn HS2 HTO HIB HPR HI HIHB HGE HT HC HW HK HN HLR HG HV HVV HNN HSP HE0 HIH
            go_wp2
            go_roundw
            case rel => exact ⟨d + 1, es'.drop k, pz, n' - k, cz, fun j => if j = d then u else cs j, by first | rfl | trivial, by go_num, HDU.out.2, HB2.out.1, HB2.out.2, HCN, HNEW⟩
            case measure => have := HDU.out.2; simp [intOf]; omega
        · have hke : k = h := by have := HT.out.2.2.2; omega
          have e1 : ¬ (k : Int) < (n' : Int) := by omega
          subst hke
          obtain ⟨hT, hB⟩ := HC.out
          have hkk : k = (heads d (rests D es)).length := by rw [← HT.out.2.1]; exact HT.out.2.2.1
          have hkn' : k ≤ n' := HT.out.2.2.2
          have hge := HGE.out d k es' HI.out.2.1 HI.out.2.2.1 hkk
          have hpt := HI.out.1.take k hkn'
          obtain ⟨pz, cz, hslz, hpz⟩ := slice_fromE HI.out.1 k hkn' HIH.out
          have HS2 := Lib.hid hslz
          have hIB := fun (W : World) (hW : Tch [] w W) => HIHB.out d _ (es'.take k) W (hpt.tch hW) hge.1 hge.2.1
          have HIB := Lib.hid hIB
          have HTO := Lib.hid (fun w' => slice_toE p' n' c' k hkn' HN.out.2 HIH.out w')
          have HDU := Lib.hid (And.intro HDB.out HD.out)
          have HPR := Lib.hid (And.intro hpz (And.intro hge.2.2 (And.intro hge.2.1 hkk)))
          clear hslz hpz hge hpt hIB hkk hkn'
          go_upto_region 11 with fail
          refine wp_region_held_drew (S := fun w' => Tch [bb] wr w') (by kernel_rfl) ((Tch.refl _ _).drew) (fun hC => ?_)
          have hTd : Tch [] wr wr.drew := (Tch.refl _ _).drew
          generalize World.drew wr = u0 at hC hTd ⊢
          have hB0 := hTd.blk hB (by simp)
          have hW0 := hT.trans hTd
          refine held_in (v := .pointer (some ⟨bb, 0, none⟩)) 0 rfl (by kernel_rfl) (by kernel_rfl) (by kernel_rfl) (fun _ _ _ h => h) hC rfl (fun w' hw' => x_val (.inl rfl) rfl) ?_
          try simp only [Act.put, List.setIfInBounds_toArray, List.set_cons_zero, List.set_cons_succ]
          refine held_in (v := .int .i64 (d : Int)) 1 rfl (by kernel_rfl) (by kernel_rfl) (by kernel_rfl) (fun _ _ _ h => h) hC rfl (fun w' hw' => x_val (.inl rfl) rfl) ?_
          try simp only [Act.put, List.setIfInBounds_toArray, List.set_cons_zero, List.set_cons_succ]
          refine held_in (v := (.slice p' n' c')) 2 rfl (by kernel_rfl) (by kernel_rfl) (by kernel_rfl) (fun _ _ _ h => h) hC rfl (fun w' hw' => x_val (.inl rfl) rfl) ?_
          try simp only [Act.put, List.setIfInBounds_toArray, List.set_cons_zero, List.set_cons_succ]
          refine held_in (v := .int .i64 (k : Int)) 3 rfl (by kernel_rfl) (by kernel_rfl) (by kernel_rfl) (fun _ _ _ h => h) hC rfl (fun w' hw' => x_val (.inl rfl) rfl) ?_
          try simp only [Act.put, List.setIfInBounds_toArray, List.set_cons_zero, List.set_cons_succ]
          refine held_in (v := (.slice p' k c')) 4 rfl (by kernel_rfl) (by kernel_rfl) (by kernel_rfl) (fun _ _ _ h => h) hC rfl (fun w' hw' => x_to _ _ _ rfl rfl rfl (HTO.out w')) ?_
          try simp only [Act.put, List.setIfInBounds_toArray, List.set_cons_zero, List.set_cons_succ]
          refine held_in (v := .int .i64 (D : Int)) 5 rfl (by kernel_rfl) (by kernel_rfl) (by kernel_rfl) (fun _ _ _ h => h) hC rfl (fun w' hw' => x_val (.inl rfl) rfl) ?_
          try simp only [Act.put, List.setIfInBounds_toArray, List.set_cons_zero, List.set_cons_succ]
          refine held_in (v := .int .i64 ((D + 1 : Nat) : Int)) 6 rfl (by kernel_rfl) (by kernel_rfl) (by kernel_rfl) (fun _ _ _ h => h) hC rfl (fun w' hw' => x_addN (by have := HDU.out.1; omega) rfl rfl rfl) ?_
          try simp only [Act.put, List.setIfInBounds_toArray, List.set_cons_zero, List.set_cons_succ]
          refine held_in (v := .pointer (some ⟨bb, 0, none⟩)) 8 rfl (by kernel_rfl) (by kernel_rfl) (by kernel_rfl) (fun _ _ _ h => h) hC rfl (fun w' hw' => x_nilck _ rfl rfl) ?_
          try simp only [Act.put, List.setIfInBounds_toArray, List.set_cons_zero, List.set_cons_succ]
          refine held_in (v := .pointer (some ⟨bb, 0, none⟩)) 9 rfl (by kernel_rfl) (by kernel_rfl) (by kernel_rfl) (fun _ _ _ h => h) hC rfl (fun w' hw' => x_fa _ _ _ rfl rfl (fa_br0 _ _)) ?_
          try simp only [Act.put, List.setIfInBounds_toArray, List.set_cons_zero, List.set_cons_succ]
          refine held_one 7 (by kernel_rfl) ?_
          refine held_call2 (v1 := (.slice p' k c')) (v2 := .int .i64 ((D + 1 : Nat) : Int)) rfl rfl rfl (by rfl) (by rfl) Try.call33 (HIB.out u0 hW0) ?_
          rintro e u1 ⟨hT3, u, rfl, hTV⟩
          have hC1 := hC.trans (hT3.mono (by simp))
          have hB1 := hT3.blk hB0 (by simp)
          have hW1 := hW0.trans hT3
          refine ⟨_, rfl, hC1, ?_⟩
          try simp only [Act.put, List.setIfInBounds_toArray, List.set_cons_zero, List.set_cons_succ]
          refine held_in (v := .pointer (some ⟨bb, d, none⟩)) 10 rfl (by kernel_rfl) (by kernel_rfl) (by kernel_rfl) (fun _ _ _ h => h) hC1 rfl (fun w' hw' => x_idxV _ _ rfl rfl rfl (idx16 _ HDU.out.2 _)) ?_
          try simp only [Act.put, List.setIfInBounds_toArray, List.set_cons_zero, List.set_cons_succ]
          refine held_one 11 (by kernel_rfl) ?_
          refine held_store1 (j := d) (v := u) hB1 (by rw [brC_size]; have := HDU.out.2; omega) hTV.one tnode_size rfl rfl rfl (by rfl) (by rfl) ?_
          intro u2 hO hB2
          have hC2 := hC1.only hO (.inr (by simp))
          refine ⟨hC2, ?_⟩
          refine wpAnyH_done (by kernel_rfl) ?_ _
          have hW2 := hW1.only hO (.inl hbb)
          rw [brC_set _ _ _ HDU.out.2] at hB2
          have hbu : bb + 1 ≤ u0.heap.size := hB0.lt
          have hnB : NoB (brC cs (.slice none 0 0)) := brC_noB (fun j hj x => by
            by_cases hjd : j < d
            · exact (HI.out.2.2.2.2.2 j hjd).noB x
            · rw [HI.out.2.2.2.1 j (by omega)]; simp)
          have htch : ∀ {T : TN} {v : Value}, TreeV (bb + 1) u1 T v → TreeV (bb + 1) u2 T v := fun h => h.touch (X := [bb]) hO.tch (fun x hx => by
            rw [List.mem_singleton] at hx
            subst hx
            exact ⟨Nat.lt_succ_self _, _, _, hB1, hnB⟩)
          have HNEW := Lib.hid (show ForkI f D es bb w [] (.slice none 0 0) (d + 1) (es'.drop k) (.slice pz (n' - k) cz) (fun j => if j = d then u else cs j) u2 from
            ⟨HPR.out.1, HPR.out.2.1, fun e he => HI.out.2.2.1 e (List.mem_of_mem_drop he), fun j hj => by
              show (if j = d then u else cs j) = _
              rw [if_neg (by omega)]; exact HI.out.2.2.2.1 j (by omega), HI.out.2.2.2.2.1, fun j hj => by
              show TreeV _ _ _ (if j = d then u else cs j)
              by_cases hjd : j = d
              · subst hjd
                rw [if_pos rfl]
                exact htch (hTV.low hbu)
              · rw [if_neg hjd]
                exact htch (((HI.out.2.2.2.2.2 j (by omega)).tch hTd).tch hT3)⟩)
          have hcn : n' - k = (es'.drop k).length ∧ n' - k ≤ cz := by
            obtain ⟨_, _, h1, h2, _⟩ := HPR.out.1
            obtain ⟨h3, h4, h5⟩ := Value.slice.inj h1
            subst h5
            exact ⟨by rw [List.length_drop, HN.out.1], by rw [h4]; exact h2⟩
          have HCN := Lib.hid hcn
          have hslz := HS2.out
          have HB2 := Lib.hid (And.intro hW2 hB2)
          clear hC hC1 hC2 hTd hT hB hB0 hB1 hW0 hW1 hW2 hB2 hT3 hTV hO hnB htch hbu hcn HS2 HTO HIB HPR HI HIHB HGE HT HC HW HK HN HLR HG HV HVV HNN HSP HE0 HIH
          go_wp2
          go_roundw
          case rel => exact ⟨d + 1, es'.drop k, pz, n' - k, cz, fun j => if j = d then u else cs j, by first | rfl | trivial, by go_num, HDU.out.2, HB2.out.1, HB2.out.2, HCN, HNEW⟩
          case measure => have := HDU.out.2; simp [intOf]; omega
    · obtain rfl : d = 16 := by omega
      have hfin := (show BuildPost (.branch (fun d => buildT f (rests 1 (heads d (rests D es)))) []) w (.returned (.iface 113 (.pointer (some ⟨bb, 0, none⟩)))) wr from ⟨hT, _, rfl, bb, cs, (.slice none 0 0), rfl, hbb, hB, HI.out.2.2.2.2.1.tch hT (by simp), fun d hd => (HI.out.2.2.2.2.2 d hd).low (by omega)⟩)
      clear HI HN
      go_wp2
      go_ret
      exact hfin
set_option maxHeartbeats 8000000 in
set_option maxRecDepth 100000 in
theorem fork_yes (f : Nat) (ih : BuildOK f) (hf : 0 < f) (v : Value) (es : List En) (D : Nat) (w : World) (hv : PairsAt w v es) (hg : GoodE D es) (hne : 0 < es.length) (e0 : En) (he0 : e0 = es[0]) (hD : D + 1 ≤ 128) (hlo : longest (rests D es) < f + 1) (hDl : e0.1.length = D) :
    Calls Try.prog 51 #[v, .int .i64 (D : Int)] w (BuildPost (.branch (fun d => buildT f (rests 1 (heads d (rests D es)))) e0.2) w) := by
  have hS := St.start w
  have kb := build_br0
  obtain ⟨p, c, rfl, hc, hcells⟩ := id hv
  obtain ⟨b, o, rfl, hbw, hcs⟩ := hcells (by intro e; subst e; simp at hne)
  obtain ⟨n, hnn⟩ : ∃ n, n = es.length := ⟨_, rfl⟩
  obtain ⟨kv, vv, g0, g1, hkv, hvv⟩ := hcs 0 hne
  rw [← he0] at hkv hvv
  obtain ⟨q1, c1, rfl⟩ := hkv.shape'
  obtain ⟨q2, c2, rfl⟩ := hvv.shape'
  rw [Nat.zero_mul, Nat.add_zero] at g0 g1
  rw [← hnn] at hc hv hne ⊢
  have hn100 : n ≤ 100000 := by have := hg.len; omega
  have dn : (0 : Int) < (n : Int) := by omega
  have HG := Lib.hid hg
  have HIHB := Lib.hid (fun (d : Nat) (v' : Value) (E : List En) (W : World) (hp : PairsAt W v' E) (hgE : GoodE (D + 1) E) (he : rests (D + 1) E = rests 1 (heads d (rests D es))) => by
    have := ih v' E (D + 1) W hp hgE hD (by rw [he]; exact longest_heads hf hlo)
    rw [he] at this
    exact this)
  have HDB := Lib.hid (show D < 128 by omega)
  have HGE := Lib.hid (fun (d h : Nat) (E : List En) (hE : rests D E = fromD d (rests D es)) (hsub : ∀ e ∈ E, e ∈ es) (hh : h = (heads d (rests D es)).length) => by
    have ht := (take_heads d hg.srt).1
    have hdr := (take_heads d hg.srt).2
    have e1 : rests D (E.take h) = heads d (rests D es) := by rw [← ht, ← hE, ← hh]; simp [rests, List.map_take]
    have e2 : rests D (E.drop h) = fromD (d + 1) (rests D es) := by rw [← hdr, ← hE, ← hh]; simp [rests, List.map_drop]
    have e3 : rests (D + 1) (E.take h) = rests 1 (heads d (rests D es)) := by rw [← e1, rests_rests]
    refine (⟨⟨?_, ?_, ?_⟩, e3, e2⟩ : GoodE (D + 1) (E.take h) ∧ rests (D + 1) (E.take h) = rests 1 (heads d (rests D es)) ∧ rests D (E.drop h) = fromD (d + 1) (rests D es))
    · have h1 : (rests D (E.take h)).length ≤ (rests D es).length := by rw [e1]; exact heads_len
      have h2 := hg.len
      simp only [rests, List.length_map] at h1
      omega
    · intro e he
      have hm : ((e.1.drop D), e.2) ∈ heads d (rests D es) := by rw [← e1]; exact List.mem_map.2 ⟨e, he, rfl⟩
      have h1 := (List.mem_filter.1 hm).2
      have h2 := hg.dep e (hsub e (List.mem_of_mem_take he))
      refine ⟨?_, h2.2⟩
      rcases Nat.lt_or_ge D e.1.length with h3 | h3
      · exact h3
      · rw [show (e.1.drop D, e.2).1 = e.1.drop D from rfl, List.drop_eq_nil_of_le h3] at h1
        simp at h1
    · rw [e3]; exact (hg.srt.heads).rests (heads_share _))
  have dl : ((e0.1.length : Int) == (D : Int)) = true := by rw [hDl]; simp
  obtain ⟨p1, cc1, hsl1, hp1⟩ := slice_fromE hv 1 hne (by omega)
  have hsl := hsl1
  rw [show ((1 : Nat) : Int) = 1 from rfl] at hsl
  have HV := Lib.hid hv
  have HVV := Lib.hid hvv
  have HE0 := Lib.hid (And.intro he0 hDl)
  have HNN := Lib.hid hnn
  have HSP := Lib.hid (show (e0.1.drop D, e0.2) :: rests D (es.drop 1) = rests D es by
    have h0 : 0 < es.length := by omega
    rw [he0]
    conv => rhs; rw [← List.drop_zero (l := es), List.drop_eq_getElem_cons h0]
    rfl)
  have HP1 := Lib.hid hp1
  clear hp1 hsl1
  clear hcells hcs hkv hvv hv hg ih hlo he0 hDl hf hnn
  go_enter Try.func51, Try.ntmps51
  go_wp2_with (first
    | (refine st_box (c := brC (fun _ => .nilIface) (.slice none 0 0)) hS rfl 117 _ rfl rfl ?_; clear hS; intro w1 bb hS; have hc0 := (hS.frame.cell (p := ⟨b, o, none⟩) hbw (by simp)).trans g0; have hc1 := (hS.frame.cell (p := ⟨b, o + 1, none⟩) hbw (by simp)).trans g1)
    | (refine st_storeV (b := bb) (j := 16) (v := .slice q2 e0.2.length c2) hS rfl 22 _ _ rfl rfl rfl rfl bytesS_size .head (by rw [brC_size]; decide) ?_; clear hS; intro w2 hS hO))
  go_loopw [0, 26] (fun v i wr => ∃ (d : Nat) (es' : List En) (p' : Option Addr) (n' c' : Nat) (cs : Nat → Value), v = .slice p' n' c' ∧ i = .int .i64 (d : Int) ∧ d ≤ 16 ∧ Tch [] w wr ∧ Blk wr bb 117 (brC cs (.slice q2 e0.2.length c2)) ∧ Hid (n' = es'.length ∧ n' ≤ c') ∧ Hid (ForkI f D es bb w e0.2 (.slice q2 e0.2.length c2) d es' (.slice p' n' c') cs wr)) (fun _ i _ => 16 - (intOf i).toNat)
  case atStart => exact ⟨0, es.drop 1, p1, n - 1, cc1, fun _ => .nilIface, rfl, rfl, by decide, hS.frame, (by have h := hS.get .head; rwa [brC_last_set] at h), Lib.hid (by have := HP1.out; obtain ⟨_, _, h1, h2, _⟩ := this; obtain ⟨_, h4, h5⟩ := Value.slice.inj h1; subst h5; exact ⟨by rw [List.length_drop, ← HNN.out], by rw [h4]; exact h2⟩), Lib.hid ⟨HP1.out, (by
      have hx := fromD_first (e := (e0.1.drop D, e0.2)) (l := rests D (es.drop 1)) (by rw [show (e0.1.drop D, e0.2) :: rests D (es.drop 1) = rests D es from HSP.out]; exact HG.out.srt)
      rw [show (e0.1.drop D, e0.2) :: rests D (es.drop 1) = rests D es from HSP.out] at hx
      rw [hx, if_pos (List.drop_eq_nil_of_le (Nat.le_of_eq HE0.out.2))]), fun e he => List.mem_of_mem_drop he, fun _ _ => rfl, HVV.out, fun j hj => by omega⟩⟩
  case round =>
    have hbb : w.heap.size ≤ bb := (hS.own .head).resolve_right (by simp)
    clear hS
    obtain ⟨d, es', p', n', c', cs, rfl, rfl, hd, hT, hB, HN, HI⟩ := hrel
    by_cases hlt : d < 16
    · have d1 : (d : Int) < 16 := by omega
      have d0 : (0 : Int) ≤ (d : Int) := by omega
      have hes : es'.length ≤ es.length := by
        have h1 := congrArg List.length HI.out.2.1
        have h2 : (fromD d (rests D es)).length ≤ (rests D es).length := List.length_filter_le _ _
        have h3 : (rests D es').length = es'.length := by simp [rests]
        have h4 : (rests D es).length = es.length := by simp [rests]
        omega
      have hn100 : n' ≤ 100000 := by have := HN.out.1; have := HG.out.len; omega
      have hn4 : n' ≤ 4611686018427387904 := by omega
      obtain ⟨T, hTT⟩ : ∃ T, T = (rests D es').takeWhile (fun e => e.1.head? == some d) := ⟨_, rfl⟩
      have hTh : T = heads d (rests D es) := by rw [hTT, HI.out.2.1]; exact (fromD_step d HG.out.srt).1
      obtain ⟨h, hh⟩ : ∃ h, h = T.length := ⟨_, rfl⟩
      have hhn : h ≤ n' := by
        have := tw_le (p := fun e : En => e.1.head? == some d) (rests D es')
        rw [← hTT, ← hh] at this
        have h3 : (rests D es').length = es'.length := by simp [rests]
        have := HN.out.1
        omega
      have hlr : (rests D es').length = n' := by have := HN.out.1; simp [rests, this]
      have HK := Lib.hid (show ∀ k (hk : k < (rests D es').length), ∃ (b' o' pb po cq len x : Nat), p' = some (⟨b', o', none⟩ : Addr) ∧ wr.cell? ⟨b', o' + k * 2, none⟩ = some (.slice (some ⟨pb, po, none⟩) len cq) ∧ wr.cell? ⟨pb, po + D, none⟩ = some (.int .u8 ((x : Nat) : Int)) ∧ D < len ∧ x < 256 ∧ (x == d) = (((rests D es')[k]).1.head? == some d) from fun k hk => by
        have hk' : k < es'.length := by simpa [rests] using hk
        have hDk := fromD_mem HI.out.2.1 hk'
        obtain ⟨pp, cc, hpp, hcc, hcl⟩ := HI.out.1
        obtain ⟨b', o', hp', hbw', hcs'⟩ := hcl (by intro e; subst e; simp at hk')
        obtain ⟨kv', vv', g0', _, hkv', _⟩ := hcs' k hk'
        obtain ⟨q, cq, hq1, _, hq3, hq4⟩ := hkv'
        obtain ⟨pb, po, hq, hpb, hpc⟩ := hq4 (by intro e; rw [e] at hDk; simp at hDk)
        refine ⟨b', o', pb, po, cq, (es'[k]'hk').1.length, (es'[k]'hk').1.getD D 0, (Value.slice.inj hpp).1.trans hp', ?_, (hT.cell (p := ⟨pb, po + D, none⟩) hpb (by simp)).trans (hpc D hDk), hDk, hq3 _ (by rw [List.getD_eq_getElem?_getD, List.getElem?_eq_getElem hDk]; exact List.getElem_mem hDk), (rest_head hk' hDk d hk).symm⟩
        rw [hT.cell (p := ⟨b', o' + k * 2, none⟩) hbw' (by simp), g0', hq1, hq])
      have HW := Lib.hid (show ∀ k (hk : k < (rests D es').length), (k < h → (((rests D es')[k]).1.head? == some d) = true) ∧ (k = h → (((rests D es')[k]).1.head? == some d) = false) from fun k hk => ⟨fun h1 => tw_lt (p := fun e : En => e.1.head? == some d) (rests D es') k (by rw [← hTT, ← hh]; exact h1) hk, fun h1 => by
          have h3 : k = ((rests D es').takeWhile (fun e : En => e.1.head? == some d)).length := by rw [← hTT, ← hh]; exact h1
          have h4 := tw_ge (p := fun e : En => e.1.head? == some d) (rests D es') (by rw [← h3]; exact hk)
          simp only [← h3] at h4
          exact h4⟩)
      have HLR := Lib.hid hlr
      have HT := Lib.hid (And.intro hTT (And.intro hTh (And.intro hh hhn)))
      have HC := Lib.hid (And.intro hT hB)
      have HD := Lib.hid hlt
      have HIH := Lib.hid hn4
      clear hTT hTh hes hn4 hT hB hlt hlr
      clear hh
      have HDD := HDB.out
      go_wp2
      go_loopw [7] (fun i wr2 => ∃ k : Nat, i = .int .i64 (k : Int) ∧ k ≤ h ∧ wr2 = wr) (fun i _ => n' - (intOf i).toNat)
      case atStart => exact ⟨0, rfl, Nat.zero_le _, by first | rfl | trivial⟩
      case round =>
        obtain ⟨k, rfl, hk, rfl⟩ := hrel
        by_cases hkn : k < n'
        · have e1 : (k : Int) < (n' : Int) := by omega
          have f0 : (0 : Int) ≤ (k : Int) := by omega
          obtain ⟨b', o', pb, po, cq, len, x, rfl, g0, g1, hDl, hx, hxd⟩ := HK.out k (by rw [HLR.out]; exact hkn)
          have e2 : (D : Int) < (len : Int) := by omega
          have e3 : (0 : Int) ≤ (D : Int) := by omega
          have e4 : IntKind.i64.wrap (x : Int) = (x : Int) := by rw [IntWalk.i64_in _ (by omega)]
          have HWk := HW.out k (by rw [HLR.out]; exact hkn)
          by_cases hkh : k < h
          · have hxe : x = d := by
              have := HWk.1 hkh
              rw [this] at hxd
              simpa using hxd
            have e5 : ((x : Int) == (d : Int)) = true := by rw [hxe]; simp
            have HH := Lib.hid (And.intro hkh hkn)
            clear hxe HWk hxd hkh hkn HW HK HI HN
            go_wp2
            go_roundw
            case rel => exact ⟨k + 1, by go_num, HH.out.1, by first | rfl | trivial⟩
            case measure => have := HH.out.2; simp [intOf]; omega
          · have hke : k = h := by omega
            have hxe : ¬ x = d := by
              have := HWk.2 hke
              rw [this] at hxd
              simpa using hxd
            have e5 : ((x : Int) == (d : Int)) = false := beq_eq_false_iff_ne.2 (by omega)
            subst hke
            clear hxe HWk hxd hkh
            obtain ⟨hT, hB⟩ := HC.out
            have hkk : k = (heads d (rests D es)).length := by rw [← HT.out.2.1]; exact HT.out.2.2.1
            have hkn' : k ≤ n' := HT.out.2.2.2
            have hge := HGE.out d k es' HI.out.2.1 HI.out.2.2.1 hkk
            have hpt := HI.out.1.take k hkn'
            obtain ⟨pz, cz, hslz, hpz⟩ := slice_fromE HI.out.1 k hkn' HIH.out
            have HS2 := Lib.hid hslz
            have hIB := fun (W : World) (hW : Tch [] w W) => HIHB.out d _ (es'.take k) W (hpt.tch hW) hge.1 hge.2.1
            have HIB := Lib.hid hIB
            have HTO := Lib.hid (fun w' => slice_toE (some ⟨b', o', none⟩) n' c' k hkn' HN.out.2 HIH.out w')
            have HDU := Lib.hid (And.intro HDB.out HD.out)
            have HPR := Lib.hid (And.intro hpz (And.intro hge.2.2 (And.intro hge.2.1 hkk)))
            clear hslz hpz hge hpt hIB hkk hkn'
            go_upto_region 11 with fail
            refine wp_region_held_drew (S := fun w' => Tch [bb] wr w') (by kernel_rfl) ((Tch.refl _ _).drew) (fun hC => ?_)
            have hTd : Tch [] wr wr.drew := (Tch.refl _ _).drew
            generalize World.drew wr = u0 at hC hTd ⊢
            have hB0 := hTd.blk hB (by simp)
            have hW0 := hT.trans hTd
            refine held_in (v := .pointer (some ⟨bb, 0, none⟩)) 0 rfl (by kernel_rfl) (by kernel_rfl) (by kernel_rfl) (fun _ _ _ h => h) hC rfl (fun w' hw' => x_val (.inl rfl) rfl) ?_
            try simp only [Act.put, List.setIfInBounds_toArray, List.set_cons_zero, List.set_cons_succ]
            refine held_in (v := .int .i64 (d : Int)) 1 rfl (by kernel_rfl) (by kernel_rfl) (by kernel_rfl) (fun _ _ _ h => h) hC rfl (fun w' hw' => x_val (.inl rfl) rfl) ?_
            try simp only [Act.put, List.setIfInBounds_toArray, List.set_cons_zero, List.set_cons_succ]
            refine held_in (v := (.slice (some ⟨b', o', none⟩) n' c')) 2 rfl (by kernel_rfl) (by kernel_rfl) (by kernel_rfl) (fun _ _ _ h => h) hC rfl (fun w' hw' => x_val (.inl rfl) rfl) ?_
            try simp only [Act.put, List.setIfInBounds_toArray, List.set_cons_zero, List.set_cons_succ]
            refine held_in (v := .int .i64 (k : Int)) 3 rfl (by kernel_rfl) (by kernel_rfl) (by kernel_rfl) (fun _ _ _ h => h) hC rfl (fun w' hw' => x_val (.inl rfl) rfl) ?_
            try simp only [Act.put, List.setIfInBounds_toArray, List.set_cons_zero, List.set_cons_succ]
            refine held_in (v := (.slice (some ⟨b', o', none⟩) k c')) 4 rfl (by kernel_rfl) (by kernel_rfl) (by kernel_rfl) (fun _ _ _ h => h) hC rfl (fun w' hw' => x_to _ _ _ rfl rfl rfl (HTO.out w')) ?_
            try simp only [Act.put, List.setIfInBounds_toArray, List.set_cons_zero, List.set_cons_succ]
            refine held_in (v := .int .i64 (D : Int)) 5 rfl (by kernel_rfl) (by kernel_rfl) (by kernel_rfl) (fun _ _ _ h => h) hC rfl (fun w' hw' => x_val (.inl rfl) rfl) ?_
            try simp only [Act.put, List.setIfInBounds_toArray, List.set_cons_zero, List.set_cons_succ]
            refine held_in (v := .int .i64 ((D + 1 : Nat) : Int)) 6 rfl (by kernel_rfl) (by kernel_rfl) (by kernel_rfl) (fun _ _ _ h => h) hC rfl (fun w' hw' => x_addN (by have := HDU.out.1; omega) rfl rfl rfl) ?_
            try simp only [Act.put, List.setIfInBounds_toArray, List.set_cons_zero, List.set_cons_succ]
            refine held_in (v := .pointer (some ⟨bb, 0, none⟩)) 8 rfl (by kernel_rfl) (by kernel_rfl) (by kernel_rfl) (fun _ _ _ h => h) hC rfl (fun w' hw' => x_nilck _ rfl rfl) ?_
            try simp only [Act.put, List.setIfInBounds_toArray, List.set_cons_zero, List.set_cons_succ]
            refine held_in (v := .pointer (some ⟨bb, 0, none⟩)) 9 rfl (by kernel_rfl) (by kernel_rfl) (by kernel_rfl) (fun _ _ _ h => h) hC rfl (fun w' hw' => x_fa _ _ _ rfl rfl (fa_br0 _ _)) ?_
            try simp only [Act.put, List.setIfInBounds_toArray, List.set_cons_zero, List.set_cons_succ]
            refine held_one 7 (by kernel_rfl) ?_
            refine held_call2 (v1 := (.slice (some ⟨b', o', none⟩) k c')) (v2 := .int .i64 ((D + 1 : Nat) : Int)) rfl rfl rfl (by rfl) (by rfl) Try.call33 (HIB.out u0 hW0) ?_
            rintro e u1 ⟨hT3, u, rfl, hTV⟩
            have hC1 := hC.trans (hT3.mono (by simp))
            have hB1 := hT3.blk hB0 (by simp)
            have hW1 := hW0.trans hT3
            refine ⟨_, rfl, hC1, ?_⟩
            try simp only [Act.put, List.setIfInBounds_toArray, List.set_cons_zero, List.set_cons_succ]
            refine held_in (v := .pointer (some ⟨bb, d, none⟩)) 10 rfl (by kernel_rfl) (by kernel_rfl) (by kernel_rfl) (fun _ _ _ h => h) hC1 rfl (fun w' hw' => x_idxV _ _ rfl rfl rfl (idx16 _ HDU.out.2 _)) ?_
            try simp only [Act.put, List.setIfInBounds_toArray, List.set_cons_zero, List.set_cons_succ]
            refine held_one 11 (by kernel_rfl) ?_
            refine held_store1 (j := d) (v := u) hB1 (by rw [brC_size]; have := HDU.out.2; omega) hTV.one tnode_size rfl rfl rfl (by rfl) (by rfl) ?_
            intro u2 hO hB2
            have hC2 := hC1.only hO (.inr (by simp))
            refine ⟨hC2, ?_⟩
            refine wpAnyH_done (by kernel_rfl) ?_ _
            have hW2 := hW1.only hO (.inl hbb)
            rw [brC_set _ _ _ HDU.out.2] at hB2
            have hbu : bb + 1 ≤ u0.heap.size := hB0.lt
            have hnB : NoB (brC cs (.slice q2 e0.2.length c2)) := brC_noB (fun j hj x => by
              by_cases hjd : j < d
              · exact (HI.out.2.2.2.2.2 j hjd).noB x
              · rw [HI.out.2.2.2.1 j (by omega)]; simp)
            have htch : ∀ {T : TN} {v : Value}, TreeV (bb + 1) u1 T v → TreeV (bb + 1) u2 T v := fun h => h.touch (X := [bb]) hO.tch (fun x hx => by
              rw [List.mem_singleton] at hx
              subst hx
              exact ⟨Nat.lt_succ_self _, _, _, hB1, hnB⟩)
            have HNEW := Lib.hid (show ForkI f D es bb w e0.2 (.slice q2 e0.2.length c2) (d + 1) (es'.drop k) (.slice pz (n' - k) cz) (fun j => if j = d then u else cs j) u2 from
              ⟨HPR.out.1, HPR.out.2.1, fun e he => HI.out.2.2.1 e (List.mem_of_mem_drop he), fun j hj => by
                show (if j = d then u else cs j) = _
                rw [if_neg (by omega)]; exact HI.out.2.2.2.1 j (by omega), HI.out.2.2.2.2.1, fun j hj => by
                show TreeV _ _ _ (if j = d then u else cs j)
                by_cases hjd : j = d
                · subst hjd
                  rw [if_pos rfl]
                  exact htch (hTV.low hbu)
                · rw [if_neg hjd]
                  exact htch (((HI.out.2.2.2.2.2 j (by omega)).tch hTd).tch hT3)⟩)
            have hcn : n' - k = (es'.drop k).length ∧ n' - k ≤ cz := by
              obtain ⟨_, _, h1, h2, _⟩ := HPR.out.1
              obtain ⟨h3, h4, h5⟩ := Value.slice.inj h1
              subst h5
              exact ⟨by rw [List.length_drop, HN.out.1], by rw [h4]; exact h2⟩
            have HCN := Lib.hid hcn
            have hslz := HS2.out
            have HB2 := Lib.hid (And.intro hW2 hB2)
            clear hC hC1 hC2 hTd hT hB hB0 hB1 hW0 hW1 hW2 hB2 hT3 hTV hO hnB htch hbu hcn HS2 HTO HIB HPR HI HIHB HGE HT HC HW HK HN HLR HG HV HVV HNN HSP HE0 HIH
            go_wp2
            go_roundw
            case rel => exact ⟨d + 1, es'.drop k, pz, n' - k, cz, fun j => if j = d then u else cs j, by first | rfl | trivial, by go_num, HDU.out.2, HB2.out.1, HB2.out.2, HCN, HNEW⟩
            case measure => have := HDU.out.2; simp [intOf]; omega
        · have hke : k = h := by have := HT.out.2.2.2; omega
          have e1 : ¬ (k : Int) < (n' : Int) := by omega
          subst hke
          obtain ⟨hT, hB⟩ := HC.out
          have hkk : k = (heads d (rests D es)).length := by rw [← HT.out.2.1]; exact HT.out.2.2.1
          have hkn' : k ≤ n' := HT.out.2.2.2
          have hge := HGE.out d k es' HI.out.2.1 HI.out.2.2.1 hkk
          have hpt := HI.out.1.take k hkn'
          obtain ⟨pz, cz, hslz, hpz⟩ := slice_fromE HI.out.1 k hkn' HIH.out
          have HS2 := Lib.hid hslz
          have hIB := fun (W : World) (hW : Tch [] w W) => HIHB.out d _ (es'.take k) W (hpt.tch hW) hge.1 hge.2.1
          have HIB := Lib.hid hIB
          have HTO := Lib.hid (fun w' => slice_toE p' n' c' k hkn' HN.out.2 HIH.out w')
          have HDU := Lib.hid (And.intro HDB.out HD.out)
          have HPR := Lib.hid (And.intro hpz (And.intro hge.2.2 (And.intro hge.2.1 hkk)))
          clear hslz hpz hge hpt hIB hkk hkn'
          go_upto_region 11 with fail
          refine wp_region_held_drew (S := fun w' => Tch [bb] wr w') (by kernel_rfl) ((Tch.refl _ _).drew) (fun hC => ?_)
          have hTd : Tch [] wr wr.drew := (Tch.refl _ _).drew
          generalize World.drew wr = u0 at hC hTd ⊢
          have hB0 := hTd.blk hB (by simp)
          have hW0 := hT.trans hTd
          refine held_in (v := .pointer (some ⟨bb, 0, none⟩)) 0 rfl (by kernel_rfl) (by kernel_rfl) (by kernel_rfl) (fun _ _ _ h => h) hC rfl (fun w' hw' => x_val (.inl rfl) rfl) ?_
          try simp only [Act.put, List.setIfInBounds_toArray, List.set_cons_zero, List.set_cons_succ]
          refine held_in (v := .int .i64 (d : Int)) 1 rfl (by kernel_rfl) (by kernel_rfl) (by kernel_rfl) (fun _ _ _ h => h) hC rfl (fun w' hw' => x_val (.inl rfl) rfl) ?_
          try simp only [Act.put, List.setIfInBounds_toArray, List.set_cons_zero, List.set_cons_succ]
          refine held_in (v := (.slice p' n' c')) 2 rfl (by kernel_rfl) (by kernel_rfl) (by kernel_rfl) (fun _ _ _ h => h) hC rfl (fun w' hw' => x_val (.inl rfl) rfl) ?_
          try simp only [Act.put, List.setIfInBounds_toArray, List.set_cons_zero, List.set_cons_succ]
          refine held_in (v := .int .i64 (k : Int)) 3 rfl (by kernel_rfl) (by kernel_rfl) (by kernel_rfl) (fun _ _ _ h => h) hC rfl (fun w' hw' => x_val (.inl rfl) rfl) ?_
          try simp only [Act.put, List.setIfInBounds_toArray, List.set_cons_zero, List.set_cons_succ]
          refine held_in (v := (.slice p' k c')) 4 rfl (by kernel_rfl) (by kernel_rfl) (by kernel_rfl) (fun _ _ _ h => h) hC rfl (fun w' hw' => x_to _ _ _ rfl rfl rfl (HTO.out w')) ?_
          try simp only [Act.put, List.setIfInBounds_toArray, List.set_cons_zero, List.set_cons_succ]
          refine held_in (v := .int .i64 (D : Int)) 5 rfl (by kernel_rfl) (by kernel_rfl) (by kernel_rfl) (fun _ _ _ h => h) hC rfl (fun w' hw' => x_val (.inl rfl) rfl) ?_
          try simp only [Act.put, List.setIfInBounds_toArray, List.set_cons_zero, List.set_cons_succ]
          refine held_in (v := .int .i64 ((D + 1 : Nat) : Int)) 6 rfl (by kernel_rfl) (by kernel_rfl) (by kernel_rfl) (fun _ _ _ h => h) hC rfl (fun w' hw' => x_addN (by have := HDU.out.1; omega) rfl rfl rfl) ?_
          try simp only [Act.put, List.setIfInBounds_toArray, List.set_cons_zero, List.set_cons_succ]
          refine held_in (v := .pointer (some ⟨bb, 0, none⟩)) 8 rfl (by kernel_rfl) (by kernel_rfl) (by kernel_rfl) (fun _ _ _ h => h) hC rfl (fun w' hw' => x_nilck _ rfl rfl) ?_
          try simp only [Act.put, List.setIfInBounds_toArray, List.set_cons_zero, List.set_cons_succ]
          refine held_in (v := .pointer (some ⟨bb, 0, none⟩)) 9 rfl (by kernel_rfl) (by kernel_rfl) (by kernel_rfl) (fun _ _ _ h => h) hC rfl (fun w' hw' => x_fa _ _ _ rfl rfl (fa_br0 _ _)) ?_
          try simp only [Act.put, List.setIfInBounds_toArray, List.set_cons_zero, List.set_cons_succ]
          refine held_one 7 (by kernel_rfl) ?_
          refine held_call2 (v1 := (.slice p' k c')) (v2 := .int .i64 ((D + 1 : Nat) : Int)) rfl rfl rfl (by rfl) (by rfl) Try.call33 (HIB.out u0 hW0) ?_
          rintro e u1 ⟨hT3, u, rfl, hTV⟩
          have hC1 := hC.trans (hT3.mono (by simp))
          have hB1 := hT3.blk hB0 (by simp)
          have hW1 := hW0.trans hT3
          refine ⟨_, rfl, hC1, ?_⟩
          try simp only [Act.put, List.setIfInBounds_toArray, List.set_cons_zero, List.set_cons_succ]
          refine held_in (v := .pointer (some ⟨bb, d, none⟩)) 10 rfl (by kernel_rfl) (by kernel_rfl) (by kernel_rfl) (fun _ _ _ h => h) hC1 rfl (fun w' hw' => x_idxV _ _ rfl rfl rfl (idx16 _ HDU.out.2 _)) ?_
          try simp only [Act.put, List.setIfInBounds_toArray, List.set_cons_zero, List.set_cons_succ]
          refine held_one 11 (by kernel_rfl) ?_
          refine held_store1 (j := d) (v := u) hB1 (by rw [brC_size]; have := HDU.out.2; omega) hTV.one tnode_size rfl rfl rfl (by rfl) (by rfl) ?_
          intro u2 hO hB2
          have hC2 := hC1.only hO (.inr (by simp))
          refine ⟨hC2, ?_⟩
          refine wpAnyH_done (by kernel_rfl) ?_ _
          have hW2 := hW1.only hO (.inl hbb)
          rw [brC_set _ _ _ HDU.out.2] at hB2
          have hbu : bb + 1 ≤ u0.heap.size := hB0.lt
          have hnB : NoB (brC cs (.slice q2 e0.2.length c2)) := brC_noB (fun j hj x => by
            by_cases hjd : j < d
            · exact (HI.out.2.2.2.2.2 j hjd).noB x
            · rw [HI.out.2.2.2.1 j (by omega)]; simp)
          have htch : ∀ {T : TN} {v : Value}, TreeV (bb + 1) u1 T v → TreeV (bb + 1) u2 T v := fun h => h.touch (X := [bb]) hO.tch (fun x hx => by
            rw [List.mem_singleton] at hx
            subst hx
            exact ⟨Nat.lt_succ_self _, _, _, hB1, hnB⟩)
          have HNEW := Lib.hid (show ForkI f D es bb w e0.2 (.slice q2 e0.2.length c2) (d + 1) (es'.drop k) (.slice pz (n' - k) cz) (fun j => if j = d then u else cs j) u2 from
            ⟨HPR.out.1, HPR.out.2.1, fun e he => HI.out.2.2.1 e (List.mem_of_mem_drop he), fun j hj => by
              show (if j = d then u else cs j) = _
              rw [if_neg (by omega)]; exact HI.out.2.2.2.1 j (by omega), HI.out.2.2.2.2.1, fun j hj => by
              show TreeV _ _ _ (if j = d then u else cs j)
              by_cases hjd : j = d
              · subst hjd
                rw [if_pos rfl]
                exact htch (hTV.low hbu)
              · rw [if_neg hjd]
                exact htch (((HI.out.2.2.2.2.2 j (by omega)).tch hTd).tch hT3)⟩)
          have hcn : n' - k = (es'.drop k).length ∧ n' - k ≤ cz := by
            obtain ⟨_, _, h1, h2, _⟩ := HPR.out.1
            obtain ⟨h3, h4, h5⟩ := Value.slice.inj h1
            subst h5
            exact ⟨by rw [List.length_drop, HN.out.1], by rw [h4]; exact h2⟩
          have HCN := Lib.hid hcn
          have hslz := HS2.out
          have HB2 := Lib.hid (And.intro hW2 hB2)
          clear hC hC1 hC2 hTd hT hB hB0 hB1 hW0 hW1 hW2 hB2 hT3 hTV hO hnB htch hbu hcn HS2 HTO HIB HPR HI HIHB HGE HT HC HW HK HN HLR HG HV HVV HNN HSP HE0 HIH
          go_wp2
          go_roundw
          case rel => exact ⟨d + 1, es'.drop k, pz, n' - k, cz, fun j => if j = d then u else cs j, by first | rfl | trivial, by go_num, HDU.out.2, HB2.out.1, HB2.out.2, HCN, HNEW⟩
          case measure => have := HDU.out.2; simp [intOf]; omega
    · obtain rfl : d = 16 := by omega
      have hfin := (show BuildPost (.branch (fun d => buildT f (rests 1 (heads d (rests D es)))) e0.2) w (.returned (.iface 113 (.pointer (some ⟨bb, 0, none⟩)))) wr from ⟨hT, _, rfl, bb, cs, (.slice q2 e0.2.length c2), rfl, hbb, hB, HI.out.2.2.2.2.1.tch hT (by simp), fun d hd => (HI.out.2.2.2.2.2 d hd).low (by omega)⟩)
      clear HI HN
      go_wp2
      go_ret
      exact hfin
end Go.Proofs.Ytfdihphhmhgejaa
