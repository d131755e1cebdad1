/- The document's states: rows of accounts, appended and turned. -/
import Derived.Test.YtklpcppdjcedpaaDT1
import Derived.Maps.AppendAt
namespace Go.Proofs.Ytklpcppdjcedpaa
open Go.RowKit Go.WideMaps Go.ChangeMaps Go.MapKept
set_option linter.unusedVariables false
set_option linter.unusedSimpArgs false
set_option maxRecDepth 100000
set_option maxHeartbeats 1000000
theorem acct_infos : (Try.prog.info? 37).map (fun i => (i.zero, i.size, i.bytes)) = some (some (.agg (dC [] 0)), 55, 112) := by kernel_rfl
theorem acct_sizeOfD (w : World) : (sizeOf 37).run Try.prog w = .ok 55 w := by kernel_rfl
theorem slice_fromD (p : Option Addr) (n c k : Nat) (hk : k ≤ n) (hc : n ≤ c) : ∃ p' c', (∀ w, (Instr.sliceAt 44 (.slice p n c) (some (.int .i64 (k : Int))) none none).run Try.prog w = .ok (.slice p' (n - k) c') w) ∧ (k < n → ∀ g, p = some ⟨g, 0, none⟩ → p' = some ⟨g, k * 55, none⟩) := by
  refine ⟨if c = k then p else p.map (·.add (k * 55)), c - k, fun w => ?_, fun h g hg => ?_⟩
  · have hel : Try.prog.elem 44 = 37 := by kernel_rfl
    have ht : Try.prog.underlying 44 = some (.slice (Try.prog.elem 44)) := by rw [hel]; exact accts_tyY
    have e1 := run_sliceAt_slice (P := Try.prog) (w := w) 44 (.slice p n c) (some (.int .i64 (k : Int))) none none ht
    have e2 := run_slice_l (P := Try.prog) (w := w) 44 p n c ht .i64 (k : Int) (by omega) (by omega)
    rw [e1, e2, hel, acct_sizeOfD]
    simp [Result.andThen, sliced]
  · rw [if_neg (by omega), hg]
    have hadd : (⟨g, 0, none⟩ : Addr).add (k * 55) = ⟨g, k * 55, none⟩ := by unfold Addr.add; split <;> simp_all
    show some ((⟨g, 0, none⟩ : Addr).add (k * 55)) = _
    rw [hadd]
theorem slice_toD (p : Option Addr) (n c k : Nat) (hk : k ≤ n) (hc : n ≤ c) (w : World) : (Instr.sliceAt 44 (.slice p n c) none (some (.int .i64 (k : Int))) none).run Try.prog w = .ok (.slice p k c) w := by
  have hel : Try.prog.elem 44 = 37 := by kernel_rfl
  have ht : Try.prog.underlying 44 = some (.slice (Try.prog.elem 44)) := by rw [hel]; exact accts_tyY
  have e1 := run_sliceAt_slice (P := Try.prog) (w := w) 44 (.slice p n c) none (some (.int .i64 (k : Int))) none ht
  have e2 := run_slice_h (P := Try.prog) (w := w) 44 p n c ht .i64 (k : Int) (by omega) (by omega)
  rw [e1, e2, hel, acct_sizeOfD]
  cases p <;> simp [Result.andThen, sliced, Addr.add]
theorem dCells_one (M : AL) : ∀ u ∈ dCells M, u.oneCell' = true := by
  intro u hu
  unfold dCells at hu
  obtain ⟨q, hq, hu⟩ := List.mem_flatMap.1 hu
  exact all_list (dC_one q.1 q.2) u hu
/-- Accounts appended to a row of the call's own. -/
theorem appD_run {w : World} {base N c : Nat} {v : Value} {us : List Value} {p : Option Addr} {M : AL} (hown : w.ownsRow base 37 55 v N us) (hb : base ≤ w.heap.size) (hx : M ≠ [] → ∃ g o, p = some ⟨g, o, none⟩ ∧ ∀ j u, (dCells M)[j]? = some u → w.cell? ⟨g, o + j, none⟩ = some u) (hN : N + M.length ≤ 100000000) (ty : TypeId) :
    ∃ v' w', (Builtin.append_ #[44, 44] ty #[v, .slice p M.length c]).run Try.prog w = .ok v' w' ∧ w'.ownsRow base 37 55 v' (N + M.length) (us ++ dCells M) ∧ Tch v.ownBlock.toList w w' ∧ (v'.ownBlock = v.ownBlock ∨ v'.ownBlock = some w.heap.size) := by
  obtain ⟨i0, hi, hz0, hz1, hz2⟩ := info_parts acct_infos
  by_cases hM : M = []
  · subst hM
    refine ⟨v, w, ?_, by simpa [dCells] using hown, Tch.refl _ _, .inl rfl⟩
    have hform : ∃ b n cc, v = .slice b n cc ∧ n ≤ cc := by
      rcases hown.2 with ⟨rfl, _⟩ | ⟨g, cap, cur, rfl, _, _, hcap, _⟩
      · exact ⟨none, 0, 0, rfl, Nat.le_refl _⟩
      · exact ⟨_, _, _, rfl, hcap⟩
    obtain ⟨b, n, cc, rfl, hle⟩ := hform
    cases p <;> cases b <;> simp [Builtin.append_, run_underlying accts_tyY, sizeOf, typeInfo, hi, hle, Builtin.lenOf, Builtin.firstCells, loadCells, loadCellsFrom, storeCells, Result.andThen]
  · obtain ⟨g, o, rfl, hc⟩ := hx hM
    obtain ⟨v', w', hr, h2, hgrow, _, h3⟩ := run_append_own_at (P := Try.prog) w base 44 ty 37 i0 _ 55 112 accts_tyY hi hz0 hz1 hz2 (dC_size _ _) (by decide) v N us hown ⟨g, o, none⟩ M.length c (dCells M) (dCells_len M) (fun j u hu => by
      have hadd : (⟨g, o, none⟩ : Addr).add j = ⟨g, o + j, none⟩ := by unfold Addr.add; split <;> simp_all
      rw [hadd]; exact hc j u hu) (dCells_one M) (by unfold maxLen; omega) (by omega) hb
    exact ⟨v', w', hr, h2, ⟨hgrow.os, hgrow.tape, hgrow.output, hgrow.size, fun k hk hm' => hgrow.block k hk (fun e => hm' (by rw [← e]; simp))⟩, h3⟩
section
variable {a : Act} {w : World} {o : Oper} {ops : Array Oper} {rest : List Oper} {Q : Exit → Act → World → Prop}
theorem r_appD {base N c : Nat} {v : Value} {us : List Value} {p : Option Addr} {M : AL} (s x : Operand)
    (ho : o.op = .call { callee := .builtin .append, args := #[s, x], argTypes := #[44, 44] }) (hs : a.eval s = v) (hxe : a.eval x = .slice p M.length c)
    (hown : w.ownsRow base 37 55 v N us) (hb : base ≤ w.heap.size) (hx : M ≠ [] → ∃ g o, p = some ⟨g, o, none⟩ ∧ ∀ j u, (dCells M)[j]? = some u → w.cell? ⟨g, o + j, none⟩ = some u) (hN : N + M.length ≤ 100000000) :
    ∃ v' w', (execOp a.eval o).run Try.prog w = .ok (.value v') w' ∧ w'.ownsRow base 37 55 v' (N + M.length) (us ++ dCells M) ∧ Tch v.ownBlock.toList w w' ∧ (v'.ownBlock = v.ownBlock ∨ v'.ownBlock = some w.heap.size) := by
  obtain ⟨v', w', hr, h2, h3, h4⟩ := appD_run hown hb hx hN (c := c) o.type
  refine ⟨v', w', ?_, h2, h3, h4⟩
  unfold execOp
  simp only [ho, resolve, invoke, builtin, Sem.run_bind, Sem.run_pure, Result.andThen_ok, List.map_toArray, List.map_cons, List.map_nil, hs, hxe, hr]
theorem st_appD {base N c : Nat} {v : Value} {us : List Value} {p : Option Addr} {M : AL} (hgd : o.guard = none) {s x : Operand}
    (ho : o.op = .call { callee := .builtin .append, args := #[s, x], argTypes := #[44, 44] }) (hs : a.eval s = v) (hxe : a.eval x = .slice p M.length c)
    (hown : w.ownsRow base 37 55 v N us) (hb : base ≤ w.heap.size) (hx : M ≠ [] → ∃ g o, p = some ⟨g, o, none⟩ ∧ ∀ j u, (dCells M)[j]? = some u → w.cell? ⟨g, o + j, none⟩ = some u) (hN : N + M.length ≤ 100000000)
    (h : ∀ v' w', w'.ownsRow base 37 55 v' (N + M.length) (us ++ dCells M) → Tch v.ownBlock.toList w w' → (v'.ownBlock = v.ownBlock ∨ v'.ownBlock = some w.heap.size) → wpList Try.prog ops Q rest (a.put o.dst v') w') : wpList Try.prog ops Q (o :: rest) a w := by
  obtain ⟨v', w', hr, h2, h3, h4⟩ := r_appD s x ho hs hxe hown hb hx hN
  exact st_run hgd hr (h v' w' h2 h3 h4)
theorem held_appD {l0 : List Oper} {n base N c : Nat} {K : Act → World → Prop} {v : Value} {us : List Value} {p : Option Addr} {M : AL} {s x : Operand} (ho' : l0[n]? = some o) (hw : Region.wanted o (yielded l0.toArray a.tmps) = true)
    (ho : o.op = .call { callee := .builtin .append, args := #[s, x], argTypes := #[44, 44] }) (hs : a.eval s = v) (hxe : a.eval x = .slice p M.length c)
    (hown : w.ownsRow base 37 55 v N us) (hb : base ≤ w.heap.size) (hx : M ≠ [] → ∃ g o, p = some ⟨g, o, none⟩ ∧ ∀ j u, (dCells M)[j]? = some u → w.cell? ⟨g, o + j, none⟩ = some u) (hN : N + M.length ≤ 100000000)
    (h : ∀ v' w', w'.ownsRow base 37 55 v' (N + M.length) (us ++ dCells M) → Tch v.ownBlock.toList w w' → (v'.ownBlock = v.ownBlock ∨ v'.ownBlock = some w.heap.size) → K (a.put o.dst v') w') : wpOp Try.prog l0.toArray Q n K a w := by
  obtain ⟨v', w', hr, h2, h3, h4⟩ := r_appD s x ho hs hxe hown hb hx hN
  exact held_run ho' hw hr (h v' w' h2 h3 h4)
end
section
variable {o : Oper} {a : Act} {w w' : World}
theorem sl_addr (b q : Nat) (w : World) : (Instr.sliceAt 23 (.pointer (some ⟨b, q, none⟩)) none none none).run Try.prog w = .ok (.slice (some ⟨b, q, none⟩) 20 20) w := by kernel_rfl
theorem x_slAd {b q : Nat} (x : Operand) (ho : o.op = .slice 23 x none none none) (hx : a.eval x = .pointer (some ⟨b, q, none⟩)) : (execOp a.eval o).run Try.prog w = .ok (.value (.slice (some ⟨b, q, none⟩) 20 20)) w := by
  unfold execOp
  simp only [ho, hx, Option.map_none, Sem.run_bind, sl_addr, Result.andThen_ok, Sem.run_pure]
theorem x_slF {v u i : Value} (ty : TypeId) (x y : Operand) (ho : o.op = .slice ty x (some y) none none) (hx : a.eval x = v) (hy : a.eval y = i) (hr : (Instr.sliceAt ty v (some i) none none).run Try.prog w = .ok u w) : (execOp a.eval o).run Try.prog w = .ok (.value u) w := by
  unfold execOp
  simp only [ho, hx, hy, Option.map_none, Option.map_some, Sem.run_bind, hr, Result.andThen_ok, Sem.run_pure]
theorem x_slT {v u i : Value} (ty : TypeId) (x y : Operand) (ho : o.op = .slice ty x none (some y) none) (hx : a.eval x = v) (hy : a.eval y = i) (hr : (Instr.sliceAt ty v none (some i) none).run Try.prog w = .ok u w) : (execOp a.eval o).run Try.prog w = .ok (.value u) w := by
  unfold execOp
  simp only [ho, hx, hy, Option.map_none, Option.map_some, Sem.run_bind, hr, Result.andThen_ok, Sem.run_pure]
theorem x_convS {v : Value} {l : List Nat} (x : Operand) (ho : o.op = .convert 34 9 x) (hx : a.eval x = v) (hv : RdB w v l) : (execOp a.eval o).run Try.prog w = .ok (.value (.string (strB l))) w := by
  unfold execOp
  simp only [ho, hx, Sem.run_bind, conv_rd hv, Result.andThen_ok, Sem.run_pure]
theorem x_strLt {l m : List Nat} {r : Bool} (hl : ∀ x ∈ l, x < 256) (hm : ∀ x ∈ m, x < 256) (hr : decide (aLt l m) = r) (x y : Operand) (yt : TypeId) (ho : o.op = .binOp .lss 9 x y yt) (hx : a.eval x = .string (strB l)) (hy : a.eval y = .string (strB m)) : (execOp a.eval o).run Try.prog w = .ok (.value (.bool r)) w := by
  have e : Op.bytesLess (strB l).toList (strB m).toList = r := by rw [strB_list, strB_list, ← hr]; exact less_aLt l m hl hm
  unfold execOp; simp only [ho, hx, hy]; show Sem.run _ _ w = _; simp [eqGuard, binOp, Op.stringOp, e]
end
theorem RdB_av {w : World} {b q : Nat} {A : List Nat} (hA : Ad A) (hb : b < w.heap.size) (h : w.rangeAt b q (av A).toList) : RdB w (.slice (some ⟨b, q, none⟩) 20 20) A := by
  refine ⟨some ⟨b, q, none⟩, 20, by rw [hA.1], by rw [hA.1]; exact Nat.le_refl _, hA.2, fun _ => ⟨b, q, rfl, hb, fun i hi => ?_⟩⟩
  refine h i _ ?_
  rw [Array.getElem?_toList]
  exact bc_get (by rw [← hA.1]; exact hi)
theorem blk_range0 {w : World} {b : Nat} {t : TypeId} {c : Array Value} (h : Blk w b t c) : w.rangeAt b 0 c.toList := fun j v hv => by
  rw [Array.getElem?_toList] at hv
  rw [Nat.zero_add]
  exact h.cell hv
/-- What is put where the addresses are not less any more. -/
theorem balL_ins (L : AL) (A : List Nat) (k : Nat) (hk : k ≤ L.length) (hn : ∀ p ∈ L, p.1 ≠ A) (X : List Nat) : balL (L.take k ++ (A, 0) :: L.drop k) X = balL L X := by
  induction L generalizing k with
  | nil =>
    have : k = 0 := by simpa using hk
    subst this
    show (if A = X then 0 else 0) = 0
    split <;> rfl
  | cons p L ih =>
    have hp : p.1 ≠ A := hn p List.mem_cons_self
    cases k with
    | zero =>
      show (if A = X then 0 else balL (p :: L) X) = _
      by_cases e : A = X
      · rw [if_pos e, ← e]
        exact (balL_none _ _ fun j hj => hn _ (List.getElem_mem hj)).symm
      · rw [if_neg e]
    | succ k =>
      show (if p.1 = X then p.2 else balL (L.take k ++ (A, 0) :: L.drop k) X) = (if p.1 = X then p.2 else balL L X)
      rw [ih k (by simpa using hk) (fun q hq => hn q (List.mem_cons_of_mem _ hq))]
theorem sorted_ins (L : AL) (A : List Nat) (k : Nat) (hk : k ≤ L.length) (hs : L.Pairwise fun p q => aLt p.1 q.1) (h1 : ∀ j (h : j < k), aLt (L[j]'(by omega)).1 A) (h2 : ∀ j (h : j < L.length), k ≤ j → aLt A L[j].1) : (L.take k ++ (A, 0) :: L.drop k).Pairwise fun p q => aLt p.1 q.1 := by
  refine List.pairwise_append.2 ⟨hs.sublist (List.take_sublist _ _), List.pairwise_cons.2 ⟨fun q hq => ?_, hs.sublist (List.drop_sublist _ _)⟩, fun p hp q hq => ?_⟩
  · obtain ⟨j, hj, rfl⟩ := List.mem_iff_getElem.1 hq
    rw [List.getElem_drop]
    exact h2 _ _ (by omega)
  · obtain ⟨i, hi, rfl⟩ := List.mem_iff_getElem.1 hp
    have hik : i < k := by rw [List.length_take] at hi; omega
    rw [List.getElem_take]
    rcases List.mem_cons.1 hq with rfl | hq
    · exact h1 i hik
    · obtain ⟨j, hj, rfl⟩ := List.mem_iff_getElem.1 hq
      rw [List.getElem_drop]
      exact List.pairwise_iff_getElem.1 hs i (k + j) (by rw [List.length_take] at hi; omega) (by rw [List.length_drop] at hj; omega) (by omega)
theorem sorted_from (L : AL) (A : List Nat) (k : Nat) (hs : L.Pairwise fun p q => aLt p.1 q.1) (h : ∀ h : k < L.length, aLt A L[k].1) : ∀ j (h : j < L.length), k ≤ j → aLt A L[j].1 := fun j hj hkj => by
  rcases Nat.lt_or_eq_of_le hkj with h1 | h1
  · exact aLt_trans (h (by omega)) (List.pairwise_iff_getElem.1 hs k j (by omega) hj h1)
  · subst h1; exact h hj
theorem balL_set (L : AL) (A : List Nat) (y k : Nat) (hk : k < L.length) (hs : L.Pairwise fun p q => aLt p.1 q.1) (hA : L[k].1 = A) (X : List Nat) : balL (L.set k (A, y)) X = if X = A then y else balL L X := by
  induction L generalizing k with
  | nil => simp at hk
  | cons p L ih =>
    obtain ⟨h1, h2⟩ := List.pairwise_cons.1 hs
    cases k with
    | zero =>
      have hA' : p.1 = A := hA
      show (if A = X then y else balL L X) = (if X = A then y else if p.1 = X then p.2 else balL L X)
      by_cases e : X = A
      · rw [if_pos e, if_pos e.symm]
      · rw [if_neg e, if_neg (fun h => e h.symm), if_neg (fun h => e (by rw [← h, hA']))]
    | succ k =>
      have hk' : k < L.length := by simpa using hk
      have hA' : L[k].1 = A := hA
      show (if p.1 = X then p.2 else balL (L.set k (A, y)) X) = (if X = A then y else if p.1 = X then p.2 else balL L X)
      have hlt : aLt p.1 A := by rw [← hA']; exact h1 _ (List.getElem_mem hk')
      rw [ih k hk' h2 hA']
      by_cases e : p.1 = X
      · rw [if_pos e, if_pos e, if_neg (fun h => aLt_irrefl A (by rw [← e] at h; rw [h] at hlt; exact hlt))]
      · rw [if_neg e, if_neg e]
theorem sorted_set (L : AL) (A : List Nat) (y k : Nat) (hk : k < L.length) (hs : L.Pairwise fun p q => aLt p.1 q.1) (hA : L[k].1 = A) : (L.set k (A, y)).Pairwise fun p q => aLt p.1 q.1 := by
  have e : (L.set k (A, y)).map (·.1) = L.map (·.1) := by
    apply List.ext_getElem?
    intro i
    rw [List.getElem?_map, List.getElem?_map, List.getElem?_set]
    by_cases h : k = i
    · subst h
      rw [if_pos rfl, if_pos hk, List.getElem?_eq_getElem hk]
      simp [hA]
    · rw [if_neg h]
  have h1 : (L.map (·.1)).Pairwise aLt := List.pairwise_map.2 hs
  rw [← e] at h1
  exact List.pairwise_map.1 h1
theorem dCells_set (L : AL) (A : List Nat) (x y k : Nat) (hk : k < L.length) (hA : L[k] = (A, x)) : (dCells L).take (k * 55 + 21) ++ (wcells y).toList ++ (dCells L).drop (k * 55 + 21 + 32) = dCells (L.set k (A, y)) := by
  have h55 : k * 55 + 55 ≤ L.length * 55 := by have : (k + 1) * 55 ≤ L.length * 55 := Nat.mul_le_mul_right _ hk; rw [Nat.succ_mul] at this; exact this
  have hlen := dCells_len L
  have hl : ((dCells L).take (k * 55 + 21)).length = k * 55 + 21 := by rw [List.length_take, hlen]; omega
  apply List.ext_getElem?
  intro i
  by_cases hi : i < L.length * 55
  · obtain ⟨m, j, hj, rfl⟩ : ∃ m j, j < 55 ∧ i = m * 55 + j := ⟨i / 55, i % 55, Nat.mod_lt _ (by decide), by omega⟩
    have hm : m < L.length := Nat.lt_of_mul_lt_mul_right (Nat.lt_of_le_of_lt (Nat.le_add_right _ _) hi)
    rw [dCells_at (L.set k (A, y)) (by rw [List.length_set]; exact hm) hj, List.getElem_set]
    by_cases e : k = m
    · subst e
      rw [if_pos rfl]
      have hx := dCells_at L hk hj
      rw [hA] at hx
      by_cases h1 : j < 21
      · rw [List.append_assoc, List.getElem?_append_left (by rw [hl]; omega), List.getElem?_take, if_pos (by omega), hx]
        simp only [dC, List.getElem?_toArray]
        by_cases h2 : j < 20
        · rw [List.getElem?_append_left (by rw [avL]; exact h2), List.getElem?_append_left (by rw [avL]; exact h2)]
        · rw [List.getElem?_append_right (by rw [avL]; omega), List.getElem?_append_right (by rw [avL]; omega), avL, show j - 20 = 0 by omega]
          rfl
      · by_cases h2 : j < 53
        · rw [List.append_assoc, List.getElem?_append_right (by rw [hl]; omega), hl, List.getElem?_append_left (by rw [wcL]; omega)]
          simp only [dC, List.getElem?_toArray]
          rw [List.getElem?_append_right (by rw [avL]; omega), avL, show j - 20 = (j - 21) + 1 by omega, List.getElem?_cons_succ, List.getElem?_append_left (by rw [wcL]; omega)]
          congr 1; omega
        · rw [List.append_assoc, List.getElem?_append_right (by rw [hl]; omega), hl, List.getElem?_append_right (by rw [wcL]; omega), wcL, List.getElem?_drop, show k * 55 + 21 + 32 + (k * 55 + j - (k * 55 + 21) - 32) = k * 55 + j by omega, hx]
          simp only [dC, List.getElem?_toArray]
          rw [List.getElem?_append_right (by rw [avL]; omega), List.getElem?_append_right (by rw [avL]; omega), avL, show j - 20 = (j - 21) + 1 by omega, List.getElem?_cons_succ, List.getElem?_cons_succ, List.getElem?_append_right (by rw [wcL]; omega), List.getElem?_append_right (by rw [wcL]; omega), wcL, wcL]
    · rw [if_neg e]
      have hx := dCells_at L hm hj
      rcases Nat.lt_or_gt_of_ne e with h1 | h1
      · have h3 : k * 55 + 55 ≤ m * 55 := by have : (k + 1) * 55 ≤ m * 55 := Nat.mul_le_mul_right _ h1; rw [Nat.succ_mul] at this; exact this
        rw [List.append_assoc, List.getElem?_append_right (by rw [hl]; omega), hl, List.getElem?_append_right (by rw [wcL]; omega), wcL, List.getElem?_drop, show k * 55 + 21 + 32 + (m * 55 + j - (k * 55 + 21) - 32) = m * 55 + j by omega, hx]
      · have h3 : m * 55 + 55 ≤ k * 55 := by have : (m + 1) * 55 ≤ k * 55 := Nat.mul_le_mul_right _ h1; rw [Nat.succ_mul] at this; exact this
        rw [List.append_assoc, List.getElem?_append_left (by rw [hl]; omega), List.getElem?_take, if_pos (by omega), hx]
  · rw [List.getElem?_eq_none (by rw [List.length_append, List.length_append, hl, wcL, List.length_drop, hlen]; omega), List.getElem?_eq_none (by rw [dCells_len, List.length_set]; omega)]
end Go.Proofs.Ytklpcppdjcedpaa
