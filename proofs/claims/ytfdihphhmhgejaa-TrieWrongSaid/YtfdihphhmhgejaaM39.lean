/- CompactFunc of nodes: the walk. -/
import Derived.Test.YtfdihphhmhgejaaM38
import Derived.Test.YtfdihphhmhgejaaM34
set_option linter.unusedVariables false
set_option linter.unusedSimpArgs false
namespace Go.Proofs.Ytfdihphhmhgejaa
open Go.RowKit Tr
set_option linter.unusedVariables false
set_option maxRecDepth 100000

theorem nd_size1 : (Try.prog.info? 64).map (·.size) = some 33 := by kernel_rfl
theorem slice_fromN (g q n c k : Nat) (hk : k ≤ n) (hn : n ≤ c) (hc : k < c) (w : World) : (Instr.sliceAt 44 (.slice (some ⟨g, q, none⟩) n c) (some (.int .i64 (k : Int))) none none).run Try.prog w = .ok (.slice (some ⟨g, q + k * 33, none⟩) (n - k) (c - k)) w := by
  have hel : Try.prog.elem 44 = 64 := by kernel_rfl
  have ht : Try.prog.underlying 44 = some (.slice (Try.prog.elem 44)) := by rw [hel]; exact nodes_ty
  have e1 := run_sliceAt_slice (P := Try.prog) (w := w) 44 (.slice (some ⟨g, q, none⟩) n c) (some (.int .i64 (k : Int))) none none ht
  have e2 := run_slice_l (P := Try.prog) (w := w) 44 (some ⟨g, q, none⟩) n c ht .i64 (k : Int) (by omega) (by omega)
  rw [e1, e2, hel, nd_sizeOf]
  have h : ¬ c = k := by omega
  simp [Result.andThen, sliced, Addr.add, h]
theorem slice_toN (g q n c k : Nat) (hk : k ≤ n) (hc : n ≤ c) (w : World) : (Instr.sliceAt 44 (.slice (some ⟨g, q, none⟩) n c) none (some (.int .i64 (k : Int))) none).run Try.prog w = .ok (.slice (some ⟨g, q, none⟩) k c) w := by
  have hel : Try.prog.elem 44 = 64 := by kernel_rfl
  have ht : Try.prog.underlying 44 = some (.slice (Try.prog.elem 44)) := by rw [hel]; exact nodes_ty
  have e1 := run_sliceAt_slice (P := Try.prog) (w := w) 44 (.slice (some ⟨g, q, none⟩) n c) none (some (.int .i64 (k : Int))) none ht
  have e2 := run_slice_h (P := Try.prog) (w := w) 44 (some ⟨g, q, none⟩) n c ht .i64 (k : Int) (by omega) (by omega)
  rw [e1, e2, hel, nd_sizeOf]
  simp [Result.andThen, sliced, Addr.add]
theorem run_clearN {w : World} {g q n c : Nat} {cur : Array Value} (hB : Blk w g 64 cur) (hq : q + n * 33 ≤ cur.size) (hn : 0 < n) (ty : TypeId) :
    (Builtin.clear_ #[44] ty #[.slice (some ⟨g, q, none⟩) n c]).run Try.prog w = .ok (.tuple #[]) (w.setRow g (cur.toList.take q ++ (Builtin.zeroCells (ndA (fun _ => 0) (.slice none 0 0)) n).toList ++ cur.toList.drop (q + n * 33)).toArray) := by
  obtain ⟨n', rfl⟩ : ∃ n', n = n' + 1 := ⟨n - 1, by omega⟩
  have hz : (Builtin.zeroCells (ndA (fun _ => 0) (.slice none 0 0)) (n' + 1)).toList.length = (n' + 1) * 33 := by simp [Builtin.zeroCells, ndA_size]
  have hone : ∀ v ∈ (Builtin.zeroCells (ndA (fun _ => 0) (.slice none 0 0)) (n' + 1)).toList, v.oneCell' = true := by
    intro v hv
    unfold Builtin.zeroCells at hv
    rw [Array.toList_map] at hv
    obtain ⟨i, _, rfl⟩ := List.mem_map.1 hv
    have hi : i % (ndA (fun _ => 0) (.slice none 0 0)).size < (ndA (fun _ => 0) (.slice none 0 0)).size := Nat.mod_lt _ (by rw [ndA_size]; decide)
    rw [getElem!_pos (ndA (fun _ => 0) (.slice none 0 0)) _ hi]
    exact (Array.all_eq_true_iff_forall_mem.1 (ndA_one (fun _ => 0) rfl)) _ (Array.getElem_mem hi)
  have hr := run_storeCells_at (P := Try.prog) g q 64 (Builtin.zeroCells (ndA (fun _ => 0) (.slice none 0 0)) (n' + 1)).toList 0 cur w hB (by rw [hz]; simpa using hq) hone
  rw [Nat.add_zero, hz] at hr
  obtain ⟨i0, hi, hz0, hz1, hz2⟩ := info_parts node_infos
  simp [Builtin.clear_, run_underlying nodes_ty, zeroValue, typeInfo, hi, hz0, Value.cells, hr]
section
variable {a : Act} {w : World} {o : Oper} {ops : Array Oper} {rest : List Oper} {Q : Exit → Act → World → Prop}
/-- A node is stored. -/
theorem arm_storeN {b j : Nat} {t : TypeId} {c vs : Array Value} (hB : Blk w b t c) (hj : j + 33 ≤ c.size) (hvs : vs.size = 33) (h1 : vs.all (·.oneCell') = true) (hgd : o.guard = none) (xo yo : Operand)
    (ho : o.op = .store 64 xo yo) (hx : a.eval xo = .pointer (some ⟨b, j, none⟩)) (hy : a.eval yo = .agg vs)
    (h : ∀ w', Only b w w' → Blk w' b t (c.toList.take j ++ vs.toList ++ c.toList.drop (j + 33)).toArray → wpList Try.prog ops Q rest (a.put o.dst undef) w') : wpList Try.prog ops Q (o :: rest) a w :=
  wpList_plain hgd fun K hK => by
    have hr := run_storeCells_at (P := Try.prog) b j t vs.toList 0 c w hB (by rw [Array.length_toList, hvs]; simpa using hj) (fun v hv => (Array.all_eq_true_iff_forall_mem.1 h1) v (by simpa using hv))
    have hr2 : (Instr.storeAt 64 (.pointer (some ⟨b, j, none⟩)) (.agg vs)).run Try.prog w = .ok () (w.setRow b (c.toList.take j ++ vs.toList ++ c.toList.drop (j + 33)).toArray) := by
      simp only [Nat.add_zero, Array.length_toList, hvs] at hr
      have hsz := nd_size1
      cases hq : Try.prog.info? 64 with
      | none => simp [hq] at hsz
      | some i =>
        have hs : i.size = 33 := by simpa [hq] using hsz
        simp [Instr.storeAt, Instr.sureAddr, storeVar, sizeOf, typeInfo, hq, Value.cells, hs, hr, hvs]
    unfold Oper.wp execOp
    simp only [ho, hx, hy, Sem.run_bind, hr2, Result.andThen_ok, Sem.run_pure]
    exact hK _ _ (h _ (Only.setRow w b _) (hB.row _))
/-- The rest is cleared. -/
theorem arm_clear {g q n c : Nat} {cur : Array Value} (hB : Blk w g 64 cur) (hq : q + n * 33 ≤ cur.size) (hn : 0 < n) (hgd : o.guard = none) (x : Operand) (ho : o.op = .call { callee := .builtin .clear, args := #[x], argTypes := #[44] }) (hx : a.eval x = .slice (some ⟨g, q, none⟩) n c)
    (h : ∀ w' cz, Only g w w' → Blk w' g 64 cz → cz.size = cur.size → cz.toList.take q = cur.toList.take q → wpList Try.prog ops Q rest (a.put o.dst (.tuple #[])) w') : wpList Try.prog ops Q (o :: rest) a w :=
  wpList_plain hgd fun K hK => by
    have hr := run_clearN (c := c) hB hq hn
    unfold Oper.wp execOp
    simp only [ho, resolve, invoke, builtin, Sem.run_bind, Sem.run_pure, Result.andThen_ok, List.map_toArray, List.map_cons, List.map_nil, hx, hr]
    refine hK _ _ (h _ _ (Only.setRow w g _) (hB.row _) ?_ ?_)
    · have hz : (Builtin.zeroCells (ndA (fun _ => 0) (.slice none 0 0)) n).toList.length = n * 33 := by simp [Builtin.zeroCells, ndA_size]
      simp only [List.size_toArray, List.length_append, List.length_take, List.length_drop, Array.length_toList] at hz ⊢
      rw [hz]; omega
    · rw [List.append_assoc, List.take_left' (by rw [List.length_take, Array.length_toList]; omega)]
end
end Go.Proofs.Ytfdihphhmhgejaa

/- CompactFunc of nodes: the walk. -/
namespace Go.Proofs.Ytfdihphhmhgejaa
open Go.RowKit Tr
set_option linter.unusedVariables false
set_option maxRecDepth 100000

section
variable {o : Oper} {a : Act} {ops : Array Oper} {rest : List Oper} {C : World → Prop} {Q : Act → Prop}
theorem k_idxNz {g n c i : Nat} (hw : Region.wanted o (yielded ops a.tmps) = true) (x y : Operand) (ho : o.op = .indexAddr 44 x y) (hx : a.eval x = .slice (some ⟨g, 0, none⟩) n c) (hy : a.eval y = .int .i64 (i : Int)) (hn : i < n)
    (h : KQ ops C Q rest (a.put o.dst (.pointer (some ⟨g, i * 33, none⟩)))) : KQ ops C Q (o :: rest) a := k_idxNj hw x y ho hx hy hn (by rw [Nat.zero_add]; exact h)
end
theorem kp_at {L : KList} {k : Nat} (h1 : 1 ≤ k) (hk : k < L.length) : kp L k = !(HL L[k].1 == HL (L[k - 1]'(by omega)).1) := by
  unfold kp
  have e1 : L.getD k ([], .slice none 0 0) = L[k] := by rw [List.getD_eq_getElem?_getD, List.getElem?_eq_getElem hk]; rfl
  have e2 : L.getD (k - 1) ([], .slice none 0 0) = L[k - 1]'(by omega) := by rw [List.getD_eq_getElem?_getD, List.getElem?_eq_getElem (by omega)]; rfl
  rw [e1, e2, show (k == 0) = false from beq_eq_false_iff_ne.2 (by omega), Bool.false_or]
theorem kp_first (L : KList) : ∀ j, j < 1 → kp L j = true := fun j hj => by
  obtain rfl : j = 0 := by omega
  rfl
theorem cmp_one {L : KList} {n : Nat} (hn : n = L.length) (h2 : n < 2) : cmp L n = L := by
  rw [cmp_all L n (by omega) (fun j hj => by obtain rfl : j = 0 := by omega
                                             rfl), hn, List.take_length]
theorem wrap_pred {k : Nat} (h1 : 1 ≤ k) (h : k ≤ 1000000000) : IntKind.i64.wrap ((k : Int) - 1) = ((k - 1 : Nat) : Int) := by
  rw [show (k : Int) - 1 = ((k - 1 : Nat) : Int) by omega]
  simp [IntKind.wrap, IntKind.bits, IntKind.signed]
  omega
/-- What CompactFunc answers. -/
def CompPost (g cap : Nat) (L : KList) (w : World) (e : Ending) (w' : World) : Prop :=
  e = .returned (.slice (some ⟨g, 0, none⟩) (cmp L L.length).length cap) ∧ Tch [g] w w' ∧ ∃ cz, Blk w' g 64 cz ∧ cz.size = cap * 33 ∧ cz.toList.take ((cmp L L.length).length * 33) = kCells (cmp L L.length)
/-- The row, while it is compacted, in memory. -/
def CR (cap : Nat) (L : KList) (j kk : Nat) (M : KList) (cu : Array Value) : Prop := CI L j kk M ∧ cu.size = cap * 33 ∧ cu.toList.take (L.length * 33) = kCells M ∧ ∀ p ∈ M, p.2.oneCell' = true
theorem cr_keep {cap j kk : Nat} {L M : KList} {cu : Array Value} {x : List Nat × Value} (h : CR cap L j kk M cu) (hj : j < L.length) (hd : kp L j = true) (hx : x = L[j]) (ho : x.2.oneCell' = true) (hcap : L.length ≤ cap) :
    CR cap L (j + 1) (kk + 1) (M.set kk x) (cu.toList.take (kk * 33) ++ (ndA (hashN x.1) x.2).toList ++ cu.toList.drop (kk * 33 + 33)).toArray := by
  obtain ⟨h1, h2, h3, h4⟩ := h
  subst hx
  have hkk : kk < M.length := by have := h1.1; have := h1.2.2.2.1; omega
  have hlen := h1.1
  have hb : kk * 33 + 33 ≤ L.length * 33 := by have := Nat.mul_le_mul_right 33 (show kk + 1 ≤ L.length by omega); omega
  have hb2 : L.length * 33 ≤ cap * 33 := Nat.mul_le_mul_right _ hcap
  refine ⟨h1.keep hj hd, ?_, ?_, fun p hp => ?_⟩
  · simp only [List.size_toArray, List.length_append, List.length_take, List.length_drop, Array.length_toList, ndA_size, h2]
    omega
  · rw [kCells_set M kk _ hkk, ← h3]
    have l1 : ((cu.toList.take (kk * 33)) ++ (ndA (hashN L[j].1) L[j].2).toList).length = kk * 33 + 33 := by
      rw [List.length_append, List.length_take, Array.length_toList, Array.length_toList, ndA_size, h2]; omega
    show List.take _ ((cu.toList.take (kk * 33) ++ (ndA (hashN L[j].1) L[j].2).toList) ++ cu.toList.drop (kk * 33 + 33)) = _
    rw [List.take_append, l1, List.take_of_length_le (by rw [l1]; exact hb), List.take_take, Nat.min_eq_left (by omega), List.drop_take]
  · rcases List.mem_or_eq_of_mem_set hp with hp | hp
    · exact h4 p hp
    · rw [hp]; exact ho
theorem cr_skip {cap j kk : Nat} {L M : KList} {cu : Array Value} (h : CR cap L j kk M cu) (hd : kp L j = false) : CR cap L (j + 1) kk M cu := ⟨h.1.skip hd, h.2⟩
theorem cr_idx (L : KList) {i j : Nat} (h : i = j) {hj : j < L.length} {hi : i < L.length} : L[j] = L[i] := by subst h; rfl
theorem cr_range {cap j kk i g : Nat} {L M : KList} {cu : Array Value} {W : World} {t : TypeId} (h : CR cap L j kk M cu) (hB : Blk W g t cu) (hi : j ≤ i + 1) (hl : i < L.length) : W.rangeAt g (i * 33) (ndA (hashN L[i].1) L[i].2).toList := by
  obtain ⟨h1, h2, h3, h4⟩ := h
  have hM : i < M.length := by rw [h1.1]; exact hl
  have e : M[i] = L[i] := by
    have := h1.2.2.2.2 i hi hl
    rw [List.getElem?_eq_getElem hM, List.getElem?_eq_getElem hl] at this
    exact Option.some.inj this
  rw [← e]
  exact nd_range hB (by rw [h1.1]; exact h3) hM
theorem cr_bd {cap j kk n : Nat} {L M : KList} {cu : Array Value} (h : CR cap L j kk M cu) (hcap : n ≤ cap) (hk : kk < n) : kk * 33 + 33 ≤ cu.size := by
  rw [h.2.1]
  have := Nat.mul_le_mul_right 33 (show kk + 1 ≤ cap by omega)
  omega
theorem cr_bd2 {cap j kk n : Nat} {L M : KList} {cu : Array Value} (h : CR cap L j kk M cu) (hcap : n ≤ cap) (hk : kk ≤ n) : kk * 33 + (n - kk) * 33 ≤ cu.size := by
  rw [h.2.1, ← Nat.add_mul, show kk + (n - kk) = n by omega]
  exact Nat.mul_le_mul_right _ hcap
theorem nd_struct : ∃ d, Try.prog.underlying 64 = some (.struct d) := struct_of (by kernel_rfl)
theorem slice_from0 (g n c k : Nat) (hk : k ≤ n) (hn : n ≤ c) (hc : k < c) (w : World) : (Instr.sliceAt 44 (.slice (some ⟨g, 0, none⟩) n c) (some (.int .i64 (k : Int))) none none).run Try.prog w = .ok (.slice (some ⟨g, k * 33, none⟩) (n - k) (c - k)) w := by
  have := slice_fromN g 0 n c k hk hn hc w
  rwa [Nat.zero_add] at this
theorem slice_to0 (g n c k : Nat) (hk : k ≤ n) (hc : n ≤ c) (w : World) : (Instr.sliceAt 44 (.slice (some ⟨g, 0, none⟩) n c) none (some (.int .i64 (k : Int))) none).run Try.prog w = .ok (.slice (some ⟨g, 0, none⟩) k c) w := slice_toN g 0 n c k hk hc w
theorem idxNq (g q n c : Nat) {i : Nat} (hn : i < n) (w : World) : (Instr.indexAt 44 (.slice (some ⟨g, q, none⟩) n c) (.int .i64 (i : Int))).run Try.prog w = .ok (.pointer (some ⟨g, q + i * 33, none⟩)) w := by
  have hadd : (⟨g, q, none⟩ : Addr).add (i * 33) = ⟨g, q + i * 33, none⟩ := by unfold Addr.add; split <;> simp_all
  simp [Instr.indexAt, run_underlying nodes_ty, Instr.sureAddr, asIntOf, sizeOf_one nd_size1, hn, hadd]
theorem idxNq0 (g n c : Nat) {i : Nat} (hn : i < n) (w : World) : (Instr.indexAt 44 (.slice (some ⟨g, 0, none⟩) n c) (.int .i64 (i : Int))).run Try.prog w = .ok (.pointer (some ⟨g, i * 33, none⟩)) w := by
  have := idxNq g 0 n c hn w
  rwa [Nat.zero_add] at this
theorem cr_end {cap kk : Nat} {L M : KList} {cu cz : Array Value} (h : CR cap L L.length kk M cu) (hz : cz.size = cu.size) (ht : cz.toList.take (kk * 33) = cu.toList.take (kk * 33)) : (cmp L L.length).length = kk ∧ cz.size = cap * 33 ∧ cz.toList.take ((cmp L L.length).length * 33) = kCells (cmp L L.length) := by
  obtain ⟨h1, h2, h3, h4⟩ := h
  have hk := h1.2.2.1
  refine ⟨hk.symm, by rw [hz, h2], ?_⟩
  have hkn : kk * 33 ≤ L.length * 33 := Nat.mul_le_mul_right _ (by have := h1.2.2.2.1; omega)
  have e : M = M.take kk ++ M.drop kk := (List.take_append_drop kk M).symm
  have e2 : kCells M = kCells (cmp L L.length) ++ kCells (M.drop kk) := by
    conv => lhs; rw [e]
    rw [kCells_append, h1.2.1]
  rw [← hk, ht]
  have h5 : (cu.toList.take (L.length * 33)).take (kk * 33) = (kCells M).take (kk * 33) := by rw [h3]
  rw [List.take_take, Nat.min_eq_left hkn] at h5
  rw [h5, e2, List.take_left' (by rw [kCells_len, ← hk])]
set_option maxHeartbeats 8000000 in
theorem compact_any (g cap : Nat) (L : KList) (cur : Array Value) (w : World) (hB : Blk w g 64 cur) (hcap : L.length ≤ cap) (hcs : cur.size = cap * 33) (hc : cur.toList.take (L.length * 33) = kCells L) (hn : L.length ≤ 100000001) (ho : ∀ p ∈ L, p.2.oneCell' = true) :
    Calls Try.prog 26 #[.slice (some ⟨g, 0, none⟩) L.length cap, (.func (.func 27) #[] #[])] w (CompPost g cap L w) := by
  unfold CompPost
  obtain ⟨n, hn'⟩ : ∃ n, n = L.length := ⟨_, rfl⟩
  have HC := Lib.hid (And.intro hcap (And.intro hcs (And.intro hc ho)))
  rw [← hn'] at hcap hn ⊢
  have HN := Lib.hid hn'
  by_cases h2 : n < 2
  · have d0 : (n : Int) < 2 := by omega
    have HE := Lib.hid (cmp_one hn' h2)
    clear hn' hcs hc ho
    go_enter Try.func26, Try.ntmps26
    go_wp2
    go_ret
    refine ⟨by rw [HE.out, ← HN.out]; rfl, Tch.refl _ _, cur, hB, HC.out.2.1, ?_⟩
    rw [HE.out]
    exact HC.out.2.2.1
  · have d0 : ¬ (n : Int) < 2 := by omega
    clear hn' hcs hc ho
    go_enter Try.func26, Try.ntmps26
    go_wp2
    go_loopw [5] (fun s5 wr => ∃ k : Nat, s5 = .int .i64 (k : Int) ∧ 1 ≤ k ∧ k ≤ n ∧ Tch [] w wr ∧ Hid (∀ j, j < k → kp L j = true)) (fun s5 _ => n - (intOf s5).toNat)
    case atStart => exact ⟨1, rfl, Nat.le_refl _, by omega, Tch.refl _ _, Lib.hid (kp_first L)⟩
    case round =>
      obtain ⟨k, rfl, hk1, hkn, hT, HK⟩ := hrel
      by_cases hlt : k < n
      · have d1 : (k : Int) < (n : Int) := by omega
        have hsub : IntKind.i64.wrap ((k : Int) - 1) = ((k - 1 : Nat) : Int) := wrap_pred hk1 (by omega)
        obtain ⟨x1, hx1⟩ : ∃ x, x = L[k]'(by rw [← HN.out]; exact hlt) := ⟨_, rfl⟩
        obtain ⟨x0, hx0⟩ : ∃ x, x = L[k - 1]'(by rw [← HN.out]; omega) := ⟨_, rfl⟩
        have hkp : kp L k = !(HL x1.1 == HL x0.1) := by rw [hx1, hx0]; exact kp_at hk1 (by rw [← HN.out]; exact hlt)
        have HR1 := Lib.hid (fun (w' : World) (h : Tch [] wr w') => show w'.rangeAt g (k * 33) (ndA (hashN x1.1) x1.2).toList from by rw [hx1]; exact nd_range ((hT.trans h).blk hB (by simp)) HC.out.2.2.1 (by rw [← HN.out]; exact hlt))
        have HR0 := Lib.hid (fun (w' : World) (h : Tch [] wr w') => show w'.rangeAt g ((k - 1) * 33) (ndA (hashN x0.1) x0.2).toList from by rw [hx0]; exact nd_range ((hT.trans h).blk hB (by simp)) HC.out.2.2.1 (by rw [← HN.out]; omega))
        have HX := Lib.hid (And.intro hx1 hx0)
        clear hx1 hx0
        have hlt0 : k - 1 < n := by omega
        cases hq : (HL x1.1 == HL x0.1) with
        | false =>
          have HEQ := Lib.hid (fun (W : World) => show Calls Try.prog 27 #[.agg (ndA (hashN x1.1) x1.2), .agg (ndA (hashN x0.1) x0.2)] W fun e w' => e = .returned (.bool false) ∧ Tch [] W w' from by have h := eqN_any x1.1 x0.1 x1.2 x0.2 W; rw [hq] at h; exact h)
          have HKP := Lib.hid (show kp L k = true by rw [hkp, hq]; rfl)
          clear hq hkp
          go_upto_region 6 with (fail)
          refine k_region (C := fun w' => Tch [] wr w') (by kernel_rfl) (by kernel_rfl) ((Tch.refl _ _).drew) ?_
          refine k_val (v := (.func (.func 27) #[] #[])) rfl _ (.inl rfl) rfl ?_; try simp only [Act.put, List.setIfInBounds_toArray, List.set_cons_zero, List.set_cons_succ]
          refine k_slice rfl _ rfl rfl ?_; try simp only [Act.put, List.setIfInBounds_toArray, List.set_cons_zero, List.set_cons_succ]
          refine k_intm rfl _ rfl rfl ?_; try simp only [Act.put, List.setIfInBounds_toArray, List.set_cons_zero, List.set_cons_succ]
          refine k_idxNz (g := g) (i := k) rfl _ _ rfl rfl rfl hlt ?_; try simp only [Act.put, List.setIfInBounds_toArray, List.set_cons_zero, List.set_cons_succ]
          refine k_loadN (f := hashN x1.1) (v := x1.2) rfl _ rfl rfl (fun w' h => HR1.out w' h) ?_; try simp only [Act.put, List.setIfInBounds_toArray, List.set_cons_zero, List.set_cons_succ]
          refine k_slice rfl _ rfl rfl ?_; try simp only [Act.put, List.setIfInBounds_toArray, List.set_cons_zero, List.set_cons_succ]
          refine k_intm rfl _ rfl rfl ?_; try simp only [Act.put, List.setIfInBounds_toArray, List.set_cons_zero, List.set_cons_succ]
          refine k_sub (s := ((k - 1 : Nat) : Int)) rfl _ _ _ _ rfl rfl rfl hsub ?_; try simp only [Act.put, List.setIfInBounds_toArray, List.set_cons_zero, List.set_cons_succ]
          refine k_idxNz (g := g) (i := k - 1) rfl _ _ rfl rfl rfl hlt0 ?_; try simp only [Act.put, List.setIfInBounds_toArray, List.set_cons_zero, List.set_cons_succ]
          refine k_loadN (f := hashN x0.1) (v := x0.2) rfl _ rfl rfl (fun w' h => HR0.out w' h) ?_; try simp only [Act.put, List.setIfInBounds_toArray, List.set_cons_zero, List.set_cons_succ]
          refine k_callV2 (v := .bool false) rfl rfl rfl rfl rfl Try.call27 (fun w' h => (HEQ.out w').mono fun e w'' h2 => ⟨h2.1, h.trans h2.2⟩) ?_; try simp only [Act.put, List.setIfInBounds_toArray, List.set_cons_zero, List.set_cons_succ]
          refine k_end ?_; try simp only [Act.put, List.setIfInBounds_toArray, List.set_cons_zero, List.set_cons_succ]
          intro w2 hT2
          go_wp2
          go_roundw
          case rel => exact ⟨k + 1, by go_num, by omega, by omega, hT.trans hT2, Lib.hid (fun j hj => by
            by_cases e : j = k
            · rw [e]; exact HKP.out
            · exact HK.out j (by omega))⟩
          case measure => simp [intOf]; omega
        | true =>
          have HEQ := Lib.hid (fun (W : World) => show Calls Try.prog 27 #[.agg (ndA (hashN x1.1) x1.2), .agg (ndA (hashN x0.1) x0.2)] W fun e w' => e = .returned (.bool true) ∧ Tch [] W w' from by have h := eqN_any x1.1 x0.1 x1.2 x0.2 W; rw [hq] at h; exact h)
          have HKP := Lib.hid (show kp L k = false by rw [hkp, hq]; rfl)
          clear hq hkp
          go_upto_region 6 with (fail)
          refine k_region (C := fun w' => Tch [] wr w') (by kernel_rfl) (by kernel_rfl) ((Tch.refl _ _).drew) ?_
          refine k_val (v := (.func (.func 27) #[] #[])) rfl _ (.inl rfl) rfl ?_; try simp only [Act.put, List.setIfInBounds_toArray, List.set_cons_zero, List.set_cons_succ]
          refine k_slice rfl _ rfl rfl ?_; try simp only [Act.put, List.setIfInBounds_toArray, List.set_cons_zero, List.set_cons_succ]
          refine k_intm rfl _ rfl rfl ?_; try simp only [Act.put, List.setIfInBounds_toArray, List.set_cons_zero, List.set_cons_succ]
          refine k_idxNz (g := g) (i := k) rfl _ _ rfl rfl rfl hlt ?_; try simp only [Act.put, List.setIfInBounds_toArray, List.set_cons_zero, List.set_cons_succ]
          refine k_loadN (f := hashN x1.1) (v := x1.2) rfl _ rfl rfl (fun w' h => HR1.out w' h) ?_; try simp only [Act.put, List.setIfInBounds_toArray, List.set_cons_zero, List.set_cons_succ]
          refine k_slice rfl _ rfl rfl ?_; try simp only [Act.put, List.setIfInBounds_toArray, List.set_cons_zero, List.set_cons_succ]
          refine k_intm rfl _ rfl rfl ?_; try simp only [Act.put, List.setIfInBounds_toArray, List.set_cons_zero, List.set_cons_succ]
          refine k_sub (s := ((k - 1 : Nat) : Int)) rfl _ _ _ _ rfl rfl rfl hsub ?_; try simp only [Act.put, List.setIfInBounds_toArray, List.set_cons_zero, List.set_cons_succ]
          refine k_idxNz (g := g) (i := k - 1) rfl _ _ rfl rfl rfl hlt0 ?_; try simp only [Act.put, List.setIfInBounds_toArray, List.set_cons_zero, List.set_cons_succ]
          refine k_loadN (f := hashN x0.1) (v := x0.2) rfl _ rfl rfl (fun w' h => HR0.out w' h) ?_; try simp only [Act.put, List.setIfInBounds_toArray, List.set_cons_zero, List.set_cons_succ]
          refine k_callV2 (v := .bool true) rfl rfl rfl rfl rfl Try.call27 (fun w' h => (HEQ.out w').mono fun e w'' h2 => ⟨h2.1, h.trans h2.2⟩) ?_; try simp only [Act.put, List.setIfInBounds_toArray, List.set_cons_zero, List.set_cons_succ]
          refine k_end ?_; try simp only [Act.put, List.setIfInBounds_toArray, List.set_cons_zero, List.set_cons_succ]
          intro w2 hT2
          have ks1 := slice_from0 g n cap k hkn hcap (by omega)
          go_wp2
          clear ks1 HR1 HR0 HX HEQ hsub d1 hlt0
          go_loopw [5, 7] (fun s5 s7 wr2 => ∃ (kk j2 : Nat) (M : KList) (cu : Array Value), s5 = .int .i64 (kk : Int) ∧ s7 = .int .i64 (j2 : Int) ∧ 1 ≤ j2 ∧ k + j2 ≤ n ∧ kk + 1 ≤ k + j2 ∧ St [g] w wr2 [(g, 64, cu)] ∧ Hid (CR cap L (k + j2) kk M cu)) (fun _ s7 _ => n - (k + (intOf s7).toNat))
          case atStart => exact ⟨k, 1, L, cur, rfl, rfl, Nat.le_refl _, by omega, by omega, (St.one hB).call (hT.trans hT2), Lib.hid ⟨CI.start (by rw [← HN.out]; exact hlt) HK.out HKP.out, HC.out.2.1, HC.out.2.2.1, HC.out.2.2.2⟩⟩
          case round =>
            obtain ⟨kk, j2, M, cu, rfl, rfl, hj1, hjn, hkk, hS, HI⟩ := hrel
            by_cases hlt2 : k + j2 < n
            · have d2 : (j2 : Int) < ((n - k : Nat) : Int) := by omega
              have hsub : IntKind.i64.wrap ((j2 : Int) - 1) = ((j2 - 1 : Nat) : Int) := wrap_pred hj1 (by omega)
              obtain ⟨x1, hx1⟩ : ∃ x, x = L[k + j2]'(by rw [← HN.out]; exact hlt2) := ⟨_, rfl⟩
              obtain ⟨x0, hx0⟩ : ∃ x, x = L[k + j2 - 1]'(by rw [← HN.out]; omega) := ⟨_, rfl⟩
              have hkp : kp L (k + j2) = !(HL x1.1 == HL x0.1) := by rw [hx1, hx0]; exact kp_at (by omega) (by rw [← HN.out]; exact hlt2)
              have HR1 := Lib.hid (fun (w' : World) (h : Tch [] wr w') => show w'.rangeAt g (k * 33 + j2 * 33) (ndA (hashN x1.1) x1.2).toList from by rw [← Nat.add_mul, hx1]; exact cr_range HI.out (h.blk (hS.get .head) (by simp)) (by omega) (by rw [← HN.out]; exact hlt2))
              have HR0 := Lib.hid (fun (w' : World) (h : Tch [] wr w') => show w'.rangeAt g (k * 33 + (j2 - 1) * 33) (ndA (hashN x0.1) x0.2).toList from by rw [← Nat.add_mul, hx0, cr_idx L (show k + (j2 - 1) = k + j2 - 1 by omega)]; exact cr_range HI.out (h.blk (hS.get .head) (by simp)) (by omega) (by rw [← HN.out]; omega))
              have HX := Lib.hid (And.intro hx1 (HC.out.2.2.2 x1 (by rw [hx1]; exact List.getElem_mem _)))
              clear hx1 hx0
              have hj3 : j2 < n - k := by omega
              have hj4 : j2 - 1 < n - k := by omega
              cases hq : (HL x1.1 == HL x0.1) with
              | true =>
                have HEQ := Lib.hid (fun (W : World) => show Calls Try.prog 27 #[.agg (ndA (hashN x1.1) x1.2), .agg (ndA (hashN x0.1) x0.2)] W fun e w' => e = .returned (.bool true) ∧ Tch [] W w' from by have h := eqN_any x1.1 x0.1 x1.2 x0.2 W; rw [hq] at h; exact h)
                have HKQ := Lib.hid (show kp L (k + j2) = false by rw [hkp, hq]; rfl)
                clear hq hkp
                go_upto_region 11 with (fail)
                refine k_region (C := fun w' => Tch [] wr w') (by kernel_rfl) (by kernel_rfl) ((Tch.refl _ _).drew) ?_
                refine k_val (v := (.func (.func 27) #[] #[])) rfl _ (.inl rfl) rfl ?_; try simp only [Act.put, List.setIfInBounds_toArray, List.set_cons_zero, List.set_cons_succ]
                refine k_slice rfl _ rfl rfl ?_; try simp only [Act.put, List.setIfInBounds_toArray, List.set_cons_zero, List.set_cons_succ]
                refine k_intm rfl _ rfl rfl ?_; try simp only [Act.put, List.setIfInBounds_toArray, List.set_cons_zero, List.set_cons_succ]
                refine k_idxNj (g := g) (q := k * 33) (i := j2) rfl _ _ rfl rfl rfl hj3 ?_; try simp only [Act.put, List.setIfInBounds_toArray, List.set_cons_zero, List.set_cons_succ]
                refine k_loadN (f := hashN x1.1) (v := x1.2) rfl _ rfl rfl (fun w' h => HR1.out w' h) ?_; try simp only [Act.put, List.setIfInBounds_toArray, List.set_cons_zero, List.set_cons_succ]
                refine k_slice rfl _ rfl rfl ?_; try simp only [Act.put, List.setIfInBounds_toArray, List.set_cons_zero, List.set_cons_succ]
                refine k_intm rfl _ rfl rfl ?_; try simp only [Act.put, List.setIfInBounds_toArray, List.set_cons_zero, List.set_cons_succ]
                refine k_sub (s := ((j2 - 1 : Nat) : Int)) rfl _ _ _ _ rfl rfl rfl hsub ?_; try simp only [Act.put, List.setIfInBounds_toArray, List.set_cons_zero, List.set_cons_succ]
                refine k_idxNj (g := g) (q := k * 33) (i := j2 - 1) rfl _ _ rfl rfl rfl hj4 ?_; try simp only [Act.put, List.setIfInBounds_toArray, List.set_cons_zero, List.set_cons_succ]
                refine k_loadN (f := hashN x0.1) (v := x0.2) rfl _ rfl rfl (fun w' h => HR0.out w' h) ?_; try simp only [Act.put, List.setIfInBounds_toArray, List.set_cons_zero, List.set_cons_succ]
                refine k_callV2 (v := .bool true) rfl rfl rfl rfl rfl Try.call27 (fun w' h => (HEQ.out w').mono fun e w'' h2 => ⟨h2.1, h.trans h2.2⟩) ?_; try simp only [Act.put, List.setIfInBounds_toArray, List.set_cons_zero, List.set_cons_succ]
                refine k_not rfl _ _ rfl rfl ?_; try simp only [Act.put, List.setIfInBounds_toArray, List.set_cons_zero, List.set_cons_succ]
                refine k_end ?_; try simp only [Act.put, List.setIfInBounds_toArray, List.set_cons_zero, List.set_cons_succ]
                intro w3 hT3
                have hS3 := hS.call hT3
                clear hS
                go_wp2
                go_roundw
                case rel => exact ⟨kk, j2 + 1, M, cu, rfl, by go_num, by omega, by omega, by omega, hS3, Lib.hid (cr_skip HI.out HKQ.out)⟩
                case measure => simp [intOf]; omega
              | false =>
                have HEQ := Lib.hid (fun (W : World) => show Calls Try.prog 27 #[.agg (ndA (hashN x1.1) x1.2), .agg (ndA (hashN x0.1) x0.2)] W fun e w' => e = .returned (.bool false) ∧ Tch [] W w' from by have h := eqN_any x1.1 x0.1 x1.2 x0.2 W; rw [hq] at h; exact h)
                have HKQ := Lib.hid (show kp L (k + j2) = true by rw [hkp, hq]; rfl)
                clear hq hkp
                go_upto_region 11 with (fail)
                refine k_region (C := fun w' => Tch [] wr w') (by kernel_rfl) (by kernel_rfl) ((Tch.refl _ _).drew) ?_
                refine k_val (v := (.func (.func 27) #[] #[])) rfl _ (.inl rfl) rfl ?_; try simp only [Act.put, List.setIfInBounds_toArray, List.set_cons_zero, List.set_cons_succ]
                refine k_slice rfl _ rfl rfl ?_; try simp only [Act.put, List.setIfInBounds_toArray, List.set_cons_zero, List.set_cons_succ]
                refine k_intm rfl _ rfl rfl ?_; try simp only [Act.put, List.setIfInBounds_toArray, List.set_cons_zero, List.set_cons_succ]
                refine k_idxNj (g := g) (q := k * 33) (i := j2) rfl _ _ rfl rfl rfl hj3 ?_; try simp only [Act.put, List.setIfInBounds_toArray, List.set_cons_zero, List.set_cons_succ]
                refine k_loadN (f := hashN x1.1) (v := x1.2) rfl _ rfl rfl (fun w' h => HR1.out w' h) ?_; try simp only [Act.put, List.setIfInBounds_toArray, List.set_cons_zero, List.set_cons_succ]
                refine k_slice rfl _ rfl rfl ?_; try simp only [Act.put, List.setIfInBounds_toArray, List.set_cons_zero, List.set_cons_succ]
                refine k_intm rfl _ rfl rfl ?_; try simp only [Act.put, List.setIfInBounds_toArray, List.set_cons_zero, List.set_cons_succ]
                refine k_sub (s := ((j2 - 1 : Nat) : Int)) rfl _ _ _ _ rfl rfl rfl hsub ?_; try simp only [Act.put, List.setIfInBounds_toArray, List.set_cons_zero, List.set_cons_succ]
                refine k_idxNj (g := g) (q := k * 33) (i := j2 - 1) rfl _ _ rfl rfl rfl hj4 ?_; try simp only [Act.put, List.setIfInBounds_toArray, List.set_cons_zero, List.set_cons_succ]
                refine k_loadN (f := hashN x0.1) (v := x0.2) rfl _ rfl rfl (fun w' h => HR0.out w' h) ?_; try simp only [Act.put, List.setIfInBounds_toArray, List.set_cons_zero, List.set_cons_succ]
                refine k_callV2 (v := .bool false) rfl rfl rfl rfl rfl Try.call27 (fun w' h => (HEQ.out w').mono fun e w'' h2 => ⟨h2.1, h.trans h2.2⟩) ?_; try simp only [Act.put, List.setIfInBounds_toArray, List.set_cons_zero, List.set_cons_succ]
                refine k_not rfl _ _ rfl rfl ?_; try simp only [Act.put, List.setIfInBounds_toArray, List.set_cons_zero, List.set_cons_succ]
                refine k_end ?_; try simp only [Act.put, List.setIfInBounds_toArray, List.set_cons_zero, List.set_cons_succ]
                intro w3 hT3
                have hr3 := HR1.out w3 hT3
                have hS3 := hS.call hT3
                clear hS
                have hS := hS3
                clear hS3
                have ki2 := idxNq g (k * 33) (n - k) (cap - k) (i := j2) hj3
                have ki3 := idxNq0 g n cap (i := kk) (by omega)
                obtain ⟨dn, hdn⟩ := nd_struct
                have hbd : kk * 33 + 33 ≤ cu.size := cr_bd HI.out hcap (by omega)
                have HBD := Lib.hid hbd
                clear hbd
                go_wp2_with (first
                  | (refine wpList_load_mid rfl 64 _ rfl g (k * 33 + j2 * 33) rfl (ndA (hashN x1.1) x1.2).toList _ hr3 hdn rfl (by rw [Array.length_toList, ndA_size]; exact nd_size1) ?_)
                  | (refine arm_storeN (j := kk * 33) (vs := ndA (hashN x1.1) x1.2) (hS.get .head) HBD.out (ndA_size _ _) (ndA_one _ HX.out.2) rfl _ _ rfl rfl rfl ?_; intro w4 hO hB4; replace hS := hS.upd .head hO hB4; clear hO hB4))
                go_roundw
                case rel => exact ⟨kk + 1, j2 + 1, _, _, by go_num, by go_num, by omega, by omega, by omega, hS, Lib.hid (cr_keep HI.out (by rw [← HN.out]; exact hlt2) HKQ.out HX.out.1 HX.out.2 HC.out.1)⟩
                case measure => simp [intOf]; omega
            · have hend : k + j2 = n := by omega
              have d2 : ¬ (j2 : Int) < ((n - k : Nat) : Int) := by omega
              have ks2 := slice_from0 g n cap kk (by omega) hcap (by omega)
              have ks3 := slice_to0 g n cap kk (by omega) hcap
              have HBD := Lib.hid (And.intro (show kk * 33 + (n - kk) * 33 ≤ cu.size from cr_bd2 HI.out hcap (by omega)) (show 0 < n - kk by omega))
              have HI2 := Lib.hid (show CR cap L L.length kk M cu from by have h := HI.out; rw [hend, HN.out] at h; exact h)
              clear HI
              go_wp2_with (first
                | (refine arm_clear (hS.get .head) HBD.out.1 HBD.out.2 rfl _ rfl rfl ?_; intro w4 cz hO hBz hz1 hz2; have HZ := Lib.hid (And.intro hz1 hz2); clear hz1 hz2; replace hS := hS.upd .head hO hBz; clear hO hBz))
              go_ret
              obtain ⟨f1, f2, f3⟩ := cr_end HI2.out HZ.out.1 HZ.out.2
              exact ⟨by rw [HN.out, f1]; rfl, hS.frame, _, hS.get .head, f2, by rw [HN.out]; exact f3⟩
      · have d1 : ¬ (k : Int) < (n : Int) := by omega
        have HE := Lib.hid (show cmp L n = L from by rw [cmp_all L n (by rw [HN.out]; exact Nat.le_refl _) (fun j hj => HK.out j (by omega)), HN.out, List.take_length])
        go_wp2
        go_ret
        exact ⟨by rw [HE.out, ← HN.out]; rfl, hT.mono (by simp), cur, hT.blk hB (by simp), HC.out.2.1, by rw [HE.out]; exact HC.out.2.2.1⟩
end Go.Proofs.Ytfdihphhmhgejaa

/- How many nodes are hashed; item of any tree, with the closure that keeps. -/
namespace Go.Proofs.Ytfdihphhmhgejaa
open Go.RowKit Tr
set_option linter.unusedVariables false
set_option maxRecDepth 100000

namespace Tr
def mu (l : List En) : Nat := (l.map fun e => e.1.length + 1).sum
def nu (l : List En) : Nat := (l.map fun e => e.1.length).sum
theorem mu_rests (n : Nat) : ∀ l : List En, mu (rests n l) ≤ mu l
  | [] => Nat.le_refl _
  | e :: l => by
    have ih := mu_rests n l
    unfold mu rests at ih ⊢
    simp only [List.map_cons, List.sum_cons, List.length_drop] at ih ⊢
    omega
theorem mu_rests_lt {n : Nat} {e : En} {l : List En} (h1 : 1 ≤ n) (h2 : n ≤ e.1.length) : mu (rests n (e :: l)) + 1 ≤ mu (e :: l) := by
  have ih := mu_rests n l
  unfold mu rests at ih ⊢
  simp only [List.map_cons, List.sum_cons, List.length_drop] at ih ⊢
  omega
theorem mu_heads (d : Nat) : ∀ l : List En, mu (rests 1 (heads d l)) ≤ nu (heads d l)
  | [] => Nat.le_refl _
  | e :: l => by
    have ih := mu_heads d l
    unfold heads at ih ⊢
    rw [List.filter_cons]
    split
    · rename_i h
      have h1 : 1 ≤ e.1.length := by
        cases hq : e.1 with
        | nil => rw [hq] at h; simp at h
        | cons x r => simp
      unfold mu nu rests at ih ⊢
      simp only [List.map_cons, List.sum_cons, List.length_drop] at ih ⊢
      omega
    · exact ih
theorem sum_add (f g : Nat → Nat) : ∀ N, ((List.range N).map fun d => f d + g d).sum = ((List.range N).map f).sum + ((List.range N).map g).sum
  | 0 => rfl
  | N + 1 => by
    have ih := sum_add f g N
    simp only [List.range_succ, List.map_append, List.sum_append, List.map_cons, List.map_nil, List.sum_cons, List.sum_nil] at ih ⊢
    omega
theorem sum_one (h : Option Nat) (k : Nat) : ∀ N, ((List.range N).map fun d => if h == some d then k else 0).sum ≤ k ∧ ((∀ d, d < N → h ≠ some d) → ((List.range N).map fun d => if h == some d then k else 0).sum = 0)
  | 0 => ⟨Nat.zero_le _, fun _ => rfl⟩
  | N + 1 => by
    obtain ⟨i1, i2⟩ := sum_one h k N
    simp only [List.range_succ, List.map_append, List.sum_append, List.map_cons, List.map_nil, List.sum_cons, List.sum_nil]
    by_cases hN : h = some N
    · have h0 := i2 (fun d hd e => by rw [hN] at e; have := Option.some.inj e; omega)
      rw [h0, if_pos (by rw [hN]; simp)]
      exact ⟨by omega, fun q => absurd hN (q N (by omega))⟩
    · rw [if_neg (by simpa using hN)]
      exact ⟨by omega, fun q => by have h0 := i2 (fun d hd => q d (by omega)); omega⟩
theorem nu_heads : ∀ l : List En, ((List.range 16).map fun d => nu (heads d l)).sum ≤ nu l
  | [] => by simp only [nu, heads, List.filter_nil, List.map_nil, List.sum_nil]; decide
  | e :: l => by
    have ih := nu_heads l
    have e1 : (fun d => nu (heads d (e :: l))) = fun d => (if e.1.head? == some d then e.1.length else 0) + nu (heads d l) := by
      funext d
      unfold heads nu
      rw [List.filter_cons]
      split
      · simp
      · simp
    rw [e1, sum_add]
    have := (sum_one e.1.head? e.1.length 16).1
    have e2 : nu (e :: l) = e.1.length + nu l := by simp [nu]
    omega
theorem cp_le : ∀ p q : List Nat, cp p q ≤ p.length
  | [], _ => by simp [cp]
  | _ :: _, [] => by simp [cp]
  | x :: p, y :: q => by
    have := cp_le p q
    unfold cp
    split
    · simp; omega
    · simp
theorem map_sum_le (f g : Nat → Nat) : ∀ N, (∀ d, d < N → f d ≤ g d) → ((List.range N).map f).sum ≤ ((List.range N).map g).sum
  | 0, _ => Nat.le_refl _
  | N + 1, h => by
    have ih := map_sum_le f g N (fun d hd => h d (by omega))
    have := h N (by omega)
    simp only [List.range_succ, List.map_append, List.sum_append, List.map_cons, List.map_nil, List.sum_cons, List.sum_nil]
    omega
section
variable (pk : List Nat → Bool → List Nat) (H : List Nat → List Nat)
theorem below_len : ∀ (f : Nat) (l : List En), l ≠ [] → (below pk H (buildT f l)).length + 1 ≤ mu l
  | 0, e :: l, _ => by
    show 0 + 1 ≤ mu (e :: l)
    simp [mu]; omega
  | f + 1, [], h => absurd rfl h
  | f + 1, [e], _ => by
    show 0 + 1 ≤ mu [e]
    simp [mu]
  | f + 1, e :: e2 :: l, _ => by
    have hself : ∀ it : It, (if (enc it).length < 32 then ([] : List (List Nat)) else [enc it]).length ≤ 1 := fun it => by split <;> simp
    unfold buildT
    simp only
    by_cases hc : 0 < cp e.1 ((e2 :: l).getLast (by simp)).1
    · rw [if_pos hc]
      have h1 := below_len f (rests (cp e.1 ((e2 :: l).getLast (by simp)).1) (e :: e2 :: l)) (by simp [rests])
      have h2 := mu_rests_lt (l := e2 :: l) hc (cp_le e.1 ((e2 :: l).getLast (by simp)).1)
      have h3 := hself (itemT pk H (buildT f (rests (cp e.1 ((e2 :: l).getLast (by simp)).1) (e :: e2 :: l))))
      show (below pk H _ ++ _).length + 1 ≤ _
      rw [List.length_append]
      omega
    · rw [if_neg hc]
      have hd : ∀ d, d < 16 → (below pk H (buildT f (rests 1 (heads d (e :: e2 :: l)))) ++ (if (enc (itemT pk H (buildT f (rests 1 (heads d (e :: e2 :: l)))))).length < 32 then [] else [enc (itemT pk H (buildT f (rests 1 (heads d (e :: e2 :: l)))))])).length ≤ nu (heads d (e :: e2 :: l)) := by
        intro d _
        by_cases hz : heads d (e :: e2 :: l) = []
        · rw [hz]
          show (below pk H (buildT f []) ++ _).length ≤ _
          rw [show rests 1 ([] : List En) = [] from rfl, buildT_nil]
          show ([] ++ (if (enc (.str [])).length < 32 then ([] : List (List Nat)) else [enc (.str [])])).length ≤ 0
          rw [if_pos (by rw [enc_str]; decide)]
          simp
        · have h1 := below_len f (rests 1 (heads d (e :: e2 :: l))) (by unfold rests; simpa using hz)
          have h2 := mu_heads d (e :: e2 :: l)
          have h3 := hself (itemT pk H (buildT f (rests 1 (heads d (e :: e2 :: l)))))
          rw [List.length_append]
          omega
      show ((List.range 16).flatMap _).length + 1 ≤ _
      rw [List.length_flatMap]
      have h4 := map_sum_le _ _ 16 hd
      have h5 := nu_heads (e :: e2 :: l)
      have h6 : nu (e :: e2 :: l) + 1 ≤ mu (e :: e2 :: l) := by
        have : ∀ l : List En, nu l ≤ mu l := fun l => by
          induction l with
          | nil => exact Nat.le_refl _
          | cons x r ih => unfold nu mu at ih ⊢; simp only [List.map_cons, List.sum_cons] at ih ⊢; omega
        have h7 := this (e2 :: l)
        unfold nu mu at h7 ⊢
        simp only [List.map_cons, List.sum_cons] at h7 ⊢
        omega
      exact Nat.le_trans (Nat.succ_le_succ (Nat.le_trans h4 h5)) h6
end
theorem mu_le {l : List En} (h : ∀ e ∈ l, e.1.length ≤ 128) : mu l ≤ l.length * 129 := by
  induction l with
  | nil => exact Nat.le_refl _
  | cons x r ih =>
    have h1 := ih (fun e he => h e (List.mem_cons_of_mem _ he))
    have h2 := h x List.mem_cons_self
    unfold mu at h1 ⊢
    simp only [List.map_cons, List.sum_cons, List.length_cons] at h1 ⊢
    omega
end Tr
theorem item_allN (m bf : Nat) {wm : World} (hm : m = wm.heap.size) : ∀ {T : TN} {v : Value} {B : Nat}, TreeV B wm T v → WT T → ItemOKN m bf wm v (itemT pkT HL T) (below pkT HL T)
  | .nil, v, B, h, _ => by
    obtain rfl : v = .nilIface := h
    exact item_noneK m bf wm
  | .leaf p u, v, B, h, hw => by
    obtain ⟨b, pv, uv, rfl, _, hB, hp, hu⟩ := h
    exact item_leafK m bf wm hm b pv uv p u hB hp hu hw.1 hw.2.1 hw.2.2
  | .ext p s, v, B, h, hw => by
    obtain ⟨b, pv, sv, rfl, _, hB, hp, hs⟩ := h
    exact item_extN m bf wm hm b pv sv p (refI HL (itemT pkT HL s)) _ hB hp (reference_keep m bf wm sv _ _ (item_allN m bf hm hs hw.2.2) (item_enc HL_len hw.2.2) (item_dep _)) hs.one hw.1 hw.2.1
  | .branch s u, v, B, h, hw => by
    obtain ⟨b, c, uv, rfl, _, hB, hu, hs⟩ := h
    exact item_branchN m bf wm hm b c uv (fun d => refI HL (itemT pkT HL (s d))) u (fun d => below pkT HL (s d) ++ selfE (itemT pkT HL (s d))) hB hu (fun d hd => reference_keep m bf wm (c d) _ _ (item_allN m bf hm (hs d hd) (hw.2 d hd)) (item_enc HL_len (hw.2 d hd)) (item_dep _)) hw.1
end Go.Proofs.Ytfdihphhmhgejaa
