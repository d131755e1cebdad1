/- The document's node and ref, over any keep; a builder that sees nothing. -/
import Derived.Test.YtanmpcgackfpaaaGreatM01
import Derived.Test.YtanmpcgackfpaaaGreatM39
import Derived.Laws.CopyRow
set_option linter.unusedVariables false
set_option linter.unusedSimpArgs false
namespace Go.Proofs.YtanmpcgackfpaaaGreat
section
open Go.RowKit Tr
set_option maxRecDepth 100000
theorem node_all {σ : Type} {P : Keep σ} {bb : Nat} (H : KeepOK P bb) : ∀ f, BNodeOK P bb f
  | 0 => fun es X w s v hK hv hg _ => absurd hg.2.2.1 (Nat.not_lt_zero _)
  | f + 1 => by
    intro es X w s v hK hv hg hcnt
    have HR := ref_of_node H f (node_all H f)
    match es, hv, hg, hcnt with
    | [], _, hg, _ => exact absurd rfl hg.1
    | [e], hv, hg, _ => exact node_leaf H e X w s v hK hv (hg.2.2.2.1 e List.mem_cons_self)
    | e :: e2 :: l, hv, hg, hcnt =>
      by_cases h : 0 < cpAll e.1 (e2 :: l)
      · obtain ⟨q1, q2⟩ := node_extT (f := f) h
        rw [q2] at hcnt
        rw [q1, q2]
        exact node_ext H f HR (e :: e2 :: l) X w s v hK hv hg (by simp) h hcnt
      · obtain ⟨q1, q2⟩ := node_branchT (f := f) h
        rw [q2] at hcnt
        rw [q1, q2]
        exact node_branch H f HR (e :: e2 :: l) X w s v hK hv hg (by simp) h hcnt
theorem putL_len : ∀ (L : KList) (e : List Nat × Value), (putL L e).length ≤ L.length + 1
  | [], e => Nat.le_refl _
  | p :: L, e => by
    show (if lt (HL p.1) (HL e.1) then _ else _ : KList).length ≤ _
    split
    · have := putL_len L e; simp only [List.length_cons]; omega
    · split
      · simp only [List.length_cons]; omega
      · simp only [List.length_cons]; omega
end
section
open Go.RowKit Tr
set_option maxRecDepth 100000
theorem kCells_cons (e : List Nat × Value) (L : KList) : kCells (e :: L) = (ndA (hashN e.1) e.2).toList ++ kCells L := by simp [kCells]
theorem ins_cells (L : KList) (x : Nat) (hx : x ≤ L.length) (cur z nd : List Value) (hz : z.length = 33) (hnd : nd.length = 33) (hcur : cur.take ((L.length + 1) * 33) = kCells L ++ z) (c2 : List Value) (hc2 : c2 = cur.take ((x + 1) * 33) ++ (cur.drop (x * 33)).take ((L.length - x) * 33) ++ cur.drop ((x + 1) * 33 + (L.length - x) * 33)) :
    c2.length = cur.length ∧ (c2.take (x * 33) ++ nd ++ c2.drop (x * 33 + 33)).length = cur.length ∧ (c2.take (x * 33) ++ nd ++ c2.drop (x * 33 + 33)).take ((L.length + 1) * 33) = kCells (L.take x) ++ nd ++ kCells (L.drop x) := by
  obtain ⟨A, hA⟩ : ∃ A, A = kCells (L.take x) := ⟨_, rfl⟩
  obtain ⟨B, hB⟩ : ∃ B, B = kCells (L.drop x) := ⟨_, rfl⟩
  obtain ⟨R, hR⟩ : ∃ R, R = cur.drop ((L.length + 1) * 33) := ⟨_, rfl⟩
  have hAB : kCells L = A ++ B := by rw [hA, hB, ← qh7, List.take_append_drop]
  have lA : A.length = x * 33 := by rw [hA, qh8, List.length_take, Nat.min_eq_left hx]
  have lB : B.length = (L.length - x) * 33 := by rw [hB, qh8, List.length_drop]
  have hc : cur = A ++ (B ++ (z ++ R)) := by
    have := List.take_append_drop ((L.length + 1) * 33) cur
    rw [hcur, ← hR, hAB] at this
    rw [← this]
    simp
  rw [← hA, ← hB]
  obtain ⟨T, hT⟩ : ∃ T, T = (B ++ (z ++ R)).take 33 := ⟨_, rfl⟩
  have lT : T.length = 33 := by rw [hT, List.length_take, List.length_append, List.length_append, hz]; omega
  have e1 : cur.take ((x + 1) * 33) = A ++ T := by
    rw [hc, List.take_append, List.take_of_length_le (by omega), hT, show (x + 1) * 33 - A.length = 33 by omega]
  have e2 : cur.drop (x * 33) = B ++ (z ++ R) := by rw [hc, ← lA, List.drop_left]
  have e3 : (B ++ (z ++ R)).take ((L.length - x) * 33) = B := by rw [← lB, List.take_left]
  have e4 : cur.drop ((x + 1) * 33 + (L.length - x) * 33) = R := by
    rw [hc, show A ++ (B ++ (z ++ R)) = (A ++ (B ++ z)) ++ R by simp]
    have : (A ++ (B ++ z)).length = (x + 1) * 33 + (L.length - x) * 33 := by simp [lA, lB, hz]; omega
    rw [← this, List.drop_left]
  have hc2' : c2 = A ++ (T ++ (B ++ R)) := by rw [hc2, e1, e2, e3, e4]; simp
  have e5 : c2.take (x * 33) = A := by rw [hc2', ← lA, List.take_left]
  have e6 : c2.drop (x * 33 + 33) = B ++ R := by
    rw [hc2', show A ++ (T ++ (B ++ R)) = (A ++ T) ++ (B ++ R) by simp]
    have : (A ++ T).length = x * 33 + 33 := by simp [lA, lT]
    rw [← this, List.drop_left]
  refine ⟨by rw [hc2', hc]; simp [lT, hz]; omega, by rw [e5, e6, hc]; simp [hnd, hz]; omega, ?_⟩
  rw [e5, e6, show A ++ nd ++ (B ++ R) = (A ++ nd ++ B) ++ R by simp]
  have : (A ++ nd ++ B).length = (L.length + 1) * 33 := by simp [lA, lB, hnd]; omega
  rw [← this, List.take_left]
theorem nd_size33 : (Tryz.prog.info? 43).map (·.size) = some 33 := by kernel_rfl
theorem run_copyN (w : World) (ty : TypeId) (g off soff dn dc sn sc m : Nat) (dp sp : Option Addr) (cur : Array Value) (hg : w.heap[g]? = some (.cells cur 43 (0, 0))) (hm : m = Nat.min sn dn) (hpos : 0 < m → dp = some ⟨g, off, none⟩ ∧ sp = some ⟨g, soff, none⟩) (hfit : off + m * 33 ≤ cur.size) (hsrc : soff + m * 33 ≤ cur.size) (h1 : ∀ v ∈ (cur.toList.drop soff).take (m * 33), v.oneCell' = true) :
    (Builtin.copy_ #[38, 38] ty #[.slice dp dn dc, .slice sp sn sc]).run Tryz.prog w = .ok (goInt m) (w.setRow g (cur.toList.take off ++ (cur.toList.drop soff).take (m * 33) ++ cur.toList.drop (off + m * 33)).toArray) := by
  have hs := nd_size33
  cases hq : Tryz.prog.info? 43 with
  | none => simp [hq] at hs
  | some i =>
    have hi : i.size = 33 := by simpa [hq] using hs
    by_cases h0 : m = 0
    · subst h0
      have e : cur.toList.take off ++ (cur.toList.drop soff).take (0 * 33) ++ cur.toList.drop (off + 0 * 33) = cur.toList := by simp
      rw [e, Array.toArray_toList, setRow_self w g cur _ _ hg]
      cases dp <;> cases sp <;> simp [Builtin.copy_, run_underlying qk1, Builtin.lenOf, Builtin.firstCells, sizeOf, typeInfo, hq, hi, ← hm, loadCells, loadCellsFrom, storeCells, Result.andThen]
    · obtain ⟨rfl, rfl⟩ := hpos (by omega)
      have hcs : ((cur.toList.drop soff).take (m * 33)).length = m * 33 := by rw [List.length_take, List.length_drop, Array.length_toList]; omega
      have hl := run_loadCells_list (P := Tryz.prog) w ⟨g, soff, none⟩ ((cur.toList.drop soff).take (m * 33)) (fun j v hj => by
        have hj2 : j < m * 33 := by rw [← hcs]; exact (List.getElem?_eq_some_iff.1 hj).1
        rw [List.getElem?_take_of_lt hj2, List.getElem?_drop, Array.getElem?_toList] at hj
        have hadd : (⟨g, soff, none⟩ : Addr).add j = ⟨g, soff + j, none⟩ := by unfold Addr.add; split <;> simp_all
        rw [hadd]
        have hB : Blk w g 43 cur := hg
        exact hB.cell hj)
      have hst := run_storeCells_at (P := Tryz.prog) g off 43 ((cur.toList.drop soff).take (m * 33)) 0 cur w hg (by rw [hcs]; simpa using hfit) h1
      rw [hcs] at hl hst
      simp only [Nat.add_zero] at hst
      simp [Builtin.copy_, run_underlying qk1, Builtin.lenOf, Builtin.firstCells, sizeOf, typeInfo, hq, hi, ← hm, hl, hst]
section
variable {a : Act} {w : World} {o : Oper} {ops : Array Oper} {rest : List Oper} {Q : Exit → Act → World → Prop}
theorem st_copyN {g off soff dn dc sn sc m : Nat} {dp sp : Option Addr} {cur : Array Value} (hgd : o.guard = none) (d s : Operand) (ho : o.op = .call { callee := .builtin .copy, args := #[d, s], argTypes := #[38, 38] }) (hd : a.eval d = .slice dp dn dc) (hs : a.eval s = .slice sp sn sc)
    (hB : Blk w g 43 cur) (hm : m = Nat.min sn dn) (hpos : 0 < m → dp = some ⟨g, off, none⟩ ∧ sp = some ⟨g, soff, none⟩) (hfit : off + m * 33 ≤ cur.size) (hsrc : soff + m * 33 ≤ cur.size) (h1 : ∀ v ∈ (cur.toList.drop soff).take (m * 33), v.oneCell' = true)
    (h : ∀ w', Only g w w' → Blk w' g 43 (cur.toList.take off ++ (cur.toList.drop soff).take (m * 33) ++ cur.toList.drop (off + m * 33)).toArray → wpList Tryz.prog ops Q rest (a.put o.dst (goInt m)) w') : wpList Tryz.prog ops Q (o :: rest) a w :=
  wpList_plain hgd fun K hK => by
    have hr := run_copyN w o.type g off soff dn dc sn sc m dp sp cur hB hm hpos hfit hsrc h1
    unfold Oper.wp execOp
    simp only [ho, resolve, invoke, builtin, Sem.run_bind, Sem.run_pure, Result.andThen_ok, List.map_toArray, List.map_cons, List.map_nil, hd, hs, hr]
    exact hK _ _ (h _ (Only.setRow w g _) (hB.row _))
theorem held_storeN {l0 : List Oper} {n g j : Nat} {K : Act → World → Prop} {cur c : Array Value} (xo yo : Operand) (ho : l0[n]? = some o) (hw : Region.wanted o (yielded l0.toArray a.tmps) = true) (hop : o.op = .store 43 xo yo) (hx : a.eval xo = .pointer (some ⟨g, j, none⟩)) (hy : a.eval yo = .agg c)
    (hB : Blk w g 43 cur) (hj : j + 33 ≤ cur.size) (hc : c.size = 33) (h1 : c.all (·.oneCell') = true)
    (h : ∀ w', Only g w w' → Blk w' g 43 (cur.toList.take j ++ c.toList ++ cur.toList.drop (j + 33)).toArray → K (a.put o.dst undef) w') : wpOp Tryz.prog l0.toArray Q n K a w := by
  have ho' : l0.toArray[n]? = some o := by rw [List.getElem?_toArray]; exact ho
  have hl : c.toList.length = 33 := by rw [Array.length_toList, hc]
  have hr := run_storeCells_at (P := Tryz.prog) g j 43 c.toList 0 cur w hB (by rw [hl]; simpa using hj) (fun v hv => (Array.all_eq_true_iff_forall_mem.1 h1) v (by simpa using hv))
  have hr2 : (Instr.storeAt 43 (.pointer (some ⟨g, j, none⟩)) (.agg c)).run Tryz.prog w = .ok () (w.setRow g (cur.toList.take j ++ c.toList ++ cur.toList.drop (j + 33)).toArray) := by
    simp only [Nat.add_zero, hl] at hr
    have hsz := nd_size33
    cases hq : Tryz.prog.info? 43 with
    | none => simp [hq] at hsz
    | some i =>
      have hs : i.size = 33 := by simpa [hq] using hsz
      simp [Instr.storeAt, Instr.sureAddr, storeVar, sizeOf, typeInfo, hq, Value.cells, hs, hc, hr]
  unfold wpOp
  simp only [ho', hw, if_true]
  refine .inl ?_
  unfold Oper.wp execOp
  simp only [hop, hx, hy, Sem.run_bind, hr2, Result.andThen_ok, Sem.run_pure]
  exact h _ (Only.setRow w g _) (hB.row _)
end
theorem held_cloneB {a : Act} {w : World} {o : Oper} {Q : Exit → Act → World → Prop} {l0 : List Oper} {n : Nat} {K : Act → World → Prop} {B : Nat} {u : Value} {m : List Nat} (s x : Operand) (ho : l0[n]? = some o) (hw : Region.wanted o (yielded l0.toArray a.tmps) = true) (hgd : o.guard = none)
    (hop : o.op = .call { callee := .builtin .append, args := #[s, x], argTypes := #[23, 23] }) (hs : a.eval s = .slice none 0 0) (hx : a.eval x = u) (hB : B ≤ w.heap.size) (hu : RdB w u m) (hl : m.length ≤ 100000000)
    (h : ∀ v' w', w'.ownsRow B 5 1 v' m.length (nb m) → Tch [] w w' → K (a.put o.dst v') w') : wpOp Tryz.prog l0.toArray Q n K a w := by
  have ho' : l0.toArray[n]? = some o := by rw [List.getElem?_toArray]; exact ho
  have h2 := step_cloneB (ops := l0.toArray) (Q := Q) (E := True) hgd s x hop hs hx hB hu hl h
  rw [if_pos hw] at h2
  unfold wpOp
  simp only [ho', hw, if_true]
  exact .inl h2
theorem ql4 (b : Nat) (w : World) : (Instr.fieldAt 60 (.pointer (some ⟨b, 0, none⟩)) 0).run Tryz.prog w = .ok (.pointer (some ⟨b, 0, none⟩)) w := by kernel_rfl
theorem fa_ndj1 (b j : Nat) (w : World) : (Instr.fieldAt 43 (.pointer (some ⟨b, j, none⟩)) 1).run Tryz.prog w = .ok (.pointer (some ⟨b, j + 32, none⟩)) w := by kernel_rfl
def SeenAt (sb m : Nat) (X : List Nat) (w : World) (v : Value) (L : KList) : Prop :=
  Blk w sb 60 #[v] ∧ m ≤ sb ∧ w.ownsRow m 43 33 v L.length (kCells L) ∧ v.ownBlock ≠ some sb ∧ (∀ x ∈ X, x < w.heap.size ∧ x ≠ sb ∧ v.ownBlock ≠ some x) ∧ (∀ p ∈ L, RdA (sb :: (v.ownBlock.toList ++ X)) w p.2 p.1) ∧ L.Pairwise (fun p q => lt (HL p.1) (HL q.1))
theorem own_shapeK {w : World} {m : Nat} {v : Value} {L : KList} (h : w.ownsRow m 43 33 v L.length (kCells L)) : ∃ p cap, v = .slice p L.length cap ∧ L.length ≤ cap ∧ (0 < L.length → ∃ g, p = some ⟨g, 0, none⟩ ∧ v.ownBlock = some g ∧ m ≤ g ∧ g < w.heap.size ∧ ∀ j u, (kCells L)[j]? = some u → w.cell? ⟨g, j, none⟩ = some u) := by
  rcases h.2 with ⟨rfl, h0⟩ | ⟨g, cap, cur, rfl, hg, hb, hn, _, hcs, htk⟩
  · exact ⟨none, 0, by rw [h0], by omega, fun q => by omega⟩
  · refine ⟨_, cap, rfl, hn, fun _ => ⟨g, rfl, rfl, hg, (Array.getElem?_eq_some_iff.1 hb).1, fun j u hu => ?_⟩⟩
    have hB : Blk w g 43 cur := hb
    have hj : j < L.length * 33 := by rw [← qh8]; exact (List.getElem?_eq_some_iff.1 hu).1
    refine hB.cell ?_
    rw [← htk, List.getElem?_take_of_lt hj, Array.getElem?_toList] at hu
    exact hu
end
section
open Go.RowKit Tr
set_option maxRecDepth 100000
def AddPost (sb m : Nat) (X : List Nat) (v : Value) (L : KList) (l : List Nat) (w : World) (e : Ending) (w' : World) : Prop :=
  ∃ (r : Bool) (v' : Value) (L' : KList), e = .returned (.bool r) ∧ Tch (sb :: v.ownBlock.toList) w w' ∧ (∀ g, v'.ownBlock = some g → v.ownBlock = some g ∨ w.heap.size ≤ g) ∧ SeenAt sb m X w' v' L' ∧ (r = true → l ∈ L'.map (·.1)) ∧ (∀ x ∈ L.map (·.1), x ∈ L'.map (·.1)) ∧ L'.length ≤ L.length + 1
theorem x_idxNd {a : Act} {w : World} {o : Oper} {g n c i : Nat} (x y : Operand) (ho : o.op = .indexAddr 38 x y) (hx : a.eval x = .slice (some ⟨g, 0, none⟩) n c) (hy : a.eval y = .int .i64 (i : Int)) (hn : i < n) : (execOp a.eval o).run Tryz.prog w = .ok (.value (.pointer (some ⟨g, i * 33, none⟩))) w := by
  have hr := idxN g n c hn w
  unfold execOp
  simp only [ho, hx, hy, Sem.run_bind, hr, Result.andThen_ok, Sem.run_pure]
theorem ins_n {n x N : Nat} {cur nd R : List Value} (h : n = N) (k : (cur.take ((x + 1) * 33) ++ (cur.drop (x * 33)).take ((N - x) * 33) ++ cur.drop ((x + 1) * 33 + (N - x) * 33)).length = cur.length ∧ ((cur.take ((x + 1) * 33) ++ (cur.drop (x * 33)).take ((N - x) * 33) ++ cur.drop ((x + 1) * 33 + (N - x) * 33)).take (x * 33) ++ nd ++ (cur.take ((x + 1) * 33) ++ (cur.drop (x * 33)).take ((N - x) * 33) ++ cur.drop ((x + 1) * 33 + (N - x) * 33)).drop (x * 33 + 33)).length = cur.length ∧ ((cur.take ((x + 1) * 33) ++ (cur.drop (x * 33)).take ((N - x) * 33) ++ cur.drop ((x + 1) * 33 + (N - x) * 33)).take (x * 33) ++ nd ++ (cur.take ((x + 1) * 33) ++ (cur.drop (x * 33)).take ((N - x) * 33) ++ cur.drop ((x + 1) * 33 + (N - x) * 33)).drop (x * 33 + 33)).take ((N + 1) * 33) = R) : (cur.take ((x + 1) * 33) ++ (cur.drop (x * 33)).take ((n - x) * 33) ++ cur.drop ((x + 1) * 33 + (n - x) * 33)).length = cur.length ∧ ((cur.take ((x + 1) * 33) ++ (cur.drop (x * 33)).take ((n - x) * 33) ++ cur.drop ((x + 1) * 33 + (n - x) * 33)).take (x * 33) ++ nd ++ (cur.take ((x + 1) * 33) ++ (cur.drop (x * 33)).take ((n - x) * 33) ++ cur.drop ((x + 1) * 33 + (n - x) * 33)).drop (x * 33 + 33)).length = cur.length ∧ ((cur.take ((x + 1) * 33) ++ (cur.drop (x * 33)).take ((n - x) * 33) ++ cur.drop ((x + 1) * 33 + (n - x) * 33)).take (x * 33) ++ nd ++ (cur.take ((x + 1) * 33) ++ (cur.drop (x * 33)).take ((n - x) * 33) ++ cur.drop ((x + 1) * 33 + (n - x) * 33)).drop (x * 33 + 33)).take ((n + 1) * 33) = R := by
  subst h; exact k
theorem own_n {w : World} {m n : Nat} {v : Value} {L : KList} (h : n = L.length) (ho : w.ownsRow m 43 33 v L.length (kCells L)) : w.ownsRow m 43 33 v n (kCells L) := by
  subst h; exact ho
theorem build_0N (w : World) : (Instr.build 43 #[]).run Tryz.prog w = .ok (.agg (ndA (fun _ => 0) (.slice none 0 0))) w := by kernel_rfl
section
variable {a : Act} {w : World} {o : Oper} {ops : Array Oper} {rest : List Oper} {Q : Exit → Act → World → Prop}
theorem x_build0N (ho : o.op = .build 43 #[]) : (execOp a.eval o).run Tryz.prog w = .ok (.value (.agg (ndA (fun _ => 0) (.slice none 0 0)))) w := by
  unfold execOp
  simp only [ho, List.map_toArray, List.map_nil, build_0N, Sem.run_bind, Result.andThen_ok, Sem.run_pure]
theorem st_bsNd {x1 : Operand} {f : Nat → Nat} {p : Option Addr} {n c : Nat} (hgd : o.guard = none) (hop : o.op = .buildSlice 38 1 #[(0, x1)]) (h1 : a.eval x1 = .agg (ndA f (.slice p n c)))
    (h : wpList Tryz.prog ops Q rest (a.put o.dst (.slice (some ⟨w.heap.size, 0, none⟩) 1 1)) (w.alloc (.cells (ndA f (.slice p n c)) 43))) : wpList Tryz.prog ops Q (o :: rest) a w :=
  wpList_plain hgd fun K hK => by
    have hr := buildN1 f p n c w
    unfold Oper.wp execOp
    simp only [hop, List.map_toArray, List.map_cons, List.map_nil, h1, Sem.run_bind, hr, Result.andThen_ok, Sem.run_pure]
    exact hK _ _ h
end
section
variable {o : Oper} {a : Act} {ops : Array Oper} {rest : List Oper} {C : World → Prop} {Q : Act → Prop}
theorem k_slK {v u n : Value} (hw : Region.wanted o (yielded ops a.tmps) = true) (x y : Operand) (ho : o.op = .slice 38 x (some y) none none) (hx : a.eval x = v) (hy : a.eval y = n) (hr : ∀ w, (Instr.sliceAt 38 v (some n) none none).run Tryz.prog w = .ok u w) (h : KQ ops C Q rest (a.put o.dst u)) : KQ ops C Q (o :: rest) a :=
  qd6 hw (fun w => x_from x y _ ho hx hy (hr w)) h
end
theorem SeenAt.call {sb m : Nat} {X : List Nat} {w w' : World} {v : Value} {L : KList} (h : SeenAt sb m X w v L) (hT : Tch [] w w') : SeenAt sb m X w' v L :=
  ⟨hT.blk h.1 (by simp), h.2.1, own_eq h.2.2.1 (fun g hg => hT.block g (h.2.2.1.lt g hg).2 (by simp)), h.2.2.2.1, fun x hx => ⟨Nat.lt_of_lt_of_le (h.2.2.2.2.1 x hx).1 hT.size, (h.2.2.2.2.1 x hx).2⟩, fun p hp => (h.2.2.2.2.2.1 p hp).tch hT.toX, h.2.2.2.2.2.2⟩
theorem sort_ins {L : KList} (hs : L.Pairwise (fun p q => lt (HL p.1) (HL q.1))) {x : Nat} {l : List Nat} {vd : Value} (hx : x ≤ L.length) (h1 : ∀ j (hj : j < L.length), j < x → lt (HL L[j].1) (HL l)) (h2 : ∀ j (hj : j < L.length), x ≤ j → lt (HL l) (HL L[j].1)) : (L.take x ++ (l, vd) :: L.drop x).Pairwise (fun p q => lt (HL p.1) (HL q.1)) := by
  have h3 := hs
  rw [← List.take_append_drop x L, List.pairwise_append] at h3
  refine List.pairwise_append.2 ⟨h3.1, List.pairwise_cons.2 ⟨fun q hq => ?_, h3.2.1⟩, fun a ha b hb => ?_⟩
  · obtain ⟨j, hj, rfl⟩ := List.getElem_of_mem hq
    rw [List.getElem_drop]
    exact h2 _ _ (by omega)
  · rcases List.mem_cons.1 hb with rfl | hb
    · obtain ⟨j, hj, rfl⟩ := List.getElem_of_mem ha
      rw [List.getElem_take]
      rw [List.length_take] at hj
      exact h1 _ _ (by omega)
    · exact h3.2.2 a ha b hb
theorem add_last {sb m : Nat} {X : List Nat} {w u : World} {v v5 : Value} {L : KList} {l : List Nat} {x g1 cap1 : Nat} {cur3 : Array Value} (h : SeenAt sb m X w v L) (hx : x ≤ L.length) (h1 : ∀ j (hj : j < L.length), j < x → lt (HL L[j].1) (HL l)) (h2 : ∀ j (hj : j < L.length), x ≤ j → lt (HL l) (HL L[j].1))
    (hmg : m ≤ g1) (hg1 : v.ownBlock = some g1 ∨ w.heap.size ≤ g1) (hcap : L.length + 1 ≤ cap1) (hmax : cap1 ≤ maxLen) (hsz : cur3.size = cap1 * 33) (htk : cur3.toList.take ((L.length + 1) * 33) = kCells (L.take x) ++ (ndA (hashN l) v5).toList ++ kCells (L.drop x)) (hB : Blk u g1 43 cur3) (hS : Blk u sb 60 #[.slice (some ⟨g1, 0, none⟩) (L.length + 1) cap1]) (hT : Tch (sb :: v.ownBlock.toList) w u) (h5 : RdA (sb :: (g1 :: X)) u v5 l) : AddPost sb m X v L l w (.returned (.bool true)) u := by
  obtain ⟨k1, k2, k3, k4, k5, k6, k7⟩ := h
  have hlen : (L.take x ++ (l, v5) :: L.drop x).length = L.length + 1 := by simp; omega
  refine ⟨true, .slice (some ⟨g1, 0, none⟩) (L.length + 1) cap1, L.take x ++ (l, v5) :: L.drop x, rfl, hT, fun g hg => ?_, ⟨hS, k2, ?_, ?_, fun y hy => ?_, fun p hp => ?_, sort_ins k7 hx h1 h2⟩, fun _ => ?_, fun y hy => ?_, by rw [hlen]; exact Nat.le_refl _⟩
  · have e : g1 = g := by injection hg
    rw [← e]; exact hg1
  · refine ⟨by rw [qh8], .inr ⟨g1, cap1, cur3, by rw [hlen], hmg, hB, by rw [hlen]; exact hcap, hmax, hsz, ?_⟩⟩
    rw [hlen, htk, qh7, kCells_cons]
    simp
  · intro e
    have e2 : g1 = sb := by injection e
    rcases hg1 with q | q
    · exact k4 (by rw [q, e2])
    · have := k1.lt; omega
  · refine ⟨Nat.lt_of_lt_of_le (k5 y hy).1 hT.size, (k5 y hy).2.1, fun e => ?_⟩
    have e2 : g1 = y := by injection e
    rcases hg1 with q | q
    · exact (k5 y hy).2.2 (by rw [q, e2])
    · have := (k5 y hy).1; omega
  · have hp2 : p ∈ L ∨ p = (l, v5) := by
      rcases List.mem_append.1 hp with hp | hp
      · exact .inl (List.mem_of_mem_take hp)
      · rcases List.mem_cons.1 hp with hp | hp
        · exact .inr hp
        · exact .inl (List.mem_of_mem_drop hp)
    show RdA (sb :: ([g1] ++ X)) u p.2 p.1
    rcases hp2 with hp2 | rfl
    · have h6 : RdA ((sb :: (v.ownBlock.toList ++ X)) ++ [g1]) w p.2 p.1 := (k6 p hp2).mono (fun y hy => by
        rcases List.mem_append.1 hy with hy | hy
        · exact .inl hy
        · rw [List.mem_singleton.1 hy]
          exact hg1.imp (fun q => List.mem_cons_of_mem _ (List.mem_append_left _ (by simp [q]))) id)
      exact (h6.tch (hT.mono (fun y hy => .inl (by
        rcases List.mem_cons.1 hy with rfl | hy
        · exact List.mem_append_left _ List.mem_cons_self
        · exact List.mem_append_left _ (List.mem_cons_of_mem _ (List.mem_append_left _ hy)))))).mono (fun y hy => .inl (by
        rcases List.mem_cons.1 hy with rfl | hy
        · exact List.mem_append_left _ List.mem_cons_self
        · rcases List.mem_append.1 hy with hy | hy
          · exact List.mem_append_right _ hy
          · exact List.mem_append_left _ (List.mem_cons_of_mem _ (List.mem_append_right _ hy))))
    · exact h5
  · exact List.mem_map.2 ⟨(l, v5), by simp, rfl⟩
  · obtain ⟨p, hp, rfl⟩ := List.mem_map.1 hy
    refine List.mem_map.2 ⟨p, ?_, rfl⟩
    rw [← List.take_append_drop x L] at hp
    rcases List.mem_append.1 hp with hp | hp
    · exact List.mem_append_left _ hp
    · exact List.mem_append_right _ (List.mem_cons_of_mem _ hp)
set_option maxHeartbeats 16000000 in
theorem seenAdd_any (sb m : Nat) (X : List Nat) (v : Value) (L : KList) (l : List Nat) (vd : Value) (w : World) (h : SeenAt sb m X w v L) (hd : RdA (sb :: (v.ownBlock.toList ++ X)) w vd l) (hl : l.length ≤ 1000000) (hn : L.length ≤ 50000000) :
    Calls Tryz.prog 61 #[.pointer (some ⟨sb, 0, none⟩), .agg (wf (hashN l)), vd] w (AddPost sb m X v L l w) := by
  have HSA := hQz h
  have HD := hQz (And.intro hd hl)
  obtain ⟨hB, _, hown, _, hX, hrd, hso⟩ := h
  obtain ⟨p, cap, rfl, hcap, hcl⟩ := own_shapeK hown
  obtain ⟨n, hnL⟩ : ∃ n, n = L.length := ⟨_, rfl⟩
  rw [← hnL] at hcap hcl hn hB HSA HD
  have HNL := hQz hnL
  have HCL := hQz hcl
  have HSO := hQz hso
  have HRD := hQz hrd
  have HSB := hQz (fun (w' : World) (hT : Tch [] w w') => show w'.cell? ⟨sb, 0, none⟩ = some (.slice p n cap) from (hT.blk hB (by simp)).cell rfl)
  have hS : St [] w w [] := St.start w
  rw [← hnL]
  clear hB hown hX hrd hso hcl hd hl hnL
  go_enter Tryz.func61, Tryz.ntmps61
  go_wp2_with (first
    | (refine qi0 hS rfl 32 _ rfl rfl ?_; clear hS; intro w1 b4 hS)
    | (refine qc1 rfl (x_fa 60 _ 0 rfl rfl (ql4 _ _)) ?_)
    | (refine qc1 rfl (qe2 38 _ rfl rfl (HSB.out _ hS.frame) qe7) ?_))
  go_loopw [7, 8] (fun s7 s8 wr => ∃ x y : Nat, s7 = .int .i64 (x : Int) ∧ s8 = .int .i64 (y : Int) ∧ x ≤ y ∧ y ≤ n ∧ St [] w wr [(b4, 32, wf (hashN l))] ∧ Hid ((∀ j (hj : j < L.length), j < x → lt (HL L[j].1) (HL l)) ∧ (∀ j (hj : j < L.length), y ≤ j → ¬ lt (HL L[j].1) (HL l)))) (fun a b _ => (intOf b).toNat - (intOf a).toNat)
  case atStart => exact ⟨0, n, rfl, rfl, Nat.zero_le _, Nat.le_refl _, hS, hQz ⟨fun j _ h => absurd h (Nat.not_lt_zero _), fun j hj h => by rw [HNL.out] at h; omega⟩⟩
  case round =>
    clear hS
    obtain ⟨x, y, rfl, rfl, hxy, hyn, hS, HI⟩ := hrel
    by_cases hlt : x < y
    · have d1 : (x : Int) < (y : Int) := by omega
      obtain ⟨q, hq⟩ : ∃ q, q = (x + y) / 2 := ⟨_, rfl⟩
      have hq1 : x ≤ q := by omega
      have hq2 : q < y := by omega
      have dq : ((x : Int) + (y : Int)) / 2 = (q : Int) := by omega
      have hqL : q < L.length := by rw [← HNL.out]; omega
      obtain ⟨g, hpg, hgo, hgm, hgw, hcg⟩ := HCL.out (by omega)
      obtain ⟨kq, hkq⟩ : ∃ kq, kq = (L[q]'hqL).1 := ⟨_, rfl⟩
      have HR1 := hQz (fun (w' : World) (hT : Tch [] w w') => show w'.rangeAt g (q * 33) (wf (hashN kq)).toList from by
        rw [hkq]
        exact nd_rangeWj (at_range (fun j u hu => (hT.cell (p := ⟨g, j, none⟩) hgw (by simp)).trans (hcg j u hu)) hqL))
      have HQK := hQz (And.intro hkq (And.intro hq1 hq2))
      have HQN := hQz (show q < n by omega)
      obtain ⟨t, ht⟩ : ∃ t, t = decide (lt (HL kq) (HL l)) := ⟨_, rfl⟩
      have HLS := hQz (fun (W : World) => show Calls Tryz.prog 13 #[.agg (wf (hashN kq)), .agg (wf (hashN l))] W fun e' w' => e' = .returned (.bool t) ∧ Tch [] W w' from by have h := Less_any (hashN kq) (hashN l) W (fun i _ => qj2 _ i) (fun i _ => qj2 _ i); rw [← HL_WL, ← HL_WL, ← ht] at h; exact h)
      have HT := hQz ht
      have SZ : (wf (hashN l)).size = 32 := qa5 _
      obtain ⟨FH, hFH⟩ : ∃ FH, FH = wf (hashN l) := ⟨_, rfl⟩
      have hps := hpg
      subst hps
      clear hkq hcg ht hpg hq
      go_upto_region 5 with (fail)
      rw [dq]
      try simp only [Act.put, ppA, ppB, ppC]
      refine qb7 (C := fun w' => St [] w w' [(b4, 32, wf (hashN l))]) (by kernel_rfl) (by kernel_rfl) hS.drew ?_
      refine qf2 ⟨sb, 0, none⟩ rfl _ rfl rfl ?_; try simp only [Act.put, ppA, ppB, ppC]
      refine qf1 ⟨sb, 0, none⟩ rfl _ rfl rfl ?_; try simp only [Act.put, ppA, ppB, ppC]
      refine k_fa rfl 60 _ 0 rfl rfl (ql4 sb) ?_; try simp only [Act.put, ppA, ppB, ppC]
      refine qc2 (b := sb) (j := 0) (v := .slice (some ⟨g, 0, none⟩) n cap) rfl _ _ rfl rfl (fun w' h => HSB.out w' h.frame) qe7 ?_; try simp only [Act.put, ppA, ppB, ppC]
      refine qh3 (v := .int .i64 (q : Int)) rfl _ (.inl rfl) rfl ?_; try simp only [Act.put, ppA, ppB, ppC]
      refine k_idxNz (g := g) (i := q) rfl _ _ rfl rfl rfl HQN.out ?_; try simp only [Act.put, ppA, ppB, ppC]
      refine k_fa rfl 43 _ 0 rfl rfl (fa_ndj0 g (q * 33)) ?_; try simp only [Act.put, ppA, ppB, ppC]
      refine k_loadM (b := g) (i := q * 33) (cs := (wf (hashN kq)).toList) rfl _ rfl rfl (fun w' h => HR1.out w' h.frame) (by rw [Array.length_toList, qa5]) ?_; try simp only [Act.put, ppA, ppB, ppC]
      refine k_load (b := b4) (c := wf (hashN l)) rfl _ _ rfl rfl .head qc7 qb4 SZ ?_; try simp only [Act.put, ppA, ppB, ppC]
      refine qk3 (v := .bool t) rfl rfl rfl rfl Tryz.call13 (fun w' h => (HLS.out w').mono fun e' w'' h2 => ⟨h2.1, h.call h2.2⟩) ?_; try simp only [Act.put, ppA, ppB, ppC]
      refine qc8 ?_
      clear hS
      intro w2 hS
      cases t with
      | true =>
        have hlq := of_decide_eq_true HT.out.symm
        have HI2 := hQz (show (∀ j (hj : j < L.length), j < q + 1 → lt (HL L[j].1) (HL l)) ∧ (∀ j (hj : j < L.length), y ≤ j → ¬ lt (HL L[j].1) (HL l)) from ⟨fun j hj hjq => by
          by_cases e : j = q
          · subst e; rw [← HQK.out.1]; exact hlq
          · have h1 := (List.pairwise_iff_getElem.1 HSO.out) j q hj hqL (by omega)
            rw [← HQK.out.1] at h1
            exact lt_trans h1 hlq, HI.out.2⟩)
        clear hlq
        go_wp2
        go_roundw
        case rel => exact ⟨q + 1, y, by go_num, rfl, by omega, by omega, hS, HI2⟩
        case measure => have := HQK.out.2; simp [intOf]; omega
      | false =>
        have hlq := of_decide_eq_false HT.out.symm
        have HI2 := hQz (show (∀ j (hj : j < L.length), j < x → lt (HL L[j].1) (HL l)) ∧ (∀ j (hj : j < L.length), q ≤ j → ¬ lt (HL L[j].1) (HL l)) from ⟨HI.out.1, fun j hj hjq => by
          by_cases e : j = q
          · subst e; rw [← HQK.out.1]; exact hlq
          · intro h2
            have h1 := (List.pairwise_iff_getElem.1 HSO.out) q j hqL hj (by omega)
            rw [← HQK.out.1] at h1
            exact hlq (lt_trans h1 h2)⟩)
        clear hlq
        go_wp2
        go_roundw
        case rel => exact ⟨x, q, rfl, rfl, by omega, by omega, hS, HI2⟩
        case measure => have := HQK.out.2; simp [intOf]; omega
    · obtain rfl : x = y := by omega
      have d1 : ¬ (x : Int) < (x : Int) := by omega
      have HXN := hQz hyn
      have HNS := hQz hn
      have SZ : (wf (hashN l)).size = 32 := qa5 _
      by_cases hxn : x < n
      · have hxL : x < L.length := by rw [← HNL.out]; exact hxn
        obtain ⟨g, hpg, hgo, hgm, hgw, hcg⟩ := HCL.out (by omega)
        obtain ⟨kq, hkq⟩ : ∃ kq, kq = (L[x]'hxL).1 := ⟨_, rfl⟩
        have HR1 := hQz (fun (w' : World) (hT : Tch [] w w') => show w'.rangeAt g (x * 33) (wf (hashN kq)).toList from by
          rw [hkq]
          exact nd_rangeWj (at_range (fun j u hu => (hT.cell (p := ⟨g, j, none⟩) hgw (by simp)).trans (hcg j u hu)) hxL))
        have hrx := HRD.out (L[x]'hxL) (List.getElem_mem hxL)
        have hcb : w.cell? ⟨g, x * 33 + 32, none⟩ = some (L[x]'hxL).2 := hcg _ _ ((kCells_get L x 32 hxL (by decide)).trans (by
          unfold ndA
          rw [Array.getElem?_append_right (by rw [qa5]; exact Nat.le_refl _), qa5]
          rfl))
        rw [← hkq] at hrx
        obtain ⟨pb, cb, hvb⟩ := hrx.shape'
        rw [hvb] at hrx hcb
        have HCB := hQz (fun (w' : World) (hT : Tch [] w w') => show w'.cell? ⟨g, x * 33 + 32, none⟩ = some (.slice pb kq.length cb) from (hT.cell (p := ⟨g, x * 33 + 32, none⟩) hgw (by simp)).trans hcb)
        have HRB := hQz (fun (w' : World) (hT : Tch [] w w') => show RdB w' (.slice pb kq.length cb) kq from hrx.rdB.tch hT (by simp))
        have HBB := hQz (And.intro (show ∀ y ∈ kq, y < 256 from hrx.choose_spec.choose_spec.2.2.1) (show ∀ y ∈ l, y < 256 from HD.out.1.choose_spec.choose_spec.2.2.1))
        have HLX := hQz (And.intro hkq hxn)
        obtain ⟨t, ht⟩ : ∃ t, t = (HL kq == HL l) := ⟨_, rfl⟩
        have HTE := hQz ht.symm
        obtain ⟨pv, cv, hvd⟩ := HD.out.1.shape'
        have HVD := hQz hvd
        have hps := hpg
        subst hps
        clear hkq hcg hpg hcb hrx hvb
        go_upto_region 8 with (fail)
        try simp only [Act.put, ppA, ppB, ppC]
        refine qb7 (C := fun w' => St [] w w' [(b4, 32, wf (hashN l))]) (by kernel_rfl) (by kernel_rfl) hS.drew ?_
        refine qh3 (v := .int .i64 (x : Int)) rfl _ (.inl rfl) rfl ?_; try simp only [Act.put, ppA, ppB, ppC]
        refine qf2 ⟨sb, 0, none⟩ rfl _ rfl rfl ?_; try simp only [Act.put, ppA, ppB, ppC]
        refine qf1 ⟨sb, 0, none⟩ rfl _ rfl rfl ?_; try simp only [Act.put, ppA, ppB, ppC]
        refine k_fa rfl 60 _ 0 rfl rfl (ql4 sb) ?_; try simp only [Act.put, ppA, ppB, ppC]
        refine qc2 (b := sb) (j := 0) (v := .slice (some ⟨g, 0, none⟩) n cap) rfl _ _ rfl rfl (fun w' h => HSB.out w' h.frame) qe7 ?_; try simp only [Act.put, ppA, ppB, ppC]
        refine k_lenNd rfl _ rfl rfl ?_; try simp only [Act.put, ppA, ppB, ppC]
        refine k_lss (m := (x : Int)) (n := (n : Int)) (t := true) rfl _ _ _ rfl rfl rfl (decide_eq_true (by have := HLX.out.2; omega)) ?_; try simp only [Act.put, ppA, ppB, ppC]
        refine qc0 (t := true) rfl _ rfl rfl ?_; try simp only [Act.put, ppA, ppB, ppC]
        refine qf2 ⟨sb, 0, none⟩ rfl _ rfl rfl ?_; try simp only [Act.put, ppA, ppB, ppC]
        refine qf1 ⟨sb, 0, none⟩ rfl _ rfl rfl ?_; try simp only [Act.put, ppA, ppB, ppC]
        refine k_fa rfl 60 _ 0 rfl rfl (ql4 sb) ?_; try simp only [Act.put, ppA, ppB, ppC]
        refine qc2 (b := sb) (j := 0) (v := .slice (some ⟨g, 0, none⟩) n cap) rfl _ _ rfl rfl (fun w' h => HSB.out w' h.frame) qe7 ?_; try simp only [Act.put, ppA, ppB, ppC]
        refine qh3 (v := .int .i64 (x : Int)) rfl _ (.inl rfl) rfl ?_; try simp only [Act.put, ppA, ppB, ppC]
        refine k_idxNz (g := g) (i := x) rfl _ _ rfl rfl rfl HLX.out.2 ?_; try simp only [Act.put, ppA, ppB, ppC]
        refine k_fa rfl 43 _ 0 rfl rfl (fa_ndj0 g (x * 33)) ?_; try simp only [Act.put, ppA, ppB, ppC]
        refine k_loadM (b := g) (i := x * 33) (cs := (wf (hashN kq)).toList) rfl _ rfl rfl (fun w' h => HR1.out w' h.frame) (by rw [Array.length_toList, qa5]) ?_; try simp only [Act.put, ppA, ppB, ppC]
        refine k_load (b := b4) (c := wf (hashN l)) rfl _ _ rfl rfl .head qc7 qb4 SZ ?_; try simp only [Act.put, ppA, ppB, ppC]
        refine k_hash3 (l1 := kq) (l2 := l) (t := t) rfl _ _ _ rfl rfl rfl HTE.out ?_; try simp only [Act.put, ppA, ppB, ppC]
        refine qd0 (t := t) rfl _ _ _ rfl rfl rfl ?_; try simp only [Act.put, ppA, ppB, ppC]
        refine qc8 ?_
        clear hS ht
        intro w2 hS
        cases t with
        | true =>
          obtain ⟨r, hr⟩ : ∃ r, r = (kq == l) := ⟨_, rfl⟩
          have HRR := hQz hr.symm
          subst hvd
          clear hr
          go_upto_region 9 with (fail)
          try simp only [Act.put, ppA, ppB, ppC]
          refine qb7 (C := fun w' => St [] w w' [(b4, 32, wf (hashN l))]) (by kernel_rfl) (by kernel_rfl) hS.drew ?_
          refine qf2 ⟨sb, 0, none⟩ rfl _ rfl rfl ?_; try simp only [Act.put, ppA, ppB, ppC]
          refine qf1 ⟨sb, 0, none⟩ rfl _ rfl rfl ?_; try simp only [Act.put, ppA, ppB, ppC]
          refine k_fa rfl 60 _ 0 rfl rfl (ql4 sb) ?_; try simp only [Act.put, ppA, ppB, ppC]
          refine qc2 (b := sb) (j := 0) (v := .slice (some ⟨g, 0, none⟩) n cap) rfl _ _ rfl rfl (fun w' h => HSB.out w' h.frame) qe7 ?_; try simp only [Act.put, ppA, ppB, ppC]
          refine qh3 (v := .int .i64 (x : Int)) rfl _ (.inl rfl) rfl ?_; try simp only [Act.put, ppA, ppB, ppC]
          refine k_idxNz (g := g) (i := x) rfl _ _ rfl rfl rfl HLX.out.2 ?_; try simp only [Act.put, ppA, ppB, ppC]
          refine k_fa rfl 43 _ 1 rfl rfl (fa_ndj1 g (x * 33)) ?_; try simp only [Act.put, ppA, ppB, ppC]
          refine qc2 (b := g) (j := x * 33 + 32) (v := .slice pb kq.length cb) rfl _ _ rfl rfl (fun w' h => HCB.out w' h.frame) qa9 ?_; try simp only [Act.put, ppA, ppB, ppC]
          refine k_conv (v := .slice pb kq.length cb) (l := kq) rfl _ rfl rfl (fun w' h => HRB.out w' h.frame) ?_; try simp only [Act.put, ppA, ppB, ppC]
          refine qb0 (p := pv) (l := l.length) (c := cv) rfl _ rfl rfl ?_; try simp only [Act.put, ppA, ppB, ppC]
          refine k_conv (v := .slice pv l.length cv) (l := l) rfl _ rfl rfl (fun w' h => HD.out.1.rdB.tch h.frame (by simp)) ?_; try simp only [Act.put, ppA, ppB, ppC]
          refine k_strE (l := kq) (m := l) (t := r) rfl _ _ _ rfl rfl rfl HBB.out.1 HBB.out.2 HRR.out ?_; try simp only [Act.put, ppA, ppB, ppC]
          refine qh3 (v := .bool r) rfl _ (.inr rfl) rfl ?_; try simp only [Act.put, ppA, ppB, ppC]
          refine qc8 ?_
          clear hS
          intro w3 hS
          go_wp2
          go_ret
          refine ⟨r, _, L, rfl, hS.frame.mono (by simp), fun g hg => .inl hg, HSA.out.call hS.frame, fun hrt => ?_, fun y hy => hy, Nat.le_succ _⟩
          refine List.mem_map.2 ⟨L[x]'hxL, List.getElem_mem hxL, ?_⟩
          rw [← HLX.out.1]
          have := HRR.out
          rw [hrt] at this
          exact eq_of_beq this
        | false =>
          have HIN := hQz (show x ≤ L.length ∧ (∀ j (hj : j < L.length), j < x → lt (HL L[j].1) (HL l)) ∧ (∀ j (hj : j < L.length), x ≤ j → lt (HL l) (HL L[j].1)) from ⟨by rw [← HNL.out]; exact HXN.out, HI.out.1, fun j hj hxj => by
            have h0 := HI.out.2 j hj hxj
            rcases lt_total (HL l) (HL L[j].1) with q | q | q
            · exact q
            · exfalso
              have hx2 : j = x := by
                by_cases e : j = x
                · exact e
                · exfalso
                  have h3 := (List.pairwise_iff_getElem.1 HSO.out) x j hxL hj (by omega)
                  rw [← q] at h3
                  exact HI.out.2 x hxL (Nat.le_refl _) h3
              subst hx2
              have h4 := HTE.out
              rw [HLX.out.1, q] at h4
              simp at h4
            · exact absurd q h0⟩)
          have hbS : ∀ y ∈ (.slice (some ⟨g, 0, none⟩) n cap : Value).ownBlock.toList, y < w.heap.size := fun y hy => (HSA.out.2.2.1.lt y (by simpa using hy)).2
          have hb4o : w.heap.size ≤ b4 := (hS.own .head).resolve_right (by simp)
          have hsbw : sb < w.heap.size := HSA.out.1.lt
          have H4 := hQz (And.intro hb4o (And.intro hbS hsbw))
          have hZ : ∀ e ∈ ([(b4, 32, wf (hashN l))] : List Ent), e.1 ∉ sb :: (.slice (some ⟨g, 0, none⟩) n cap : Value).ownBlock.toList := fun e he hm => by
            rw [List.mem_singleton.1 he] at hm
            rcases List.mem_cons.1 hm with hm | hm
            · omega
            · have := hbS b4 hm; omega
          have HZ := hQz hZ
          have HOW := hQz (own_n HNL.out (own_eq HSA.out.2.2.1 (fun g hg => hS.frame.block g (HSA.out.2.2.1.lt g hg).2 (by simp))))
          have HBS := hQz (hS.frame.blk HSA.out.1 (by simp))
          replace hS := hS.toZ (z := sb :: (.slice (some ⟨g, 0, none⟩) n cap : Value).ownBlock.toList)
          clear hZ hbS hb4o hsbw hxn
          go_upto_region 10 with (fail)
          try simp only [Act.put, ppA, ppB, ppC]
          refine wp_region_lit ?_
          refine qc1 (v := .pointer (some ⟨sb, 0, none⟩)) rfl (qb2 (.inl rfl) rfl) ?_; try simp only [Act.put, ppA, ppB, ppC]
          refine qc1 (v := .pointer (some ⟨sb, 0, none⟩)) rfl (qb2 (.inl rfl) rfl) ?_; try simp only [Act.put, ppA, ppB, ppC]
          refine qc1 (v := .pointer (some ⟨sb, 0, none⟩)) rfl (qf8 _ rfl rfl) ?_; try simp only [Act.put, ppA, ppB, ppC]
          refine qc1 rfl (x_fa 60 _ 0 rfl rfl (ql4 _ _)) ?_; try simp only [Act.put, ppA, ppB, ppC]
          refine qc1 rfl (qe2 38 _ rfl rfl (HBS.out.cell rfl) qe7) ?_; try simp only [Act.put, ppA, ppB, ppC]
          refine qc1 (v := .agg (ndA (fun _ => 0) (.slice none 0 0))) rfl (x_build0N rfl) ?_; try simp only [Act.put, ppA, ppB, ppC]
          refine st_bsNd rfl rfl rfl ?_; try simp only [Act.put, ppA, ppB, ppC]
          refine st_appN (m := m) (v := .slice (some ⟨g, 0, none⟩) n cap) (c := ndA (fun _ => 0) (.slice none 0 0)) rfl _ _ rfl rfl rfl HOW.out (Nat.le_trans HSA.out.2.1 (Nat.le_of_lt HBS.out.lt)) (qf9 _ _) (ndA_one _ rfl) (by have := HNS.out; omega) ?_
          intro v1 w6 hown1 hT6 hv1
          have hB6 : Blk w6 sb 60 #[.slice (some ⟨g, 0, none⟩) n cap] := hT6.blk HBS.out (fun hm => HSA.out.2.2.2.1 (by simpa using hm))
          try simp only [Act.put, ppA, ppB, ppC]
          refine qc1 (v := .pointer (some ⟨sb, 0, none⟩)) rfl (qf8 _ rfl rfl) ?_; try simp only [Act.put, ppA, ppB, ppC]
          refine qc1 rfl (x_fa 60 _ 0 rfl rfl (ql4 _ _)) ?_; try simp only [Act.put, ppA, ppB, ppC]
          obtain ⟨hkl, hform⟩ := hown1
          obtain ⟨g1, cap1, cur1, rfl, hmg, hBg, hncap, hmaxc, hcs, htk⟩ := hform.resolve_left (fun h => by omega)
          refine arm_store1 (b := sb) (j := 0) (v := .slice (some ⟨g1, 0, none⟩) (n + 1) cap1) rfl 38 _ _ rfl rfl rfl rfl nodes_size hB6 (by show 0 < 1; decide) ?_
          intro w7 hB7 hO7
          try simp only [Act.put, ppA, ppB, ppC]
          refine ql2 ?_
          have hg1 : (.slice (some ⟨g, 0, none⟩) n cap : Value).ownBlock = some g1 ∨ w.heap.size ≤ g1 := (hv1 g1 rfl).imp id (fun h => Nat.le_trans hS.frame.size h)
          have hg1s : g1 ≠ sb := fun e => by
            rcases hg1 with q | q
            · exact HSA.out.2.2.2.1 (by rw [q, e])
            · have := H4.out.2.2; omega
          have hBg7 : Blk w7 g1 43 cur1 := hO7.blk hg1s hBg
          have hS7 : St (sb :: (.slice (some ⟨g, 0, none⟩) n cap : Value).ownBlock.toList) w w7 [(b4, 32, wf (hashN l))] := by
            have h1 := hS.callZ hT6 (fun y hy => .inl (List.mem_cons_of_mem _ hy)) (fun e he hm => HZ.out e he (List.mem_cons_of_mem _ hm))
            exact h1.callZ hO7.tch (fun y hy => .inl (by rw [List.mem_singleton.1 hy]; exact List.mem_cons_self)) (fun e he hm => HZ.out e he (by rw [List.mem_singleton.1 hm]; exact List.mem_cons_self))
          have HG := hQz (And.intro hg1 (And.intro hmg (And.intro hncap (And.intro hmaxc (And.intro hcs (And.intro htk hg1s))))))
          have HB7 := hQz (show Blk w7 sb 60 #[.slice (some ⟨g1, 0, none⟩) (n + 1) cap1] from hB7)
          obtain ⟨pd, cd, hsd, hpd⟩ := qj7 (some ⟨g1, 0, none⟩) (n + 1) cap1 (x + 1) (by have := HXN.out; omega) hncap
          obtain ⟨ps, cs, hss, hps⟩ := qj7 (some ⟨g1, 0, none⟩) (n + 1) cap1 x (by have := HXN.out; omega) hncap
          have HSD := hQz (And.intro hsd (And.intro hpd (And.intro hss hps)))
          have hcell1 : ∀ u ∈ (cur1.toList.drop (x * 33)).take ((n - x) * 33), u.oneCell' = true := fun u hu => by
            have h1 : u ∈ cur1.toList.take ((n + 1) * 33) := by
              have h2 := HXN.out
              have h3 : (cur1.toList.drop (x * 33)).take ((n - x) * 33) = (cur1.toList.take (n * 33)).drop (x * 33) := by
                rw [List.drop_take, show n * 33 - x * 33 = (n - x) * 33 by omega]
              rw [h3] at hu
              have h4 := List.mem_of_mem_drop hu
              rw [show n * 33 = min (n * 33) ((n + 1) * 33) by omega, ← List.take_take] at h4
              exact List.mem_of_mem_take h4
            rw [htk] at h1
            rcases List.mem_append.1 h1 with h1 | h1
            · obtain ⟨q, hq, hu2⟩ := List.mem_flatMap.1 h1
              have h5 := HRD.out q hq
              exact (Array.all_eq_true_iff_forall_mem.1 (ndA_one (hashN q.1) (v := q.2) (by obtain ⟨_, _, _, h6⟩ := qi1 h5; rw [h6]; rfl))) u (by simpa using hu2)
            · exact (Array.all_eq_true_iff_forall_mem.1 (ndA_one (fun _ => 0) (v := .slice none 0 0) rfl)) u (by simpa using h1)
          have HC1 := hQz hcell1
          clear hS hO7 hB7 hB6 hT6 hv1 hg1 hg1s hsd hpd hss hps hcell1 hform hkl htk hcs hmaxc
          go_upto_region 11 with (fail)
          try simp only [Act.put, ppA, ppB, ppC]
          refine qh6 (C := fun w' => Tch [] w7 w') 13 (by kernel_rfl) (by kernel_rfl) ((Tch.refl _ _).drew) ?_
          refine qf2 ⟨sb, 0, none⟩ rfl _ rfl rfl ?_; try simp only [Act.put, ppA, ppB, ppC]
          refine qf1 ⟨sb, 0, none⟩ rfl _ rfl rfl ?_; try simp only [Act.put, ppA, ppB, ppC]
          refine k_fa rfl 60 _ 0 rfl rfl (ql4 sb) ?_; try simp only [Act.put, ppA, ppB, ppC]
          refine qc2 (b := sb) (j := 0) (v := .slice (some ⟨g1, 0, none⟩) (n + 1) cap1) rfl _ _ rfl rfl (fun w' h => (h.blk HB7.out (by simp)).cell rfl) qe7 ?_; try simp only [Act.put, ppA, ppB, ppC]
          refine qh3 (v := .int .i64 (x : Int)) rfl _ (.inl rfl) rfl ?_; try simp only [Act.put, ppA, ppB, ppC]
          refine k_add (m := (x : Int)) (n := 1) (s := ((x + 1 : Nat) : Int)) rfl _ _ _ _ rfl rfl rfl (by rw [IntKind.wrap_i64]; have h1 := HXN.out; have h2 := HNS.out; omega) ?_; try simp only [Act.put, ppA, ppB, ppC]
          refine k_slK (u := .slice pd (n + 1 - (x + 1)) cd) rfl _ _ rfl rfl rfl (fun w => HSD.out.1 w) ?_; try simp only [Act.put, ppA, ppB, ppC]
          refine qf2 ⟨sb, 0, none⟩ rfl _ rfl rfl ?_; try simp only [Act.put, ppA, ppB, ppC]
          refine qf1 ⟨sb, 0, none⟩ rfl _ rfl rfl ?_; try simp only [Act.put, ppA, ppB, ppC]
          refine k_fa rfl 60 _ 0 rfl rfl (ql4 sb) ?_; try simp only [Act.put, ppA, ppB, ppC]
          refine qc2 (b := sb) (j := 0) (v := .slice (some ⟨g1, 0, none⟩) (n + 1) cap1) rfl _ _ rfl rfl (fun w' h => (h.blk HB7.out (by simp)).cell rfl) qe7 ?_; try simp only [Act.put, ppA, ppB, ppC]
          refine qh3 (v := .int .i64 (x : Int)) rfl _ (.inl rfl) rfl ?_; try simp only [Act.put, ppA, ppB, ppC]
          refine k_slK (u := .slice ps (n + 1 - x) cs) rfl _ _ rfl rfl rfl (fun w => HSD.out.2.2.1 w) ?_; try simp only [Act.put, ppA, ppB, ppC]
          refine qc8 ?_
          intro w8 hT8
          try simp only [List.drop_succ_cons, List.drop_zero]
          refine st_copyN (g := g1) (off := (x + 1) * 33) (soff := x * 33) (m := n - x) (cur := cur1) rfl _ _ rfl rfl rfl (hT8.blk hBg7 (by simp)) (by show n - x = min (n + 1 - x) (n + 1 - (x + 1)); omega) (fun h => ⟨HSD.out.2.1 (by omega) g1 rfl, HSD.out.2.2.2 (by omega) g1 rfl⟩) (by have := HXN.out; have := HG.out.2.2.1; have := HG.out.2.2.2.2.1; omega) (by have := HXN.out; have := HG.out.2.2.1; have := HG.out.2.2.2.2.1; omega) HC1.out ?_
          intro w9 hO9 hB9
          refine ql2 ?_
          have hS8 := hS7.call hT8
          have hB8 : Blk w8 g1 43 cur1 := hT8.blk hBg7 (by simp)
          have hb4g : b4 ≠ g1 := fun e => by
            have h1 := hS8.get .head
            rw [e] at h1
            unfold Blk at h1 hB8
            rw [h1] at hB8
            injection hB8 with hB8
            injection hB8 with _ h2
            exact absurd h2 (by decide)
          have hS9 := hS8.callZ hO9.tch (fun y hy => by rw [List.mem_singleton.1 hy]; exact HG.out.1.imp (fun q => List.mem_cons_of_mem _ (by simp [q])) id) (fun e he hm => by rw [List.mem_singleton.1 he] at hm; exact hb4g (List.mem_singleton.1 hm))
          have hSB9 : Blk w9 sb 60 #[.slice (some ⟨g1, 0, none⟩) (n + 1) cap1] := hO9.blk (fun e => HG.out.2.2.2.2.2.2 e.symm) (hT8.blk HB7.out (by simp))
          have HW9 := hQz (And.intro hS9 (And.intro hSB9 (And.intro hB9 hb4g)))
          clear hS7 hS8 hS9 hB8 hSB9 hO9 hT8 hBg7
          go_upto_region 12 with (fail)
          try simp only [Act.put, ppA, ppB, ppC]
          refine wp_region_held_drew (S := fun w' => Tch [g1] w9 w') (by kernel_rfl) ((Tch.refl [g1] w9).drew) (fun hC => ?_)
          have hD0 : Tch [] w9 w9.drew := (Tch.refl [] w9).drew
          generalize World.drew w9 = u0 at hC hD0 ⊢
          refine qa0 (v := .pointer (some ⟨sb, 0, none⟩)) 0 rfl (by kernel_rfl) (by kernel_rfl) (by kernel_rfl) (fun _ _ _ h => h) hC rfl (fun w' hw' => qb2 (.inl rfl) rfl) ?_
          try simp only [Act.put, ppA, ppB, ppC]
          refine qa0 (v := .pointer (some ⟨sb, 0, none⟩)) 1 rfl (by kernel_rfl) (by kernel_rfl) (by kernel_rfl) (fun _ _ _ h => h) hC rfl (fun w' hw' => qf8 _ rfl rfl) ?_
          try simp only [Act.put, ppA, ppB, ppC]
          refine qa0 (v := .pointer (some ⟨sb, 0, none⟩)) 2 rfl (by kernel_rfl) (by kernel_rfl) (by kernel_rfl) (fun _ _ _ h => h) hC rfl (fun w' hw' => x_fa _ _ _ rfl rfl (ql4 _ _)) ?_
          try simp only [Act.put, ppA, ppB, ppC]
          refine qa0 (v := .slice (some ⟨g1, 0, none⟩) (n + 1) cap1) 3 rfl (by kernel_rfl) (by kernel_rfl) (by kernel_rfl) (fun _ _ _ h => h) hC rfl (fun w' hw' => qe2 _ _ rfl rfl ((hw'.blk HW9.out.2.1 (fun hm => HG.out.2.2.2.2.2.2 (List.mem_singleton.1 hm).symm)).cell rfl) qe7) ?_
          try simp only [Act.put, ppA, ppB, ppC]
          refine qa0 (v := .int .i64 (x : Int)) 4 rfl (by kernel_rfl) (by kernel_rfl) (by kernel_rfl) (fun _ _ _ h => h) hC rfl (fun w' hw' => qb2 (.inl rfl) rfl) ?_
          try simp only [Act.put, ppA, ppB, ppC]
          refine qa0 (v := .agg (wf (hashN l))) 5 rfl (by kernel_rfl) (by kernel_rfl) (by kernel_rfl) (fun _ _ _ h => h) hC rfl (fun w' hw' => x_loadWd _ rfl rfl (hw'.blk (HW9.out.1.get .head) (fun hm => HW9.out.2.2.2 (List.mem_singleton.1 hm)))) ?_
          try simp only [Act.put, ppA, ppB, ppC]
          refine qa0 (v := vd) 6 rfl (by kernel_rfl) (by kernel_rfl) (by kernel_rfl) (fun _ _ _ h => h) hC rfl (fun w' hw' => qb2 (.inl rfl) rfl) ?_
          try simp only [Act.put, ppA, ppB, ppC]
          refine qa6 7 (by kernel_rfl) ?_
          refine held_cloneB (B := w9.heap.size) (m := l) _ _ rfl rfl rfl rfl rfl rfl hD0.size (HD.out.1.tch ((HW9.out.1.frame.trans hD0.toX).mono (fun y hy => .inl (by rcases List.mem_cons.1 hy with rfl | hy; exact List.mem_cons_self; exact List.mem_cons_of_mem _ (List.mem_append_left _ hy))))).rdB (by have := HD.out.2; omega) ?_
          intro v5 u1 hown5 hT5
          have hC1 : Tch [g1] w9 u1 := hC.trans hT5.toX
          refine ⟨hC1, ?_⟩
          try simp only [Act.put, ppA, ppB, ppC]
          have hlb : ∀ y ∈ l, y < 256 := HD.out.1.choose_spec.choose_spec.2.2.1
          have hr5 := fun Y hY => own_newA hown5 hlb Y hY
          refine qa0 (v := .agg (ndA (hashN l) v5)) 8 rfl (by kernel_rfl) (by kernel_rfl) (by kernel_rfl) (fun _ _ _ h => h) hC1 rfl (fun w' hw' => x_buildNd (qi1 (hr5 [] (by simp))) ⟨_, _, rfl, rfl, rfl⟩) ?_
          try simp only [Act.put, ppA, ppB, ppC]
          refine qa0 (v := .pointer (some ⟨g1, x * 33, none⟩)) 9 rfl (by kernel_rfl) (by kernel_rfl) (by kernel_rfl) (fun _ _ _ h => h) hC1 rfl (fun w' hw' => x_idxNd _ _ rfl rfl rfl (by have := HXN.out; omega)) ?_
          try simp only [Act.put, ppA, ppB, ppC]
          refine qa6 10 (by kernel_rfl) ?_
          have hlen2 := ins_n HNL.out (ins_cells L x HIN.out.1 cur1.toList (ndA (fun _ => 0) (.slice none 0 0)).toList (ndA (hashN l) v5).toList (by rw [Array.length_toList, qf9]) (by rw [Array.length_toList, qf9]) (by rw [← HNL.out]; exact HG.out.2.2.2.2.2.1) _ rfl)
          have HL2 := hQz hlen2
          refine held_storeN (g := g1) (j := x * 33) (c := ndA (hashN l) v5) _ _ rfl rfl rfl (by rfl) (by rfl) ((hD0.trans hT5).blk HW9.out.2.2.1 (by simp)) (by have h1 := HL2.out.1; have h2 := HG.out.2.2.2.2.1; have h3 := HG.out.2.2.1; have h4 := HXN.out; rw [Array.length_toList] at h1; exact Nat.le_trans (by omega : x * 33 + 33 ≤ cap1 * 33) (Nat.le_of_eq (h1.trans h2).symm)) (qf9 _ _) (ndA_one _ (by obtain ⟨_, _, _, h6⟩ := qi1 (hr5 [] (by simp)); rw [h6]; rfl)) ?_
          intro u2 hO10 hB10
          have hC2 : Tch [g1] w9 u2 := hC1.trans hO10.tch
          refine ⟨hC2, ?_⟩
          refine wpAnyH_done (by kernel_rfl) ?_ _
          have HF := hQz (show AddPost sb m X (.slice (some ⟨g, 0, none⟩) n cap) L l w (.returned (.bool true)) u2 from by
            have hS10 := HW9.out.1.callZ hC2 (fun y hy => by rw [List.mem_singleton.1 hy]; exact HG.out.1.imp (fun q => List.mem_cons_of_mem _ (by simp [q])) id) (fun e he hm => by rw [List.mem_singleton.1 he] at hm; exact HW9.out.2.2.2 (List.mem_singleton.1 hm))
            have hSB10 := hC2.blk HW9.out.2.1 (fun hm => HG.out.2.2.2.2.2.2 (List.mem_singleton.1 hm).symm)
            rw [HNL.out] at hSB10
            refine add_last (cur3 := _) (v5 := v5) HSA.out HIN.out.1 HIN.out.2.1 HIN.out.2.2 HG.out.2.1 HG.out.1 (by rw [← HNL.out]; exact HG.out.2.2.1) HG.out.2.2.2.1 ?_ ?_ hB10 hSB10 hS10.frame ?_
            · have h1 := HL2.out.2.1
              rw [Array.length_toList] at h1
              exact h1.trans HG.out.2.2.2.2.1
            · have h1 := HL2.out.2.2
              rw [← HNL.out]
              exact h1
            · have hx9 : ∀ y ∈ sb :: (g1 :: X), y < w9.heap.size := fun y hy => by
                rcases List.mem_cons.1 hy with rfl | hy
                · exact HW9.out.2.1.lt
                · rcases List.mem_cons.1 hy with rfl | hy
                  · exact HW9.out.2.2.1.lt
                  · exact Nat.lt_of_lt_of_le (HSA.out.2.2.2.2.1 y hy).1 HW9.out.1.frame.size
              exact (hr5 _ hx9).tch (hO10.tch.mono (fun y hy => .inl (by rw [List.mem_singleton.1 hy]; exact List.mem_cons_of_mem _ List.mem_cons_self))))
          clear hC hC1 hC2 hD0 hT5 hown5 hr5 hlb hlen2 hO10 hB10
          go_wp2
          go_ret
          exact HF.out
      · have HXN2 := hQz (show n ≤ x by omega)
        clear hxn
        go_upto_region 8 with (fail)
        try simp only [Act.put, ppA, ppB, ppC]
        refine qb7 (C := fun w' => St [] w w' [(b4, 32, wf (hashN l))]) (by kernel_rfl) (by kernel_rfl) hS.drew ?_
        refine qh3 (v := .int .i64 (x : Int)) rfl _ (.inl rfl) rfl ?_; try simp only [Act.put, ppA, ppB, ppC]
        refine qf2 ⟨sb, 0, none⟩ rfl _ rfl rfl ?_; try simp only [Act.put, ppA, ppB, ppC]
        refine qf1 ⟨sb, 0, none⟩ rfl _ rfl rfl ?_; try simp only [Act.put, ppA, ppB, ppC]
        refine k_fa rfl 60 _ 0 rfl rfl (ql4 sb) ?_; try simp only [Act.put, ppA, ppB, ppC]
        refine qc2 (b := sb) (j := 0) (v := .slice p n cap) rfl _ _ rfl rfl (fun w' h => HSB.out w' h.frame) qe7 ?_; try simp only [Act.put, ppA, ppB, ppC]
        refine k_lenNd rfl _ rfl rfl ?_; try simp only [Act.put, ppA, ppB, ppC]
        refine k_lss (m := (x : Int)) (n := (n : Int)) (t := false) rfl _ _ _ rfl rfl rfl (decide_eq_false (by have := HXN2.out; omega)) ?_; try simp only [Act.put, ppA, ppB, ppC]
        refine qc0 (t := false) rfl _ rfl rfl ?_; try simp only [Act.put, ppA, ppB, ppC]
        refine qa3 rfl rfl rfl rfl rfl ?_; try simp only [Act.put, ppA, ppB, ppC]
        refine qa3 rfl rfl rfl rfl rfl ?_; try simp only [Act.put, ppA, ppB, ppC]
        refine qa3 rfl rfl rfl rfl rfl ?_; try simp only [Act.put, ppA, ppB, ppC]
        refine qa3 rfl rfl rfl rfl rfl ?_; try simp only [Act.put, ppA, ppB, ppC]
        refine qa3 rfl rfl rfl rfl rfl ?_; try simp only [Act.put, ppA, ppB, ppC]
        refine qa3 rfl rfl rfl rfl rfl ?_; try simp only [Act.put, ppA, ppB, ppC]
        refine qa3 rfl rfl rfl rfl rfl ?_; try simp only [Act.put, ppA, ppB, ppC]
        refine qa3 rfl rfl rfl rfl rfl ?_; try simp only [Act.put, ppA, ppB, ppC]
        refine qa3 rfl rfl rfl rfl rfl ?_; try simp only [Act.put, ppA, ppB, ppC]
        refine qa3 rfl rfl rfl rfl rfl ?_; try simp only [Act.put, ppA, ppB, ppC]
        refine qi6 (t := false) rfl _ _ _ rfl rfl rfl ?_; try simp only [Act.put, ppA, ppB, ppC]
        refine qc8 ?_
        clear hS
        intro w2 hS
        have HIN := hQz (show x ≤ L.length ∧ (∀ j (hj : j < L.length), j < x → lt (HL L[j].1) (HL l)) ∧ (∀ j (hj : j < L.length), x ≤ j → lt (HL l) (HL L[j].1)) from ⟨by rw [← HNL.out]; exact HXN.out, HI.out.1, fun j hj hxj => by
          have h0 := HI.out.2 j hj hxj
          rcases lt_total (HL l) (HL L[j].1) with q | q | q
          · exact q
          · exfalso
            have h8 := HNL.out
            have h9 := HXN2.out
            omega
          · exact absurd q h0⟩)
        have hbS : ∀ y ∈ (.slice p n cap : Value).ownBlock.toList, y < w.heap.size := fun y hy => (HSA.out.2.2.1.lt y (by simpa using hy)).2
        have hb4o : w.heap.size ≤ b4 := (hS.own .head).resolve_right (by simp)
        have hsbw : sb < w.heap.size := HSA.out.1.lt
        have H4 := hQz (And.intro hb4o (And.intro hbS hsbw))
        have hZ : ∀ e ∈ ([(b4, 32, wf (hashN l))] : List Ent), e.1 ∉ sb :: (.slice p n cap : Value).ownBlock.toList := fun e he hm => by
          rw [List.mem_singleton.1 he] at hm
          rcases List.mem_cons.1 hm with hm | hm
          · omega
          · have := hbS b4 hm; omega
        have HZ := hQz hZ
        have HOW := hQz (own_n HNL.out (own_eq HSA.out.2.2.1 (fun g hg => hS.frame.block g (HSA.out.2.2.1.lt g hg).2 (by simp))))
        have HBS := hQz (hS.frame.blk HSA.out.1 (by simp))
        replace hS := hS.toZ (z := sb :: (.slice p n cap : Value).ownBlock.toList)
        clear hZ hbS hb4o hsbw
        go_upto_region 10 with (fail)
        try simp only [Act.put, ppA, ppB, ppC]
        refine wp_region_lit ?_
        refine qc1 (v := .pointer (some ⟨sb, 0, none⟩)) rfl (qb2 (.inl rfl) rfl) ?_; try simp only [Act.put, ppA, ppB, ppC]
        refine qc1 (v := .pointer (some ⟨sb, 0, none⟩)) rfl (qb2 (.inl rfl) rfl) ?_; try simp only [Act.put, ppA, ppB, ppC]
        refine qc1 (v := .pointer (some ⟨sb, 0, none⟩)) rfl (qf8 _ rfl rfl) ?_; try simp only [Act.put, ppA, ppB, ppC]
        refine qc1 rfl (x_fa 60 _ 0 rfl rfl (ql4 _ _)) ?_; try simp only [Act.put, ppA, ppB, ppC]
        refine qc1 rfl (qe2 38 _ rfl rfl (HBS.out.cell rfl) qe7) ?_; try simp only [Act.put, ppA, ppB, ppC]
        refine qc1 (v := .agg (ndA (fun _ => 0) (.slice none 0 0))) rfl (x_build0N rfl) ?_; try simp only [Act.put, ppA, ppB, ppC]
        refine st_bsNd rfl rfl rfl ?_; try simp only [Act.put, ppA, ppB, ppC]
        refine st_appN (m := m) (v := .slice p n cap) (c := ndA (fun _ => 0) (.slice none 0 0)) rfl _ _ rfl rfl rfl HOW.out (Nat.le_trans HSA.out.2.1 (Nat.le_of_lt HBS.out.lt)) (qf9 _ _) (ndA_one _ rfl) (by have := HNS.out; omega) ?_
        intro v1 w6 hown1 hT6 hv1
        have hB6 : Blk w6 sb 60 #[.slice p n cap] := hT6.blk HBS.out (fun hm => HSA.out.2.2.2.1 (by simpa using hm))
        try simp only [Act.put, ppA, ppB, ppC]
        refine qc1 (v := .pointer (some ⟨sb, 0, none⟩)) rfl (qf8 _ rfl rfl) ?_; try simp only [Act.put, ppA, ppB, ppC]
        refine qc1 rfl (x_fa 60 _ 0 rfl rfl (ql4 _ _)) ?_; try simp only [Act.put, ppA, ppB, ppC]
        obtain ⟨hkl, hform⟩ := hown1
        obtain ⟨g1, cap1, cur1, rfl, hmg, hBg, hncap, hmaxc, hcs, htk⟩ := hform.resolve_left (fun h => by omega)
        refine arm_store1 (b := sb) (j := 0) (v := .slice (some ⟨g1, 0, none⟩) (n + 1) cap1) rfl 38 _ _ rfl rfl rfl rfl nodes_size hB6 (by show 0 < 1; decide) ?_
        intro w7 hB7 hO7
        try simp only [Act.put, ppA, ppB, ppC]
        refine ql2 ?_
        have hg1 : (.slice p n cap : Value).ownBlock = some g1 ∨ w.heap.size ≤ g1 := (hv1 g1 rfl).imp id (fun h => Nat.le_trans hS.frame.size h)
        have hg1s : g1 ≠ sb := fun e => by
          rcases hg1 with q | q
          · exact HSA.out.2.2.2.1 (by rw [q, e])
          · have := H4.out.2.2; omega
        have hBg7 : Blk w7 g1 43 cur1 := hO7.blk hg1s hBg
        have hS7 : St (sb :: (.slice p n cap : Value).ownBlock.toList) w w7 [(b4, 32, wf (hashN l))] := by
          have h1 := hS.callZ hT6 (fun y hy => .inl (List.mem_cons_of_mem _ hy)) (fun e he hm => HZ.out e he (List.mem_cons_of_mem _ hm))
          exact h1.callZ hO7.tch (fun y hy => .inl (by rw [List.mem_singleton.1 hy]; exact List.mem_cons_self)) (fun e he hm => HZ.out e he (by rw [List.mem_singleton.1 hm]; exact List.mem_cons_self))
        have HG := hQz (And.intro hg1 (And.intro hmg (And.intro hncap (And.intro hmaxc (And.intro hcs (And.intro htk hg1s))))))
        have HB7 := hQz (show Blk w7 sb 60 #[.slice (some ⟨g1, 0, none⟩) (n + 1) cap1] from hB7)
        obtain ⟨pd, cd, hsd, hpd⟩ := qj7 (some ⟨g1, 0, none⟩) (n + 1) cap1 (x + 1) (by have := HXN.out; omega) hncap
        obtain ⟨ps, cs, hss, hps⟩ := qj7 (some ⟨g1, 0, none⟩) (n + 1) cap1 x (by have := HXN.out; omega) hncap
        have HSD := hQz (And.intro hsd (And.intro hpd (And.intro hss hps)))
        have hcell1 : ∀ u ∈ (cur1.toList.drop (x * 33)).take ((n - x) * 33), u.oneCell' = true := fun u hu => by
          have h1 : u ∈ cur1.toList.take ((n + 1) * 33) := by
            have h2 := HXN.out
            have h3 : (cur1.toList.drop (x * 33)).take ((n - x) * 33) = (cur1.toList.take (n * 33)).drop (x * 33) := by
              rw [List.drop_take, show n * 33 - x * 33 = (n - x) * 33 by omega]
            rw [h3] at hu
            have h4 := List.mem_of_mem_drop hu
            rw [show n * 33 = min (n * 33) ((n + 1) * 33) by omega, ← List.take_take] at h4
            exact List.mem_of_mem_take h4
          rw [htk] at h1
          rcases List.mem_append.1 h1 with h1 | h1
          · obtain ⟨q, hq, hu2⟩ := List.mem_flatMap.1 h1
            have h5 := HRD.out q hq
            exact (Array.all_eq_true_iff_forall_mem.1 (ndA_one (hashN q.1) (v := q.2) (by obtain ⟨_, _, _, h6⟩ := qi1 h5; rw [h6]; rfl))) u (by simpa using hu2)
          · exact (Array.all_eq_true_iff_forall_mem.1 (ndA_one (fun _ => 0) (v := .slice none 0 0) rfl)) u (by simpa using h1)
        have HC1 := hQz hcell1
        clear hS hO7 hB7 hB6 hT6 hv1 hg1 hg1s hsd hpd hss hps hcell1 hform hkl htk hcs hmaxc
        go_upto_region 11 with (fail)
        try simp only [Act.put, ppA, ppB, ppC]
        refine qh6 (C := fun w' => Tch [] w7 w') 13 (by kernel_rfl) (by kernel_rfl) ((Tch.refl _ _).drew) ?_
        refine qf2 ⟨sb, 0, none⟩ rfl _ rfl rfl ?_; try simp only [Act.put, ppA, ppB, ppC]
        refine qf1 ⟨sb, 0, none⟩ rfl _ rfl rfl ?_; try simp only [Act.put, ppA, ppB, ppC]
        refine k_fa rfl 60 _ 0 rfl rfl (ql4 sb) ?_; try simp only [Act.put, ppA, ppB, ppC]
        refine qc2 (b := sb) (j := 0) (v := .slice (some ⟨g1, 0, none⟩) (n + 1) cap1) rfl _ _ rfl rfl (fun w' h => (h.blk HB7.out (by simp)).cell rfl) qe7 ?_; try simp only [Act.put, ppA, ppB, ppC]
        refine qh3 (v := .int .i64 (x : Int)) rfl _ (.inl rfl) rfl ?_; try simp only [Act.put, ppA, ppB, ppC]
        refine k_add (m := (x : Int)) (n := 1) (s := ((x + 1 : Nat) : Int)) rfl _ _ _ _ rfl rfl rfl (by rw [IntKind.wrap_i64]; have h1 := HXN.out; have h2 := HNS.out; omega) ?_; try simp only [Act.put, ppA, ppB, ppC]
        refine k_slK (u := .slice pd (n + 1 - (x + 1)) cd) rfl _ _ rfl rfl rfl (fun w => HSD.out.1 w) ?_; try simp only [Act.put, ppA, ppB, ppC]
        refine qf2 ⟨sb, 0, none⟩ rfl _ rfl rfl ?_; try simp only [Act.put, ppA, ppB, ppC]
        refine qf1 ⟨sb, 0, none⟩ rfl _ rfl rfl ?_; try simp only [Act.put, ppA, ppB, ppC]
        refine k_fa rfl 60 _ 0 rfl rfl (ql4 sb) ?_; try simp only [Act.put, ppA, ppB, ppC]
        refine qc2 (b := sb) (j := 0) (v := .slice (some ⟨g1, 0, none⟩) (n + 1) cap1) rfl _ _ rfl rfl (fun w' h => (h.blk HB7.out (by simp)).cell rfl) qe7 ?_; try simp only [Act.put, ppA, ppB, ppC]
        refine qh3 (v := .int .i64 (x : Int)) rfl _ (.inl rfl) rfl ?_; try simp only [Act.put, ppA, ppB, ppC]
        refine k_slK (u := .slice ps (n + 1 - x) cs) rfl _ _ rfl rfl rfl (fun w => HSD.out.2.2.1 w) ?_; try simp only [Act.put, ppA, ppB, ppC]
        refine qc8 ?_
        intro w8 hT8
        try simp only [List.drop_succ_cons, List.drop_zero]
        refine st_copyN (g := g1) (off := (x + 1) * 33) (soff := x * 33) (m := n - x) (cur := cur1) rfl _ _ rfl rfl rfl (hT8.blk hBg7 (by simp)) (by show n - x = min (n + 1 - x) (n + 1 - (x + 1)); omega) (fun h => ⟨HSD.out.2.1 (by omega) g1 rfl, HSD.out.2.2.2 (by omega) g1 rfl⟩) (by have := HXN.out; have := HG.out.2.2.1; have := HG.out.2.2.2.2.1; omega) (by have := HXN.out; have := HG.out.2.2.1; have := HG.out.2.2.2.2.1; omega) HC1.out ?_
        intro w9 hO9 hB9
        refine ql2 ?_
        have hS8 := hS7.call hT8
        have hB8 : Blk w8 g1 43 cur1 := hT8.blk hBg7 (by simp)
        have hb4g : b4 ≠ g1 := fun e => by
          have h1 := hS8.get .head
          rw [e] at h1
          unfold Blk at h1 hB8
          rw [h1] at hB8
          injection hB8 with hB8
          injection hB8 with _ h2
          exact absurd h2 (by decide)
        have hS9 := hS8.callZ hO9.tch (fun y hy => by rw [List.mem_singleton.1 hy]; exact HG.out.1.imp (fun q => List.mem_cons_of_mem _ (by simp [q])) id) (fun e he hm => by rw [List.mem_singleton.1 he] at hm; exact hb4g (List.mem_singleton.1 hm))
        have hSB9 : Blk w9 sb 60 #[.slice (some ⟨g1, 0, none⟩) (n + 1) cap1] := hO9.blk (fun e => HG.out.2.2.2.2.2.2 e.symm) (hT8.blk HB7.out (by simp))
        have HW9 := hQz (And.intro hS9 (And.intro hSB9 (And.intro hB9 hb4g)))
        clear hS7 hS8 hS9 hB8 hSB9 hO9 hT8 hBg7
        go_upto_region 12 with (fail)
        try simp only [Act.put, ppA, ppB, ppC]
        refine wp_region_held_drew (S := fun w' => Tch [g1] w9 w') (by kernel_rfl) ((Tch.refl [g1] w9).drew) (fun hC => ?_)
        have hD0 : Tch [] w9 w9.drew := (Tch.refl [] w9).drew
        generalize World.drew w9 = u0 at hC hD0 ⊢
        refine qa0 (v := .pointer (some ⟨sb, 0, none⟩)) 0 rfl (by kernel_rfl) (by kernel_rfl) (by kernel_rfl) (fun _ _ _ h => h) hC rfl (fun w' hw' => qb2 (.inl rfl) rfl) ?_
        try simp only [Act.put, ppA, ppB, ppC]
        refine qa0 (v := .pointer (some ⟨sb, 0, none⟩)) 1 rfl (by kernel_rfl) (by kernel_rfl) (by kernel_rfl) (fun _ _ _ h => h) hC rfl (fun w' hw' => qf8 _ rfl rfl) ?_
        try simp only [Act.put, ppA, ppB, ppC]
        refine qa0 (v := .pointer (some ⟨sb, 0, none⟩)) 2 rfl (by kernel_rfl) (by kernel_rfl) (by kernel_rfl) (fun _ _ _ h => h) hC rfl (fun w' hw' => x_fa _ _ _ rfl rfl (ql4 _ _)) ?_
        try simp only [Act.put, ppA, ppB, ppC]
        refine qa0 (v := .slice (some ⟨g1, 0, none⟩) (n + 1) cap1) 3 rfl (by kernel_rfl) (by kernel_rfl) (by kernel_rfl) (fun _ _ _ h => h) hC rfl (fun w' hw' => qe2 _ _ rfl rfl ((hw'.blk HW9.out.2.1 (fun hm => HG.out.2.2.2.2.2.2 (List.mem_singleton.1 hm).symm)).cell rfl) qe7) ?_
        try simp only [Act.put, ppA, ppB, ppC]
        refine qa0 (v := .int .i64 (x : Int)) 4 rfl (by kernel_rfl) (by kernel_rfl) (by kernel_rfl) (fun _ _ _ h => h) hC rfl (fun w' hw' => qb2 (.inl rfl) rfl) ?_
        try simp only [Act.put, ppA, ppB, ppC]
        refine qa0 (v := .agg (wf (hashN l))) 5 rfl (by kernel_rfl) (by kernel_rfl) (by kernel_rfl) (fun _ _ _ h => h) hC rfl (fun w' hw' => x_loadWd _ rfl rfl (hw'.blk (HW9.out.1.get .head) (fun hm => HW9.out.2.2.2 (List.mem_singleton.1 hm)))) ?_
        try simp only [Act.put, ppA, ppB, ppC]
        refine qa0 (v := vd) 6 rfl (by kernel_rfl) (by kernel_rfl) (by kernel_rfl) (fun _ _ _ h => h) hC rfl (fun w' hw' => qb2 (.inl rfl) rfl) ?_
        try simp only [Act.put, ppA, ppB, ppC]
        refine qa6 7 (by kernel_rfl) ?_
        refine held_cloneB (B := w9.heap.size) (m := l) _ _ rfl rfl rfl rfl rfl rfl hD0.size (HD.out.1.tch ((HW9.out.1.frame.trans hD0.toX).mono (fun y hy => .inl (by rcases List.mem_cons.1 hy with rfl | hy; exact List.mem_cons_self; exact List.mem_cons_of_mem _ (List.mem_append_left _ hy))))).rdB (by have := HD.out.2; omega) ?_
        intro v5 u1 hown5 hT5
        have hC1 : Tch [g1] w9 u1 := hC.trans hT5.toX
        refine ⟨hC1, ?_⟩
        try simp only [Act.put, ppA, ppB, ppC]
        have hlb : ∀ y ∈ l, y < 256 := HD.out.1.choose_spec.choose_spec.2.2.1
        have hr5 := fun Y hY => own_newA hown5 hlb Y hY
        refine qa0 (v := .agg (ndA (hashN l) v5)) 8 rfl (by kernel_rfl) (by kernel_rfl) (by kernel_rfl) (fun _ _ _ h => h) hC1 rfl (fun w' hw' => x_buildNd (qi1 (hr5 [] (by simp))) ⟨_, _, rfl, rfl, rfl⟩) ?_
        try simp only [Act.put, ppA, ppB, ppC]
        refine qa0 (v := .pointer (some ⟨g1, x * 33, none⟩)) 9 rfl (by kernel_rfl) (by kernel_rfl) (by kernel_rfl) (fun _ _ _ h => h) hC1 rfl (fun w' hw' => x_idxNd _ _ rfl rfl rfl (by have := HXN.out; omega)) ?_
        try simp only [Act.put, ppA, ppB, ppC]
        refine qa6 10 (by kernel_rfl) ?_
        have hlen2 := ins_n HNL.out (ins_cells L x HIN.out.1 cur1.toList (ndA (fun _ => 0) (.slice none 0 0)).toList (ndA (hashN l) v5).toList (by rw [Array.length_toList, qf9]) (by rw [Array.length_toList, qf9]) (by rw [← HNL.out]; exact HG.out.2.2.2.2.2.1) _ rfl)
        have HL2 := hQz hlen2
        refine held_storeN (g := g1) (j := x * 33) (c := ndA (hashN l) v5) _ _ rfl rfl rfl (by rfl) (by rfl) ((hD0.trans hT5).blk HW9.out.2.2.1 (by simp)) (by have h1 := HL2.out.1; have h2 := HG.out.2.2.2.2.1; have h3 := HG.out.2.2.1; have h4 := HXN.out; rw [Array.length_toList] at h1; exact Nat.le_trans (by omega : x * 33 + 33 ≤ cap1 * 33) (Nat.le_of_eq (h1.trans h2).symm)) (qf9 _ _) (ndA_one _ (by obtain ⟨_, _, _, h6⟩ := qi1 (hr5 [] (by simp)); rw [h6]; rfl)) ?_
        intro u2 hO10 hB10
        have hC2 : Tch [g1] w9 u2 := hC1.trans hO10.tch
        refine ⟨hC2, ?_⟩
        refine wpAnyH_done (by kernel_rfl) ?_ _
        have HF := hQz (show AddPost sb m X (.slice p n cap) L l w (.returned (.bool true)) u2 from by
          have hS10 := HW9.out.1.callZ hC2 (fun y hy => by rw [List.mem_singleton.1 hy]; exact HG.out.1.imp (fun q => List.mem_cons_of_mem _ (by simp [q])) id) (fun e he hm => by rw [List.mem_singleton.1 he] at hm; exact HW9.out.2.2.2 (List.mem_singleton.1 hm))
          have hSB10 := hC2.blk HW9.out.2.1 (fun hm => HG.out.2.2.2.2.2.2 (List.mem_singleton.1 hm).symm)
          rw [HNL.out] at hSB10
          refine add_last (cur3 := _) (v5 := v5) HSA.out HIN.out.1 HIN.out.2.1 HIN.out.2.2 HG.out.2.1 HG.out.1 (by rw [← HNL.out]; exact HG.out.2.2.1) HG.out.2.2.2.1 ?_ ?_ hB10 hSB10 hS10.frame ?_
          · have h1 := HL2.out.2.1
            rw [Array.length_toList] at h1
            exact h1.trans HG.out.2.2.2.2.1
          · have h1 := HL2.out.2.2
            rw [← HNL.out]
            exact h1
          · have hx9 : ∀ y ∈ sb :: (g1 :: X), y < w9.heap.size := fun y hy => by
              rcases List.mem_cons.1 hy with rfl | hy
              · exact HW9.out.2.1.lt
              · rcases List.mem_cons.1 hy with rfl | hy
                · exact HW9.out.2.2.1.lt
                · exact Nat.lt_of_lt_of_le (HSA.out.2.2.2.2.1 y hy).1 HW9.out.1.frame.size
            exact (hr5 _ hx9).tch (hO10.tch.mono (fun y hy => .inl (by rw [List.mem_singleton.1 hy]; exact List.mem_cons_of_mem _ List.mem_cons_self))))
        clear hC hC1 hC2 hD0 hT5 hown5 hr5 hlb hlen2 hO10 hB10
        go_wp2
        go_ret
        exact HF.out
end
section
open Go.RowKit Tr
set_option maxRecDepth 100000
theorem NodesAt.re {A B C : List Nat} {w w' : World} {v : Value} {L : KList} (h : NodesAt A w v L) (hT : Tch C w w') (hB : ∀ y ∈ B, y ∈ A ∨ w.heap.size ≤ y) (hC : ∀ y ∈ C, y ∈ A ∨ w.heap.size ≤ y) : NodesAt B w' v L := by
  have h1 : NodesAt ((A ++ B) ++ C) w v L := h.wide (fun y hy => by
    rcases List.mem_append.1 hy with hy | hy
    · rcases List.mem_append.1 hy with hy | hy
      · exact .inl hy
      · exact hB y hy
    · exact hC y hy)
  exact (h1.tch (hT.mono (fun y hy => .inl (List.mem_append_right _ hy)))).wide (fun y hy => .inl (List.mem_append_left _ (List.mem_append_right _ hy)))
theorem RdA.re {A B C : List Nat} {w w' : World} {v : Value} {l : List Nat} (h : RdA A w v l) (hT : Tch C w w') (hB : ∀ y ∈ B, y ∈ A ∨ w.heap.size ≤ y) (hC : ∀ y ∈ C, y ∈ A ∨ w.heap.size ≤ y) : RdA B w' v l := by
  have h1 : RdA ((A ++ B) ++ C) w v l := h.mono (fun y hy => by
    rcases List.mem_append.1 hy with hy | hy
    · rcases List.mem_append.1 hy with hy | hy
      · exact .inl hy
      · exact hB y hy
    · exact hC y hy)
  exact (h1.tch (hT.mono (fun y hy => .inl (List.mem_append_right _ hy)))).mono (fun y hy => .inl (List.mem_append_left _ (List.mem_append_right _ hy)))
theorem SeenAt.re {sb m : Nat} {X Y : List Nat} {w w' : World} {v : Value} {L : KList} (h : SeenAt sb m X w v L) (hT : Tch X w w') (hY : ∀ y ∈ Y, (y ∈ X ∨ w.heap.size ≤ y) ∧ y < w'.heap.size) : SeenAt sb m Y w' v L := by
  obtain ⟨k1, k2, k3, k4, k5, k6, k7⟩ := h
  refine ⟨hT.blk k1 (fun hm => (k5 sb hm).2.1 rfl), k2, own_eq k3 (fun g hg => hT.block g (k3.lt g hg).2 (fun hm => (k5 g hm).2.2 hg)), k4, fun y hy => ⟨(hY y hy).2, fun e => ?_, fun e => ?_⟩, fun p hp => ?_, k7⟩
  · rcases (hY y hy).1 with q | q
    · exact (k5 y q).2.1 e
    · have := k1.lt; omega
  · rcases (hY y hy).1 with q | q
    · exact (k5 y q).2.2 e
    · have := (k3.lt y e).2; omega
  · refine (k6 p hp).re hT (fun y hy => ?_) (fun y hy => .inl (List.mem_cons_of_mem _ (List.mem_append_right _ hy)))
    rcases List.mem_cons.1 hy with rfl | hy
    · exact .inl List.mem_cons_self
    · rcases List.mem_append.1 hy with hy | hy
      · exact .inl (List.mem_cons_of_mem _ (List.mem_append_left _ hy))
      · exact (hY y hy).1.imp (fun q => List.mem_cons_of_mem _ (List.mem_append_right _ q)) id
def KS (bb sb m : Nat) (X : List Nat) (w : World) (v : Value) (L : KList) (c : Bool) (vS : Value) (LS : KList) : Prop :=
  Blk w bb 96 #[v, .pointer (some ⟨sb, 0, none⟩), .bool c] ∧ (∀ x ∈ X, x < w.heap.size ∧ x ≠ bb) ∧ NodesAt (bb :: sb :: (vS.ownBlock.toList ++ X)) w v L ∧ SeenAt sb m (bb :: X) w vS LS
section
variable {o : Oper} {a : Act} {w : World}
theorem x_notE {ty : TypeId} {x : Operand} {s : Bool} (ho : o.op = .unOp .not ty x) (hx : a.eval x = .bool s) : (execOp a.eval o).run Tryz.prog w = .ok (.value (.bool (!s))) w := by
  unfold execOp
  simp only [ho, hx]
  cases s <;> rfl
theorem x_pickE {co xo yo : Operand} {s t : Bool} (ho : o.op = .pick co xo yo) (hc : a.eval co = .bool true) (hx : a.eval xo = .bool t) : (execOp a.eval o).run Tryz.prog w = .ok (.value (.bool t)) w := by
  unfold execOp
  simp only [ho, hc, hx, asBool]
  rfl
end
theorem seen_neqT {a : Act} {o : Oper} (b : Nat) (xo yo : Operand) (w : World) (ho : o.op = .binOp .neq 58 xo yo 58) (hx : a.eval xo = .pointer (some ⟨b, 0, none⟩)) (hy : a.eval yo = .pointer none) : (execOp a.eval o).run Tryz.prog w = .ok (.value (.bool true)) w := by
  unfold execOp
  simp only [ho, hx, hy]
  kernel_rfl
theorem fa_bu2 (b : Nat) (w : World) : (Instr.fieldAt 96 (.pointer (some ⟨b, 0, none⟩)) 2).run Tryz.prog w = .ok (.pointer (some ⟨b, 2, none⟩)) w := by kernel_rfl
theorem bool_size : (Tryz.prog.info? 4).map (·.size) = some 1 := by kernel_rfl
theorem held_callT {P : Program} {l0 : List Oper} {n : Nat} {o : Oper} {a : Act} {w : World} {Q : Exit → Act → World → Prop} {K : Act → World → Prop} {f : FuncId} {ts : Array TypeId} {x1 x2 x3 : Operand} {v1 v2 v3 : Value} {R : Ending → World → Prop} (ho : l0[n]? = some o) (hw : Region.wanted o (yielded l0.toArray a.tmps) = true)
    (hop : o.op = .call { callee := .value (.func f), args := #[x1, x2, x3], argTypes := ts }) (h1 : a.eval x1 = v1) (h2 : a.eval x2 = v2) (h3 : a.eval x3 = v3) (hf : ∀ args w, (callFunc f args).run P w = .ok (.enter f args) w)
    (hc : Calls P f #[v1, v2, v3] w R) (h : ∀ e w', R e w' → ∃ v, e = .returned v ∧ K (a.put o.dst v) w') : wpOp P l0.toArray Q n K a w :=
  o_callR (by rw [List.getElem?_toArray]; exact ho) hw (by unfold execOp; simp [hop, resolve, invoke, h1, h2, h3, hf, show a.eval (.func f) = .func (.func f) #[] #[] from rfl, Deferred.ofValue]) hc h
def PutS (bb sb m : Nat) (X : List Nat) (L : KList) (c : Bool) (vS : Value) (LS : KList) (l : List Nat) (w : World) (e : Ending) (w' : World) : Prop :=
  e = .returned (.agg (wf (hashN l))) ∧ ∃ v' L' c' vS' LS', Tch (bb :: sb :: vS.ownBlock.toList) w w' ∧ (∀ g, vS'.ownBlock = some g → vS.ownBlock = some g ∨ w.heap.size ≤ g) ∧ KS bb sb m X w' v' L' c' vS' LS' ∧ (c' = false → c = false ∧ l ∈ LS'.map (·.1)) ∧ (∀ x ∈ LS.map (·.1), x ∈ LS'.map (·.1)) ∧ L'.length ≤ L.length + 1 ∧ LS'.length ≤ LS.length + 1
theorem puts_last {bb sb m b5 b4 : Nat} {X : List Nat} {v v' vS vS' : Value} {L L' LS LS' : KList} {c c' : Bool} {l : List Nat} {w u1 w3 y2 y3 : World} (hK : KS bb sb m X w v L c vS LS) (hO : w.heap.size ≤ b5 ∧ w.heap.size ≤ b4) (hne : b5 ≠ bb ∧ b4 ≠ bb) (h1 : Tch (sb :: vS.ownBlock.toList) w u1) (hv : ∀ g, vS'.ownBlock = some g → vS.ownBlock = some g ∨ w.heap.size ≤ g) (hSA : SeenAt sb m (b5 :: b4 :: bb :: X) u1 vS' LS') (h3 : Tch [bb] u1 w3) (h4 : Tch [bb] w3 y2) (hB : Blk y2 bb 96 #[v', .pointer (some ⟨sb, 0, none⟩), .bool c']) (hN : NodesAt (b5 :: b4 :: bb :: sb :: (vS'.ownBlock.toList ++ X)) y2 v' L') (h5 : Tch [b5, b4] y2 y3) (hl1 : L'.length ≤ L.length + 1) (hc : c' = false → c = false ∧ l ∈ LS'.map (·.1)) (hi : ∀ x ∈ LS.map (·.1), x ∈ LS'.map (·.1)) (hl2 : LS'.length ≤ LS.length + 1) : PutS bb sb m X L c vS LS l w (.returned (.agg (wf (hashN l)))) y3 := by
  have hsz : w.heap.size ≤ y2.heap.size := Nat.le_trans h1.size (Nat.le_trans h3.size h4.size)
  have hT2 : Tch (bb :: sb :: vS.ownBlock.toList) w y2 := ((h1.mono (fun y hy => .inl (List.mem_cons_of_mem _ hy))).trans (h3.mono (fun y hy => .inl (by rw [List.mem_singleton.1 hy]; exact List.mem_cons_self)))).trans (h4.mono (fun y hy => .inl (by rw [List.mem_singleton.1 hy]; exact List.mem_cons_self)))
  have hT3 : Tch (bb :: sb :: vS.ownBlock.toList) w y3 := ⟨h5.os.trans hT2.os, h5.tape.trans hT2.tape, h5.output.trans hT2.output, Nat.le_trans hsz h5.size, fun i hi2 hb => (h5.block i (Nat.lt_of_lt_of_le hi2 hsz) (fun hm => by
    rcases List.mem_cons.1 hm with e | hm
    · have := hO.1; omega
    · have := hO.2; have := List.mem_singleton.1 hm; omega)).trans (hT2.block i hi2 hb)⟩
  refine ⟨rfl, v', L', c', vS', LS', hT3, hv, ⟨h5.blk hB (fun hm => ?_), fun x hx => ⟨Nat.lt_of_lt_of_le (hK.2.1 x hx).1 hT3.size, (hK.2.1 x hx).2⟩, hN.re h5 (fun y hy => .inl (List.mem_cons_of_mem _ (List.mem_cons_of_mem _ hy))) (fun y hy => .inl ?_), ?_⟩, hc, hi, hl1, hl2⟩
  · rcases List.mem_cons.1 hm with e | hm
    · exact hne.1 e.symm
    · exact hne.2 (List.mem_singleton.1 hm).symm
  · rcases List.mem_cons.1 hy with e | hy
    · rw [e]; exact List.mem_cons_self
    · rw [List.mem_singleton.1 hy]; exact List.mem_cons_of_mem _ List.mem_cons_self
  · have h6 : Tch (b5 :: b4 :: bb :: X) u1 y3 := ((h3.trans h4).mono (fun y hy => .inl (by rw [List.mem_singleton.1 hy]; simp))).trans (h5.mono (fun y hy => .inl (by
      rcases List.mem_cons.1 hy with e | hy
      · rw [e]; simp
      · rw [List.mem_singleton.1 hy]; simp)))
    exact hSA.re h6 (fun y hy => ⟨.inl (List.mem_cons_of_mem _ (List.mem_cons_of_mem _ hy)), Nat.lt_of_lt_of_le (hSA.2.2.2.2.1 y (List.mem_cons_of_mem _ (List.mem_cons_of_mem _ hy))).1 h6.size⟩)
set_option maxHeartbeats 16000000 in
theorem bput_seen (bb sb m : Nat) (X : List Nat) (v : Value) (L : KList) (c : Bool) (vS : Value) (LS : KList) (l : List Nat) (vd : Value) (w : World) (hK : KS bb sb m X w v L c vS LS) (hd : RdA (bb :: sb :: (vS.ownBlock.toList ++ X)) w vd l) (hl : l.length ≤ 1000000) (hn : L.length ≤ 50000000) (hn2 : LS.length ≤ 50000000) :
    Calls Tryz.prog 41 #[.pointer (some ⟨bb, 0, none⟩), vd] w (PutS bb sb m X L c vS LS l w) := by
  have HK := hQz hK
  have HD := hQz hd
  have HKE := hQz (fun (W : World) (h : Tch [] w W) => keccak_any vd l W hl (hd.nilX.tch h))
  have hbs : ∀ y ∈ sb :: vS.ownBlock.toList, y < w.heap.size ∧ y ≠ bb := fun y hy => by
    rcases List.mem_cons.1 hy with rfl | hy
    · exact ⟨hK.2.2.2.1.lt, fun e => (hK.2.2.2.2.2.2.2.1 bb List.mem_cons_self).2.1 e.symm⟩
    · have hg : vS.ownBlock = some y := by simpa using hy
      exact ⟨(hK.2.2.2.2.2.1.lt y hg).2, fun e => (hK.2.2.2.2.2.2.2.1 bb List.mem_cons_self).2.2 (by rw [← e]; exact hg)⟩
  have HBS := hQz hbs
  have HNN := hQz (And.intro hl (And.intro hn hn2))
  have hS := St.start w
  clear hK hd hbs hl hn hn2
  go_enter Tryz.func41, Tryz.ntmps41
  go_upto_region 2 with (first
    | (have _t := b4; clear _t; refine qe3 hS rfl 32 rfl qd5 ?_; clear hS; intro w5 b5 hS)
    | (refine qe3 hS rfl 32 rfl qd5 ?_; clear hS; intro w4 b4 hS)
    | (go_at_call 12; refine (HKE.out _ hS.frame).mono ?_; rintro e wK ⟨rfl, hTK⟩; replace hS := hS.call hTK; clear hTK)
    | (refine qe4 hS rfl 32 _ _ rfl rfl rfl .head qb4 (qa5 _) (qa5 _) (qj1 _) ?_; clear hS; intro wS hS))
  try simp only [Act.put, ppA, ppB, ppC]
  have h5o : w.heap.size ≤ b5 := (hS.own .head).resolve_right (by simp)
  have h4o : w.heap.size ≤ b4 := (hS.own (.tail .head)).resolve_right (by simp)
  have HO := hQz (And.intro h5o h4o)
  have HBB := hQz (fun (w' : World) (h : Tch (sb :: vS.ownBlock.toList) wS w') => show Blk w' bb 96 #[v, .pointer (some ⟨sb, 0, none⟩), .bool c] from h.blk (hS.frame.blk HK.out.1 (by simp)) (fun hm => (HBS.out bb hm).2 rfl))
  have HB5 := hQz (fun (w' : World) (h : Tch (sb :: vS.ownBlock.toList) wS w') => show Blk w' b5 32 (wf (hashN l)) from h.blk (hS.get .head) (fun hm => by have := (HBS.out b5 hm).1; omega))
  have HB4 := hQz (fun (w' : World) (h : Tch (sb :: vS.ownBlock.toList) wS w') => show Blk w' b4 32 (wf fun _ => 0) from h.blk (hS.get (.tail .head)) (fun hm => by have := (HBS.out b4 hm).1; omega))
  have hTS := hS.frame
  have HTS := hQz (And.intro hTS hS.apart)
  clear hS h5o h4o
  refine wp_region_held_drew (S := fun w' => Tch (sb :: vS.ownBlock.toList) wS w') (by kernel_rfl) ((Tch.refl _ wS).drew) (fun hC => ?_)
  have hD0 : Tch [] wS wS.drew := (Tch.refl [] wS).drew
  generalize World.drew wS = u0 at hC hD0 ⊢
  refine qa0 (v := .pointer (some ⟨bb, 0, none⟩)) 0 rfl (by kernel_rfl) (by kernel_rfl) (by kernel_rfl) (fun _ _ _ h => h) hC rfl (fun w' hw' => qb2 (.inl rfl) rfl) ?_
  try simp only [Act.put, ppA, ppB, ppC]
  refine qa0 (v := .pointer (some ⟨bb, 0, none⟩)) 1 rfl (by kernel_rfl) (by kernel_rfl) (by kernel_rfl) (fun _ _ _ h => h) hC rfl (fun w' hw' => qf8 _ rfl rfl) ?_
  try simp only [Act.put, ppA, ppB, ppC]
  refine qa0 (v := .pointer (some ⟨bb, 1, none⟩)) 2 rfl (by kernel_rfl) (by kernel_rfl) (by kernel_rfl) (fun _ _ _ h => h) hC rfl (fun w' hw' => x_fa _ _ _ rfl rfl (fa_bu1 _ _)) ?_
  try simp only [Act.put, ppA, ppB, ppC]
  refine qa0 (v := .pointer (some ⟨sb, 0, none⟩)) 3 rfl (by kernel_rfl) (by kernel_rfl) (by kernel_rfl) (fun _ _ _ h => h) hC rfl (fun w' hw' => qe2 _ _ rfl rfl ((HBB.out w' hw').cell rfl) seen_agg) ?_
  try simp only [Act.put, ppA, ppB, ppC]
  refine qa0 (v := .bool true) 4 rfl (by kernel_rfl) (by kernel_rfl) (by kernel_rfl) (fun _ _ _ h => h) hC rfl (fun w' hw' => seen_neqT sb _ _ w' rfl rfl rfl) ?_
  try simp only [Act.put, ppA, ppB, ppC]
  refine qa0 (v := .bool true) 5 rfl (by kernel_rfl) (by kernel_rfl) (by kernel_rfl) (fun _ _ _ h => h) hC rfl (fun w' hw' => qb2 (.inl rfl) rfl) ?_
  try simp only [Act.put, ppA, ppB, ppC]
  refine qa0 (v := .pointer (some ⟨bb, 0, none⟩)) 6 rfl (by kernel_rfl) (by kernel_rfl) (by kernel_rfl) (fun _ _ _ h => h) hC rfl (fun w' hw' => qb2 (.inl rfl) rfl) ?_
  try simp only [Act.put, ppA, ppB, ppC]
  refine qa0 (v := .pointer (some ⟨bb, 0, none⟩)) 7 rfl (by kernel_rfl) (by kernel_rfl) (by kernel_rfl) (fun _ _ _ h => h) hC rfl (fun w' hw' => qf8 _ rfl rfl) ?_
  try simp only [Act.put, ppA, ppB, ppC]
  refine qa0 (v := .pointer (some ⟨bb, 1, none⟩)) 8 rfl (by kernel_rfl) (by kernel_rfl) (by kernel_rfl) (fun _ _ _ h => h) hC rfl (fun w' hw' => x_fa _ _ _ rfl rfl (fa_bu1 _ _)) ?_
  try simp only [Act.put, ppA, ppB, ppC]
  refine qa0 (v := .pointer (some ⟨sb, 0, none⟩)) 9 rfl (by kernel_rfl) (by kernel_rfl) (by kernel_rfl) (fun _ _ _ h => h) hC rfl (fun w' hw' => qe2 _ _ rfl rfl ((HBB.out w' hw').cell rfl) seen_agg) ?_
  try simp only [Act.put, ppA, ppB, ppC]
  refine qa0 (v := .agg (wf (hashN l))) 10 rfl (by kernel_rfl) (by kernel_rfl) (by kernel_rfl) (fun _ _ _ h => h) hC rfl (fun w' hw' => x_loadWd _ rfl rfl (HB5.out w' hw')) ?_
  try simp only [Act.put, ppA, ppB, ppC]
  refine qa0 (v := vd) 11 rfl (by kernel_rfl) (by kernel_rfl) (by kernel_rfl) (fun _ _ _ h => h) hC rfl (fun w' hw' => qb2 (.inl rfl) rfl) ?_
  try simp only [Act.put, ppA, ppB, ppC]
  have hSA0 : SeenAt sb m (b5 :: b4 :: bb :: X) u0 vS LS := HK.out.2.2.2.re (HTS.out.1.trans hD0).toX (fun y hy => by
    rcases List.mem_cons.1 hy with h | hy
    · rw [h]; exact ⟨.inr HO.out.1, (HB5.out u0 hC).lt⟩
    · rcases List.mem_cons.1 hy with h | hy
      · rw [h]; exact ⟨.inr HO.out.2, (HB4.out u0 hC).lt⟩
      · exact ⟨.inl hy, Nat.lt_of_lt_of_le (HK.out.2.2.2.2.2.2.2.1 y hy).1 (HTS.out.1.trans hD0).size⟩)
  have hVD0 : RdA (sb :: (vS.ownBlock.toList ++ (b5 :: b4 :: bb :: X))) u0 vd l := HD.out.re (HTS.out.1.trans hD0) (fun y hy => by
    simp only [List.mem_cons, List.mem_append] at hy ⊢
    rcases hy with h | h | h | h | h | h
    · exact .inl (.inr (.inl h))
    · exact .inl (.inr (.inr (.inl h)))
    · rw [h]; exact .inr HO.out.1
    · rw [h]; exact .inr HO.out.2
    · exact .inl (.inl h)
    · exact .inl (.inr (.inr (.inr h)))) (by simp)
  refine qa6 12 (by kernel_rfl) ?_
  refine held_callT (v1 := .pointer (some ⟨sb, 0, none⟩)) (v2 := .agg (wf (hashN l))) (v3 := vd) rfl rfl rfl (by rfl) (by rfl) (by rfl) Tryz.call61 (seenAdd_any sb m (b5 :: b4 :: bb :: X) vS LS l vd u0 hSA0 hVD0 HNN.out.1 HNN.out.2.2) ?_
  rintro e u1 ⟨r, vS', LS', rfl, hT1, hv1, hSA, hr1, hr2, hr3⟩
  have hC1 : Tch (sb :: vS.ownBlock.toList) wS u1 := hC.trans hT1
  refine ⟨_, rfl, hC1, ?_⟩
  try simp only [Act.put, ppA, ppB, ppC]
  refine qa0 (v := .bool (!r)) 13 rfl (by kernel_rfl) (by kernel_rfl) (by kernel_rfl) (fun _ _ _ h => h) hC1 rfl (fun w' hw' => x_notE rfl rfl) ?_
  try simp only [Act.put, ppA, ppB, ppC]
  refine qa0 (v := .bool (!r)) 14 rfl (by kernel_rfl) (by kernel_rfl) (by kernel_rfl) (fun _ _ _ h => h) hC1 rfl (fun w' hw' => x_pickE (s := true) rfl rfl rfl) ?_
  try simp only [Act.put, ppA, ppB, ppC]
  refine wpAnyH_done (by kernel_rfl) ?_ _
  have hTw : Tch (sb :: vS.ownBlock.toList) w u1 := (HTS.out.1.mono (by simp)).trans hC1
  have hszw : w.heap.size ≤ u1.heap.size := hTw.size
  have hvw : ∀ g, vS'.ownBlock = some g → vS.ownBlock = some g ∨ w.heap.size ≤ g := fun g hg => (hv1 g hg).imp id (fun h => Nat.le_trans (HTS.out.1.trans hD0).size h)
  have hwide : ∀ y ∈ b5 :: b4 :: bb :: sb :: (vS'.ownBlock.toList ++ X), y ∈ bb :: sb :: (vS.ownBlock.toList ++ X) ∨ w.heap.size ≤ y := fun y hy => by
    simp only [List.mem_cons, List.mem_append] at hy ⊢
    rcases hy with h | h | h | h | h | h
    · rw [h]; exact .inr HO.out.1
    · rw [h]; exact .inr HO.out.2
    · exact .inl (.inl h)
    · exact .inl (.inr (.inl h))
    · rcases hvw y (by simpa using h) with q | q
      · exact .inl (.inr (.inr (.inl (by simp [q]))))
      · exact .inr q
    · exact .inl (.inr (.inr (.inr h)))
  have hturn : ∀ y ∈ sb :: vS.ownBlock.toList, y ∈ bb :: sb :: (vS.ownBlock.toList ++ X) ∨ w.heap.size ≤ y := fun y hy => .inl (by
    rcases List.mem_cons.1 hy with h | h
    · rw [h]; exact List.mem_cons_of_mem _ List.mem_cons_self
    · exact List.mem_cons_of_mem _ (List.mem_cons_of_mem _ (List.mem_append_left _ h)))
  have hNA := HK.out.2.2.1.re hTw hwide hturn
  have hVD := HD.out.re hTw hwide hturn
  have HU := hQz (And.intro hTw (And.intro hvw (And.intro hSA (And.intro hr1 (And.intro hr2 (And.intro hr3 (And.intro hNA hVD)))))))
  have HBL := hQz (And.intro (HBB.out u1 hC1) (And.intro (HB5.out u1 hC1) (HB4.out u1 hC1)))
  clear hSA0 hVD0 hC hC1 hD0 hT1 hv1 hSA hr1 hr2 hr3 hTw hszw hvw hwide hturn hNA hVD hTS
  cases r with
  | true =>
    have hB3 : Blk u1 bb 96 #[v, .pointer (some ⟨sb, 0, none⟩), .bool c] := HBL.out.1
    have hO3 : Only bb u1 u1 := Only.refl _ _
    have h5b : b5 ≠ bb := fun e => by have h1 := HO.out.1; have h2 := HK.out.1.lt; omega
    have h4b : b4 ≠ bb := fun e => by have h1 := HO.out.2; have h2 := HK.out.1.lt; omega
    have hT3 : Tch [bb] u1 u1 := hO3.tch
    have H5 := hQz (And.intro (hT3.blk HBL.out.2.1 (fun hm => h5b (List.mem_singleton.1 hm))) (hT3.blk HBL.out.2.2 (fun hm => h4b (List.mem_singleton.1 hm))))
    have hsub : ∀ y ∈ ([bb] : List Nat), y ∈ b5 :: b4 :: bb :: sb :: (vS'.ownBlock.toList ++ X) ∨ u1.heap.size ≤ y := fun y hy => .inl (by rw [List.mem_singleton.1 hy]; simp)
    have H3 := hQz (And.intro hB3 (And.intro hT3 (And.intro (HU.out.2.2.2.2.2.2.1.re hT3 (fun y hy => .inl hy) hsub) (HU.out.2.2.2.2.2.2.2.re hT3 (fun y hy => .inl hy) hsub))))
    have hlt : ∀ y ∈ b5 :: b4 :: bb :: sb :: (vS'.ownBlock.toList ++ X), y < u1.heap.size := fun y hy => by
      have hsz := hT3.size
      simp only [List.mem_cons, List.mem_append] at hy
      rcases hy with h | h | h | h | h | h
      · rw [h]; exact H5.out.1.lt
      · rw [h]; exact H5.out.2.lt
      · rw [h]; exact hB3.lt
      · rw [h]; exact Nat.lt_of_lt_of_le HU.out.2.2.1.1.lt hsz
      · exact Nat.lt_of_lt_of_le (HU.out.2.2.1.2.2.1.lt y (by simpa using h)).2 hsz
      · exact Nat.lt_of_lt_of_le (Nat.lt_of_lt_of_le (HK.out.2.1 y h).1 HU.out.1.size) hsz
    have HLT := hQz hlt
    clear hB3 hO3 h5b h4b hT3 hsub hlt
    go_upto_region 4 with (fail)
    try simp only [Act.put, ppA, ppB, ppC]
    refine wp_region_held_drew (S := fun w' => Tch [bb] u1 w') (by kernel_rfl) ((Tch.refl [bb] u1).drew) (fun hC => ?_)
    have hD0 : Tch [] u1 (World.drew u1) := (Tch.refl [] u1).drew
    generalize World.drew u1 = y0 at hC hD0 ⊢
    have h5b : b5 ≠ bb := fun e => by have h1 := HO.out.1; have h2 := HK.out.1.lt; omega
    refine qa0 (v := .pointer (some ⟨bb, 0, none⟩)) 0 rfl (by kernel_rfl) (by kernel_rfl) (by kernel_rfl) (fun _ _ _ h => h) hC rfl (fun w' hw' => qb2 (.inl rfl) rfl) ?_
    try simp only [Act.put, ppA, ppB, ppC]
    refine qa0 (v := .pointer (some ⟨bb, 0, none⟩)) 1 rfl (by kernel_rfl) (by kernel_rfl) (by kernel_rfl) (fun _ _ _ h => h) hC rfl (fun w' hw' => qb2 (.inl rfl) rfl) ?_
    try simp only [Act.put, ppA, ppB, ppC]
    refine qa0 (v := .pointer (some ⟨bb, 0, none⟩)) 2 rfl (by kernel_rfl) (by kernel_rfl) (by kernel_rfl) (fun _ _ _ h => h) hC rfl (fun w' hw' => qf8 _ rfl rfl) ?_
    try simp only [Act.put, ppA, ppB, ppC]
    refine qa0 (v := .pointer (some ⟨bb, 0, none⟩)) 3 rfl (by kernel_rfl) (by kernel_rfl) (by kernel_rfl) (fun _ _ _ h => h) hC rfl (fun w' hw' => x_fa _ _ _ rfl rfl (fa_bu0 _ _)) ?_
    try simp only [Act.put, ppA, ppB, ppC]
    refine qa0 (v := .agg (wf (hashN l))) 5 rfl (by kernel_rfl) (by kernel_rfl) (by kernel_rfl) (fun _ _ _ h => h) hC rfl (fun w' hw' => x_loadWd _ rfl rfl (hw'.blk H5.out.1 (fun hm => h5b (List.mem_singleton.1 hm)))) ?_
    try simp only [Act.put, ppA, ppB, ppC]
    refine qa0 (v := vd) 6 rfl (by kernel_rfl) (by kernel_rfl) (by kernel_rfl) (fun _ _ _ h => h) hC rfl (fun w' hw' => qb2 (.inl rfl) rfl) ?_
    try simp only [Act.put, ppA, ppB, ppC]
    refine qa0 (v := .agg (ndA (hashN l) vd)) 7 rfl (by kernel_rfl) (by kernel_rfl) (by kernel_rfl) (fun _ _ _ h => h) hC rfl (fun w' hw' => x_buildNd (qi1 HD.out) ⟨_, _, rfl, rfl, rfl⟩) ?_
    try simp only [Act.put, ppA, ppB, ppC]
    refine qa6 4 (by kernel_rfl) ?_
    refine held_cell (v := v) _ _ rfl rfl rfl rfl ((hD0.blk H3.out.1 (by simp)).cell rfl) qe7 ?_
    refine ⟨hC, ?_⟩
    try simp only [Act.put, ppA, ppB, ppC]
    refine qa6 8 (by kernel_rfl) ?_
    refine qh0 (v1 := v) (v2 := .agg (ndA (hashN l) vd)) rfl rfl rfl (by rfl) (by rfl) Tryz.call33 (PutNode_any (b5 :: b4 :: bb :: sb :: (vS'.ownBlock.toList ++ X)) v L (l, vd) y0 (H3.out.2.2.1.tch hD0.toX) (H3.out.2.2.2.tch hD0.toX) (fun x hx => Nat.lt_of_lt_of_le (HLT.out x hx) hD0.size) HNN.out.2.1) ?_
    rintro e y1 ⟨hT3, v', rfl, hN'⟩
    have hC1 : Tch [bb] u1 y1 := hC.trans hT3.toX
    refine ⟨_, rfl, hC1, ?_⟩
    try simp only [Act.put, ppA, ppB, ppC]
    refine qa0 (v := .pointer (some ⟨bb, 0, none⟩)) 9 rfl (by kernel_rfl) (by kernel_rfl) (by kernel_rfl) (fun _ _ _ h => h) hC1 rfl (fun w' hw' => qf8 _ rfl rfl) ?_
    try simp only [Act.put, ppA, ppB, ppC]
    refine qa0 (v := .pointer (some ⟨bb, 0, none⟩)) 10 rfl (by kernel_rfl) (by kernel_rfl) (by kernel_rfl) (fun _ _ _ h => h) hC1 rfl (fun w' hw' => x_fa _ _ _ rfl rfl (fa_bu0 _ _)) ?_
    try simp only [Act.put, ppA, ppB, ppC]
    refine qa6 11 (by kernel_rfl) ?_
    refine qj9 (j := 0) (v := v') ((hD0.trans hT3).blk H3.out.1 (by simp)) (by show 0 < 3; decide) hN'.one nodes_size rfl rfl rfl (by rfl) (by rfl) ?_
    intro y2 hO hB2
    replace hB2 : Blk y2 bb 96 #[v', .pointer (some ⟨sb, 0, none⟩), .bool c] := hB2
    have hC2 : Tch [bb] u1 y2 := hC1.trans hO.tch
    refine ⟨hC2, ?_⟩
    refine wpAnyH_done (by kernel_rfl) ?_ _
    have h4b : b4 ≠ bb := fun e => by have h1 := HO.out.2; have h2 := HK.out.1.lt; omega
    have HRS := hQz (And.intro hC2 (And.intro hB2 (hN'.tch (hO.tch.mono (cs := b5 :: b4 :: bb :: sb :: (vS'.ownBlock.toList ++ X)) (fun x hx => .inl (by rw [List.mem_singleton.1 hx]; simp))))))
    have hap : b5 ≠ b4 := (List.pairwise_cons.1 HTS.out.2).1 _ List.mem_cons_self
    have hS9 : St [b5, b4] y2 y2 [(b5, 32, wf (hashN l)), (b4, 32, wf fun _ => 0)] := ⟨Tch.refl _ _, fun e he => by
      rcases List.mem_cons.1 he with rfl | he
      · exact ⟨hC2.blk H5.out.1 (fun hm => h5b (List.mem_singleton.1 hm)), .inr (by simp)⟩
      · rw [List.mem_singleton.1 he]
        exact ⟨hC2.blk H5.out.2 (fun hm => h4b (List.mem_singleton.1 hm)), .inr (by simp)⟩, List.pairwise_cons.2 ⟨fun e he => by rw [List.mem_singleton.1 he]; exact hap, List.pairwise_singleton _ _⟩⟩
    have HNE := hQz (And.intro h5b h4b)
    clear hN' hB2 hO hC2 hC1 hC hD0 hT3 h5b h4b hap
    go_wp2_with (first
      | (refine st_load hS9 rfl 32 _ rfl rfl .head qc7 rfl qb4 (qa5 _) ?_)
      | (refine qe4 (b := b4) hS9 rfl 32 _ _ rfl rfl rfl (.tail .head) qb4 (qa5 _) (qa5 _) (qj1 _) ?_; intro w9 hS10))
    refine qf5 hS10 4 32 rfl rfl rfl (.tail .head) qc7 rfl qb4 (qa5 _) (fun hb => ?_)
    exact puts_last HK.out HO.out HNE.out HU.out.1 HU.out.2.1 HU.out.2.2.1 H3.out.2.1 HRS.out.1 HRS.out.2.1 HRS.out.2.2 (hb.mono (by simp)) (putL_len _ _) (fun h => ⟨h, HU.out.2.2.2.1 (by simp)⟩) HU.out.2.2.2.2.1 HU.out.2.2.2.2.2.1
  | false =>
    go_upto_region 3 with (fail)
    try simp only [Act.put, ppA, ppB, ppC]
    refine wp_region_lit ?_
    refine qc1 (v := .pointer (some ⟨bb, 0, none⟩)) rfl (qb2 (.inl rfl) rfl) ?_; try simp only [Act.put, ppA, ppB, ppC]
    refine qc1 (v := .pointer (some ⟨bb, 0, none⟩)) rfl (qf8 _ rfl rfl) ?_; try simp only [Act.put, ppA, ppB, ppC]
    refine qc1 rfl (x_fa 96 _ 2 rfl rfl (fa_bu2 _ _)) ?_; try simp only [Act.put, ppA, ppB, ppC]
    refine arm_store1 (b := bb) (j := 2) (v := .bool true) rfl 4 _ _ rfl rfl rfl rfl bool_size HBL.out.1 (by show 2 < 3; decide) ?_
    intro u3 hB3 hO3
    refine ql2 ?_
    replace hB3 : Blk u3 bb 96 #[v, .pointer (some ⟨sb, 0, none⟩), .bool true] := hB3
    have h5b : b5 ≠ bb := fun e => by have h1 := HO.out.1; have h2 := HK.out.1.lt; omega
    have h4b : b4 ≠ bb := fun e => by have h1 := HO.out.2; have h2 := HK.out.1.lt; omega
    have hT3 : Tch [bb] u1 u3 := hO3.tch
    have H5 := hQz (And.intro (hT3.blk HBL.out.2.1 (fun hm => h5b (List.mem_singleton.1 hm))) (hT3.blk HBL.out.2.2 (fun hm => h4b (List.mem_singleton.1 hm))))
    have hsub : ∀ y ∈ ([bb] : List Nat), y ∈ b5 :: b4 :: bb :: sb :: (vS'.ownBlock.toList ++ X) ∨ u1.heap.size ≤ y := fun y hy => .inl (by rw [List.mem_singleton.1 hy]; simp)
    have H3 := hQz (And.intro hB3 (And.intro hT3 (And.intro (HU.out.2.2.2.2.2.2.1.re hT3 (fun y hy => .inl hy) hsub) (HU.out.2.2.2.2.2.2.2.re hT3 (fun y hy => .inl hy) hsub))))
    have hlt : ∀ y ∈ b5 :: b4 :: bb :: sb :: (vS'.ownBlock.toList ++ X), y < u3.heap.size := fun y hy => by
      have hsz := hT3.size
      simp only [List.mem_cons, List.mem_append] at hy
      rcases hy with h | h | h | h | h | h
      · rw [h]; exact H5.out.1.lt
      · rw [h]; exact H5.out.2.lt
      · rw [h]; exact hB3.lt
      · rw [h]; exact Nat.lt_of_lt_of_le HU.out.2.2.1.1.lt hsz
      · exact Nat.lt_of_lt_of_le (HU.out.2.2.1.2.2.1.lt y (by simpa using h)).2 hsz
      · exact Nat.lt_of_lt_of_le (Nat.lt_of_lt_of_le (HK.out.2.1 y h).1 HU.out.1.size) hsz
    have HLT := hQz hlt
    clear hB3 hO3 h5b h4b hT3 hsub hlt
    go_upto_region 4 with (fail)
    try simp only [Act.put, ppA, ppB, ppC]
    refine wp_region_held_drew (S := fun w' => Tch [bb] u3 w') (by kernel_rfl) ((Tch.refl [bb] u3).drew) (fun hC => ?_)
    have hD0 : Tch [] u3 (World.drew u3) := (Tch.refl [] u3).drew
    generalize World.drew u3 = y0 at hC hD0 ⊢
    have h5b : b5 ≠ bb := fun e => by have h1 := HO.out.1; have h2 := HK.out.1.lt; omega
    refine qa0 (v := .pointer (some ⟨bb, 0, none⟩)) 0 rfl (by kernel_rfl) (by kernel_rfl) (by kernel_rfl) (fun _ _ _ h => h) hC rfl (fun w' hw' => qb2 (.inl rfl) rfl) ?_
    try simp only [Act.put, ppA, ppB, ppC]
    refine qa0 (v := .pointer (some ⟨bb, 0, none⟩)) 1 rfl (by kernel_rfl) (by kernel_rfl) (by kernel_rfl) (fun _ _ _ h => h) hC rfl (fun w' hw' => qb2 (.inl rfl) rfl) ?_
    try simp only [Act.put, ppA, ppB, ppC]
    refine qa0 (v := .pointer (some ⟨bb, 0, none⟩)) 2 rfl (by kernel_rfl) (by kernel_rfl) (by kernel_rfl) (fun _ _ _ h => h) hC rfl (fun w' hw' => qf8 _ rfl rfl) ?_
    try simp only [Act.put, ppA, ppB, ppC]
    refine qa0 (v := .pointer (some ⟨bb, 0, none⟩)) 3 rfl (by kernel_rfl) (by kernel_rfl) (by kernel_rfl) (fun _ _ _ h => h) hC rfl (fun w' hw' => x_fa _ _ _ rfl rfl (fa_bu0 _ _)) ?_
    try simp only [Act.put, ppA, ppB, ppC]
    refine qa0 (v := .agg (wf (hashN l))) 5 rfl (by kernel_rfl) (by kernel_rfl) (by kernel_rfl) (fun _ _ _ h => h) hC rfl (fun w' hw' => x_loadWd _ rfl rfl (hw'.blk H5.out.1 (fun hm => h5b (List.mem_singleton.1 hm)))) ?_
    try simp only [Act.put, ppA, ppB, ppC]
    refine qa0 (v := vd) 6 rfl (by kernel_rfl) (by kernel_rfl) (by kernel_rfl) (fun _ _ _ h => h) hC rfl (fun w' hw' => qb2 (.inl rfl) rfl) ?_
    try simp only [Act.put, ppA, ppB, ppC]
    refine qa0 (v := .agg (ndA (hashN l) vd)) 7 rfl (by kernel_rfl) (by kernel_rfl) (by kernel_rfl) (fun _ _ _ h => h) hC rfl (fun w' hw' => x_buildNd (qi1 HD.out) ⟨_, _, rfl, rfl, rfl⟩) ?_
    try simp only [Act.put, ppA, ppB, ppC]
    refine qa6 4 (by kernel_rfl) ?_
    refine held_cell (v := v) _ _ rfl rfl rfl rfl ((hD0.blk H3.out.1 (by simp)).cell rfl) qe7 ?_
    refine ⟨hC, ?_⟩
    try simp only [Act.put, ppA, ppB, ppC]
    refine qa6 8 (by kernel_rfl) ?_
    refine qh0 (v1 := v) (v2 := .agg (ndA (hashN l) vd)) rfl rfl rfl (by rfl) (by rfl) Tryz.call33 (PutNode_any (b5 :: b4 :: bb :: sb :: (vS'.ownBlock.toList ++ X)) v L (l, vd) y0 (H3.out.2.2.1.tch hD0.toX) (H3.out.2.2.2.tch hD0.toX) (fun x hx => Nat.lt_of_lt_of_le (HLT.out x hx) hD0.size) HNN.out.2.1) ?_
    rintro e y1 ⟨hT3, v', rfl, hN'⟩
    have hC1 : Tch [bb] u3 y1 := hC.trans hT3.toX
    refine ⟨_, rfl, hC1, ?_⟩
    try simp only [Act.put, ppA, ppB, ppC]
    refine qa0 (v := .pointer (some ⟨bb, 0, none⟩)) 9 rfl (by kernel_rfl) (by kernel_rfl) (by kernel_rfl) (fun _ _ _ h => h) hC1 rfl (fun w' hw' => qf8 _ rfl rfl) ?_
    try simp only [Act.put, ppA, ppB, ppC]
    refine qa0 (v := .pointer (some ⟨bb, 0, none⟩)) 10 rfl (by kernel_rfl) (by kernel_rfl) (by kernel_rfl) (fun _ _ _ h => h) hC1 rfl (fun w' hw' => x_fa _ _ _ rfl rfl (fa_bu0 _ _)) ?_
    try simp only [Act.put, ppA, ppB, ppC]
    refine qa6 11 (by kernel_rfl) ?_
    refine qj9 (j := 0) (v := v') ((hD0.trans hT3).blk H3.out.1 (by simp)) (by show 0 < 3; decide) hN'.one nodes_size rfl rfl rfl (by rfl) (by rfl) ?_
    intro y2 hO hB2
    replace hB2 : Blk y2 bb 96 #[v', .pointer (some ⟨sb, 0, none⟩), .bool true] := hB2
    have hC2 : Tch [bb] u3 y2 := hC1.trans hO.tch
    refine ⟨hC2, ?_⟩
    refine wpAnyH_done (by kernel_rfl) ?_ _
    have h4b : b4 ≠ bb := fun e => by have h1 := HO.out.2; have h2 := HK.out.1.lt; omega
    have HRS := hQz (And.intro hC2 (And.intro hB2 (hN'.tch (hO.tch.mono (cs := b5 :: b4 :: bb :: sb :: (vS'.ownBlock.toList ++ X)) (fun x hx => .inl (by rw [List.mem_singleton.1 hx]; simp))))))
    have hap : b5 ≠ b4 := (List.pairwise_cons.1 HTS.out.2).1 _ List.mem_cons_self
    have hS9 : St [b5, b4] y2 y2 [(b5, 32, wf (hashN l)), (b4, 32, wf fun _ => 0)] := ⟨Tch.refl _ _, fun e he => by
      rcases List.mem_cons.1 he with rfl | he
      · exact ⟨hC2.blk H5.out.1 (fun hm => h5b (List.mem_singleton.1 hm)), .inr (by simp)⟩
      · rw [List.mem_singleton.1 he]
        exact ⟨hC2.blk H5.out.2 (fun hm => h4b (List.mem_singleton.1 hm)), .inr (by simp)⟩, List.pairwise_cons.2 ⟨fun e he => by rw [List.mem_singleton.1 he]; exact hap, List.pairwise_singleton _ _⟩⟩
    have HNE := hQz (And.intro h5b h4b)
    clear hN' hB2 hO hC2 hC1 hC hD0 hT3 h5b h4b hap
    go_wp2_with (first
      | (refine st_load hS9 rfl 32 _ rfl rfl .head qc7 rfl qb4 (qa5 _) ?_)
      | (refine qe4 (b := b4) hS9 rfl 32 _ _ rfl rfl rfl (.tail .head) qb4 (qa5 _) (qa5 _) (qj1 _) ?_; intro w9 hS10))
    refine qf5 hS10 4 32 rfl rfl rfl (.tail .head) qc7 rfl qb4 (qa5 _) (fun hb => ?_)
    exact puts_last HK.out HO.out HNE.out HU.out.1 HU.out.2.1 HU.out.2.2.1 H3.out.2.1 HRS.out.1 HRS.out.2.1 HRS.out.2.2 (hb.mono (by simp)) (putL_len _ _) (fun h => by cases h) HU.out.2.2.2.2.1 HU.out.2.2.2.2.2.1
end
end Go.Proofs.YtanmpcgackfpaaaGreat
