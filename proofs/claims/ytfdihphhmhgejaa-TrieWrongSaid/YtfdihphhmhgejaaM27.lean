/- trie.sorted: the entries of pairs, by rising path. -/
import Derived.Test.YtfdihphhmhgejaaM26
import Derived.Test.YtfdihphhmhgejaaM18
set_option linter.unusedVariables false
set_option linter.unusedSimpArgs false
namespace Go.Proofs.Ytfdihphhmhgejaa
open Go.RowKit Tr
open Go.Sort (PermIn SortedIn flatK size_flatK get_flatK)

abbrev Cl2 := (Value × Value) × En
def two (x : Cl2) : List Value := [x.1.1, x.1.2]
def rowC (n : Nat) (xs : List Cl2) : Array Value := (xs.flatMap two ++ List.replicate ((n - xs.length) * 2) (Value.slice none 0 0)).toArray
theorem flat_len : ∀ xs : List Cl2, (xs.flatMap two).length = xs.length * 2
  | [] => rfl
  | x :: xs => by rw [List.flatMap_cons, List.length_append, flat_len xs, List.length_cons]; simp [two]; omega
theorem flat_get : ∀ (xs : List Cl2) (i : Nat) (h : i < xs.length), (xs.flatMap two)[i * 2]? = some xs[i].1.1 ∧ (xs.flatMap two)[i * 2 + 1]? = some xs[i].1.2
  | [], i, h => by simp at h
  | x :: xs, 0, _ => by simp [two]
  | x :: xs, i + 1, h => by
    have ih := flat_get xs i (by simpa using h)
    rw [List.flatMap_cons, show (i + 1) * 2 = i * 2 + 2 by omega]
    have e : two x = [x.1.1, x.1.2] := rfl
    rw [e]
    simpa using ih
theorem rowC_size {n : Nat} {xs : List Cl2} (h : xs.length ≤ n) : (rowC n xs).size = n * 2 := by
  simp only [rowC, List.size_toArray, List.length_append, flat_len, List.length_replicate]
  omega
theorem rowC_step {n : Nat} {xs : List Cl2} (h : xs.length < n) (a b : Value) (e : En) : ((rowC n xs).setIfInBounds (xs.length * 2) a).setIfInBounds (xs.length * 2 + 1) b = rowC n (xs ++ [((a, b), e)]) := by
  obtain ⟨m, hm⟩ : ∃ m, n - xs.length = m + 1 := ⟨n - xs.length - 1, by omega⟩
  have hm2 : n - (xs ++ [((a, b), e)]).length = m := by simp; omega
  unfold rowC
  rw [hm, hm2, List.flatMap_append, List.setIfInBounds_toArray, List.setIfInBounds_toArray, ← flat_len xs]
  rw [show (m + 1) * 2 = m * 2 + 1 + 1 by omega, List.replicate_succ, List.replicate_succ]
  congr 1
  rw [List.set_append_right _ _ (Nat.le_refl _), Nat.sub_self, List.set_cons_zero, List.set_append_right _ _ (by omega), show (xs.flatMap two).length + 1 - (xs.flatMap two).length = 1 by omega, List.set_cons_succ, List.set_cons_zero]
  simp [two]
theorem rowC_no {n : Nat} {xs : List Cl2} (hx : ∀ x ∈ xs, (∃ p k c, x.1.1 = .slice p k c) ∧ ∃ p k c, x.1.2 = .slice p k c) : ∀ (j : Nat) (z : Int), (rowC n xs)[j]? ≠ some (.int .u8 z) := by
  intro j z h
  have hm : Value.int .u8 z ∈ (xs.flatMap two ++ List.replicate ((n - xs.length) * 2) (Value.slice none 0 0)) := by
    have := List.mem_of_getElem? (by simpa [rowC] using h : (xs.flatMap two ++ List.replicate ((n - xs.length) * 2) (Value.slice none 0 0))[j]? = some (.int .u8 z))
    exact this
  rw [List.mem_append] at hm
  rcases hm with hm | hm
  · obtain ⟨x, hxm, hv⟩ := List.mem_flatMap.1 hm
    obtain ⟨⟨p, k, c, h1⟩, ⟨q, m, d, h2⟩⟩ := hx x hxm
    simp only [two, List.mem_cons, List.not_mem_nil, or_false] at hv
    rcases hv with hv | hv
    · rw [h1] at hv; cases hv
    · rw [h2] at hv; cases hv
  · have := (List.mem_replicate.1 hm).2
    cases this
theorem made_two (n : Nat) : madeCells (Value.agg #[.slice none 0 0, .slice none 0 0]).cells (n * 2) = rowC n [] := by
  have h : rowC n [] = Array.replicate (n * 2) (Value.slice none 0 0) := by simp [rowC]
  rw [h]
  unfold madeCells
  apply Array.ext
  · simp [Value.cells]
  · intro i h1 h2
    simp only [Value.cells, Array.getElem_replicate]
    have : i % 2 = 0 ∨ i % 2 = 1 := by omega
    rcases this with q | q <;> simp [q]
theorem st_makeE {ops : Array Oper} {rest : List Oper} {o : Oper} {a : Act} {bs : List Nat} {w0 w : World} {Q : Exit → Act → World → Prop} {L : List Ent} (n : Nat) (hS : St bs w0 w L) (hgd : o.guard = none) (x y : Operand) (ho : o.op = .makeSlice 72 x y) (hx : a.eval x = .int .i64 (n : Int)) (hy : a.eval y = .int .i64 (n : Int)) (hn : n ≤ 100000)
    (h : ∀ w' b, St bs w0 w' ((b, 93, rowC n []) :: L) → wpList Try.prog ops Q rest (a.put o.dst (.slice (some ⟨b, 0, none⟩) n n)) w') : wpList Try.prog ops Q (o :: rest) a w :=
  wpList_plain hgd fun K hK => by
    obtain ⟨i, hi, hz, hs, hb⟩ := info_parts entry_info
    have hr := run_makeSlice (P := Try.prog) w 72 93 i _ entries_ty hi hz .i64 .i64 n n (by omega) (by omega) (by rw [hs]; simp; omega) (by rw [hb]; omega) (by omega)
    rw [hs, Int.toNat_natCast, made_two] at hr
    unfold Oper.wp execOp
    simp only [ho, hx, hy, Sem.run_bind, hr, Result.andThen_ok, Sem.run_pure]
    exact hK _ _ (h _ _ (hS.new 93 _))
theorem ent_size : (Try.prog.info? 93).map (·.size) = some 2 := by kernel_rfl
/-- Two cells are stored. -/
theorem store2_run {w : World} {b j : Nat} {t : TypeId} {c : Array Value} {x y : Value} (hB : Blk w b t c) (hj : j + 1 < c.size) (hx : x.oneCell' = true) (hy : y.oneCell' = true) :
    (Instr.storeAt 93 (.pointer (some ⟨b, j, none⟩)) (.agg #[x, y])).run Try.prog w = .ok () ((w.setCell ⟨b, j, none⟩ x).setCell ⟨b, j + 1, none⟩ y) := by
  cases hq : Try.prog.info? 93 with
  | none => have := ent_size; simp [hq] at this
  | some i =>
    have hs : i.size = 2 := by have := ent_size; simpa [hq] using this
    have hj1 : j < c.size := by omega
    have hcell : w.cell? ⟨b, j, none⟩ = some (c[j]'hj1) := hB.cell (Array.getElem?_eq_getElem hj1)
    have hB2 := hB.set j x
    have hj2 : j + 1 < (c.setIfInBounds j x).size := by rw [Array.size_setIfInBounds]; exact hj
    have hcell2 : (w.setCell ⟨b, j, none⟩ x).cell? ⟨b, j + 1, none⟩ = some ((c.setIfInBounds j x)[j + 1]'hj2) := hB2.cell (Array.getElem?_eq_getElem hj2)
    have hf1 := hB.free j
    have hf2 := hB2.free (j + 1)
    have hr1 := run_store Try.prog w ⟨b, j, none⟩ x .plain hx
    have hr2 := run_store Try.prog (w.setCell ⟨b, j, none⟩ x) ⟨b, j + 1, none⟩ y .plain hy
    have hadd : (⟨b, j, none⟩ : Addr).add 1 = ⟨b, j + 1, none⟩ := rfl
    have hadd0 : (⟨b, j, none⟩ : Addr).add 0 = ⟨b, j, none⟩ := rfl
    generalize c[j]'hj1 = z1 at hcell
    generalize (c.setIfInBounds j x)[j + 1]'hj2 = z2 at hcell2
    generalize w.setCell ⟨b, j, none⟩ x = w2 at *
    simp [Instr.storeAt, Instr.sureAddr, storeVar, sizeOf, typeInfo, hq, Value.cells, hs, storeCells, hadd0, hadd, hr1, hcell, hf1, hr2, hcell2, hf2]
section
variable {a : Act} {w : World} {o : Oper} {Q : Exit → Act → World → Prop}
theorem held_store2 {l0 : List Oper} {n : Nat} {K : Act → World → Prop} {b j : Nat} {t : TypeId} {c : Array Value} {x y : Value} {xo yo : Operand} (hB : Blk w b t c) (hj : j + 1 < c.size) (h1 : x.oneCell' = true) (h2 : y.oneCell' = true)
    (ho : l0[n]? = some o) (hw : Region.wanted o (yielded l0.toArray a.tmps) = true) (hop : o.op = .store 93 xo yo) (hx : a.eval xo = .pointer (some ⟨b, j, none⟩)) (hy : a.eval yo = .agg #[x, y])
    (h : ∀ w', Only b w w' → Blk w' b t ((c.setIfInBounds j x).setIfInBounds (j + 1) y) → K (a.put o.dst undef) w') : wpOp Try.prog l0.toArray Q n K a w := by
  have ho' : l0.toArray[n]? = some o := by rw [List.getElem?_toArray]; exact ho
  have hr := store2_run hB hj h1 h2
  unfold wpOp
  simp only [ho', hw, if_true]
  refine .inl ?_
  unfold Oper.wp execOp
  simp only [hop, hx, hy, Sem.run_bind, hr, Result.andThen_ok, Sem.run_pure]
  exact h _ ((Only.setCell w ⟨b, j, none⟩ x).trans (Only.setCell (w.setCell ⟨b, j, none⟩ x) ⟨b, j + 1, none⟩ y)) ((hB.set j x).set (j + 1) y)
theorem x_idx2 {b j n c : Nat} (x y : Operand) (ho : o.op = .indexAddr 72 x y) (hx : a.eval x = .slice (some ⟨b, 0, none⟩) n c) (hy : a.eval y = .int .i64 (j : Int)) (hj : j < n) : (execOp a.eval o).run Try.prog w = .ok (.value (.pointer (some ⟨b, j * 2, none⟩))) w := by
  have hadd : (⟨b, 0, none⟩ : Addr).add (j * 2) = ⟨b, j * 2, none⟩ := by unfold Addr.add; split <;> simp_all
  unfold execOp
  simp [ho, hx, hy, Instr.indexAt, run_underlying entries_ty, Instr.sureAddr, asIntOf, sizeOf_one ent_size, hj, hadd]
theorem x_build2 {v1 v2 : Value} (ho : ∃ x1 x2, o.op = .build 93 #[(0, x1), (1, x2)] ∧ a.eval x1 = v1 ∧ a.eval x2 = v2) (hr : (Instr.build 93 #[(0, v1), (1, v2)]).run Try.prog w = .ok (.agg #[v1, v2]) w) : (execOp a.eval o).run Try.prog w = .ok (.value (.agg #[v1, v2])) w := by
  obtain ⟨x1, x2, ho, h1, h2⟩ := ho
  unfold execOp
  simp only [ho, List.map_toArray, List.map_cons, List.map_nil, h1, h2, Sem.run_bind, hr, Result.andThen_ok, Sem.run_pure]
end
theorem build_ent (p q : Option Addr) (n c m d : Nat) (w : World) : (Instr.build 93 #[(0, .slice p n c), (1, .slice q m d)]).run Try.prog w = .ok (.agg #[.slice p n c, .slice q m d]) w := by kernel_rfl
theorem fa_pair0 (b : Nat) (w : World) : (Instr.fieldAt 38 (.pointer (some ⟨b, 0, none⟩)) 0).run Try.prog w = .ok (.pointer (some ⟨b, 0, none⟩)) w := by kernel_rfl
theorem fa_pair1 (b : Nat) (w : World) : (Instr.fieldAt 38 (.pointer (some ⟨b, 0, none⟩)) 1).run Try.prog w = .ok (.pointer (some ⟨b, 1, none⟩)) w := by kernel_rfl
theorem kvpair_zero : (Try.prog.info? 38).bind (·.zero) = some (.agg #[.slice none 0 0, .slice none 0 0]) := by kernel_rfl
theorem nibs_nibT (l : List Nat) : nibs l = nibT l := rfl
theorem slices_one (p q : Option Addr) (n c m d : Nat) : (#[Value.slice p n c, .slice q m d]).all (·.oneCell') = true := by simp [Value.oneCell']
/-- The entries that a row of cells reads as. -/
def RowOK (w : World) (b : Nat) (xs : List Cl2) : Prop := ∀ x ∈ xs, RdA [b] w x.1.1 x.2.1 ∧ RdA [b] w x.1.2 x.2.2
theorem RowOK.tch {w w' : World} {b : Nat} {xs : List Cl2} (h : RowOK w b xs) (hT : Tch [b] w w') : RowOK w' b xs := fun x hx => ⟨(h x hx).1.tch hT, (h x hx).2.tch hT⟩
theorem RowOK.sl {w : World} {b : Nat} {xs : List Cl2} (h : RowOK w b xs) : ∀ x ∈ xs, (∃ p k c, x.1.1 = .slice p k c) ∧ ∃ p k c, x.1.2 = .slice p k c := fun x hx => ⟨slice_keep (h x hx).1, slice_keep (h x hx).2⟩
theorem take_snocE {l : List En} {k : Nat} (h : k < l.length) : l.take (k + 1) = l.take k ++ [l.getD k ([], [])] := by
  rw [List.take_succ_eq_append_getElem h]; simp [h]
theorem RowOK.sl' {w : World} {b : Nat} {xs : List Cl2} (h : RowOK w b xs) : ∀ x ∈ xs, (∃ p k c, x.1.1 = .slice p k c) ∧ ∃ p k c, x.1.2 = .slice p k c := h.sl
set_option maxHeartbeats 4000000 in
set_option maxRecDepth 100000 in
theorem sortedLoop (v : Value) (ps : List En) (w : World) (hv : PairsAt w v ps) (hn : ps.length ≤ 100000) (hk : ∀ p ∈ ps, p.1.length ≤ 64)
    (R : Ending → World → Prop)
    (hend : ∀ (wr : World) (b : Nat) (xs : List Cl2), Tch [] w wr → w.heap.size ≤ b → Blk wr b 93 (rowC ps.length xs) → xs.length = ps.length → xs.map (·.2) = entries ps → RowOK wr b xs →
      Calls Try.prog 45 #[.slice (some ⟨b, 0, none⟩) ps.length ps.length, .func (.func 46) #[] #[]] wr fun e w' => e = .returned (.tuple #[]) ∧ R (.returned (.slice (some ⟨b, 0, none⟩) ps.length ps.length)) w') :
    Calls Try.prog 30 #[v] w R := by
  have hS := St.start w
  obtain ⟨p, c, rfl, hc, hcells⟩ := hv
  obtain ⟨n, hnn⟩ : ∃ n, n = ps.length := ⟨_, rfl⟩
  rw [← hnn] at hc hn hend ⊢
  have HL := Lib.hid hnn
  have HC := Lib.hid hcells
  have HE := Lib.hid hend
  have HK := Lib.hid hk
  clear hnn hcells hend hk
  go_enter Try.func30, Try.ntmps30
  go_wp2_with (refine st_makeE n hS rfl _ _ rfl rfl rfl hn ?_; clear hS; intro w1 be hS)
  go_loopw [11] (fun i wr => ∃ xs : List Cl2, i = .int .i64 (xs.length : Int) ∧ xs.length ≤ n ∧ St [] w wr [(be, 93, rowC n xs)] ∧ Hid (xs.map (·.2) = (entries ps).take xs.length ∧ RowOK wr be xs)) (fun i _ => n - (intOf i).toNat)
  case atStart => exact ⟨[], rfl, Nat.zero_le _, hS, Lib.hid ⟨rfl, fun x hx => by simp at hx⟩⟩
  case round =>
    clear hS
    obtain ⟨xs, rfl, hxn, hS, HX⟩ := hrel
    obtain ⟨k, hkk⟩ : ∃ k, k = xs.length := ⟨_, rfl⟩
    rw [← hkk] at hxn ⊢
    have HKK := Lib.hid hkk
    clear hkk
    by_cases hlt : k < n
    · have d1 : (k : Int) < (n : Int) := by omega
      have d0 : (0 : Int) ≤ (k : Int) := by omega
      have hkl : k < ps.length := by have := HL.out; omega
      obtain ⟨b, o, rfl, hbw, hcs⟩ := HC.out (by intro e; subst e; simp at hkl)
      obtain ⟨kv, vv, g0, g1, hkv, hvv⟩ := hcs k hkl
      have hc0 := (hS.frame.cell (p := ⟨b, o + k * 2, none⟩) hbw (by simp)).trans g0
      have hc1 := (hS.frame.cell (p := ⟨b, o + k * 2 + 1, none⟩) hbw (by simp)).trans g1
      have hbe : w.heap.size ≤ be := (hS.own .head).resolve_right (by simp)
      have hS0 := hS
      replace hS := St.one (hS0.get .head)
      obtain ⟨q1, c1, rfl⟩ := hkv.shape'
      obtain ⟨q2, c2, rfl⟩ := hvv.shape'
      have hk64 := HK.out _ (List.getElem_mem hkl)
      obtain ⟨lk, hlk⟩ : ∃ lk, lk = ps[k].1 := ⟨_, rfl⟩
      obtain ⟨lv, hlv⟩ : ∃ lv, lv = ps[k].2 := ⟨_, rfl⟩
      rw [← hlk] at hkv hc0 hk64
      rw [← hlv] at hvv hc1
      have HP := Lib.hid (And.intro hlk hlv)
      have HR := Lib.hid (fun (w1 : World) (hT : Tch [] w w1) => And.intro (hkv.tch hT (by simp)) (hvv.tch hT (by simp)))
      clear hcs g0 g1 hlk hlv
      go_upto_region 5 with (first
        | (refine st_new (L := [(be, 93, rowC n xs)]) hS rfl 38 rfl kvpair_zero ?_; clear hS hc0 hc1; intro w2 bp hS)
        | (refine st_store (b := bp) (c' := #[.slice q1 lk.length c1, .slice q2 lv.length c2]) hS rfl 38 _ _ rfl rfl rfl .head pairD_size rfl rfl (slices_one _ _ _ _ _ _) ?_; clear hS; intro w3 hS))
      have hbp : bp ≠ be := hS.apart2
      have HBp := Lib.hid (fun (w' : World) (hT : Tch [be] w3 w') => hT.blk (hS.get .head) (by simpa using hbp))
      have hF := hS.frame
      have hB0 := (hS.get (.tail .head)).drew
      have hT0 : Tch [] w3 w3.drew := (Tch.refl _ _).drew
      refine wp_region_held_drew (S := fun w' => Tch [be] w3 w') (by kernel_rfl) ((Tch.refl _ _).drew) (fun hC => ?_)
      generalize World.drew w3 = u0 at hC hB0 hT0 ⊢
      have hW0 : Tch [] w u0 := hS0.frame.fresh (hF.trans hC) (by simpa using hbe)
      refine held_in (v := .slice (some ⟨be, 0, none⟩) n n) 0 rfl (by kernel_rfl) (by kernel_rfl) (by kernel_rfl) (fun _ _ _ h => h) hC rfl (fun w' hw' => x_val (.inl rfl) rfl) ?_
      try simp only [Act.put, List.setIfInBounds_toArray, List.set_cons_zero, List.set_cons_succ]
      refine held_in (v := .int .i64 (k : Int)) 1 rfl (by kernel_rfl) (by kernel_rfl) (by kernel_rfl) (fun _ _ _ h => h) hC rfl (fun w' hw' => x_val (.inl rfl) rfl) ?_
      try simp only [Act.put, List.setIfInBounds_toArray, List.set_cons_zero, List.set_cons_succ]
      refine held_in (v := .pointer (some ⟨bp, 0, none⟩)) 2 rfl (by kernel_rfl) (by kernel_rfl) (by kernel_rfl) (fun _ _ _ h => h) hC rfl (fun w' hw' => x_fa _ _ _ rfl rfl (fa_pair0 _ _)) ?_
      try simp only [Act.put, List.setIfInBounds_toArray, List.set_cons_zero, List.set_cons_succ]
      refine held_in (v := .slice q1 lk.length c1) 3 rfl (by kernel_rfl) (by kernel_rfl) (by kernel_rfl) (fun _ _ _ h => h) hC rfl (fun w' hw' => x_cell _ _ rfl rfl ((HBp.out w' hw').cell rfl) bytes_agg) ?_
      try simp only [Act.put, List.setIfInBounds_toArray, List.set_cons_zero, List.set_cons_succ]
      refine held_in (v := .pointer (some ⟨bp, 1, none⟩)) 5 rfl (by kernel_rfl) (by kernel_rfl) (by kernel_rfl) (fun _ _ _ h => h) hC rfl (fun w' hw' => x_fa _ _ _ rfl rfl (fa_pair1 _ _)) ?_
      try simp only [Act.put, List.setIfInBounds_toArray, List.set_cons_zero, List.set_cons_succ]
      refine held_in (v := .slice q2 lv.length c2) 6 rfl (by kernel_rfl) (by kernel_rfl) (by kernel_rfl) (fun _ _ _ h => h) hC rfl (fun w' hw' => x_cell _ _ rfl rfl ((HBp.out w' hw').cell rfl) bytes_agg) ?_
      try simp only [Act.put, List.setIfInBounds_toArray, List.set_cons_zero, List.set_cons_succ]
      refine held_one 4 (by kernel_rfl) ?_
      refine held_call (v1 := .slice q1 lk.length c1) rfl rfl rfl (by rfl) Try.call44 (Split_rd _ lk u0 (by omega) (HR.out u0 hW0).1) ?_
      rintro e u1 ⟨hT1, sp, sc, rfl, hr1⟩
      have hC1 := hC.trans (hT1.mono (by simp))
      have hB1 := hT1.blk hB0 (by simp)
      have hW1 := hW0.trans hT1
      refine ⟨_, rfl, hC1, ?_⟩
      try simp only [Act.put, List.setIfInBounds_toArray, List.set_cons_zero, List.set_cons_succ]
      refine held_in (v := .agg #[.slice sp (nibs lk).length sc, .slice q2 lv.length c2]) 7 rfl (by kernel_rfl) (by kernel_rfl) (by kernel_rfl) (fun _ _ _ h => h) hC1 rfl (fun w' hw' => x_build2 ⟨_, _, rfl, rfl, rfl⟩ (build_ent _ _ _ _ _ _ _)) ?_
      try simp only [Act.put, List.setIfInBounds_toArray, List.set_cons_zero, List.set_cons_succ]
      refine held_in (v := .pointer (some ⟨be, k * 2, none⟩)) 8 rfl (by kernel_rfl) (by kernel_rfl) (by kernel_rfl) (fun _ _ _ h => h) hC1 rfl (fun w' hw' => x_idx2 _ _ rfl rfl rfl hlt) ?_
      try simp only [Act.put, List.setIfInBounds_toArray, List.set_cons_zero, List.set_cons_succ]
      refine held_one 9 (by kernel_rfl) ?_
      refine held_store2 (j := k * 2) (x := .slice sp (nibs lk).length sc) (y := .slice q2 lv.length c2) hB1 (by rw [rowC_size (by rw [← HKK.out]; exact hxn)]; omega) rfl rfl rfl rfl rfl (by rfl) (by rfl) ?_
      intro u2 hO hB2
      have hC2 := hC1.only hO (.inr (by simp))
      refine ⟨hC2, ?_⟩
      refine wpAnyH_done (by kernel_rfl) ?_ _
      have hW2 : Tch [] w u2 := hS0.frame.fresh (hF.trans hC2) (by simpa using hbe)
      have hR1 := ((hr1.off hB1 (rowC_no HX.out.2.sl')).tch hO.tch)
      have hR2 := (((HR.out u1 hW1).2.off hB1 (rowC_no HX.out.2.sl')).tch hO.tch)
      have hX2 : RowOK u2 be xs := HX.out.2.tch (hF.trans hC2)
      rw [HKK.out, rowC_step (by rw [← HKK.out]; exact hlt) _ _ (nibs lk, lv)] at hB2
      have hSn := (St.start w).callNew hW2 hB2 hbe
      have HZ := Lib.hid (And.intro hR1 (And.intro hR2 hX2))
      clear hC hC1 hC2 hB0 hB1 hT0 hT1 hW0 hW1 hr1 hO hS hF hS0 hR1 hR2 hX2 hB2 hW2
      go_wp2
      go_roundw
      case rel =>
        refine ⟨xs ++ [((.slice sp (nibs lk).length sc, .slice q2 lv.length c2), (nibs lk, lv))], ?_, ?_, hSn, Lib.hid ⟨?_, ?_⟩⟩
        · rw [List.length_append, ← HKK.out]; go_num
        · rw [List.length_append, ← HKK.out]; exact hlt
        · rw [List.map_append, HX.out.1, List.length_append, List.length_singleton, take_snocE (by rw [← HKK.out]; simpa [entries] using hkl)]
          congr 1
          simp only [List.map_cons, List.map_nil]
          congr 1
          have e : (entries ps)[xs.length]? = some (nibT ps[k].1, ps[k].2) := by
            rw [← HKK.out]; simp [entries, hkl]
          rw [List.getD_eq_getElem?_getD, e, HP.out.1, HP.out.2]
          rfl
        · intro x hx
          rcases List.mem_append.1 hx with h | h
          · exact HZ.out.2.2 x h
          · obtain rfl := List.mem_singleton.1 h
            exact ⟨HZ.out.1, HZ.out.2.1⟩
      case measure => simp [intOf]; omega
    · obtain rfl : k = n := by omega
      have d1 : ¬ (k : Int) < (k : Int) := by omega
      have hcall := HE.out wr be xs hS.frame ((hS.own .head).resolve_right (by simp)) (hS.get .head) HKK.out.symm (by
        rw [HX.out.1, ← HKK.out, HL.out]
        have : (entries ps).length = ps.length := by simp [entries]
        rw [← this, List.take_length]) HX.out.2
      clear HX HE
      go_wp2_with (go_at_call 45; go_must (refine hcall.mono ?_; rintro e w5 ⟨rfl, hR⟩))
      exact hR
def rawS {w : World} {b : Nat} (x : EnS w b) : Cl2 := x.1
theorem rawS_all {w : World} {b : Nat} : ∀ xs : List Cl2, RowOK w b xs → ∃ l : List (EnS w b), l.map rawS = xs
  | [], _ => ⟨[], rfl⟩
  | x :: xs, h => by
    obtain ⟨l, hl⟩ := rawS_all xs fun y hy => h y (List.mem_cons_of_mem _ hy)
    exact ⟨(⟨x, h x List.mem_cons_self⟩ : EnS w b) :: l, congrArg (x :: ·) hl⟩
theorem flatS {w : World} {b : Nat} (d : Array (EnS w b)) : flatK encS' 2 d = ((d.toList.map rawS).flatMap two).toArray := by
  apply Array.ext
  · rw [size_flatK]
    show d.size * 2 = ((d.toList.map rawS).flatMap two).length
    rw [flat_len, List.length_map, Array.length_toList]
  · intro i h1 h2
    have hi : i < d.size * 2 := by simpa using h1
    have hg := get_flatK encS' 2 d i hi
    rw [getElem!_pos _ i h1] at hg
    have hq : i / 2 < d.size := by omega
    have hf := flat_get (d.toList.map rawS) (i / 2) (by simpa using hq)
    have hx : (d.toList.map rawS)[i / 2]'(by simpa using hq) = rawS (d[i / 2]'hq) := by simp
    rw [hx] at hf
    have hd : d[i / 2]! = d[i / 2]'hq := getElem!_pos d (i / 2) hq
    rw [hg, hd]
    have h3 : ((d.toList.map rawS).flatMap two)[i]? = some (((d.toList.map rawS).flatMap two).toArray[i]'h2) := by
      rw [List.getElem_toArray, List.getElem?_eq_getElem]
    rcases Nat.mod_two_eq_zero_or_one i with hr | hr
    · have e : i = i / 2 * 2 := by omega
      have := hf.1
      rw [← e, h3] at this
      rw [hr]
      exact (Option.some.inj this).symm
    · have e : i = i / 2 * 2 + 1 := by omega
      have := hf.2
      rw [← e, h3] at this
      rw [hr]
      exact (Option.some.inj this).symm
theorem rowC_full {n : Nat} {xs : List Cl2} (h : xs.length = n) : rowC n xs = (xs.flatMap two).toArray := by
  unfold rowC
  rw [h, Nat.sub_self, Nat.zero_mul, List.replicate_zero, List.append_nil]
/-- What trie.sorted answers. -/
def SortPost (ps : List En) (w : World) (e : Ending) (w' : World) : Prop :=
  Tch [] w w' ∧ ∃ (m : List En) (b : Nat), (entries ps).Perm m ∧ m.Pairwise (fun x y => ¬ lt y.1 x.1) ∧ w.heap.size ≤ b ∧ e = .returned (.slice (some ⟨b, 0, none⟩) m.length m.length) ∧
    ∃ xs : List Cl2, xs.map (·.2) = m ∧ Blk w' b 93 (xs.flatMap two).toArray ∧ RowOK w' b xs
theorem sorted_any (v : Value) (ps : List En) (w : World) (hv : PairsAt w v ps) (hn : ps.length ≤ 100000) (hk : ∀ p ∈ ps, p.1.length ≤ 64) :
    Calls Try.prog 30 #[v] w (SortPost ps w) := by
  refine sortedLoop v ps w hv hn hk _ fun wr b xs hT hb hB hxn hxe hok => ?_
  rw [rowC_full hxn] at hB
  obtain ⟨d, hd⟩ : ∃ d : Array (EnS wr b), d.toList.map rawS = xs := by
    obtain ⟨l, hl⟩ := rawS_all xs hok
    exact ⟨l.toArray, hl⟩
  have hds : d.size = ps.length := by rw [← hxn, ← hd, List.length_map, Array.length_toList]
  have hcall := sortE_any b ps.length 93 _ wr d hB (by rw [← hd]; show ((d.toList.map rawS).flatMap two).length = d.size * 2; rw [flat_len, List.length_map, Array.length_toList]) (by rw [flatS, hd]) (by omega)
  rw [hds] at hcall
  refine hcall.mono fun e w' h => ?_
  obtain ⟨he, hT2, d', hp, hs, hB2⟩ := h
  have hd's : d'.size = ps.length := by rw [hp.1, hds]
  have hperm : d'.toList.Perm d.toList := by
    have := hp.2.2
    rw [← hds] at this
    rwa [show d'.extract 0 d.size = d' from by rw [← hp.1]; simp, show d.extract 0 d.size = d from by simp] at this
  have hlen : ((d'.toList.map rawS).map (·.2)).length = ps.length := by simpa using hd's
  refine ⟨he, hT.fresh hT2 (by simpa using hb), (d'.toList.map rawS).map (·.2), b, ?_, ?_, hb, ?_, d'.toList.map rawS, rfl, ?_, ?_⟩
  · rw [← hxe, ← hd]
    exact ((hperm.map _).map _).symm
  · rw [List.pairwise_iff_getElem]
    intro i j hi hj hij
    have hi' : i < d'.size := by simpa using hi
    have hj' : j < d'.size := by simpa using hj
    have := hs i j (Nat.zero_le _) hij (by omega)
    rw [ltS, getElem!_pos d' i hi', getElem!_pos d' j hj'] at this
    have := of_decide_eq_false this
    simp only [List.getElem_map, Array.getElem_toList]
    exact this
  · rw [hlen]
  · rw [← flatS]; exact hB2
  · intro x hx
    obtain ⟨y, _, rfl⟩ := List.mem_map.1 hx
    exact ⟨y.2.1.tch hT2, y.2.2.tch hT2⟩
end Go.Proofs.Ytfdihphhmhgejaa

/- Slices of parts that are built; reslices. -/
namespace Go.Proofs.Ytfdihphhmhgejaa
open Go.RowKit

theorem build1 (p1 : Option Addr) (n1 c1 : Nat) (w : World) : (Instr.buildSlice 76 1 #[(0, .slice p1 n1 c1)]).run Try.prog w = .ok (.slice (some ⟨w.heap.size, 0, none⟩) 1 1) (w.alloc (.cells #[.slice p1 n1 c1] 22)) := by kernel_rfl
theorem build2 (p1 p2 : Option Addr) (n1 c1 n2 c2 : Nat) (w : World) : (Instr.buildSlice 76 2 #[(0, .slice p1 n1 c1), (1, .slice p2 n2 c2)]).run Try.prog w = .ok (.slice (some ⟨w.heap.size, 0, none⟩) 2 2) (w.alloc (.cells #[.slice p1 n1 c1, .slice p2 n2 c2] 22)) := by kernel_rfl
theorem build3 (p1 p2 p3 : Option Addr) (n1 c1 n2 c2 n3 c3 : Nat) (w : World) : (Instr.buildSlice 76 3 #[(0, .slice p1 n1 c1), (1, .slice p2 n2 c2), (2, .slice p3 n3 c3)]).run Try.prog w = .ok (.slice (some ⟨w.heap.size, 0, none⟩) 3 3) (w.alloc (.cells #[.slice p1 n1 c1, .slice p2 n2 c2, .slice p3 n3 c3] 22)) := by kernel_rfl
theorem sum_new2 (v1 v2 : Value) (l1 l2 : List Nat) (W : World) (h1 : RdB W v1 l1) (h2 : RdB W v2 l2) (m1 : l1.length < 1000000) (m2 : l2.length < 1000000) :
    Calls Try.prog 19 #[.slice (some ⟨W.heap.size, 0, none⟩) 2 2] (W.alloc (.cells #[v1, v2] 22)) fun e w' => e = .returned (.agg (wf (hashN (l1 ++ l2)))) ∧ Tch [] W w' := by
  have hB := Blk.new W 22 #[v1, v2]
  have hT := (Tch.refl [] W).alloc (.cells #[v1, v2] 22)
  have := sum_parts W.heap.size [l1, l2] (W.alloc (.cells #[v1, v2] 22)) (show 2 < 1000000 by decide) hB.lt (fun i hi => by
    match i, hi with
    | 0, _ => exact ⟨v1, hB.cell (j := 0) rfl, h1.tch hT (by simp), m1⟩
    | 1, _ => exact ⟨v2, hB.cell (j := 1) rfl, h2.tch hT (by simp), m2⟩) 2
  rw [show ([l1, l2] : List (List Nat)).flatten = l1 ++ l2 by simp] at this
  exact this.mono fun e w' h => ⟨h.1, hT.trans h.2⟩
theorem sum_new3 (v1 v2 v3 : Value) (l1 l2 l3 : List Nat) (W : World) (h1 : RdB W v1 l1) (h2 : RdB W v2 l2) (h3 : RdB W v3 l3) (m1 : l1.length < 1000000) (m2 : l2.length < 1000000) (m3 : l3.length < 1000000) :
    Calls Try.prog 19 #[.slice (some ⟨W.heap.size, 0, none⟩) 3 3] (W.alloc (.cells #[v1, v2, v3] 22)) fun e w' => e = .returned (.agg (wf (hashN (l1 ++ (l2 ++ l3))))) ∧ Tch [] W w' := by
  have hB := Blk.new W 22 #[v1, v2, v3]
  have hT := (Tch.refl [] W).alloc (.cells #[v1, v2, v3] 22)
  have := sum_parts W.heap.size [l1, l2, l3] (W.alloc (.cells #[v1, v2, v3] 22)) (show 3 < 1000000 by decide) hB.lt (fun i hi => by
    match i, hi with
    | 0, _ => exact ⟨v1, hB.cell (j := 0) rfl, h1.tch hT (by simp), m1⟩
    | 1, _ => exact ⟨v2, hB.cell (j := 1) rfl, h2.tch hT (by simp), m2⟩
    | 2, _ => exact ⟨v3, hB.cell (j := 2) rfl, h3.tch hT (by simp), m3⟩) 3
  rw [show ([l1, l2, l3] : List (List Nat)).flatten = l1 ++ (l2 ++ l3) by simp] at this
  exact this.mono fun e w' h => ⟨h.1, hT.trans h.2⟩
theorem slice_toP (p : Option Addr) (n c k : Nat) (hk : k ≤ n) (hc : n ≤ c) (w : World) : (Instr.sliceAt 22 (.slice p n c) none (some (.int .i64 (k : Int))) none).run Try.prog w = .ok (.slice p k c) w := by
  have hel : Try.prog.elem 22 = 5 := by kernel_rfl
  have ht : Try.prog.underlying 22 = some (.slice (Try.prog.elem 22)) := by rw [hel]; exact bytes_ty
  have e1 := run_sliceAt_slice (P := Try.prog) (w := w) 22 (.slice p n c) none (some (.int .i64 (k : Int))) none ht
  have e2 := run_slice_h (P := Try.prog) (w := w) 22 p n c ht .i64 (k : Int) (by omega) (by omega)
  rw [e1, e2, hel, sizeOf_u8]
  cases p <;> simp [Result.andThen, sliced, Addr.add]
section
variable {a : Act} {w : World} {o : Oper}
/-- A slice is built, of values that are given. -/
theorem held_build2 {P : Program} {l0 : List Oper} {Q : Exit → Act → World → Prop} {n m : Nat} {K : Act → World → Prop} {ty t : TypeId} {c : Array Value} {parts : Array (Nat × Operand)} (vals : Array (Nat × Value)) (ho : l0[n]? = some o) (hw : Region.wanted o (yielded l0.toArray a.tmps) = true)
    (hop : o.op = .buildSlice ty m parts) (hv : (parts.map fun (i, x) => (i, a.eval x)) = vals) (hr : (Instr.buildSlice ty m vals).run P w = .ok (.slice (some ⟨w.heap.size, 0, none⟩) m m) (w.alloc (.cells c t)))
    (h : K (a.put o.dst (.slice (some ⟨w.heap.size, 0, none⟩) m m)) (w.alloc (.cells c t))) : wpOp P l0.toArray Q n K a w :=
  held_build ho hw hop (by rw [hv]; exact hr) h
theorem x_to {v u n : Value} (x y : Operand) (t : TypeId) (ho : o.op = .slice t x none (some y) none) (hx : a.eval x = v) (hy : a.eval y = n) (hr : (Instr.sliceAt t v none (some n) none).run Try.prog w = .ok u w) : (execOp a.eval o).run Try.prog w = .ok (.value u) w := by
  unfold execOp; simp only [ho, hx, hy, Option.map_some, Option.map_none]; show Sem.run _ _ w = _; simp only [Sem.run_bind, hr, Result.andThen_ok]; rfl
theorem x_from {v u n : Value} (x y : Operand) (t : TypeId) (ho : o.op = .slice t x (some y) none none) (hx : a.eval x = v) (hy : a.eval y = n) (hr : (Instr.sliceAt t v (some n) none none).run Try.prog w = .ok u w) : (execOp a.eval o).run Try.prog w = .ok (.value u) w := by
  unfold execOp; simp only [ho, hx, hy, Option.map_some, Option.map_none]; show Sem.run _ _ w = _; simp only [Sem.run_bind, hr, Result.andThen_ok]; rfl
end
end Go.Proofs.Ytfdihphhmhgejaa

/- Sorted entries: whether two have one path. -/
namespace Go.Proofs.Ytfdihphhmhgejaa
open Go.RowKit Tr

theorem SortPost.pairs {ps : List En} {w w' : World} {e : Ending} (h : SortPost ps w e w') : Tch [] w w' ∧ ∃ (m : List En) (v : Value), (entries ps).Perm m ∧ m.Pairwise (fun x y => ¬ lt y.1 x.1) ∧ e = .returned v ∧ PairsAt w' v m := by
  obtain ⟨hT, m, b, hp, hs, hb, he, xs, hxm, hB, hok⟩ := h
  refine ⟨hT, m, _, hp, hs, he, _, _, rfl, Nat.le_refl _, fun _ => ⟨b, 0, rfl, hB.lt, fun i hi => ?_⟩⟩
  have hi' : i < xs.length := by rw [← hxm] at hi; simpa using hi
  have hf := flat_get xs i hi'
  have hx := hok xs[i] (List.getElem_mem hi')
  have e : m[i] = xs[i].2 := by simp only [← hxm, List.getElem_map]
  refine ⟨xs[i].1.1, xs[i].1.2, ?_, ?_, ?_, ?_⟩
  · rw [Nat.zero_add]; exact hB.cell (by rw [List.getElem?_toArray]; exact hf.1)
  · rw [Nat.zero_add]; exact hB.cell (by rw [List.getElem?_toArray]; exact hf.2)
  · rw [e]; exact hx.1.rdB
  · rw [e]; exact hx.2.rdB
section
variable {a : Act} {w : World} {o : Oper}
theorem x_idxE {b off j n c : Nat} (x y : Operand) (ho : o.op = .indexAddr 72 x y) (hx : a.eval x = .slice (some ⟨b, off, none⟩) n c) (hy : a.eval y = .int .i64 (j : Int)) (hj : j < n) : (execOp a.eval o).run Try.prog w = .ok (.value (.pointer (some ⟨b, off + j * 2, none⟩))) w := by
  have hadd : (⟨b, off, none⟩ : Addr).add (j * 2) = ⟨b, off + j * 2, none⟩ := by unfold Addr.add; split <;> simp_all
  unfold execOp
  simp [ho, hx, hy, Instr.indexAt, run_underlying entries_ty, Instr.sureAddr, asIntOf, sizeOf_one ent_size, hj, hadd]
end
theorem fa_ent0 (b o : Nat) (w : World) : (Instr.fieldAt 93 (.pointer (some ⟨b, o, none⟩)) 0).run Try.prog w = .ok (.pointer (some ⟨b, o, none⟩)) w := by kernel_rfl
theorem fa_ent1 (b o : Nat) (w : World) : (Instr.fieldAt 93 (.pointer (some ⟨b, o, none⟩)) 1).run Try.prog w = .ok (.pointer (some ⟨b, o + 1, none⟩)) w := by kernel_rfl
section
variable {o : Oper} {a : Act} {ops : Array Oper} {rest : List Oper} {C : World → Prop} {Q : Act → Prop}
theorem k_idxE {b off j n c : Nat} (hw : Region.wanted o (yielded ops a.tmps) = true) (x y : Operand) (ho : o.op = .indexAddr 72 x y) (hx : a.eval x = .slice (some ⟨b, off, none⟩) n c) (hy : a.eval y = .int .i64 (j : Int)) (hj : j < n)
    (h : KQ ops C Q rest (a.put o.dst (.pointer (some ⟨b, off + j * 2, none⟩)))) : KQ ops C Q (o :: rest) a := k_pure hw (fun _ => x_idxE x y ho hx hy hj) h
theorem k_fa {v u : Value} (hw : Region.wanted o (yielded ops a.tmps) = true) (ty : TypeId) (x : Operand) (i : Nat) (ho : o.op = .fieldAddr ty x i) (hx : a.eval x = v) (hr : ∀ w, (Instr.fieldAt ty v i).run Try.prog w = .ok u w)
    (h : KQ ops C Q rest (a.put o.dst u)) : KQ ops C Q (o :: rest) a := k_pure hw (fun w => x_fa ty x i ho hx (hr w)) h
end
/-- Have two that stand side by side one path? -/
def twB : List En → Bool
  | a :: b :: l => (a.1 == b.1) || twB (b :: l)
  | _ => false
theorem twB_unlike : ∀ l : List En, twB l = false ↔ Unlike l
  | [] => by simp [twB, Unlike]
  | [a] => by simp [twB, Unlike]
  | a :: b :: l => by
    have ih := twB_unlike (b :: l)
    simp only [twB, Unlike, Bool.or_eq_false_iff, ih]
    simp
theorem twB_at : ∀ (l : List En) (i : Nat) (h : i + 1 < l.length), l[i].1 = l[i + 1].1 → twB l = true
  | a :: b :: l, 0, _, e => by simp only [List.getElem_cons_zero, List.getElem_cons_succ] at e; simp [twB, e]
  | a :: b :: l, i + 1, h, e => by
    have := twB_at (b :: l) i (by simpa using h) (by simpa using e)
    simp [twB, this]
  | [a], _, h, _ => by simp at h
  | [], _, h, _ => by simp at h
theorem twB_none : ∀ (l : List En), (∀ i (h : i + 1 < l.length), l[i].1 ≠ l[i + 1].1) → twB l = false
  | [], _ => rfl
  | [a], _ => rfl
  | a :: b :: l, h => by
    have h0 := h 0 (by simp)
    have ih := twB_none (b :: l) fun i hi => by
      have := h (i + 1) (by simpa using hi)
      simpa using this
    simp only [List.getElem_cons_zero, List.getElem_cons_succ] at h0
    simp [twB, h0, ih]
set_option maxHeartbeats 4000000 in
set_option maxRecDepth 100000 in
theorem hasTwice_any (v : Value) (ps : List En) (w : World) (hv : PairsAt w v ps) (hn : ps.length ≤ 4611686018427387904) :
    Calls Try.prog 32 #[v] w fun e w' => e = .returned (.bool (twB ps)) ∧ Tch [] w w' := by
  obtain ⟨p, c, rfl, hc, hcells⟩ := hv
  obtain ⟨n, hnn⟩ : ∃ n, n = ps.length := ⟨_, rfl⟩
  rw [← hnn] at hc hn ⊢
  have HL := Lib.hid hnn
  have HC := Lib.hid hcells
  clear hnn hcells
  go_enter Try.func32, Try.ntmps32
  go_wp2
  go_loopw [3] (fun i wr => ∃ k : Nat, i = .int .i64 ((k + 1 : Nat) : Int) ∧ (k + 1 ≤ n ∨ k = 0) ∧ Tch [] w wr ∧ Hid (∀ j (h : j + 1 < ps.length), j < k → ps[j].1 ≠ ps[j + 1].1)) (fun i _ => n - (intOf i).toNat)
  case atStart => exact ⟨0, rfl, .inr rfl, Tch.refl _ _, Lib.hid (fun j _ h => by omega)⟩
  case round =>
    obtain ⟨k, rfl, hk, hT, HE⟩ := hrel
    by_cases hlt : k + 1 < n
    · have d1 : (((k + 1 : Nat) : Int)) < (n : Int) := by omega
      have hkl : k + 1 < ps.length := by have := HL.out; omega
      obtain ⟨b, o, rfl, hbw, hcs⟩ := HC.out (by intro e; subst e; simp at hkl)
      obtain ⟨kv, vv, g0, _, hkv, _⟩ := hcs k (by omega)
      obtain ⟨kv2, vv2, g02, _, hkv2, _⟩ := hcs (k + 1) hkl
      obtain ⟨q1, c1, rfl⟩ := hkv.shape'
      obtain ⟨q2, c2, rfl⟩ := hkv2.shape'
      have HC0 := Lib.hid ((hT.cell (p := ⟨b, o + k * 2, none⟩) hbw (by simp)).trans g0)
      have HC1 := Lib.hid ((hT.cell (p := ⟨b, o + (k + 1) * 2, none⟩) hbw (by simp)).trans g02)
      have HBW := Lib.hid (Nat.lt_of_lt_of_le hbw hT.size)
      have HEQ := Lib.hid (fun (w1 : World) (hT1 : Tch [] wr w1) => equal_any _ _ ps[k].1 ps[k + 1].1 w1 ((hkv.tch hT (by simp)).tch hT1 (by simp)) ((hkv2.tch hT (by simp)).tch hT1 (by simp)))
      have HJ := Lib.hid (And.intro (show k < n by omega) hlt)
      have HW1 := Lib.hid (show IntKind.i64.wrap (((k + 1 : Nat) : Int) - 1) = ((k : Nat) : Int) by rw [IntWalk.i64_in _ (by omega)]; omega)
      have HT := Lib.hid hT
      have HYES := Lib.hid (fun h => twB_at ps k hkl h)
      have HNO := Lib.hid (fun (h : ps[k].1 ≠ ps[k + 1].1) => fun j (hj : j + 1 < ps.length) (hjk : j < k + 1) => by
        rcases Nat.lt_succ_iff_lt_or_eq.1 hjk with h1 | h1
        · exact HE.out j hj h1
        · subst h1; exact h)
      have HN := Lib.hid hlt
      have HN2 := Lib.hid hn
      clear hcs g0 g02 hkv hkv2 hT hk hlt hn
      go_upto_region 4 with fail
      refine k_region (C := fun w' => Tch [] wr w') (by kernel_rfl) (by kernel_rfl) ((Tch.refl _ _).drew) ?_
      refine k_slice rfl _ rfl rfl ?_; try simp only [Act.put, List.setIfInBounds_toArray, List.set_cons_zero, List.set_cons_succ]
      refine k_intm rfl _ rfl rfl ?_; try simp only [Act.put, List.setIfInBounds_toArray, List.set_cons_zero, List.set_cons_succ]
      refine k_sub (s := ((k : Nat) : Int)) rfl _ _ _ _ rfl rfl rfl HW1.out ?_; try simp only [Act.put, List.setIfInBounds_toArray, List.set_cons_zero, List.set_cons_succ]
      refine k_idxE (j := k) rfl _ _ rfl rfl rfl HJ.out.1 ?_; try simp only [Act.put, List.setIfInBounds_toArray, List.set_cons_zero, List.set_cons_succ]
      refine k_fa rfl _ _ _ rfl rfl (fa_ent0 _ _) ?_; try simp only [Act.put, List.setIfInBounds_toArray, List.set_cons_zero, List.set_cons_succ]
      refine k_cellC rfl _ _ rfl rfl (fun w' h => (h.cell (p := ⟨b, o + k * 2, none⟩) HBW.out (by simp)).trans HC0.out) bytes_agg ?_; try simp only [Act.put, List.setIfInBounds_toArray, List.set_cons_zero, List.set_cons_succ]
      refine k_slice rfl _ rfl rfl ?_; try simp only [Act.put, List.setIfInBounds_toArray, List.set_cons_zero, List.set_cons_succ]
      refine k_intm rfl _ rfl rfl ?_; try simp only [Act.put, List.setIfInBounds_toArray, List.set_cons_zero, List.set_cons_succ]
      refine k_idxE (j := k + 1) rfl _ _ rfl rfl rfl HJ.out.2 ?_; try simp only [Act.put, List.setIfInBounds_toArray, List.set_cons_zero, List.set_cons_succ]
      refine k_fa rfl _ _ _ rfl rfl (fa_ent0 _ _) ?_; try simp only [Act.put, List.setIfInBounds_toArray, List.set_cons_zero, List.set_cons_succ]
      refine k_cellC rfl _ _ rfl rfl (fun w' h => (h.cell (p := ⟨b, o + (k + 1) * 2, none⟩) HBW.out (by simp)).trans HC1.out) bytes_agg ?_; try simp only [Act.put, List.setIfInBounds_toArray, List.set_cons_zero, List.set_cons_succ]
      refine k_callC2 (v := .bool (ps[k].1 == ps[k + 1].1)) rfl rfl rfl rfl Try.call49 (fun w' h => (HEQ.out w' h).mono fun e w'' h2 => ⟨h2.1, h.trans h2.2⟩) ?_; try simp only [Act.put, List.setIfInBounds_toArray, List.set_cons_zero, List.set_cons_succ]
      refine k_end ?_
      intro w3 hT3
      have hT4 := HT.out.trans hT3
      cases hx : (ps[k].1 == ps[k + 1].1) with
      | true =>
        have HR := Lib.hid (HYES.out (by simpa using hx))
        clear hx HNO HYES HEQ HC0 HC1
        go_wp2
        go_ret
        exact ⟨by rw [HR.out]; rfl, hT4⟩
      | false =>
        have HR := Lib.hid (HNO.out (by simpa using hx))
        clear hx HNO HYES HEQ HC0 HC1
        have hlt := HN.out
        have hn := HN2.out
        go_wp2
        go_roundw
        case rel => exact ⟨k + 1, by go_num, .inl (by omega), hT4, HR⟩
        case measure => simp [intOf]; omega
    · have hR := Lib.hid (twB_none ps (fun j hj => HE.out j hj (by have := HL.out; omega)))
      have d1 : ¬ (((k + 1 : Nat) : Int)) < (n : Int) := by omega
      clear HE HC
      go_wp2
      go_ret
      exact ⟨by rw [hR.out]; rfl, hT⟩
end Go.Proofs.Ytfdihphhmhgejaa
