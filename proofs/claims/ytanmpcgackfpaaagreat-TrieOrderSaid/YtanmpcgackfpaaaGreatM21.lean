/- The sort's closure; what the sort of entries leaves. -/
import Derived.Test.YtanmpcgackfpaaaGreatM01
import Derived.Test.YtanmpcgackfpaaaGreatM16
import Derived.Test.YtanmpcgackfpaaaGreatM19
import Derived.Test.YtanmpcgackfpaaaGreatM20
import Derived.Shelf.SlSortCmp.WholeK
import Derived.MapKept
import Derived.Deep.RegionHeld3
set_option linter.unusedVariables false
set_option linter.unusedSimpArgs false
namespace Go.Proofs.YtanmpcgackfpaaaGreat
section
open Go.RowKit Tr
open Go.Sort (grow alloc_eq_grow grow_grow putRow putCells HoldsK Holds flatK mapBlock SWO PermIn SortedIn size_flatK get_flatK)
open Go.Proofs (sortWorldK)
theorem sortE1_any (p1 v1 p2 v2 : Value) (l1 l2 m1 m2 : List Nat) (W : World) (h1 : RdB W p1 l1) (h2 : RdB W p2 l2) (g1 : RdB W v1 m1) (g2 : RdB W v2 m2) :
    Calls Tryz.prog 74 #[.agg #[p1, v1], .agg #[p2, v2]] W fun e w' => e = .returned (.int .i64 (cmpN l1 l2)) ∧ ∃ q os', w' = grow (W.drewN q) os' := by
  have hc := hQz (fun (w1 : World) (hT : Tch [] W w1) => compare_any p1 p2 l1 l2 w1 (h1.tch hT (by simp)) (h2.tch hT (by simp)))
  obtain ⟨q1, c1, rfl⟩ := h1.shape'
  obtain ⟨q2, c2, rfl⟩ := h2.shape'
  obtain ⟨r1, d1, rfl⟩ := g1.shape'
  obtain ⟨r2, d2, rfl⟩ := g2.shape'
  generalize cmpN l1 l2 = r at hc ⊢
  clear h1 h2 g1 g2
  go_enter Tryz.func74, Tryz.ntmps74
  go_wp2_with (go_at_call 29; refine (hc.out _ (((Tch.refl _ _).alloc _).alloc _)).mono ?_; rintro e w' ⟨rfl, rfl⟩)
  go_ret
  exact ⟨rfl, 0, _, by rw [alloc_eq_grow, alloc_eq_grow, grow_grow]; rfl⟩
def EnS (w : World) (b : Nat) : Type := { x : (Value × Value) × En // RdA [b] w x.1.1 x.2.1 ∧ RdA [b] w x.1.2 x.2.2 }
instance (w : World) (b : Nat) : Inhabited (EnS w b) := ⟨⟨((.slice none 0 0, .slice none 0 0), ([], [])), (RdB.nil w).rdA' _, (RdB.nil w).rdA' _⟩⟩
def encS' {w : World} {b : Nat} (x : EnS w b) : List Value := [x.1.1.1, x.1.1.2]
def cfS {w : World} {b : Nat} (x y : EnS w b) : Int := cmpN x.1.2.1 y.1.2.1
theorem ltS {w : World} {b : Nat} (x y : EnS w b) : Go.Proofs.ltOf cfS x y = decide (lt x.1.2.1 y.1.2.1) := by
  unfold Go.Proofs.ltOf cfS
  by_cases h : lt x.1.2.1 y.1.2.1
  · rw [decide_eq_true h, decide_eq_true (cmp_neg.2 h)]
  · rw [decide_eq_false h, decide_eq_false (fun q => h (cmp_neg.1 q))]
theorem swoS (w : World) (b : Nat) : SWO (Go.Proofs.ltOf (cfS (w := w) (b := b))) where
  irrefl x := by rw [ltS]; exact decide_eq_false (lt_irrefl _)
  trans x y z h1 h2 := by
    rw [ltS] at *
    exact decide_eq_true (lt_trans (of_decide_eq_true h1) (of_decide_eq_true h2))
  ntrans x y z h1 h2 := by
    rw [ltS] at *
    exact decide_eq_false (not_lt_trans (of_decide_eq_false h1) (of_decide_eq_false h2))
theorem mapBlock_other (w : World) (b : Nat) (f : Array Value → Array Value) (k : Nat) (hk : k ≠ b) : (mapBlock w b f).heap[k]? = w.heap[k]? := by
  unfold mapBlock
  simp [Array.getElem?_modify, Ne.symm hk]
theorem sortW_tch {α : Type} [Inhabited α] (enc : α → List Value) (k : Nat) (w : World) (b off m : Nat) (d : Array α) (os : Array Obj) : Tch [b] w (sortWorldK enc k w b off m d os) := by
  have hsz : (mapBlock (Go.Sort.ahead w m) b (putCells id off (flatK enc k d))).heap.size = w.heap.size := by unfold mapBlock; simp [Go.Sort.ahead]
  refine ⟨rfl, rfl, rfl, ?_, fun j hj hb => ?_⟩
  · show w.heap.size ≤ ((mapBlock (Go.Sort.ahead w m) b (putCells id off (flatK enc k d))).heap ++ os).size
    rw [Array.size_append, hsz]; omega
  · show ((mapBlock (Go.Sort.ahead w m) b (putCells id off (flatK enc k d))).heap ++ os)[j]? = _
    rw [Array.getElem?_append_left (by rw [hsz]; exact hj), mapBlock_other _ _ _ _ (by simpa using hb)]
    rfl
theorem sortW_blk {α : Type} [Inhabited α] (enc : α → List Value) (k : Nat) {w : World} {b m : Nat} {t : TypeId} {c : Array Value} {d : Array α} {os : Array Obj} (hB : Blk w b t c) (hs : c.size = d.size * k) : Blk (sortWorldK enc k w b 0 m d os) b t (flatK enc k d) := by
  have hsz : (mapBlock (Go.Sort.ahead w m) b (putCells id 0 (flatK enc k d))).heap.size = w.heap.size := by unfold mapBlock; simp [Go.Sort.ahead]
  have hcells : putCells id 0 (flatK enc k d) c = flatK enc k d := by
    apply Array.ext
    · simp [putCells, hs]
    · intro i h1 h2
      have hi : i < d.size * k := by simpa using h2
      simp only [putCells, Array.getElem_mapIdx, id, Nat.sub_zero, Nat.zero_le, true_and, Nat.zero_add, size_flatK, if_pos hi]
      rw [getElem!_pos _ i h2]
  unfold Blk
  show ((mapBlock (Go.Sort.ahead w m) b (putCells id 0 (flatK enc k d))).heap ++ os)[b]? = _
  rw [Array.getElem?_append_left (by rw [hsz]; exact hB.lt)]
  unfold mapBlock
  unfold Blk at hB
  simp only [Go.Sort.ahead, Array.getElem?_modify, if_true]
  rw [hB]
  simp [hcells, Go.Sort.onCells]
theorem cmpLaysS (w : World) (b off size : Nat) : Go.Proofs.CmpLays Tryz.prog 74 #[] (encS' (w := w) (b := b)) 2 cfS b off size w := by
  intro m os dk _ x y
  have hT := sortW_tch (encS' (w := w) (b := b)) 2 w b off m dk os
  exact sortE1_any x.1.1.1 x.1.1.2 y.1.1.1 y.1.1.2 x.1.2.1 y.1.2.1 x.1.2.2 y.1.2.2 _ (x.2.1.tch hT).rdB (y.2.1.tch hT).rdB (x.2.2.tch hT).rdB (y.2.2.tch hT).rdB
theorem ent_agg (w : World) : (isAgg 137).run Tryz.prog w = .ok true w := by kernel_rfl
theorem ent_sizeOf (w : World) : (Go.sizeOf 137).run Tryz.prog w = .ok 2 w := by kernel_rfl
theorem rdA_one {X : List Nat} {w : World} {v : Value} {l : List Nat} (h : RdA X w v l) : v.oneCell' = true := by
  obtain ⟨p, c, rfl, _⟩ := h
  rfl
theorem sortE_any (b cap : Nat) (t : TypeId) (c : Array Value) (w : World) (d : Array (EnS w b)) (hB : Blk w b t c) (hs : c.size = d.size * 2) (hc : c = flatK encS' 2 d) (hn : d.size < 4611686018427387904) :
    Calls Tryz.prog 73 #[.slice (some ⟨b, 0, none⟩) d.size cap, .func (.func 74) #[] #[]] w fun e w' => e = .returned (.tuple #[]) ∧ Tch [b] w w' ∧ ∃ d' : Array (EnS w b), PermIn 0 d.size d d' ∧ SortedIn (Go.Proofs.ltOf cfS) 0 d.size d' ∧ Blk w' b t (flatK encS' 2 d') := by
  have eg : ∀ args w, (callFunc 74 args).run Tryz.prog w = .ok (.enter 74 args) w := enters_of Tryz.func74 (by kernel_rfl) rfl
  have hcon := AnyQ.slices_SortFunc Tryz.sortEn 2 ent_agg ent_sizeOf (encS' (w := w) (b := b)) (fun _ => rfl) (fun x v hv => by
    simp only [encS', List.mem_cons, List.not_mem_nil, or_false] at hv
    rcases hv with rfl | rfl
    · exact rdA_one x.2.1
    · exact rdA_one x.2.2) cfS (swoS w b) 74 #[] b 0 cap d w eg (cmpLaysS w b 0 d.size) (fun j hj => by
      have hj' : j < d.size * 2 := by simpa using hj
      refine ⟨?_, hB.free _⟩
      rw [Nat.zero_add]
      subst hc
      rw [hB.cell (v := (flatK encS' 2 d)[j]!) (by rw [getElem!_pos _ j hj]; exact Array.getElem?_eq_getElem hj)]
      rfl) hB.lt hn
  change Calls Tryz.prog 73 _ _ _ at hcon
  refine hcon.mono fun e w' h => ?_
  obtain ⟨he, d', n, os, hp, hso, rfl⟩ := h
  exact ⟨he, sortW_tch _ _ _ _ _ _ _ _, d', hp, hso, sortW_blk _ _ hB (by rw [hs, hp.1])⟩
end
section
open Go.RowKit
section
variable {P : Program} {ops : Array Oper} {rest : List Oper} {o : Oper} {a : Act} {bs : List Nat} {w0 w : World} {Q : Exit → Act → World → Prop} {L L' : List Ent} {b : Nat} {t : TypeId} {c : Array Value}
theorem st_storeV {v : Value} {j : Nat} (hS : St bs w0 w L) (hgd : o.guard = none) (ty : TypeId) (x y : Operand) (ho : o.op = .store ty x y) (hx : a.eval x = .pointer (some ⟨b, j, none⟩)) (hy : a.eval y = v) (hv : v.oneCell' = true) (hi : (P.info? ty).map (·.size) = some 1)
    (m : Upd L b t c (c.setIfInBounds j v) L') (hj : j < c.size)
    (h : ∀ w', St bs w0 w' L' → Only b w w' → wpList P ops Q rest (a.put o.dst undef) w') : wpList P ops Q (o :: rest) a w :=
  arm_store1 hgd ty x y ho hx hy hv hi (hS.get m.at_) hj fun w' hB hO => h w' (hS.upd m hO hB) hO
end
theorem qa9 (w : World) : (isAgg 23).run Tryz.prog w = .ok false w := by kernel_rfl
theorem build_word0 (w : World) : (Instr.build 32 #[]).run Tryz.prog w = .ok (.agg (wf fun _ => 0)) w := by
  rw [show (wf fun _ => 0) = wf (fun _ => 0) from rfl, wf_zeros]; kernel_rfl
section
variable {o : Oper} {a : Act} {ops : Array Oper} {rest : List Oper} {C : World → Prop} {Q : Act → Prop}
end
end
section
open Go.RowKit
section
variable {a : Act} {w : World} {o : Oper}
theorem x_fa {v u : Value} (ty : TypeId) (x : Operand) (i : Nat) (ho : o.op = .fieldAddr ty x i) (hx : a.eval x = v) (hr : (Instr.fieldAt ty v i).run Tryz.prog w = .ok u w) : (execOp a.eval o).run Tryz.prog w = .ok (.value u) w := by
  unfold execOp; simp only [ho, hx, Sem.run_bind, hr, Result.andThen_ok, Sem.run_pure]
end
theorem RdB.shape {w : World} {v : Value} {l : List Nat} (h : RdB w v l) : ∃ p c, v = .slice p l.length c := ⟨_, _, h.choose_spec.choose_spec.1⟩
theorem RdB.rdA0 {w : World} {v : Value} {l : List Nat} (h : RdB w v l) : RdA [] w v l := h.rdA (by simp)
theorem RdB.off {w : World} {v : Value} {l : List Nat} {b : Nat} {t : TypeId} {c : Array Value} (h : RdB w v l) (hB : Blk w b t c) (hc : ∀ (j : Nat) (x : Int), c[j]? ≠ some (.int .u8 x)) : RdA [b] w v l := by
  obtain ⟨p, cc, h1, h2, h3, h4⟩ := h
  refine ⟨p, cc, h1, h2, h3, fun hl => ?_⟩
  obtain ⟨b', o, h5, h6, h7⟩ := h4 hl
  refine ⟨b', o, h5, h6, fun hm => ?_, h7⟩
  obtain rfl : b' = b := by simpa using hm
  have hx := h7 0 (List.length_pos_iff.2 hl)
  unfold Blk at hB
  rw [Lib.cell_of_heap hB] at hx
  exact hc _ _ hx
theorem Only.tch {b : Nat} {w w' : World} (h : Only b w w') : Tch [b] w w' := (Tch.refl _ _).only h (.inr (by simp))
theorem Split_rd (v : Value) (l : List Nat) (w : World) (hm : l.length ≤ 1000000) (hv : RdB w v l) :
    Calls Tryz.prog 72 #[v] w fun e w' => Tch [] w w' ∧ ∃ p c, e = .returned (.slice p (nibs l).length c) ∧ RdB w' (.slice p (nibs l).length c) (nibs l) :=
  (Split_any v l w hm hv.rdA0).mono fun e w' h => by
    obtain ⟨v', he, hT, hr⟩ := h
    have := hr.rdB
    obtain ⟨p', c', hs⟩ := this.shape
    subst hs
    exact ⟨hT, _, _, he, this⟩
end
section
open Go.RowKit Tr
open Go.Sort (PermIn SortedIn flatK size_flatK get_flatK)
abbrev Cl2 := (Value × Value) × En
def two (x : Cl2) : List Value := [x.1.1, x.1.2]
def rowC (n : Nat) (xs : List Cl2) : Array Value := (xs.flatMap two ++ List.replicate ((n - xs.length) * 2) (Value.slice none 0 0)).toArray
theorem flat_len : ∀ xs : List Cl2, (xs.flatMap two).length = xs.length * 2
  | [] => rfl
  | x :: xs => by rw [List.flatMap_cons, List.length_append, flat_len xs, List.length_cons]; simp [two]; omega
theorem flat_get : ∀ (xs : List Cl2) (i : Nat) (h : i < xs.length), (xs.flatMap two)[i * 2]? = some xs[i].1.1 ∧ (xs.flatMap two)[i * 2 + 1]? = some xs[i].1.2
  | [], i, h => by simp at h
  | x :: xs, 0, _ => by simp [two]
  | x :: xs, i + 1, h => by
    have ih := flat_get xs i (by simpa using h)
    rw [List.flatMap_cons, show (i + 1) * 2 = i * 2 + 2 by omega]
    have e : two x = [x.1.1, x.1.2] := rfl
    rw [e]
    simpa using ih
theorem rowC_size {n : Nat} {xs : List Cl2} (h : xs.length ≤ n) : (rowC n xs).size = n * 2 := by
  simp only [rowC, List.size_toArray, List.length_append, flat_len, List.length_replicate]
  omega
theorem rowC_step {n : Nat} {xs : List Cl2} (h : xs.length < n) (a b : Value) (e : En) : ((rowC n xs).setIfInBounds (xs.length * 2) a).setIfInBounds (xs.length * 2 + 1) b = rowC n (xs ++ [((a, b), e)]) := by
  obtain ⟨m, hm⟩ : ∃ m, n - xs.length = m + 1 := ⟨n - xs.length - 1, by omega⟩
  have hm2 : n - (xs ++ [((a, b), e)]).length = m := by simp; omega
  unfold rowC
  rw [hm, hm2, List.flatMap_append, List.setIfInBounds_toArray, List.setIfInBounds_toArray, ← flat_len xs]
  rw [show (m + 1) * 2 = m * 2 + 1 + 1 by omega, List.replicate_succ, List.replicate_succ]
  congr 1
  rw [List.set_append_right _ _ (Nat.le_refl _), Nat.sub_self, List.set_cons_zero, List.set_append_right _ _ (by omega), show (xs.flatMap two).length + 1 - (xs.flatMap two).length = 1 by omega, List.set_cons_succ, List.set_cons_zero]
  simp [two]
theorem rowC_no {n : Nat} {xs : List Cl2} (hx : ∀ x ∈ xs, (∃ p k c, x.1.1 = .slice p k c) ∧ ∃ p k c, x.1.2 = .slice p k c) : ∀ (j : Nat) (z : Int), (rowC n xs)[j]? ≠ some (.int .u8 z) := by
  intro j z h
  have hm : Value.int .u8 z ∈ (xs.flatMap two ++ List.replicate ((n - xs.length) * 2) (Value.slice none 0 0)) := by
    have := List.mem_of_getElem? (by simpa [rowC] using h : (xs.flatMap two ++ List.replicate ((n - xs.length) * 2) (Value.slice none 0 0))[j]? = some (.int .u8 z))
    exact this
  rw [List.mem_append] at hm
  rcases hm with hm | hm
  · obtain ⟨x, hxm, hv⟩ := List.mem_flatMap.1 hm
    obtain ⟨⟨p, k, c, h1⟩, ⟨q, m, d, h2⟩⟩ := hx x hxm
    simp only [two, List.mem_cons, List.not_mem_nil, or_false] at hv
    rcases hv with hv | hv
    · rw [h1] at hv; cases hv
    · rw [h2] at hv; cases hv
  · have := (List.mem_replicate.1 hm).2
    cases this
theorem made_two (n : Nat) : madeCells (Value.agg #[.slice none 0 0, .slice none 0 0]).cells (n * 2) = rowC n [] := by
  have h : rowC n [] = Array.replicate (n * 2) (Value.slice none 0 0) := by simp [rowC]
  rw [h]
  unfold madeCells
  apply Array.ext
  · simp [Value.cells]
  · intro i h1 h2
    simp only [Value.cells, Array.getElem_replicate]
    have : i % 2 = 0 ∨ i % 2 = 1 := by omega
    rcases this with q | q <;> simp [q]
theorem st_makeE {ops : Array Oper} {rest : List Oper} {o : Oper} {a : Act} {bs : List Nat} {w0 w : World} {Q : Exit → Act → World → Prop} {L : List Ent} (n : Nat) (hS : St bs w0 w L) (hgd : o.guard = none) (x y : Operand) (ho : o.op = .makeSlice 103 x y) (hx : a.eval x = .int .i64 (n : Int)) (hy : a.eval y = .int .i64 (n : Int)) (hn : n ≤ 100000)
    (h : ∀ w' b, St bs w0 w' ((b, 137, rowC n []) :: L) → wpList Tryz.prog ops Q rest (a.put o.dst (.slice (some ⟨b, 0, none⟩) n n)) w') : wpList Tryz.prog ops Q (o :: rest) a w :=
  wpList_plain hgd fun K hK => by
    obtain ⟨i, hi, hz, hs, hb⟩ := info_parts entry_info
    have hr := run_makeSlice (P := Tryz.prog) w 103 137 i _ entries_ty hi hz .i64 .i64 n n (by omega) (by omega) (by rw [hs]; simp; omega) (by rw [hb]; omega) (by omega)
    rw [hs, Int.toNat_natCast, made_two] at hr
    unfold Oper.wp execOp
    simp only [ho, hx, hy, Sem.run_bind, hr, Result.andThen_ok, Sem.run_pure]
    exact hK _ _ (h _ _ (hS.new 137 _))
theorem ent_size : (Tryz.prog.info? 137).map (·.size) = some 2 := by kernel_rfl
theorem store2_run {w : World} {b j : Nat} {t : TypeId} {c : Array Value} {x y : Value} (hB : Blk w b t c) (hj : j + 1 < c.size) (hx : x.oneCell' = true) (hy : y.oneCell' = true) :
    (Instr.storeAt 137 (.pointer (some ⟨b, j, none⟩)) (.agg #[x, y])).run Tryz.prog w = .ok () ((w.setCell ⟨b, j, none⟩ x).setCell ⟨b, j + 1, none⟩ y) := by
  cases hq : Tryz.prog.info? 137 with
  | none => have := ent_size; simp [hq] at this
  | some i =>
    have hs : i.size = 2 := by have := ent_size; simpa [hq] using this
    have hj1 : j < c.size := by omega
    have hcell : w.cell? ⟨b, j, none⟩ = some (c[j]'hj1) := hB.cell (Array.getElem?_eq_getElem hj1)
    have hB2 := hB.set j x
    have hj2 : j + 1 < (c.setIfInBounds j x).size := by rw [Array.size_setIfInBounds]; exact hj
    have hcell2 : (w.setCell ⟨b, j, none⟩ x).cell? ⟨b, j + 1, none⟩ = some ((c.setIfInBounds j x)[j + 1]'hj2) := hB2.cell (Array.getElem?_eq_getElem hj2)
    have hf1 := hB.free j
    have hf2 := hB2.free (j + 1)
    have hr1 := run_store Tryz.prog w ⟨b, j, none⟩ x .plain hx
    have hr2 := run_store Tryz.prog (w.setCell ⟨b, j, none⟩ x) ⟨b, j + 1, none⟩ y .plain hy
    have hadd : (⟨b, j, none⟩ : Addr).add 1 = ⟨b, j + 1, none⟩ := rfl
    have hadd0 : (⟨b, j, none⟩ : Addr).add 0 = ⟨b, j, none⟩ := rfl
    generalize c[j]'hj1 = z1 at hcell
    generalize (c.setIfInBounds j x)[j + 1]'hj2 = z2 at hcell2
    generalize w.setCell ⟨b, j, none⟩ x = w2 at *
    simp [Instr.storeAt, Instr.sureAddr, storeVar, sizeOf, typeInfo, hq, Value.cells, hs, storeCells, hadd0, hadd, hr1, hcell, hf1, hr2, hcell2, hf2]
section
variable {a : Act} {w : World} {o : Oper} {Q : Exit → Act → World → Prop}
theorem held_store2 {l0 : List Oper} {n : Nat} {K : Act → World → Prop} {b j : Nat} {t : TypeId} {c : Array Value} {x y : Value} {xo yo : Operand} (hB : Blk w b t c) (hj : j + 1 < c.size) (h1 : x.oneCell' = true) (h2 : y.oneCell' = true)
    (ho : l0[n]? = some o) (hw : Region.wanted o (yielded l0.toArray a.tmps) = true) (hop : o.op = .store 137 xo yo) (hx : a.eval xo = .pointer (some ⟨b, j, none⟩)) (hy : a.eval yo = .agg #[x, y])
    (h : ∀ w', Only b w w' → Blk w' b t ((c.setIfInBounds j x).setIfInBounds (j + 1) y) → K (a.put o.dst undef) w') : wpOp Tryz.prog l0.toArray Q n K a w := by
  have ho' : l0.toArray[n]? = some o := by rw [List.getElem?_toArray]; exact ho
  have hr := store2_run hB hj h1 h2
  unfold wpOp
  simp only [ho', hw, if_true]
  refine .inl ?_
  unfold Oper.wp execOp
  simp only [hop, hx, hy, Sem.run_bind, hr, Result.andThen_ok, Sem.run_pure]
  exact h _ ((Only.setCell w ⟨b, j, none⟩ x).trans (Only.setCell (w.setCell ⟨b, j, none⟩ x) ⟨b, j + 1, none⟩ y)) ((hB.set j x).set (j + 1) y)
theorem x_idx2 {b j n c : Nat} (x y : Operand) (ho : o.op = .indexAddr 103 x y) (hx : a.eval x = .slice (some ⟨b, 0, none⟩) n c) (hy : a.eval y = .int .i64 (j : Int)) (hj : j < n) : (execOp a.eval o).run Tryz.prog w = .ok (.value (.pointer (some ⟨b, j * 2, none⟩))) w := by
  have hadd : (⟨b, 0, none⟩ : Addr).add (j * 2) = ⟨b, j * 2, none⟩ := by unfold Addr.add; split <;> simp_all
  unfold execOp
  simp [ho, hx, hy, Instr.indexAt, run_underlying entries_ty, Instr.sureAddr, asIntOf, qe1 ent_size, hj, hadd]
theorem x_build2 {v1 v2 : Value} (ho : ∃ x1 x2, o.op = .build 137 #[(0, x1), (1, x2)] ∧ a.eval x1 = v1 ∧ a.eval x2 = v2) (hr : (Instr.build 137 #[(0, v1), (1, v2)]).run Tryz.prog w = .ok (.agg #[v1, v2]) w) : (execOp a.eval o).run Tryz.prog w = .ok (.value (.agg #[v1, v2])) w := by
  obtain ⟨x1, x2, ho, h1, h2⟩ := ho
  unfold execOp
  simp only [ho, List.map_toArray, List.map_cons, List.map_nil, h1, h2, Sem.run_bind, hr, Result.andThen_ok, Sem.run_pure]
end
theorem build_ent (p q : Option Addr) (n c m d : Nat) (w : World) : (Instr.build 137 #[(0, .slice p n c), (1, .slice q m d)]).run Tryz.prog w = .ok (.agg #[.slice p n c, .slice q m d]) w := by kernel_rfl
theorem fa_pair0 (b : Nat) (w : World) : (Instr.fieldAt 28 (.pointer (some ⟨b, 0, none⟩)) 0).run Tryz.prog w = .ok (.pointer (some ⟨b, 0, none⟩)) w := by kernel_rfl
theorem fa_pair1 (b : Nat) (w : World) : (Instr.fieldAt 28 (.pointer (some ⟨b, 0, none⟩)) 1).run Tryz.prog w = .ok (.pointer (some ⟨b, 1, none⟩)) w := by kernel_rfl
theorem kvpair_zero : (Tryz.prog.info? 28).bind (·.zero) = some (.agg #[.slice none 0 0, .slice none 0 0]) := by kernel_rfl
theorem slices_one (p q : Option Addr) (n c m d : Nat) : (#[Value.slice p n c, .slice q m d]).all (·.oneCell') = true := by simp [Value.oneCell']
def RowOK (w : World) (b : Nat) (xs : List Cl2) : Prop := ∀ x ∈ xs, RdA [b] w x.1.1 x.2.1 ∧ RdA [b] w x.1.2 x.2.2
theorem RowOK.tch {w w' : World} {b : Nat} {xs : List Cl2} (h : RowOK w b xs) (hT : Tch [b] w w') : RowOK w' b xs := fun x hx => ⟨(h x hx).1.tch hT, (h x hx).2.tch hT⟩
theorem RowOK.sl {w : World} {b : Nat} {xs : List Cl2} (h : RowOK w b xs) : ∀ x ∈ xs, (∃ p k c, x.1.1 = .slice p k c) ∧ ∃ p k c, x.1.2 = .slice p k c := fun x hx => ⟨qb3 (h x hx).1, qb3 (h x hx).2⟩
theorem take_snocE {l : List En} {k : Nat} (h : k < l.length) : l.take (k + 1) = l.take k ++ [l.getD k ([], [])] := by
  rw [List.take_succ_eq_append_getElem h]; simp [h]
theorem RowOK.sl' {w : World} {b : Nat} {xs : List Cl2} (h : RowOK w b xs) : ∀ x ∈ xs, (∃ p k c, x.1.1 = .slice p k c) ∧ ∃ p k c, x.1.2 = .slice p k c := h.sl
set_option maxHeartbeats 4000000 in
set_option maxRecDepth 100000 in
theorem sortedLoop (v : Value) (ps : List En) (w : World) (hv : PairsAt w v ps) (hn : ps.length ≤ 100000) (hk : ∀ p ∈ ps, p.1.length ≤ 64)
    (R : Ending → World → Prop)
    (hend : ∀ (wr : World) (b : Nat) (xs : List Cl2), Tch [] w wr → w.heap.size ≤ b → Blk wr b 137 (rowC ps.length xs) → xs.length = ps.length → xs.map (·.2) = entries ps → RowOK wr b xs →
      Calls Tryz.prog 73 #[.slice (some ⟨b, 0, none⟩) ps.length ps.length, .func (.func 74) #[] #[]] wr fun e w' => e = .returned (.tuple #[]) ∧ R (.returned (.slice (some ⟨b, 0, none⟩) ps.length ps.length)) w') :
    Calls Tryz.prog 43 #[v] w R := by
  have hS := St.start w
  obtain ⟨p, c, rfl, hc, hcells⟩ := hv
  obtain ⟨n, hnn⟩ : ∃ n, n = ps.length := ⟨_, rfl⟩
  rw [← hnn] at hc hn hend ⊢
  have HL := hQz hnn
  have HC := hQz hcells
  have HE := hQz hend
  have HK := hQz hk
  clear hnn hcells hend hk
  go_enter Tryz.func43, Tryz.ntmps43
  go_wp2_with (refine st_makeE n hS rfl _ _ rfl rfl rfl hn ?_; clear hS; intro w1 be hS)
  go_loopw [11] (fun i wr => ∃ xs : List Cl2, i = .int .i64 (xs.length : Int) ∧ xs.length ≤ n ∧ St [] w wr [(be, 137, rowC n xs)] ∧ Hid (xs.map (·.2) = (entries ps).take xs.length ∧ RowOK wr be xs)) (fun i _ => n - (intOf i).toNat)
  case atStart => exact ⟨[], rfl, Nat.zero_le _, hS, hQz ⟨rfl, fun x hx => by simp at hx⟩⟩
  case round =>
    clear hS
    obtain ⟨xs, rfl, hxn, hS, HX⟩ := hrel
    obtain ⟨k, hkk⟩ : ∃ k, k = xs.length := ⟨_, rfl⟩
    rw [← hkk] at hxn ⊢
    have HKK := hQz hkk
    clear hkk
    by_cases hlt : k < n
    · have d1 : (k : Int) < (n : Int) := by omega
      have d0 : (0 : Int) ≤ (k : Int) := by omega
      have hkl : k < ps.length := by have := HL.out; omega
      obtain ⟨b, o, rfl, hbw, hcs⟩ := HC.out (by intro e; subst e; simp at hkl)
      obtain ⟨kv, vv, g0, g1, hkv, hvv⟩ := hcs k hkl
      have hc0 := (hS.frame.cell (p := ⟨b, o + k * 2, none⟩) hbw (by simp)).trans g0
      have hc1 := (hS.frame.cell (p := ⟨b, o + k * 2 + 1, none⟩) hbw (by simp)).trans g1
      have hbe : w.heap.size ≤ be := (hS.own .head).resolve_right (by simp)
      have hS0 := hS
      replace hS := St.one (hS0.get .head)
      obtain ⟨q1, c1, rfl⟩ := hkv.shape'
      obtain ⟨q2, c2, rfl⟩ := hvv.shape'
      have hk64 := HK.out _ (List.getElem_mem hkl)
      obtain ⟨lk, hlk⟩ : ∃ lk, lk = ps[k].1 := ⟨_, rfl⟩
      obtain ⟨lv, hlv⟩ : ∃ lv, lv = ps[k].2 := ⟨_, rfl⟩
      rw [← hlk] at hkv hc0 hk64
      rw [← hlv] at hvv hc1
      have HP := hQz (And.intro hlk hlv)
      have HR := hQz (fun (w1 : World) (hT : Tch [] w w1) => And.intro (hkv.tch hT (by simp)) (hvv.tch hT (by simp)))
      clear hcs g0 g1 hlk hlv
      go_upto_region 5 with (first
        | (refine qe3 (L := [(be, 137, rowC n xs)]) hS rfl 28 rfl kvpair_zero ?_; clear hS hc0 hc1; intro w2 bp hS)
        | (refine qe4 (b := bp) (c' := #[.slice q1 lk.length c1, .slice q2 lv.length c2]) hS rfl 28 _ _ rfl rfl rfl .head pairD_size rfl rfl (slices_one _ _ _ _ _ _) ?_; clear hS; intro w3 hS))
      have hbp : bp ≠ be := hS.apart2
      have HBp := hQz (fun (w' : World) (hT : Tch [be] w3 w') => hT.blk (hS.get .head) (by simpa using hbp))
      have hF := hS.frame
      have hB0 := (hS.get (.tail .head)).drew
      have hT0 : Tch [] w3 w3.drew := (Tch.refl _ _).drew
      refine wp_region_held_drew (S := fun w' => Tch [be] w3 w') (by kernel_rfl) ((Tch.refl _ _).drew) (fun hC => ?_)
      generalize World.drew w3 = u0 at hC hB0 hT0 ⊢
      have hW0 : Tch [] w u0 := hS0.frame.fresh (hF.trans hC) (by simpa using hbe)
      refine qa0 (v := .slice (some ⟨be, 0, none⟩) n n) 0 rfl (by kernel_rfl) (by kernel_rfl) (by kernel_rfl) (fun _ _ _ h => h) hC rfl (fun w' hw' => qb2 (.inl rfl) rfl) ?_
      try simp only [Act.put, ppA, ppB, ppC]
      refine qa0 (v := .int .i64 (k : Int)) 1 rfl (by kernel_rfl) (by kernel_rfl) (by kernel_rfl) (fun _ _ _ h => h) hC rfl (fun w' hw' => qb2 (.inl rfl) rfl) ?_
      try simp only [Act.put, ppA, ppB, ppC]
      refine qa0 (v := .pointer (some ⟨bp, 0, none⟩)) 2 rfl (by kernel_rfl) (by kernel_rfl) (by kernel_rfl) (fun _ _ _ h => h) hC rfl (fun w' hw' => x_fa _ _ _ rfl rfl (fa_pair0 _ _)) ?_
      try simp only [Act.put, ppA, ppB, ppC]
      refine qa0 (v := .slice q1 lk.length c1) 3 rfl (by kernel_rfl) (by kernel_rfl) (by kernel_rfl) (fun _ _ _ h => h) hC rfl (fun w' hw' => qe2 _ _ rfl rfl ((HBp.out w' hw').cell rfl) qa9) ?_
      try simp only [Act.put, ppA, ppB, ppC]
      refine qa0 (v := .pointer (some ⟨bp, 1, none⟩)) 5 rfl (by kernel_rfl) (by kernel_rfl) (by kernel_rfl) (fun _ _ _ h => h) hC rfl (fun w' hw' => x_fa _ _ _ rfl rfl (fa_pair1 _ _)) ?_
      try simp only [Act.put, ppA, ppB, ppC]
      refine qa0 (v := .slice q2 lv.length c2) 6 rfl (by kernel_rfl) (by kernel_rfl) (by kernel_rfl) (fun _ _ _ h => h) hC rfl (fun w' hw' => qe2 _ _ rfl rfl ((HBp.out w' hw').cell rfl) qa9) ?_
      try simp only [Act.put, ppA, ppB, ppC]
      refine qa6 4 (by kernel_rfl) ?_
      refine qk6 (v1 := .slice q1 lk.length c1) rfl rfl rfl (by rfl) Tryz.call72 (Split_rd _ lk u0 (by omega) (HR.out u0 hW0).1) ?_
      rintro e u1 ⟨hT1, sp, sc, rfl, hr1⟩
      have hC1 := hC.trans (hT1.mono (by simp))
      have hB1 := hT1.blk hB0 (by simp)
      have hW1 := hW0.trans hT1
      refine ⟨_, rfl, hC1, ?_⟩
      try simp only [Act.put, ppA, ppB, ppC]
      refine qa0 (v := .agg #[.slice sp (nibs lk).length sc, .slice q2 lv.length c2]) 7 rfl (by kernel_rfl) (by kernel_rfl) (by kernel_rfl) (fun _ _ _ h => h) hC1 rfl (fun w' hw' => x_build2 ⟨_, _, rfl, rfl, rfl⟩ (build_ent _ _ _ _ _ _ _)) ?_
      try simp only [Act.put, ppA, ppB, ppC]
      refine qa0 (v := .pointer (some ⟨be, k * 2, none⟩)) 8 rfl (by kernel_rfl) (by kernel_rfl) (by kernel_rfl) (fun _ _ _ h => h) hC1 rfl (fun w' hw' => x_idx2 _ _ rfl rfl rfl hlt) ?_
      try simp only [Act.put, ppA, ppB, ppC]
      refine qa6 9 (by kernel_rfl) ?_
      refine held_store2 (j := k * 2) (x := .slice sp (nibs lk).length sc) (y := .slice q2 lv.length c2) hB1 (by rw [rowC_size (by rw [← HKK.out]; exact hxn)]; omega) rfl rfl rfl rfl rfl (by rfl) (by rfl) ?_
      intro u2 hO hB2
      have hC2 := hC1.only hO (.inr (by simp))
      refine ⟨hC2, ?_⟩
      refine wpAnyH_done (by kernel_rfl) ?_ _
      have hW2 : Tch [] w u2 := hS0.frame.fresh (hF.trans hC2) (by simpa using hbe)
      have hR1 := ((hr1.off hB1 (rowC_no HX.out.2.sl')).tch hO.tch)
      have hR2 := (((HR.out u1 hW1).2.off hB1 (rowC_no HX.out.2.sl')).tch hO.tch)
      have hX2 : RowOK u2 be xs := HX.out.2.tch (hF.trans hC2)
      rw [HKK.out, rowC_step (by rw [← HKK.out]; exact hlt) _ _ (nibs lk, lv)] at hB2
      have hSn := (St.start w).callNew hW2 hB2 hbe
      have HZ := hQz (And.intro hR1 (And.intro hR2 hX2))
      clear hC hC1 hC2 hB0 hB1 hT0 hT1 hW0 hW1 hr1 hO hS hF hS0 hR1 hR2 hX2 hB2 hW2
      go_wp2
      go_roundw
      case rel =>
        refine ⟨xs ++ [((.slice sp (nibs lk).length sc, .slice q2 lv.length c2), (nibs lk, lv))], ?_, ?_, hSn, hQz ⟨?_, ?_⟩⟩
        · rw [List.length_append, ← HKK.out]; go_num
        · rw [List.length_append, ← HKK.out]; exact hlt
        · rw [List.map_append, HX.out.1, List.length_append, List.length_singleton, take_snocE (by rw [← HKK.out]; simpa [entries] using hkl)]
          congr 1
          simp only [List.map_cons, List.map_nil]
          congr 1
          have e : (entries ps)[xs.length]? = some (nibT ps[k].1, ps[k].2) := by
            rw [← HKK.out]; simp [entries, hkl]
          rw [List.getD_eq_getElem?_getD, e, HP.out.1, HP.out.2]
          rfl
        · intro x hx
          rcases List.mem_append.1 hx with h | h
          · exact HZ.out.2.2 x h
          · obtain rfl := List.mem_singleton.1 h
            exact ⟨HZ.out.1, HZ.out.2.1⟩
      case measure => simp [intOf]; omega
    · obtain rfl : k = n := by omega
      have d1 : ¬ (k : Int) < (k : Int) := by omega
      have hcall := HE.out wr be xs hS.frame ((hS.own .head).resolve_right (by simp)) (hS.get .head) HKK.out.symm (by
        rw [HX.out.1, ← HKK.out, HL.out]
        have : (entries ps).length = ps.length := by simp [entries]
        rw [← this, List.take_length]) HX.out.2
      clear HX HE
      go_wp2_with (go_at_call 73; go_must (refine hcall.mono ?_; rintro e w5 ⟨rfl, hR⟩))
      exact hR
def rawS {w : World} {b : Nat} (x : EnS w b) : Cl2 := x.1
theorem rawS_all {w : World} {b : Nat} : ∀ xs : List Cl2, RowOK w b xs → ∃ l : List (EnS w b), l.map rawS = xs
  | [], _ => ⟨[], rfl⟩
  | x :: xs, h => by
    obtain ⟨l, hl⟩ := rawS_all xs fun y hy => h y (List.mem_cons_of_mem _ hy)
    exact ⟨(⟨x, h x List.mem_cons_self⟩ : EnS w b) :: l, congrArg (x :: ·) hl⟩
theorem flatS {w : World} {b : Nat} (d : Array (EnS w b)) : flatK encS' 2 d = ((d.toList.map rawS).flatMap two).toArray := by
  apply Array.ext
  · rw [size_flatK]
    show d.size * 2 = ((d.toList.map rawS).flatMap two).length
    rw [flat_len, List.length_map, Array.length_toList]
  · intro i h1 h2
    have hi : i < d.size * 2 := by simpa using h1
    have hg := get_flatK encS' 2 d i hi
    rw [getElem!_pos _ i h1] at hg
    have hq : i / 2 < d.size := by omega
    have hf := flat_get (d.toList.map rawS) (i / 2) (by simpa using hq)
    have hx : (d.toList.map rawS)[i / 2]'(by simpa using hq) = rawS (d[i / 2]'hq) := by simp
    rw [hx] at hf
    have hd : d[i / 2]! = d[i / 2]'hq := getElem!_pos d (i / 2) hq
    rw [hg, hd]
    have h3 : ((d.toList.map rawS).flatMap two)[i]? = some (((d.toList.map rawS).flatMap two).toArray[i]'h2) := by
      rw [List.getElem_toArray, List.getElem?_eq_getElem]
    rcases Nat.mod_two_eq_zero_or_one i with hr | hr
    · have e : i = i / 2 * 2 := by omega
      have := hf.1
      rw [← e, h3] at this
      rw [hr]
      exact (Option.some.inj this).symm
    · have e : i = i / 2 * 2 + 1 := by omega
      have := hf.2
      rw [← e, h3] at this
      rw [hr]
      exact (Option.some.inj this).symm
theorem rowC_full {n : Nat} {xs : List Cl2} (h : xs.length = n) : rowC n xs = (xs.flatMap two).toArray := by
  unfold rowC
  rw [h, Nat.sub_self, Nat.zero_mul, List.replicate_zero, List.append_nil]
def SortPost (ps : List En) (w : World) (e : Ending) (w' : World) : Prop :=
  Tch [] w w' ∧ ∃ (m : List En) (b : Nat), (entries ps).Perm m ∧ m.Pairwise (fun x y => ¬ lt y.1 x.1) ∧ w.heap.size ≤ b ∧ e = .returned (.slice (some ⟨b, 0, none⟩) m.length m.length) ∧
    ∃ xs : List Cl2, xs.map (·.2) = m ∧ Blk w' b 137 (xs.flatMap two).toArray ∧ RowOK w' b xs
theorem sorted_any (v : Value) (ps : List En) (w : World) (hv : PairsAt w v ps) (hn : ps.length ≤ 100000) (hk : ∀ p ∈ ps, p.1.length ≤ 64) :
    Calls Tryz.prog 43 #[v] w (SortPost ps w) := by
  refine sortedLoop v ps w hv hn hk _ fun wr b xs hT hb hB hxn hxe hok => ?_
  rw [rowC_full hxn] at hB
  obtain ⟨d, hd⟩ : ∃ d : Array (EnS wr b), d.toList.map rawS = xs := by
    obtain ⟨l, hl⟩ := rawS_all xs hok
    exact ⟨l.toArray, hl⟩
  have hds : d.size = ps.length := by rw [← hxn, ← hd, List.length_map, Array.length_toList]
  have hcall := sortE_any b ps.length 137 _ wr d hB (by rw [← hd]; show ((d.toList.map rawS).flatMap two).length = d.size * 2; rw [flat_len, List.length_map, Array.length_toList]) (by rw [flatS, hd]) (by omega)
  rw [hds] at hcall
  refine hcall.mono fun e w' h => ?_
  obtain ⟨he, hT2, d', hp, hs, hB2⟩ := h
  have hd's : d'.size = ps.length := by rw [hp.1, hds]
  have hperm : d'.toList.Perm d.toList := by
    have := hp.2.2
    rw [← hds] at this
    rwa [show d'.extract 0 d.size = d' from by rw [← hp.1]; simp, show d.extract 0 d.size = d from by simp] at this
  have hlen : ((d'.toList.map rawS).map (·.2)).length = ps.length := by simpa using hd's
  refine ⟨he, hT.fresh hT2 (by simpa using hb), (d'.toList.map rawS).map (·.2), b, ?_, ?_, hb, ?_, d'.toList.map rawS, rfl, ?_, ?_⟩
  · rw [← hxe, ← hd]
    exact ((hperm.map _).map _).symm
  · rw [List.pairwise_iff_getElem]
    intro i j hi hj hij
    have hi' : i < d'.size := by simpa using hi
    have hj' : j < d'.size := by simpa using hj
    have := hs i j (Nat.zero_le _) hij (by omega)
    rw [ltS, getElem!_pos d' i hi', getElem!_pos d' j hj'] at this
    have := of_decide_eq_false this
    simp only [List.getElem_map, Array.getElem_toList]
    exact this
  · rw [hlen]
  · rw [← flatS]; exact hB2
  · intro x hx
    obtain ⟨y, _, rfl⟩ := List.mem_map.1 hx
    exact ⟨y.2.1.tch hT2, y.2.2.tch hT2⟩
end
end Go.Proofs.YtanmpcgackfpaaaGreat
