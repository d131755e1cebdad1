/- The sort's closure; what the sort of entries leaves. -/
import Derived.Test.YtfdihphhmhgejaaM24
import Derived.Test.YtfdihphhmhgejaaM25
import Derived.Shelf.SlSortCmp.WholeK
import Derived.Test.YtfdihphhmhgejaaM21
import Derived.MapKept
import Derived.Deep.RegionHeld3
set_option linter.unusedVariables false
set_option linter.unusedSimpArgs false
namespace Go.Proofs.Ytfdihphhmhgejaa
open Go.RowKit Tr
open Go.Sort (grow alloc_eq_grow grow_grow putRow putCells HoldsK Holds flatK mapBlock SWO PermIn SortedIn size_flatK get_flatK)
open Go.Proofs (sortWorldK)

/-- The sort's closure. -/
theorem sortE1_any (p1 v1 p2 v2 : Value) (l1 l2 m1 m2 : List Nat) (W : World) (h1 : RdB W p1 l1) (h2 : RdB W p2 l2) (g1 : RdB W v1 m1) (g2 : RdB W v2 m2) :
    Calls Try.prog 46 #[.agg #[p1, v1], .agg #[p2, v2]] W fun e w' => e = .returned (.int .i64 (cmpN l1 l2)) ∧ ∃ q os', w' = grow (W.drewN q) os' := by
  have hc := Lib.hid (fun (w1 : World) (hT : Tch [] W w1) => compare_any p1 p2 l1 l2 w1 (h1.tch hT (by simp)) (h2.tch hT (by simp)))
  obtain ⟨q1, c1, rfl⟩ := h1.shape'
  obtain ⟨q2, c2, rfl⟩ := h2.shape'
  obtain ⟨r1, d1, rfl⟩ := g1.shape'
  obtain ⟨r2, d2, rfl⟩ := g2.shape'
  generalize cmpN l1 l2 = r at hc ⊢
  clear h1 h2 g1 g2
  go_enter Try.func46, Try.ntmps46
  go_wp2_with (go_at_call 25; refine (hc.out _ (((Tch.refl _ _).alloc _).alloc _)).mono ?_; rintro e w' ⟨rfl, rfl⟩)
  go_ret
  exact ⟨rfl, 0, _, by rw [alloc_eq_grow, alloc_eq_grow, grow_grow]; rfl⟩
/-- An entry as the sort moves it: its two cells, and what they read as. -/
def EnS (w : World) (b : Nat) : Type := { x : (Value × Value) × En // RdA [b] w x.1.1 x.2.1 ∧ RdA [b] w x.1.2 x.2.2 }
instance (w : World) (b : Nat) : Inhabited (EnS w b) := ⟨⟨((.slice none 0 0, .slice none 0 0), ([], [])), (RdB.nil w).rdA' _, (RdB.nil w).rdA' _⟩⟩
def encS' {w : World} {b : Nat} (x : EnS w b) : List Value := [x.1.1.1, x.1.1.2]
def cfS {w : World} {b : Nat} (x y : EnS w b) : Int := cmpN x.1.2.1 y.1.2.1
theorem ltS {w : World} {b : Nat} (x y : EnS w b) : Go.Proofs.ltOf cfS x y = decide (lt x.1.2.1 y.1.2.1) := by
  unfold Go.Proofs.ltOf cfS
  by_cases h : lt x.1.2.1 y.1.2.1
  · rw [decide_eq_true h, decide_eq_true (cmp_neg.2 h)]
  · rw [decide_eq_false h, decide_eq_false (fun q => h (cmp_neg.1 q))]
theorem swoS (w : World) (b : Nat) : SWO (Go.Proofs.ltOf (cfS (w := w) (b := b))) where
  irrefl x := by rw [ltS]; exact decide_eq_false (lt_irrefl _)
  trans x y z h1 h2 := by
    rw [ltS] at *
    exact decide_eq_true (lt_trans (of_decide_eq_true h1) (of_decide_eq_true h2))
  ntrans x y z h1 h2 := by
    rw [ltS] at *
    exact decide_eq_false (not_lt_trans (of_decide_eq_false h1) (of_decide_eq_false h2))
theorem mapBlock_other (w : World) (b : Nat) (f : Array Value → Array Value) (k : Nat) (hk : k ≠ b) : (mapBlock w b f).heap[k]? = w.heap[k]? := by
  unfold mapBlock
  simp [Array.getElem?_modify, Ne.symm hk]
theorem sortW_tch {α : Type} [Inhabited α] (enc : α → List Value) (k : Nat) (w : World) (b off m : Nat) (d : Array α) (os : Array Obj) : Tch [b] w (sortWorldK enc k w b off m d os) := by
  have hsz : (mapBlock (Go.Sort.ahead w m) b (putCells id off (flatK enc k d))).heap.size = w.heap.size := by unfold mapBlock; simp [Go.Sort.ahead]
  refine ⟨rfl, rfl, rfl, ?_, fun j hj hb => ?_⟩
  · show w.heap.size ≤ ((mapBlock (Go.Sort.ahead w m) b (putCells id off (flatK enc k d))).heap ++ os).size
    rw [Array.size_append, hsz]; omega
  · show ((mapBlock (Go.Sort.ahead w m) b (putCells id off (flatK enc k d))).heap ++ os)[j]? = _
    rw [Array.getElem?_append_left (by rw [hsz]; exact hj), mapBlock_other _ _ _ _ (by simpa using hb)]
    rfl
theorem sortW_blk {α : Type} [Inhabited α] (enc : α → List Value) (k : Nat) {w : World} {b m : Nat} {t : TypeId} {c : Array Value} {d : Array α} {os : Array Obj} (hB : Blk w b t c) (hs : c.size = d.size * k) : Blk (sortWorldK enc k w b 0 m d os) b t (flatK enc k d) := by
  have hsz : (mapBlock (Go.Sort.ahead w m) b (putCells id 0 (flatK enc k d))).heap.size = w.heap.size := by unfold mapBlock; simp [Go.Sort.ahead]
  have hcells : putCells id 0 (flatK enc k d) c = flatK enc k d := by
    apply Array.ext
    · simp [putCells, hs]
    · intro i h1 h2
      have hi : i < d.size * k := by simpa using h2
      simp only [putCells, Array.getElem_mapIdx, id, Nat.sub_zero, Nat.zero_le, true_and, Nat.zero_add, size_flatK, if_pos hi]
      rw [getElem!_pos _ i h2]
  unfold Blk
  show ((mapBlock (Go.Sort.ahead w m) b (putCells id 0 (flatK enc k d))).heap ++ os)[b]? = _
  rw [Array.getElem?_append_left (by rw [hsz]; exact hB.lt)]
  unfold mapBlock
  unfold Blk at hB
  simp only [Go.Sort.ahead, Array.getElem?_modify, if_true]
  rw [hB]
  simp [hcells, Go.Sort.onCells]
theorem cmpLaysS (w : World) (b off size : Nat) : Go.Proofs.CmpLays Try.prog 46 #[] (encS' (w := w) (b := b)) 2 cfS b off size w := by
  intro m os dk _ x y
  have hT := sortW_tch (encS' (w := w) (b := b)) 2 w b off m dk os
  exact sortE1_any x.1.1.1 x.1.1.2 y.1.1.1 y.1.1.2 x.1.2.1 y.1.2.1 x.1.2.2 y.1.2.2 _ (x.2.1.tch hT).rdB (y.2.1.tch hT).rdB (x.2.2.tch hT).rdB (y.2.2.tch hT).rdB
theorem ent_agg (w : World) : (isAgg 93).run Try.prog w = .ok true w := by kernel_rfl
theorem ent_sizeOf (w : World) : (Go.sizeOf 93).run Try.prog w = .ok 2 w := by kernel_rfl
theorem rdA_one {X : List Nat} {w : World} {v : Value} {l : List Nat} (h : RdA X w v l) : v.oneCell' = true := by
  obtain ⟨p, c, rfl, _⟩ := h
  rfl
/-- The sort of entries that lie in a block of their own. -/
theorem sortE_any (b cap : Nat) (t : TypeId) (c : Array Value) (w : World) (d : Array (EnS w b)) (hB : Blk w b t c) (hs : c.size = d.size * 2) (hc : c = flatK encS' 2 d) (hn : d.size < 4611686018427387904) :
    Calls Try.prog 45 #[.slice (some ⟨b, 0, none⟩) d.size cap, .func (.func 46) #[] #[]] w fun e w' => e = .returned (.tuple #[]) ∧ Tch [b] w w' ∧ ∃ d' : Array (EnS w b), PermIn 0 d.size d d' ∧ SortedIn (Go.Proofs.ltOf cfS) 0 d.size d' ∧ Blk w' b t (flatK encS' 2 d') := by
  have eg : ∀ args w, (callFunc 46 args).run Try.prog w = .ok (.enter 46 args) w := enters_of Try.func46 (by kernel_rfl) rfl
  have hcon := AnyQ.slices_SortFunc Try.sortEn 2 ent_agg ent_sizeOf (encS' (w := w) (b := b)) (fun _ => rfl) (fun x v hv => by
    simp only [encS', List.mem_cons, List.not_mem_nil, or_false] at hv
    rcases hv with rfl | rfl
    · exact rdA_one x.2.1
    · exact rdA_one x.2.2) cfS (swoS w b) 46 #[] b 0 cap d w eg (cmpLaysS w b 0 d.size) (fun j hj => by
      have hj' : j < d.size * 2 := by simpa using hj
      refine ⟨?_, hB.free _⟩
      rw [Nat.zero_add]
      subst hc
      rw [hB.cell (v := (flatK encS' 2 d)[j]!) (by rw [getElem!_pos _ j hj]; exact Array.getElem?_eq_getElem hj)]
      rfl) hB.lt hn
  change Calls Try.prog 45 _ _ _ at hcon
  refine hcon.mono fun e w' h => ?_
  obtain ⟨he, d', n, os, hp, hso, rfl⟩ := h
  exact ⟨he, sortW_tch _ _ _ _ _ _ _ _, d', hp, hso, sortW_blk _ _ hB (by rw [hs, hp.1])⟩
end Go.Proofs.Ytfdihphhmhgejaa

/- A new store of nothing; a tree without a root; what Put and Get do at a tree of no pair or of one. -/
namespace Go.Proofs.Ytfdihphhmhgejaa
open Go.RowKit

section
variable {P : Program} {ops : Array Oper} {rest : List Oper} {o : Oper} {a : Act} {bs : List Nat} {w0 w : World} {Q : Exit → Act → World → Prop} {L L' : List Ent} {b : Nat} {t : TypeId} {c : Array Value}
/-- Any value of one cell is stored. -/
theorem st_storeV {v : Value} {j : Nat} (hS : St bs w0 w L) (hgd : o.guard = none) (ty : TypeId) (x y : Operand) (ho : o.op = .store ty x y) (hx : a.eval x = .pointer (some ⟨b, j, none⟩)) (hy : a.eval y = v) (hv : v.oneCell' = true) (hi : (P.info? ty).map (·.size) = some 1)
    (m : Upd L b t c (c.setIfInBounds j v) L') (hj : j < c.size)
    (h : ∀ w', St bs w0 w' L' → Only b w w' → wpList P ops Q rest (a.put o.dst undef) w') : wpList P ops Q (o :: rest) a w :=
  arm_store1 hgd ty x y ho hx hy hv hi (hS.get m.at_) hj fun w' hB hO => h w' (hS.upd m hO hB) hO
/-- A map is made. -/
theorem st_makeMap {ty : TypeId} (hS : St bs w0 w L) (hgd : o.guard = none) (ho : o.op = .makeMap ty none)
    (h : ∀ w' r, St bs w0 w' L → w'.heap[r]? = some (.map #[] 0) → w0.heap.size ≤ r → (∀ e ∈ L, e.1 ≠ r) → wpList P ops Q rest (a.put o.dst (.map (some r))) w') : wpList P ops Q (o :: rest) a w :=
  wpList_plain hgd fun K hK => by
    have hr : (Instr.makeMap ty none).run P w = .ok (.map (some w.heap.size)) (w.alloc (.map #[] 0)) := rfl
    unfold Oper.wp execOp
    simp only [ho, Option.map_none, Sem.run_bind, hr, Result.andThen_ok, Sem.run_pure]
    exact hK _ _ (h _ _ (hS.alloc _) (Go.heap_alloc_new w _) hS.frame.size (fun e he => Nat.ne_of_lt (hS.blk e he).1.lt))
end
theorem bytes_agg (w : World) : (isAgg 22).run Try.prog w = .ok false w := by kernel_rfl
theorem word0 : wf (fun _ => 0) = bc 32 (fun _ => 0) := rfl
theorem eql_word0 (w : World) : (binOp .eql 33 (.agg (wf fun _ => 0)) (.agg (wf fun _ => 0))).run Try.prog w = .ok (.bool true) w := by
  have := run_eql_bytes (P := Try.prog) w 33 5 32 word_type byteN_ty (fun w => sizeOf_u8 w) (bytesOfN 32 (fun _ => 0)) (bytesOfN 32 (fun _ => 0)) (by simp [bytesOfN]) (by simp [bytesOfN])
  rw [← bc_bytesN 32 (fun _ => 0) (fun i _ => by decide), beq_self_eq_true, bc_wf] at this
  exact this
theorem build_word0 (w : World) : (Instr.build 33 #[]).run Try.prog w = .ok (.agg (wf fun _ => 0)) w := by
  rw [show (wf fun _ => 0) = wf (fun _ => 0) from rfl, wf_zeros]; kernel_rfl
section
variable {o : Oper} {a : Act} {ops : Array Oper} {rest : List Oper} {C : World → Prop} {Q : Act → Prop}
theorem k_build0 (hw : Region.wanted o (yielded ops a.tmps) = true) (ho : o.op = .build 33 #[]) (h : KQ ops C Q rest (a.put o.dst (.agg (wf fun _ => 0)))) : KQ ops C Q (o :: rest) a :=
  k_pure hw (fun w => by
    unfold execOp
    simp only [ho, Array.map_empty, Sem.run_bind, build_word0, Result.andThen_ok, Sem.run_pure]) h
theorem k_eql0 (hw : Region.wanted o (yielded ops a.tmps) = true) (xo yo : Operand) (yt : TypeId) (ho : o.op = .binOp .eql 33 xo yo yt) (hxe : a.eval xo = .agg (wf fun _ => 0)) (hye : a.eval yo = .agg (wf fun _ => 0)) (h : KQ ops C Q rest (a.put o.dst (.bool true))) : KQ ops C Q (o :: rest) a :=
  k_pure hw (fun w => by
    have := eql_word0 w
    unfold execOp
    simp only [ho, hxe, hye]
    show Sem.run _ _ w = _
    simp [eqGuard, this]) h
end
theorem len_nil_go (w : World) : True := trivial
end Go.Proofs.Ytfdihphhmhgejaa

/- A tree of no pair or of one: Put, Get, Commit. -/
namespace Go.Proofs.Ytfdihphhmhgejaa
open Go.RowKit

section
variable {a : Act} {w : World} {o : Oper}
theorem x_fa {v u : Value} (ty : TypeId) (x : Operand) (i : Nat) (ho : o.op = .fieldAddr ty x i) (hx : a.eval x = v) (hr : (Instr.fieldAt ty v i).run Try.prog w = .ok u w) : (execOp a.eval o).run Try.prog w = .ok (.value u) w := by
  unfold execOp; simp only [ho, hx, Sem.run_bind, hr, Result.andThen_ok, Sem.run_pure]
end
theorem RdB.shape {w : World} {v : Value} {l : List Nat} (h : RdB w v l) : ∃ p c, v = .slice p l.length c := ⟨_, _, h.choose_spec.choose_spec.1⟩
theorem RdB.rdA0 {w : World} {v : Value} {l : List Nat} (h : RdB w v l) : RdA [] w v l := h.rdA (by simp)
/-- Bytes don't lie in a block that holds no byte. -/
theorem RdB.off {w : World} {v : Value} {l : List Nat} {b : Nat} {t : TypeId} {c : Array Value} (h : RdB w v l) (hB : Blk w b t c) (hc : ∀ (j : Nat) (x : Int), c[j]? ≠ some (.int .u8 x)) : RdA [b] w v l := by
  obtain ⟨p, cc, h1, h2, h3, h4⟩ := h
  refine ⟨p, cc, h1, h2, h3, fun hl => ?_⟩
  obtain ⟨b', o, h5, h6, h7⟩ := h4 hl
  refine ⟨b', o, h5, h6, fun hm => ?_, h7⟩
  obtain rfl : b' = b := by simpa using hm
  have hx := h7 0 (List.length_pos_iff.2 hl)
  unfold Blk at hB
  rw [Lib.cell_of_heap hB] at hx
  exact hc _ _ hx
theorem tree_cells (s : Option Addr) (v : Value) (hv : ∀ x, v ≠ .int .u8 x) : ∀ (j : Nat) (x : Int), (#[Value.pointer s, v])[j]? ≠ some (.int .u8 x) := by
  intro j x
  match j with
  | 0 => simp
  | 1 => simpa using hv x
  | n + 2 => simp
theorem leaf_cells (p q : Option Addr) (n c m d : Nat) : ∀ (j : Nat) (x : Int), (#[Value.slice p n c, .slice q m d])[j]? ≠ some (.int .u8 x) := by
  intro j x
  match j with
  | 0 => simp
  | 1 => simp
  | n + 2 => simp
theorem Only.tch {b : Nat} {w w' : World} (h : Only b w w') : Tch [b] w w' := (Tch.refl _ _).only h (.inr (by simp))
theorem Split_rd (v : Value) (l : List Nat) (w : World) (hm : l.length ≤ 1000000) (hv : RdB w v l) :
    Calls Try.prog 44 #[v] w fun e w' => Tch [] w w' ∧ ∃ p c, e = .returned (.slice p (nibs l).length c) ∧ RdB w' (.slice p (nibs l).length c) (nibs l) :=
  (Split_any v l w hm hv.rdA0).mono fun e w' h => by
    obtain ⟨v', he, hT, hr⟩ := h
    have := hr.rdB
    obtain ⟨p', c', hs⟩ := this.shape
    subst hs
    exact ⟨hT, _, _, he, this⟩
end Go.Proofs.Ytfdihphhmhgejaa
