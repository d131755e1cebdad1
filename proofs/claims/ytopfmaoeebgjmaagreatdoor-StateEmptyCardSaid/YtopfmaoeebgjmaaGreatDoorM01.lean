/- The walk's base: blocks of memory known whole, a state that tells the call's own blocks and those that it may touch, and the steps over it. No function of the program is walked here. -/
import Derived.Test.YtopfmaoeebgjmaaGreatDoorRows
import Derived.WalkKit
import Derived.WalkSpells
import Derived.WalkLawsBesides
import Derived.Deep.RegionHeld3
import Derived.Laws.Externs
import Derived.Lib.Hide
import Derived.Deep.Quiet
import Derived.StillTail
import Derived.Deep.QuietTactic
import Derived.OrdersHeld
import Derived.Laws.MakeOwn
import Derived.StillTailTactics
import Derived.Deep.DeepCutAuto
import Derived.Lib.OthersKept
import Derived.Laws.AppendOwn
import Derived.Laws.BytesString
import Derived.Laws.IdiomStrings
import Derived.Lib.BitFns
import Derived.Laws.CopyOwn
import Derived.Laws.AppendOwnNone
import Derived.Laws.BitsAllLaws
import Derived.Stop.BytesEq
set_option linter.unusedVariables false
set_option linter.unusedSimpArgs false
namespace Go.Proofs.YtopfmaoeebgjmaaGreatDoor
theorem ppA {α : Type _} (l : List α) (i : Nat) (a : α) : l.toArray.setIfInBounds i a = (l.set i a).toArray := List.setIfInBounds_toArray l i a
theorem ppB {α : Type _} {x a : α} {xs : List α} : (x :: xs).set 0 a = a :: xs := rfl
theorem ppC {α : Type _} {x a : α} {xs : List α} {i : Nat} : (x :: xs).set (i + 1) a = x :: xs.set i a := rfl
theorem hQz {p : Prop} (h : p) : Go.RowKit.Hid p := Go.Lib.hid h
section
open Go.RowKit
def wf (f : Nat → Nat) : Array Value := ((List.range 32).map fun i => Value.int .u8 ((f i : Nat) : Int)).toArray
theorem wf_size (f : Nat → Nat) : (wf f).size = 32 := by simp [wf]
theorem wf_get {f : Nat → Nat} {i : Nat} (h : i < 32) : (wf f)[i]? = some (Value.int .u8 ((f i : Nat) : Int)) := by simp [wf, h]
theorem wf_none {f : Nat → Nat} {i : Nat} (h : 32 ≤ i) : (wf f)[i]? = none := by rw [Array.getElem?_eq_none]; rw [wf_size]; exact h
theorem wf_set {f : Nat → Nat} {k v : Nat} (h : k < 32) : (wf f).setIfInBounds k (.int .u8 (v : Int)) = wf (fun i => if i = k then v else f i) := by
  apply Array.ext_getElem?
  intro i
  rw [Array.getElem?_setIfInBounds]
  by_cases hi : i < 32
  · rw [wf_get hi, wf_get hi]
    by_cases hk : k = i
    · subst hk; simp [wf_size, h]
    · rw [if_neg hk, if_neg (fun e => hk e.symm)]
  · rw [wf_none (by omega), wf_none (by omega), if_neg (by omega)]
theorem wf_congr {f g : Nat → Nat} (h : ∀ i, i < 32 → f i = g i) : wf f = wf g := by
  apply Array.ext_getElem?
  intro i
  by_cases hi : i < 32
  · rw [wf_get hi, wf_get hi, h i hi]
  · rw [wf_none (by omega), wf_none (by omega)]
def Blk (w : World) (b : Nat) (t : TypeId) (c : Array Value) : Prop := w.heap[b]? = some (.cells c t (0, 0))
section
variable {w w' : World} {b b' : Nat} {t : TypeId} {c : Array Value}
theorem Blk.lt (h : Blk w b t c) : b < w.heap.size := by
  unfold Blk at h
  exact (Array.getElem?_eq_some_iff.1 h).1
theorem Blk.cell {j : Nat} {v : Value} (h : Blk w b t c) (hv : c[j]? = some v) : w.cell? ⟨b, j, none⟩ = some v := by
  rw [cell_of_row w b j c t (0, 0) h]; exact hv
theorem Blk.free (h : Blk w b t c) (j : Nat) : w.frozen? ⟨b, j, none⟩ = false := frozen_of_row w b j c t h
theorem Blk.set (h : Blk w b t c) (j : Nat) (v : Value) : Blk (w.setCell ⟨b, j, none⟩ v) b t (c.setIfInBounds j v) := heap_setCell_same w b j c t v h
theorem Blk.far (h : Blk w b t c) {p : Addr} (hp : b ≠ p.block) (v : Value) : Blk (w.setCell p v) b t c := by
  unfold Blk; rw [heap_setCell_other w p b v hp]; exact h
theorem Blk.drew (h : Blk w b t c) : Blk w.drew b t c := h
theorem Blk.drewN (h : Blk w b t c) (n : Nat) : Blk (w.drewN n) b t c := h
theorem Blk.new (w : World) (t : TypeId) (c : Array Value) : Blk (w.alloc (.cells c t)) w.heap.size t c := Go.heap_alloc_new w _
theorem Blk.alloc (h : Blk w b t c) (o : Obj) : Blk (w.alloc o) b t c := by
  unfold Blk; rw [Below.heap_alloc w o b h.lt]; exact h
theorem Blk.row (h : Blk w b t c) (c' : Array Value) : Blk (w.setRow b c') b t c' := setRow_heap w b c c' t _ h
theorem Blk.below {B : Nat} (h : Blk w b t c) (hb : Below B w w') (hB : b < B) : Blk w' b t c := by
  unfold Blk; rw [hb.block b hB]; exact h
theorem Blk.load {P : Program} {ty : TypeId} {d : TypeDesc} (h : Blk w b t c) (hu : P.underlying ty = some d) (hd : (match d with | .struct _ | .array _ _ => true | _ => false) = true)
    {n : Nat} (hi : (P.info? ty).map (·.size) = some n) (hn : c.size = n) :
    (Instr.loadAt ty (.pointer (some ⟨b, 0, none⟩))).run P w = .ok (.agg c) w := by
  simp only [Instr.loadAt, Instr.sureAddr, Sem.run_bind, Sem.run_pure, Result.andThen_ok, run_loadVar_row w b t ty c (0, 0) d h hu hd (by rw [hn]; exact hi)]
theorem Blk.store {P : Program} {ty : TypeId} {c' : Array Value} (h : Blk w b t c) {n : Nat} (hi : (P.info? ty).map (·.size) = some n) (hn : c.size = n) (hn' : c'.size = n) (h1 : c'.all (·.oneCell') = true) :
    (Instr.storeAt ty (.pointer (some ⟨b, 0, none⟩)) (.agg c')).run P w = .ok () (w.setRow b c') := by
  have := run_storeCells_at (P := P) b 0 t c'.toList 0 c w h (by simp; omega) (fun x hx => (Array.all_eq_true_iff_forall_mem.1 h1) x (by simpa using hx))
  cases hq : P.info? ty with
  | none => simp [hq] at hi
  | some i =>
    have hs : i.size = n := by simpa [hq] using hi
    have e : c.toList.drop (0 + 0 + c'.toList.length) = [] := by rw [List.drop_eq_nil_iff]; simp; omega
    rw [e] at this
    simp only [Nat.add_zero, List.take_zero, List.nil_append, List.append_nil, Array.toArray_toList] at this
    simp [Instr.storeAt, Instr.sureAddr, storeVar, sizeOf, typeInfo, hq, Value.cells, hs, hn', this]
theorem results_cell_only {P : Program} {fn : Func} {p : Tmp} {ty : TypeId} (hr : fn.results = #[.cell p ty]) (tmps : Array Value) {d : TypeDesc} (hp : tmps.getD p undef = .pointer (some ⟨b, 0, none⟩)) (h : Blk w b t c)
    (hu : P.underlying ty = some d) (hd : (match d with | .struct _ | .array _ _ => true | _ => false) = true) {n : Nat} (hi : (P.info? ty).map (·.size) = some n) (hn : c.size = n) :
    (results fn tmps).run P w = .ok (.agg c) w := results_cell_row hr tmps w b t c (0, 0) d hp h hu hd (by rw [hn]; exact hi)
theorem results_cell_one {P : Program} {fn : Func} {p u : Tmp} {ty : TypeId} (hr : fn.results = #[.cell p ty, .tmp u]) (tmps : Array Value) {d : TypeDesc} (hp : tmps.getD p undef = .pointer (some ⟨b, 0, none⟩)) (h : Blk w b t c)
    (hu : P.underlying ty = some d) (hd : (match d with | .struct _ | .array _ _ => true | _ => false) = true) {n : Nat} (hi : (P.info? ty).map (·.size) = some n) (hn : c.size = n) :
    (results fn tmps).run P w = .ok (.tuple #[.agg c, tmps.getD u undef]) w := by
  rw [results_cell_tmp hr, hp]
  have e : (asAddr (.pointer (some ⟨b, 0, none⟩))).run P w = .ok ⟨b, 0, none⟩ w := rfl
  rw [e]
  simp only [Result.andThen_ok, run_loadVar_row w b t ty c (0, 0) d h hu hd (by rw [hn]; exact hi)]
end
theorem arm_load {P : Program} {ops : Array Oper} {rest : List Oper} {o : Oper} {a : Act} {w : World} {Q : Exit → Act → World → Prop} {b : Nat} {c : Array Value} (hgd : o.guard = none) (ty : TypeId) (x : Operand)
    (ho : o.op = .load ty x) (hx : a.eval x = .pointer (some ⟨b, 0, none⟩)) (hl : (Instr.loadAt ty (.pointer (some ⟨b, 0, none⟩))).run P w = .ok (.agg c) w)
    (h : wpList P ops Q rest (a.put o.dst (.agg c)) w) : wpList P ops Q (o :: rest) a w :=
  wpList_plain hgd fun K hK => by
    unfold Oper.wp execOp
    simp only [ho, hx, Sem.run_bind, hl, Result.andThen_ok, Sem.run_pure]
    exact hK _ _ h
theorem arm_store {P : Program} {ops : Array Oper} {rest : List Oper} {o : Oper} {a : Act} {w : World} {Q : Exit → Act → World → Prop} {b : Nat} {c : Array Value} {w' : World} (hgd : o.guard = none) (ty : TypeId) (x y : Operand)
    (ho : o.op = .store ty x y) (hx : a.eval x = .pointer (some ⟨b, 0, none⟩)) (hy : a.eval y = .agg c) (hl : (Instr.storeAt ty (.pointer (some ⟨b, 0, none⟩)) (.agg c)).run P w = .ok () w')
    (h : wpList P ops Q rest (a.put o.dst undef) w') : wpList P ops Q (o :: rest) a w :=
  wpList_plain hgd fun K hK => by
    unfold Oper.wp execOp
    simp only [ho, hx, hy, Sem.run_bind, hl, Result.andThen_ok, Sem.run_pure]
    exact hK _ _ h
theorem post_cell {P : Program} {fn : Func} {R : Ending → World → Prop} {a : Act} {w : World} {b : Nat} {t : TypeId} {c : Array Value} {d : TypeDesc} {n : Nat} (p : Tmp) (ty : TypeId) (hr : fn.results = #[.cell p ty]) (hd0 : a.defers = [])
    (hp : a.tmps.getD p undef = .pointer (some ⟨b, 0, none⟩)) (h : Blk w b t c)
    (hu : P.underlying ty = some d) (hd : (match d with | .struct _ | .array _ _ => true | _ => false) = true) (hi : (P.info? ty).map (·.size) = some n) (hn : c.size = n)
    (hR : R (.returned (.agg c)) w) : bodyPost P fn R .ret a w :=
  bodyPost_ret (results_cell_only hr a.tmps hp h hu hd hi hn) hd0 hR
theorem post_cell_one {P : Program} {fn : Func} {R : Ending → World → Prop} {a : Act} {w : World} {b : Nat} {t : TypeId} {c : Array Value} {d : TypeDesc} {n : Nat} {v : Value} (p u : Tmp) (ty : TypeId) (hr : fn.results = #[.cell p ty, .tmp u]) (hd0 : a.defers = [])
    (hp : a.tmps.getD p undef = .pointer (some ⟨b, 0, none⟩)) (hv : a.tmps.getD u undef = v) (h : Blk w b t c)
    (hu : P.underlying ty = some d) (hd : (match d with | .struct _ | .array _ _ => true | _ => false) = true) (hi : (P.info? ty).map (·.size) = some n) (hn : c.size = n)
    (hR : R (.returned (.tuple #[.agg c, v])) w) : bodyPost P fn R .ret a w :=
  bodyPost_ret (results_cell_one hr a.tmps hp h hu hd hi hn) hd0 (by rw [hv]; exact hR)
structure Only (b : Nat) (w w' : World) : Prop where
  os : w'.os = w.os
  tape : w'.tape = w.tape
  output : w'.output = w.output
  size : w'.heap.size = w.heap.size
  block : ∀ k, k ≠ b → w'.heap[k]? = w.heap[k]?
theorem Only.refl (b : Nat) (w : World) : Only b w w := ⟨rfl, rfl, rfl, rfl, fun _ _ => rfl⟩
theorem Only.trans {b : Nat} {w w1 w2 : World} (h : Only b w w1) (k : Only b w1 w2) : Only b w w2 :=
  ⟨k.os.trans h.os, k.tape.trans h.tape, k.output.trans h.output, k.size.trans h.size, fun i hi => (k.block i hi).trans (h.block i hi)⟩
theorem Only.setCell (w : World) (p : Addr) (v : Value) : Only p.block w (w.setCell p v) :=
  ⟨rfl, rfl, rfl, by simp [World.setCell], fun k hk => Below.heap_setCell _ _ _ _ hk⟩
theorem Only.drew {b : Nat} {w w1 : World} (h : Only b w w1) : Only b w w1.drew := ⟨h.os, h.tape, h.output, h.size, h.block⟩
theorem Only.drewN {b : Nat} {w w1 : World} (h : Only b w w1) (n : Nat) : Only b w (w1.drewN n) := ⟨h.os, h.tape, h.output, h.size, h.block⟩
theorem Only.below {b B : Nat} {w w1 : World} (h : Only b w w1) (hB : B ≤ b) : Below B w w1 := ⟨h.os, h.tape, h.output, Nat.le_of_eq h.size.symm, fun k hk => h.block k (by omega)⟩
theorem Only.blk {b k : Nat} {w w1 : World} {t : TypeId} {c : Array Value} (h : Only b w w1) (hk : k ≠ b) (hb : Blk w k t c) : Blk w1 k t c := by
  unfold Blk; rw [h.block k hk]; exact hb
theorem arm_store1 {P : Program} {ops : Array Oper} {rest : List Oper} {o : Oper} {a : Act} {w : World} {Q : Exit → Act → World → Prop} {b j : Nat} {t : TypeId} {c : Array Value} {v : Value} (hgd : o.guard = none) (ty : TypeId) (x y : Operand)
    (ho : o.op = .store ty x y) (hx : a.eval x = .pointer (some ⟨b, j, none⟩)) (hy : a.eval y = v) (hv : v.oneCell' = true) (hi : (P.info? ty).map (·.size) = some 1) (hb : Blk w b t c) (hj : j < c.size)
    (h : ∀ w', Blk w' b t (c.setIfInBounds j v) → Only b w w' → wpList P ops Q rest (a.put o.dst undef) w') : wpList P ops Q (o :: rest) a w :=
  wpList_plain hgd fun K hK => by
    have hc : v.cells = #[v] := by cases v <;> first | rfl | exact absurd hv (by simp [Value.oneCell'])
    have hst : (Instr.storeAt ty (.pointer (some ⟨b, j, none⟩)) v).run P w = .ok () (w.setCell ⟨b, j, none⟩ v) := by
      cases hq : P.info? ty with
      | none => simp [hq] at hi
      | some i =>
        have hs : i.size = 1 := by simpa [hq] using hi
        have hcell : w.cell? ⟨b, j, none⟩ = some c[j] := hb.cell (by simp [hj])
        simp [Instr.storeAt, Instr.sureAddr, storeVar, sizeOf, typeInfo, hq, hc, hs, storeCells, Addr.add, run_store P w ⟨b, j, none⟩ v .plain hv, hcell, hb.free j]
    unfold Oper.wp execOp
    simp only [ho, hx, hy, Sem.run_bind, hst, Result.andThen_ok, Sem.run_pure]
    exact hK _ _ (h _ (hb.set j v) (Only.setCell w ⟨b, j, none⟩ v))
theorem arm_store_int {P : Program} {ops : Array Oper} {rest : List Oper} {o : Oper} {a : Act} {w : World} {Q : Exit → Act → World → Prop} {b j : Nat} {t : TypeId} {c : Array Value} {k : IntKind} {n : Int} (hgd : o.guard = none) (ty : TypeId) (x y : Operand)
    (ho : o.op = .store ty x y) (hx : a.eval x = .pointer (some ⟨b, j, none⟩)) (hy : a.eval y = .int k n) (hi : (P.info? ty).map (·.size) = some 1) (hb : Blk w b t c) (hj : j < c.size)
    (h : ∀ w', Blk w' b t (c.setIfInBounds j (.int k n)) → Only b w w' → wpList P ops Q rest (a.put o.dst undef) w') : wpList P ops Q (o :: rest) a w :=
  arm_store1 hgd ty x y ho hx hy rfl hi hb hj h
theorem ret_int {k : IntKind} {a b : Int} (h : a = b) : Ending.returned (.int k a) = .returned (.int k b) := by rw [h]
theorem ret_bool {a b : Bool} (h : a = b) : Ending.returned (.bool a) = .returned (.bool b) := by rw [h]
theorem wf_one (f : Nat → Nat) : (wf f).all (·.oneCell') = true := by
  rw [Array.all_eq_true_iff_forall_mem]
  intro v hv
  simp only [wf, List.mem_toArray, List.mem_map] at hv
  obtain ⟨i, _, rfl⟩ := hv
  rfl
structure Tch (bs : List Nat) (w0 w : World) : Prop where
  os : w.os = w0.os
  tape : w.tape = w0.tape
  output : w.output = w0.output
  size : w0.heap.size ≤ w.heap.size
  block : ∀ k, k < w0.heap.size → k ∉ bs → w.heap[k]? = w0.heap[k]?
theorem Tch.refl (bs : List Nat) (w : World) : Tch bs w w := ⟨rfl, rfl, rfl, Nat.le_refl _, fun _ _ _ => rfl⟩
theorem Tch.trans {bs : List Nat} {a b c : World} (h : Tch bs a b) (k : Tch bs b c) : Tch bs a c :=
  ⟨k.os.trans h.os, k.tape.trans h.tape, k.output.trans h.output, Nat.le_trans h.size k.size, fun i hi hb => (k.block i (Nat.lt_of_lt_of_le hi h.size) hb).trans (h.block i hi hb)⟩
theorem Tch.mono {bs cs : List Nat} {a b : World} (h : Tch bs a b) (hs : ∀ x ∈ bs, x ∈ cs ∨ a.heap.size ≤ x) : Tch cs a b :=
  ⟨h.os, h.tape, h.output, h.size, fun i hi hb => h.block i hi fun hm => (hs i hm).elim hb fun hl => by omega⟩
theorem Tch.below {a b : World} (h : Tch [] a b) : Below a.heap.size a b := ⟨h.os, h.tape, h.output, h.size, fun k hk => h.block k hk (by simp)⟩
theorem Tch.cell {bs : List Nat} {w w' : World} (h : Tch bs w w') {p : Addr} (hp : p.block < w.heap.size) (hb : p.block ∉ bs) : w'.cell? p = w.cell? p := World.cell?_of_block (w := w) (h.block p.block hp hb)
theorem Tch.blk {bs : List Nat} {w w' : World} {b : Nat} {t : TypeId} {c : Array Value} (h : Tch bs w w') (hB : Blk w b t c) (hb : b ∉ bs) : Blk w' b t c := by
  unfold Blk; rw [h.block b hB.lt hb]; exact hB
theorem Tch.alloc {bs : List Nat} {w w' : World} (h : Tch bs w w') (o : Obj) : Tch bs w (w'.alloc o) :=
  h.trans ⟨rfl, rfl, rfl, by simp, fun k hk _ => Below.heap_alloc _ _ _ hk⟩
theorem Tch.drew {bs : List Nat} {w w' : World} (h : Tch bs w w') : Tch bs w w'.drew := ⟨h.os, h.tape, h.output, h.size, h.block⟩
theorem Tch.drewN {bs : List Nat} {w w' : World} (h : Tch bs w w') (n : Nat) : Tch bs w (w'.drewN n) := ⟨h.os, h.tape, h.output, h.size, h.block⟩
theorem Tch.only {bs : List Nat} {w w1 w2 : World} {b : Nat} (h : Tch bs w w1) (hO : Only b w1 w2) (hb : w.heap.size ≤ b ∨ b ∈ bs) : Tch bs w w2 :=
  ⟨hO.os.trans h.os, hO.tape.trans h.tape, hO.output.trans h.output, by have := h.size; have := hO.size; omega,
   fun k hk hkb => (hO.block k (fun e => by subst e; rcases hb with h1 | h1; omega; exact hkb h1)).trans (h.block k hk hkb)⟩
abbrev Ent := Nat × TypeId × Array Value
inductive At : List Ent → Nat → TypeId → Array Value → Prop
  | head {L : List Ent} {b : Nat} {t : TypeId} {c : Array Value} : At ((b, t, c) :: L) b t c
  | tail {L : List Ent} {b : Nat} {t : TypeId} {c : Array Value} {e : Ent} (h : At L b t c) : At (e :: L) b t c
inductive Upd : List Ent → Nat → TypeId → Array Value → Array Value → List Ent → Prop
  | head {L : List Ent} {b : Nat} {t : TypeId} {c c' : Array Value} : Upd ((b, t, c) :: L) b t c c' ((b, t, c') :: L)
  | tail {L L' : List Ent} {b : Nat} {t : TypeId} {c c' : Array Value} {e : Ent} (h : Upd L b t c c' L') : Upd (e :: L) b t c c' (e :: L')
theorem Upd.at_ {L L' : List Ent} {b : Nat} {t : TypeId} {c c' : Array Value} (h : Upd L b t c c' L') : At L b t c := by
  induction h with
  | head => exact .head
  | tail _ ih => exact .tail ih
structure St (bs : List Nat) (w0 w : World) (L : List Ent) : Prop where
  frame : Tch bs w0 w
  blk : ∀ e ∈ L, Blk w e.1 e.2.1 e.2.2 ∧ (w0.heap.size ≤ e.1 ∨ e.1 ∈ bs)
  apart : L.Pairwise fun e f => e.1 ≠ f.1
section
variable {bs : List Nat} {w0 w w' : World} {L L' : List Ent} {b : Nat} {t : TypeId} {c c' : Array Value}
theorem At.mem (h : At L b t c) : (b, t, c) ∈ L := by
  induction h with
  | head => exact List.mem_cons_self
  | tail _ ih => exact List.mem_cons_of_mem _ ih
theorem St.start (w : World) : St [] w w [] := ⟨Tch.refl _ _, fun _ h => by simp at h, .nil⟩
theorem St.one (h : Blk w b t c) : St [b] w w [(b, t, c)] := ⟨Tch.refl _ _, fun e he => by rcases List.mem_singleton.1 he with rfl; exact ⟨h, .inr (by simp)⟩, List.pairwise_singleton _ _⟩
theorem St.two {b2 : Nat} {t2 : TypeId} {c2 : Array Value} (h : Blk w b t c) (h2 : Blk w b2 t2 c2) (hn : b ≠ b2) : St [b, b2] w w [(b, t, c), (b2, t2, c2)] := ⟨Tch.refl _ _, fun e he => by
    rcases List.mem_cons.1 he with rfl | he
    · exact ⟨h, .inr (by simp)⟩
    · rcases List.mem_singleton.1 he with rfl; exact ⟨h2, .inr (by simp)⟩, List.pairwise_cons.2 ⟨fun e he => by rcases List.mem_singleton.1 he with rfl; exact hn, List.pairwise_singleton _ _⟩⟩
theorem St.get (h : St bs w0 w L) (m : At L b t c) : Blk w b t c := (h.blk _ m.mem).1
theorem St.own (h : St bs w0 w L) (m : At L b t c) : w0.heap.size ≤ b ∨ b ∈ bs := (h.blk _ m.mem).2
theorem St.new (h : St bs w0 w L) (t : TypeId) (c : Array Value) : St bs w0 (w.alloc (.cells c t)) ((w.heap.size, t, c) :: L) :=
  ⟨h.frame.alloc _, fun e he => by
    rcases List.mem_cons.1 he with rfl | he
    · exact ⟨Blk.new w t c, .inl h.frame.size⟩
    · exact ⟨(h.blk e he).1.alloc _, (h.blk e he).2⟩,
   List.pairwise_cons.2 ⟨fun e he => Nat.ne_of_gt (h.blk e he).1.lt, h.apart⟩⟩
theorem St.call (h : St bs w0 w L) (hb : Tch [] w w') : St bs w0 w' L :=
  ⟨h.frame.trans (hb.mono (by simp)), fun e he => ⟨hb.blk (h.blk e he).1 (by simp), (h.blk e he).2⟩, h.apart⟩
theorem St.callNew {t : TypeId} {c : Array Value} (h : St bs w0 w L) (hb : Tch [] w w') (hB : Blk w' b t c) (hle : w.heap.size ≤ b) : St bs w0 w' ((b, t, c) :: L) :=
  let h' := h.call hb
  ⟨h'.frame, fun e he => by
    rcases List.mem_cons.1 he with rfl | he
    · exact ⟨hB, .inl (Nat.le_trans h.frame.size hle)⟩
    · exact h'.blk e he, List.pairwise_cons.2 ⟨fun e he => Nat.ne_of_gt (Nat.lt_of_lt_of_le (h.blk e he).1.lt hle), h'.apart⟩⟩
theorem St.drew (h : St bs w0 w L) : St bs w0 w.drew L := ⟨h.frame.drew, fun e he => ⟨(h.blk e he).1.drew, (h.blk e he).2⟩, h.apart⟩
theorem St.drewN (h : St bs w0 w L) (n : Nat) : St bs w0 (w.drewN n) L := ⟨h.frame.drewN n, fun e he => ⟨(h.blk e he).1.drewN n, (h.blk e he).2⟩, h.apart⟩
theorem Upd.names (h : Upd L b t c c' L') : L'.map (·.1) = L.map (·.1) := by
  induction h with
  | head => rfl
  | tail _ ih => simp [ih]
theorem Upd.others (h : Upd L b t c c' L') (ha : L.Pairwise fun e f => e.1 ≠ f.1) : ∀ e ∈ L', e = (b, t, c') ∨ (e ∈ L ∧ e.1 ≠ b) := by
  induction h with
  | head =>
    intro e he
    rcases List.mem_cons.1 he with rfl | he
    · exact .inl rfl
    · exact .inr ⟨List.mem_cons_of_mem _ he, fun hh => (List.pairwise_cons.1 ha).1 e he hh.symm⟩
  | tail hu ih =>
    intro e he
    have ha' := List.pairwise_cons.1 ha
    rcases List.mem_cons.1 he with rfl | he
    · exact .inr ⟨List.mem_cons_self, ha'.1 _ hu.at_.mem⟩
    · rcases ih ha'.2 e he with h | h
      · exact .inl h
      · exact .inr ⟨List.mem_cons_of_mem _ h.1, h.2⟩
theorem St.upd (h : St bs w0 w L) (hu : Upd L b t c c' L') (hO : Only b w w') (hB : Blk w' b t c') : St bs w0 w' L' :=
  ⟨h.frame.only hO (h.own hu.at_), fun e he => by
    rcases hu.others h.apart e he with rfl | ⟨he, hne⟩
    · exact ⟨hB, h.own hu.at_⟩
    · exact ⟨hO.blk hne (h.blk e he).1, (h.blk e he).2⟩,
   by
    have hn := hu.names
    have : (L.map (·.1)).Pairwise (· ≠ ·) := List.pairwise_map.2 h.apart
    rw [← hn] at this
    exact List.pairwise_map.1 this⟩
theorem St.on1 (h : St bs w0 w L) (hu : Upd L b t c c' L') (hT : Tch [b] w w') (hB : Blk w' b t c') : St bs w0 w' L' :=
  ⟨⟨hT.os.trans h.frame.os, hT.tape.trans h.frame.tape, hT.output.trans h.frame.output, Nat.le_trans h.frame.size hT.size, fun k hk hkb => by
      have hkw : k < w.heap.size := Nat.lt_of_lt_of_le hk h.frame.size
      refine (hT.block k hkw fun hm => ?_).trans (h.frame.block k hk hkb)
      obtain rfl : k = b := by simpa using hm
      rcases h.own hu.at_ with h1 | h1
      · omega
      · exact hkb h1⟩, fun e he => by
    rcases hu.others h.apart e he with rfl | ⟨he, hne⟩
    · exact ⟨hB, h.own hu.at_⟩
    · exact ⟨hT.blk (h.blk e he).1 (by simpa using hne), (h.blk e he).2⟩,
   by
    have hn := hu.names
    have : (L.map (·.1)).Pairwise (· ≠ ·) := List.pairwise_map.2 h.apart
    rw [← hn] at this
    exact List.pairwise_map.1 this⟩
theorem St.on2 {b2 : Nat} {t2 : TypeId} {c2 c2' : Array Value} {L2 : List Ent} (h : St bs w0 w L) (hu : Upd L b t c c' L') (hu2 : Upd L' b2 t2 c2 c2' L2) (hT : Tch [b, b2] w w') (hB : Blk w' b t c') (hB2 : Blk w' b2 t2 c2') (hne : b ≠ b2) : St bs w0 w' L2 := by
  have hp : L'.Pairwise fun e f => e.1 ≠ f.1 := by
    have hn := hu.names
    have : (L.map (·.1)).Pairwise (· ≠ ·) := List.pairwise_map.2 h.apart
    rw [← hn] at this
    exact List.pairwise_map.1 this
  have own2 : w0.heap.size ≤ b2 ∨ b2 ∈ bs := by
    rcases hu.others h.apart _ hu2.at_.mem with e | ⟨he, _⟩
    · exact absurd (congrArg (·.1) e).symm hne
    · exact (h.blk _ he).2
  refine ⟨⟨hT.os.trans h.frame.os, hT.tape.trans h.frame.tape, hT.output.trans h.frame.output, Nat.le_trans h.frame.size hT.size, fun k hk hkb => ?_⟩, fun e he => ?_, ?_⟩
  · have hkw : k < w.heap.size := Nat.lt_of_lt_of_le hk h.frame.size
    refine (hT.block k hkw fun hm => ?_).trans (h.frame.block k hk hkb)
    have hm2 : k = b ∨ k = b2 := by simpa using hm
    rcases hm2 with rfl | rfl
    · rcases h.own hu.at_ with h1 | h1
      · omega
      · exact hkb h1
    · rcases own2 with h1 | h1
      · omega
      · exact hkb h1
  · rcases hu2.others hp e he with rfl | ⟨he, hne2⟩
    · exact ⟨hB2, own2⟩
    · rcases hu.others h.apart e he with rfl | ⟨he, hne1⟩
      · exact ⟨hB, h.own hu.at_⟩
      · exact ⟨hT.blk (h.blk e he).1 (by simp; exact ⟨hne1, hne2⟩), (h.blk e he).2⟩
  · have hn := hu2.names
    have : (L'.map (·.1)).Pairwise (· ≠ ·) := List.pairwise_map.2 hp
    rw [← hn] at this
    exact List.pairwise_map.1 this
theorem St.drop {e : Ent} (h : St bs w0 w (e :: L)) : St bs w0 w L := ⟨h.frame, fun x hx => h.blk x (List.mem_cons_of_mem _ hx), (List.pairwise_cons.1 h.apart).2⟩
theorem St.skip {e f : Ent} (h : St bs w0 w (e :: f :: L)) : St bs w0 w (e :: L) := ⟨h.frame, fun x hx => h.blk x (by rcases List.mem_cons.1 hx with rfl | hx; exact List.mem_cons_self; exact List.mem_cons_of_mem _ (List.mem_cons_of_mem _ hx)), by
  have h1 := List.pairwise_cons.1 h.apart
  have h2 := List.pairwise_cons.1 h1.2
  exact List.pairwise_cons.2 ⟨fun x hx => h1.1 x (List.mem_cons_of_mem _ hx), h2.2⟩⟩
theorem Only.setRow (w : World) (b : Nat) (c : Array Value) : Only b w (w.setRow b c) :=
  ⟨rfl, rfl, rfl, by simp [World.setRow], fun k hk => setRow_other w b k c hk⟩
end
section
variable {P : Program} {ops : Array Oper} {rest : List Oper} {o : Oper} {a : Act} {bs : List Nat} {w0 w : World} {Q : Exit → Act → World → Prop} {L L' : List Ent} {b : Nat} {t : TypeId} {c c' : Array Value}
theorem st_box (hS : St bs w0 w L) (hgd : o.guard = none) (ty : TypeId) (x : Operand) (ho : o.op = .box ty x) (hx : a.eval x = .agg c)
    (h : ∀ w' b, St bs w0 w' ((b, ty, c) :: L) → wpList P ops Q rest (a.put o.dst (.pointer (some ⟨b, 0, none⟩))) w') : wpList P ops Q (o :: rest) a w :=
  wpList_plain hgd fun K hK => by
    have hr : (Instr.box ty (.agg c)).run P w = .ok (.pointer (some ⟨w.heap.size, 0, none⟩)) (w.alloc (.cells c ty)) := rfl
    unfold Oper.wp execOp
    simp only [ho, hx, Sem.run_bind, hr, Result.andThen_ok, Sem.run_pure]
    exact hK _ _ (h _ _ (hS.new ty c))
theorem st_new (hS : St bs w0 w L) (hgd : o.guard = none) (ty : TypeId) (ho : o.op = .alloc ty) (hz : (P.info? ty).bind (·.zero) = some (.agg c))
    (h : ∀ w' b, St bs w0 w' ((b, ty, c) :: L) → wpList P ops Q rest (a.put o.dst (.pointer (some ⟨b, 0, none⟩))) w') : wpList P ops Q (o :: rest) a w :=
  wpList_plain hgd fun K hK => by
    have hr : (Instr.alloc ty true (.tuple #[])).run P w = .ok (.pointer (some ⟨w.heap.size, 0, none⟩)) (w.alloc (.cells c ty)) := by
      cases hq : P.info? ty with
      | none => simp [hq] at hz
      | some i =>
        have hz' : i.zero = some (.agg c) := by simpa [hq] using hz
        simp [Instr.alloc, zeroValue, typeInfo, hq, hz', newVar, newRow, Value.cells]
    unfold Oper.wp execOp
    simp only [ho, Sem.run_bind, hr, Result.andThen_ok, Sem.run_pure]
    exact hK _ _ (h _ _ (hS.new ty c))
theorem st_load (hS : St bs w0 w L) (hgd : o.guard = none) (ty : TypeId) (x : Operand) (ho : o.op = .load ty x) (hx : a.eval x = .pointer (some ⟨b, 0, none⟩)) (m : At L b t c)
    {d : TypeDesc} (hu : P.underlying ty = some d) (hd : (match d with | .struct _ | .array _ _ => true | _ => false) = true) {n : Nat} (hi : (P.info? ty).map (·.size) = some n) (hn : c.size = n)
    (h : wpList P ops Q rest (a.put o.dst (.agg c)) w) : wpList P ops Q (o :: rest) a w :=
  arm_load hgd ty x ho hx ((hS.get m).load hu hd hi hn) h
theorem st_store (hS : St bs w0 w L) (hgd : o.guard = none) (ty : TypeId) (x y : Operand) (ho : o.op = .store ty x y) (hx : a.eval x = .pointer (some ⟨b, 0, none⟩)) (hy : a.eval y = .agg c') (m : Upd L b t c c' L')
    {n : Nat} (hi : (P.info? ty).map (·.size) = some n) (hn : c.size = n) (hn' : c'.size = n) (h1 : c'.all (·.oneCell') = true)
    (h : ∀ w', St bs w0 w' L' → wpList P ops Q rest (a.put o.dst undef) w') : wpList P ops Q (o :: rest) a w :=
  arm_store hgd ty x y ho hx hy ((hS.get m.at_).store hi hn hn' h1) (h _ (hS.upd m (Only.setRow _ _ _) ((hS.get m.at_).row _)))
theorem st_store1 {k : IntKind} {n : Int} {j : Nat} (hS : St bs w0 w L) (hgd : o.guard = none) (ty : TypeId) (x y : Operand) (ho : o.op = .store ty x y) (hx : a.eval x = .pointer (some ⟨b, j, none⟩)) (hy : a.eval y = .int k n) (hi : (P.info? ty).map (·.size) = some 1)
    (m : Upd L b t c (c.setIfInBounds j (.int k n)) L') (hj : j < c.size)
    (h : ∀ w', St bs w0 w' L' → wpList P ops Q rest (a.put o.dst undef) w') : wpList P ops Q (o :: rest) a w :=
  arm_store_int hgd ty x y ho hx hy hi (hS.get m.at_) hj fun w' hB hO => h w' (hS.upd m hO hB)
theorem st_post {fn : Func} {R : Ending → World → Prop} (hS : St bs w0 w L) (p : Tmp) (ty : TypeId) (hr : fn.results = #[.cell p ty]) (hd0 : a.defers = [])
    (hp : a.tmps.getD p undef = .pointer (some ⟨b, 0, none⟩)) (m : At L b t c) {d : TypeDesc} {n : Nat}
    (hu : P.underlying ty = some d) (hd : (match d with | .struct _ | .array _ _ => true | _ => false) = true) (hi : (P.info? ty).map (·.size) = some n) (hn : c.size = n)
    (hR : Tch bs w0 w → R (.returned (.agg c)) w) : bodyPost P fn R .ret a w :=
  post_cell p ty hr hd0 hp (hS.get m) hu hd hi hn (hR hS.frame)
end
section
variable {P : Program} {ops : Array Oper} {md : Region.Mode} {C : World → Prop}
def HeadQ (P : Program) (md : Region.Mode) (ops : Array Oper) (C : World → Prop) (n : Nat) (G : Array Bool → Act → Prop) : Nat → Array Bool → Act → Prop
  | 0, listed, a => G listed a
  | f + 1, listed, a => Region.ready md ops listed ≠ [] ∧ ∀ i ∈ Region.ready md ops listed, i < n ∧ qOp P ops C i (HeadQ P md ops C n G f (listed.setIfInBounds i true)) a
theorem HeadQ.any {n g : Nat} {G : Array Bool → Act → Prop} {Q : Exit → Act → World → Prop} (hG : ∀ listed a, G listed a → ∀ w, C w → wpAny P md ops Q g listed a w) :
    ∀ (f : Nat) (listed : Array Bool) (a : Act) (w : World), C w → HeadQ P md ops C n G f listed a → wpAny P md ops Q (f + g) listed a w
  | 0, listed, a, w, hw, h => by rw [Nat.zero_add]; exact hG _ _ h w hw
  | f + 1, listed, a, w, hw, h => by
    rw [show f + 1 + g = (f + g) + 1 by omega]
    exact ⟨fun h0 => absurd h0 h.1, fun i hi => wpOp_of_qOp hw (fun a' w' hw' h' => HeadQ.any hG f _ a' w' hw' h') (h.2 i hi).2⟩
theorem HeadQ.first {n i : Nat} {oi : Oper} {v : Value} {G : Array Bool → Act → Prop} (hi : ops[i]? = some oi) (hsel : ∀ (j : Nat) (o : Oper) cs b, ops[j]? = some o → o.op ≠ .select cs b)
    (hs : Region.sinkB md ops n = true) (hc : Region.chainB md ops n = true) (hn : n < ops.size) (hin : i < n) (hdone : ∀ listed a, G listed a → ∀ j ∈ Region.ready md ops listed, n ≤ j) (f : Nat) :
    ∀ (listed : Array Bool) (a : Act), HeadInv md ops n listed →
      (∀ j oj, ops[j]? = some oj → j ≠ i → listed.getD j true = false → (∀ e ∈ oj.after, Region.binds md e = true → e.on ≠ i) → oi.apart ops oj = true) →
      i ∈ Region.ready md ops listed → YieldsIn P ops C oi v a →
      HeadQ P md ops C n G f (listed.setIfInBounds i true) (a.put oi.dst v) → HeadQ P md ops C n G (f + 1) listed a := by
  induction f with
  | zero =>
    intro listed a inv _ hr hy H
    have hun := (mem_ready.1 hr).1
    refine ⟨fun h => (by rw [h] at hr; cases hr), fun j hj => ?_⟩
    have hjn : j < n := Nat.lt_of_not_le fun h => tail_waits hs hc hn inv _ i rfl hin hun j h hj
    refine ⟨hjn, ?_⟩
    by_cases hji : j = i
    · subst hji; exact hy.qOp hi H
    · have := hdone _ _ H j (ready_mono hj hji); omega
  | succ f ih =>
    intro listed a inv hfree hr hy H
    have hun := (mem_ready.1 hr).1
    refine ⟨fun h => (by rw [h] at hr; cases hr), fun j hj => ?_⟩
    have hjn : j < n := Nat.lt_of_not_le fun h => tail_waits hs hc hn inv _ i rfl hin hun j h hj
    refine ⟨hjn, ?_⟩
    by_cases hji : j = i
    · subst hji; exact hy.qOp hi H
    · obtain ⟨hjun, oj, hoj, hall⟩ := mem_ready.1 hj
      have hnot : ∀ e ∈ oj.after, Region.binds md e = true → e.on ≠ i := fun e he hb heq => by
        have h1 := hall e he hb
        rw [heq, getD_both hun] at h1
        cases h1
      have h2 := qOp_put hoj (hfree j oj hoj hji hjun hnot) (fun cs b => hsel i oi cs b hi) (fun cs b => hsel j oj cs b hoj) hy (H.2 j (ready_mono hj hji)).2
      refine qOp_mono (fun a' h3 => ih (listed.setIfInBounds j true) a' (inv.set hj hjn) (fun k ok hk hki hu hno => ?_) (ready_mono hr (Ne.symm hji)) h3.1 ?_) h2
      · refine hfree k ok hk hki ?_ hno
        by_cases hjk : j = k
        · subst hjk; exact hjun
        · rwa [getD_set_ne true hjk] at hu
      · rw [Array.setIfInBounds_comm _ _ hji]; exact h3.2
theorem HeadQ.lex {n g : Nat} {G : Act → Prop} (hsel : Region.noSelect ops = true) (hs : Region.sinkB md ops n = true) (hc : Region.chainB md ops n = true) (hn : n < ops.size) :
    ∀ (l : List Oper) (k : Nat) (listed : Array Bool) (a : Act), (∀ j, j < l.length → l[j]? = ops[k + j]?) → k + l.length = n → HeadInv md ops n listed →
    Region.lexHead md ops g l.length k listed = true → wpQuiet P ops C G l a →
    HeadQ P md ops C n (fun listed' a' => Region.seqB md ops g n listed' = true ∧ G a') l.length listed a
  | [], k, listed, a, _, hk, _, hB, h => by
    have : k = n := by simpa using hk
    subst this
    exact ⟨by simpa [Region.lexHead] using hB, h⟩
  | o :: l, k, listed, a, hl, hk, inv, hB, h => by
    have h0 : ops[k]? = some o := by simpa using (hl 0 (by simp)).symm
    simp only [List.length_cons, Region.lexHead, Bool.and_eq_true] at hB
    obtain ⟨⟨hr, hf⟩, hB'⟩ := hB
    have hkn : k < n := by simp only [List.length_cons] at hk; omega
    have hr' : k ∈ Region.ready md ops listed := by simpa using hr
    have hst : qOp P ops C k (wpQuiet P ops C G l) a := by unfold qOp; simp only [h0]; exact h
    obtain ⟨v, hy, hK⟩ := yieldsIn_of_qOp h0 hst
    exact HeadQ.first h0 (Region.noSelect_spec hsel) hs hc hn hkn (fun _ _ hL => seqB_ready hL.1) l.length listed a inv (Region.free_spec h0 hf) hr' hy
      (HeadQ.lex hsel hs hc hn l (k + 1) _ _ (fun j hj => by have := hl (j + 1) (by simp; omega); simpa [Nat.add_assoc, Nat.add_comm 1 j] using this) (by simp only [List.length_cons] at hk; omega) (inv.set hr' hkn) hB' hK)
theorem wp_region_head {id : Nat} {Q : Exit → Act → World → Prop} {a : Act} {w : World} {l : List Oper} (n : Nat) (hm : P.follows .mixedOrders = true) (hB : Region.lexTailB .any l.toArray n = true) (hC : C w.drew)
    (h : wpQuiet P l.toArray C (fun a' => ∀ w', C w' → wpList P l.toArray Q (l.drop n) a' w') (l.take n) a) : (Code.region id l.toArray true).wp P Q a w := by
  simp only [Region.lexTailB, Bool.and_eq_true, decide_eq_true_eq] at hB
  obtain ⟨⟨⟨⟨hsel, hn⟩, hs⟩, hc⟩, hlex⟩ := hB
  have hn' : n < l.length := by simpa using hn
  have htl : (l.take n).length = n := by simp; omega
  have hdl : (l.drop n).length = l.toArray.size - n := by simp
  have inv0 : HeadInv .any l.toArray n (Array.replicate l.toArray.size false) :=
    ⟨by simp, fun j oj _ hl => (by rw [getD_replicate_false] at hl; cases hl), fun t _ ht => getD_in (by simpa using ht) (getD_replicate_false _ _)⟩
  have H := HeadQ.lex (md := .any) (C := C) (g := l.toArray.size - n) hsel hs hc hn (l.take n) 0 _ a (fun j hj => by
    have hj' : j < n := by rw [htl] at hj; exact hj
    simp [hj']) (by simpa using htl) inv0 (by rw [htl]; exact hlex) h
  refine wp_region_any hm ?_
  have := HeadQ.any (Q := Q) (g := l.toArray.size - n) (fun listed a' hL w' hw' => by
    have := wpAny_of_seq (md := .any) (Q' := Q) (l.drop n) n listed a' w' (fun j => by simp [List.getElem?_drop]) (by rw [hdl]; exact hL.1) (hL.2 w' hw')
    rwa [hdl] at this) _ _ _ w.drew hC H
  rw [htl, show n + (l.toArray.size - n) = l.toArray.size by omega] at this
  exact this
theorem wp_region_all {id : Nat} {Q : Exit → Act → World → Prop} {a : Act} {w : World} {l : List Oper} (hm : P.follows .mixedOrders = true) (hB : Region.lexB .any l.toArray = true) (hC : C w.drew)
    (h : wpQuiet P l.toArray C (fun a' => ∀ w', C w' → Q .normal a' w') l a) : (Code.region id l.toArray true).wp P Q a w :=
  wp_region_quiet (C := C) hm hB hC (by simpa using h)
end
section
variable {P : Program} {ops : Array Oper} {rest : List Oper} {o : Oper} {a : Act} {bs : List Nat} {w0 : World} {Q : Act → Prop} {L : List Ent} {b : Nat} {t : TypeId} {c : Array Value}
theorem q_pure {C : World → Prop} {v : Value} (hw : Region.wanted o (yielded ops a.tmps) = true) (hr : ∀ w, (execOp a.eval o).run P w = .ok (.value v) w) (h : wpQuiet P ops C Q rest (a.put o.dst v)) : wpQuiet P ops C Q (o :: rest) a := by
  unfold wpQuiet
  rw [if_pos hw]
  exact ⟨v, fun w _ => by unfold Oper.quietAt; rw [hr w]; exact ⟨rfl, rfl⟩, h⟩
theorem q_skip {C : World → Prop} (hw : Region.wanted o (yielded ops a.tmps) = false) (h : wpQuiet P ops C Q rest (a.put o.dst undef)) : wpQuiet P ops C Q (o :: rest) a := by
  unfold wpQuiet
  rw [if_neg (by rw [hw]; decide)]
  exact h
theorem q_cell {v : Value} {j : Nat} (hw : Region.wanted o (yielded ops a.tmps) = true) (ty : TypeId) (x : Operand) (ho : o.op = .load ty x) (hx : a.eval x = .pointer (some ⟨b, j, none⟩)) (m : At L b t c) (hv : c[j]? = some v)
    (hu : ∀ w, (isAgg ty).run P w = .ok false w)
    (h : wpQuiet P ops (fun w' => St bs w0 w' L) Q rest (a.put o.dst v)) : wpQuiet P ops (fun w' => St bs w0 w' L) Q (o :: rest) a := by
  unfold wpQuiet
  rw [if_pos hw]
  refine ⟨v, fun w hS => ?_, h⟩
  have hl := (hS.get m).cell hv
  unfold Oper.quietAt execOp
  simp only [ho, hx, Instr.loadAt, Instr.sureAddr, loadVar, Sem.run_bind, hu, Result.andThen_ok, Sem.run_pure, Bool.false_eq_true, if_false, run_load, hl]
  exact ⟨rfl, rfl⟩
theorem q_call {f : FuncId} {args : Array Value} {v : Value} (hw : Region.wanted o (yielded ops a.tmps) = true) (hr : ∀ w, (execOp a.eval o).run P w = .ok (.enter f args) w)
    (hc : ∀ w, Calls P f args w fun e w' => e = .returned v ∧ Tch [] w w')
    (h : wpQuiet P ops (fun w' => St bs w0 w' L) Q rest (a.put o.dst v)) : wpQuiet P ops (fun w' => St bs w0 w' L) Q (o :: rest) a := by
  unfold wpQuiet
  rw [if_pos hw]
  refine ⟨v, fun w hS => ?_, h⟩
  unfold Oper.quietAt
  rw [hr w]
  exact ⟨rfl, (hc w).mono fun e w' ⟨he, hb⟩ => ⟨he, hS.call hb⟩⟩
end
/-! ### Orders walked one by one, where an allocation floats -/
section
variable {P : Program} {ops : Array Oper} {i : Nat} {o : Oper} {a : Act} {bs : List Nat} {w0 w : World} {Q : Exit → Act → World → Prop} {K : Act → World → Prop} {L L' : List Ent} {b : Nat} {t : TypeId} {c c' : Array Value}
end
section
variable {P : Program} {ops : Array Oper} {rest : List Oper} {o : Oper} {a : Act} {bs : List Nat} {w0 w : World} {Q : Exit → Act → World → Prop} {L : List Ent} {b : Nat} {t : TypeId} {c : Array Value}
theorem st_cell {v : Value} {j : Nat} (hS : St bs w0 w L) (hgd : o.guard = none) (ty : TypeId) (x : Operand) (ho : o.op = .load ty x) (hx : a.eval x = .pointer (some ⟨b, j, none⟩)) (m : At L b t c) (hv : c[j]? = some v)
    (hu : ∀ w, (isAgg ty).run P w = .ok false w) (h : wpList P ops Q rest (a.put o.dst v) w) : wpList P ops Q (o :: rest) a w :=
  wpList_plain hgd fun K hK => by
    have hl := (hS.get m).cell hv
    unfold Oper.wp execOp
    simp only [ho, hx, Instr.loadAt, Instr.sureAddr, loadVar, Sem.run_bind, hu, Result.andThen_ok, Sem.run_pure, Bool.false_eq_true, if_false, run_load, hl]
    exact hK _ _ h
end
structure KQ (ops : Array Oper) (C : World → Prop) (Q : Act → Prop) (l : List Oper) (a : Act) : Prop where
  go : wpQuiet Tryz.prog ops C Q l a
section
variable {o : Oper} {a : Act} {x y : Nat} {ops : Array Oper} {rest : List Oper} {C : World → Prop} {Q : Act → Prop} {t : Bool}
theorem k_pure {v : Value} (hw : Region.wanted o (yielded ops a.tmps) = true) (hr : ∀ w, (execOp a.eval o).run Tryz.prog w = .ok (.value v) w) (h : KQ ops C Q rest (a.put o.dst v)) : KQ ops C Q (o :: rest) a := ⟨q_pure hw hr h.go⟩
theorem k_end (h : Q a) : KQ ops C Q [] a := ⟨wpQuiet_nil h⟩
theorem k_skip {j d : Nat} {b want : Bool} {p : Oper} (hg : o.guard = some (j, want)) (hp : ops[j]? = some p) (hd : p.dst = some d) (ht : a.tmps[d]? = some (.bool b)) (hb : (!(b == want)) = true)
    (h : KQ ops C Q rest (a.put o.dst undef)) : KQ ops C Q (o :: rest) a := by
  refine ⟨q_skip ?_ h.go⟩
  have hy : yielded ops a.tmps j = some b := by unfold yielded; simp only [hp, Option.bind_some, hd, ht]
  have hw : Region.wanted o (yielded ops a.tmps) = (yielded ops a.tmps j == some want) := by unfold Region.wanted; simp only [hg]
  rw [hw, hy]
  cases b <;> cases want <;> first | rfl | simp at hb
theorem k_val {v : Value} (hw : Region.wanted o (yielded ops a.tmps) = true) (xo : Operand) (ho : o.op = .move xo ∨ o.op = .assign xo) (hx : a.eval xo = v)
    (h : KQ ops C Q rest (a.put o.dst v)) : KQ ops C Q (o :: rest) a :=
  k_pure hw (fun w => by unfold execOp; rcases ho with ho | ho <;> simp only [ho, hx] <;> rfl) h
theorem k_intm {k : IntKind} {n : Int} (hw : Region.wanted o (yielded ops a.tmps) = true) (xo : Operand) (ho : o.op = .move xo) (hx : a.eval xo = .int k n)
    (h : KQ ops C Q rest (a.put o.dst (.int k n))) : KQ ops C Q (o :: rest) a := k_val hw xo (.inl ho) hx h
theorem k_inta {k : IntKind} {n : Int} (hw : Region.wanted o (yielded ops a.tmps) = true) (xo : Operand) (ho : o.op = .assign xo) (hx : a.eval xo = .int k n)
    (h : KQ ops C Q rest (a.put o.dst (.int k n))) : KQ ops C Q (o :: rest) a := k_val hw xo (.inr ho) hx h
theorem k_boola (hw : Region.wanted o (yielded ops a.tmps) = true) (xo : Operand) (ho : o.op = .assign xo) (hx : a.eval xo = .bool t)
    (h : KQ ops C Q rest (a.put o.dst (.bool t))) : KQ ops C Q (o :: rest) a := k_val hw xo (.inr ho) hx h
section
variable {bs : List Nat} {w0 : World} {L : List Ent} {b : Nat} {ty : TypeId} {c : Array Value} {v : Value} {f : FuncId} {ts : Array TypeId}
theorem k_cell {j : Nat} (hw : Region.wanted o (yielded ops a.tmps) = true) (ty' : TypeId) (xo : Operand) (ho : o.op = .load ty' xo) (hx : a.eval xo = .pointer (some ⟨b, j, none⟩)) (m : At L b ty c) (hv : c[j]? = some v)
    (hu : ∀ w, (isAgg ty').run Tryz.prog w = .ok false w)
    (h : KQ ops (fun w' => St bs w0 w' L) Q rest (a.put o.dst v)) : KQ ops (fun w' => St bs w0 w' L) Q (o :: rest) a := ⟨q_cell hw ty' xo ho hx m hv hu h.go⟩
theorem k_call {xs : Array Operand} {args : Array Value} (hw : Region.wanted o (yielded ops a.tmps) = true) (ho : o.op = .call { callee := .value (.func f), args := xs, argTypes := ts }) (ha : xs.map a.eval = args)
    (hc : (∀ args w, (callFunc f args).run Tryz.prog w = .ok (.enter f args) w) ∧ ∀ w, Calls Tryz.prog f args w fun e w' => e = .returned v ∧ Tch [] w w')
    (h : KQ ops (fun w' => St bs w0 w' L) Q rest (a.put o.dst v)) : KQ ops (fun w' => St bs w0 w' L) Q (o :: rest) a :=
  ⟨q_call hw (fun w => by unfold execOp; simp [ho, resolve, invoke, ha, hc.1, show a.eval (.func f) = .func (.func f) #[] #[] from rfl, Deferred.ofValue]) hc.2 h.go⟩
end
end
theorem k_region {id : Nat} {Q : Exit → Act → World → Prop} {a : Act} {w : World} {l : List Oper} {C : World → Prop} (hm : Tryz.prog.follows .mixedOrders = true) (hB : Region.lexB .any l.toArray = true) (hC : C w.drew)
    (h : KQ l.toArray C (fun a' => ∀ w', C w' → Q .normal a' w') l a) : (Code.region id l.toArray true).wp Tryz.prog Q a w := wp_region_all hm hB hC h.go
theorem k_region_head {id : Nat} {Q : Exit → Act → World → Prop} {a : Act} {w : World} {l : List Oper} {C : World → Prop} (n : Nat) (hm : Tryz.prog.follows .mixedOrders = true) (hB : Region.lexTailB .any l.toArray n = true) (hC : C w.drew)
    (h : KQ l.toArray C (fun a' => ∀ w', C w' → wpList Tryz.prog l.toArray Q (l.drop n) a' w') (l.take n) a) : (Code.region id l.toArray true).wp Tryz.prog Q a w := wp_region_head n hm hB hC h.go
theorem o_callR {P : Program} {ops : Array Oper} {i : Nat} {o : Oper} {a : Act} {w : World} {Q : Exit → Act → World → Prop} {K : Act → World → Prop} {f : FuncId} {args : Array Value} {R : Ending → World → Prop} (ho : ops[i]? = some o) (hw : Region.wanted o (yielded ops a.tmps) = true) (hr : (execOp a.eval o).run P w = .ok (.enter f args) w)
    (hc : Calls P f args w R) (h : ∀ e w', R e w' → ∃ v, e = .returned v ∧ K (a.put o.dst v) w') : wpOp P ops Q i K a w := by
  unfold wpOp
  simp only [ho, hw, if_true]
  refine .inl ?_
  unfold Oper.wp
  rw [hr]
  exact hc.mono fun e w' hR => by
    obtain ⟨v, rfl, hk⟩ := h e w' hR
    exact hk
end
section
open Go.RowKit
def bc (n : Nat) (f : Nat → Nat) : Array Value := ((List.range n).map fun i => Value.int .u8 ((f i : Nat) : Int)).toArray
theorem bc_wf (f : Nat → Nat) : bc 32 f = wf f := rfl
theorem bc_size (n : Nat) (f : Nat → Nat) : (bc n f).size = n := by simp [bc]
theorem bc_get {n : Nat} {f : Nat → Nat} {i : Nat} (h : i < n) : (bc n f)[i]? = some (Value.int .u8 ((f i : Nat) : Int)) := by simp [bc, h]
theorem bc_none {n : Nat} {f : Nat → Nat} {i : Nat} (h : n ≤ i) : (bc n f)[i]? = none := by rw [Array.getElem?_eq_none]; rw [bc_size]; exact h
theorem bc_set {n : Nat} {f : Nat → Nat} {k v : Nat} (h : k < n) : (bc n f).setIfInBounds k (.int .u8 (v : Int)) = bc n (fun i => if i = k then v else f i) := by
  apply Array.ext_getElem?
  intro i
  rw [Array.getElem?_setIfInBounds]
  by_cases hi : i < n
  · rw [bc_get hi, bc_get hi]
    by_cases hk : k = i
    · subst hk; simp [bc_size, h]
    · rw [if_neg hk, if_neg (fun e => hk e.symm)]
  · rw [bc_none (by omega), bc_none (by omega), if_neg (by omega)]
theorem bc_congr {n : Nat} {f g : Nat → Nat} (h : ∀ i, i < n → f i = g i) : bc n f = bc n g := by
  apply Array.ext_getElem?
  intro i
  by_cases hi : i < n
  · rw [bc_get hi, bc_get hi, h i hi]
  · rw [bc_none (by omega), bc_none (by omega)]
theorem bc_one (n : Nat) (f : Nat → Nat) : (bc n f).all (·.oneCell') = true := by
  rw [Array.all_eq_true_iff_forall_mem]
  intro x hx
  unfold bc at hx
  rw [List.mem_toArray] at hx
  obtain ⟨i, _, rfl⟩ := List.mem_map.1 hx
  rfl
theorem u8_size : (Tryz.prog.info? 5).map (·.size) = some 1 := by kernel_rfl
theorem St.alloc {bs : List Nat} {w0 w : World} {L : List Ent} (h : St bs w0 w L) (o : Obj) : St bs w0 (w.alloc o) L :=
  ⟨h.frame.alloc o, fun e he => ⟨(h.blk e he).1.alloc o, (h.blk e he).2⟩, h.apart⟩
theorem St.lose {bs : List Nat} {w0 w w' : World} {L : List Ent} {b : Nat} {t : TypeId} {c : Array Value} (h : St bs w0 w ((b, t, c) :: L)) (hT : Tch [b] w w') : St bs w0 w' L :=
  ⟨⟨hT.os.trans h.frame.os, hT.tape.trans h.frame.tape, hT.output.trans h.frame.output, Nat.le_trans h.frame.size hT.size, fun k hk hkb => by
      have hkw : k < w.heap.size := Nat.lt_of_lt_of_le hk h.frame.size
      refine (hT.block k hkw fun hm => ?_).trans (h.frame.block k hk hkb)
      obtain rfl : k = b := by simpa using hm
      rcases h.own .head with h1 | h1
      · omega
      · exact hkb h1⟩, fun e he => by
    have hne : e.1 ≠ b := fun e1 => (List.pairwise_cons.1 h.apart).1 e he e1.symm
    have := h.blk e (List.mem_cons_of_mem _ he)
    exact ⟨hT.blk this.1 (by simpa using hne), this.2⟩, (List.pairwise_cons.1 h.apart).2⟩
def nb (l : List Nat) : List Value := l.map fun x => Value.int .u8 ((x : Nat) : Int)
theorem nb_length (l : List Nat) : (nb l).length = l.length := by simp [nb]
theorem nb_get {l : List Nat} {i : Nat} (h : i < l.length) : (nb l)[i]? = some (.int .u8 ((l.getD i 0 : Nat) : Int)) := by simp [nb, h]
def RdB (w : World) (v : Value) (l : List Nat) : Prop := ∃ p c, v = .slice p l.length c ∧ l.length ≤ c ∧ (∀ x ∈ l, x < 256) ∧ (l ≠ [] → ∃ b o, p = some ⟨b, o, none⟩ ∧ b < w.heap.size ∧ ∀ i, i < l.length → w.cell? ⟨b, o + i, none⟩ = some (.int .u8 ((l.getD i 0 : Nat) : Int)))
theorem RdB.tch {bs : List Nat} {w w' : World} {v : Value} {l : List Nat} (h : RdB w v l) (hT : Tch bs w w') (hb : ∀ x ∈ bs, w.heap.size ≤ x) : RdB w' v l := by
  obtain ⟨p, c, h1, h2, h3, h4⟩ := h
  refine ⟨p, c, h1, h2, h3, fun hl => ?_⟩
  obtain ⟨b, o, h5, h6, h7⟩ := h4 hl
  exact ⟨b, o, h5, Nat.lt_of_lt_of_le h6 hT.size, fun i hi => by rw [hT.cell (p := ⟨b, o + i, none⟩) h6 (fun hm => Nat.lt_irrefl b (Nat.lt_of_lt_of_le h6 (hb _ hm)))]; exact h7 i hi⟩
theorem RdB.nil (w : World) : RdB w (.slice none 0 0) [] := ⟨none, 0, rfl, Nat.le_refl _, by simp, fun h => absurd rfl h⟩
theorem RdB.blk {w : World} {b n : Nat} {t : TypeId} {f : Nat → Nat} (h : Blk w b t (bc n f)) (hf : ∀ i, i < n → f i < 256) : RdB w (.slice (some ⟨b, 0, none⟩) n n) ((List.range n).map f) :=
  ⟨some ⟨b, 0, none⟩, n, by simp, by simp, fun x hx => by obtain ⟨i, hi, rfl⟩ := List.mem_map.1 hx; exact hf i (List.mem_range.1 hi), fun _ => ⟨b, 0, rfl, h.lt, fun i hi => by
    have hi' : i < n := by simpa using hi
    rw [Nat.zero_add, h.cell (bc_get hi')]; simp [hi']⟩⟩
theorem RdB.own {w : World} {B n : Nat} {v : Value} {l : List Nat} (h : w.ownsRow B 5 1 v n (nb l)) (hl : ∀ x ∈ l, x < 256) : RdB w v l := by
  obtain ⟨h1, h2⟩ := h
  rw [nb_length, Nat.mul_one] at h1
  subst h1
  rcases h2 with ⟨rfl, h0⟩ | ⟨g, cap, cur, rfl, hg, hb, hn, _, hcs, htk⟩
  · have : l = [] := List.length_eq_zero_iff.1 h0
    subst this
    exact RdB.nil w
  · refine ⟨some ⟨g, 0, none⟩, cap, rfl, hn, hl, fun _ => ⟨g, 0, rfl, (Array.getElem?_eq_some_iff.1 hb).1, fun i hi => ?_⟩⟩
    have hB : Blk w g 5 cur := hb
    rw [Nat.zero_add, hB.cell (v := .int .u8 ((l.getD i 0 : Nat) : Int))]
    have e := congrArg (fun x => x[i]?) htk
    simp only [Nat.mul_one, List.getElem?_take, hi, if_true, nb_get hi] at e
    simpa using e
def strB (l : List Nat) : ByteArray := ⟨(l.map UInt8.ofNat).toArray⟩
theorem bytes_ty : Tryz.prog.underlying 26 = some (.slice 5) := by kernel_rfl
theorem byte_ty : Tryz.prog.underlying 5 = some (.int .u8) := by kernel_rfl
theorem string_ty : Tryz.prog.underlying 9 = some .string := by kernel_rfl
theorem conv_rd {w : World} {v : Value} {l : List Nat} (h : RdB w v l) : (convert 26 9 v).run Tryz.prog w = .ok (.string (strB l)) w := by
  obtain ⟨p, c, rfl, h2, h3, h4⟩ := h
  by_cases hl : l = []
  · subst hl
    cases p with
    | none => rw [run_convert_bytes_string w 26 9 5 none _ c bytes_ty byte_ty string_ty]; rfl
    | some a => exact run_convert_bytes_back w 26 9 5 a c [] bytes_ty byte_ty string_ty (fun j hj => by simp at hj)
  · obtain ⟨b, o, rfl, h6, h7⟩ := h4 hl
    have := run_convert_bytes_back (P := Tryz.prog) w 26 9 5 ⟨b, o, none⟩ c (l.map UInt8.ofNat) bytes_ty byte_ty string_ty (fun j hj => by
      have hj' : j < l.length := by simpa using hj
      have hadd : (⟨b, o, none⟩ : Addr).add j = ⟨b, o + j, none⟩ := by unfold Addr.add; split <;> simp_all
      have hx : l[j] < 256 := h3 _ (List.getElem_mem hj')
      rw [hadd, h7 j hj']
      simp [hj', Nat.mod_eq_of_lt hx])
    rwa [List.length_map] at this
theorem A_info : (Tryz.prog.info? 5).map (fun i => (i.zero, i.size, i.bytes)) = some (some (.int .u8 0), 1, 1) := by kernel_rfl
theorem make_bytes (n : Nat) : madeCells (Value.int .u8 0).cells (n * 1) = bc n fun _ => 0 := by
  apply Array.ext_getElem?
  intro i
  have h : madeCells (Value.int .u8 0).cells (n * 1) = Array.replicate n (.int .u8 0) := by
    simp only [madeCells, Value.cells, Nat.mul_one]
    apply Array.ext (by simp)
    intro j h1 h2
    simp [Nat.mod_one]
  rw [h]
  by_cases hi : i < n
  · rw [bc_get hi]; simp [hi]
  · rw [bc_none (by omega)]; simp [hi]
end
section
open Go.RowKit
def wr (f : Nat → Nat) (at_ : Nat) (l : List Nat) : Nat → Nat := fun i => if at_ ≤ i ∧ i < at_ + l.length then l.getD (i - at_) 0 else f i
theorem wr_nil (f : Nat → Nat) (p : Nat) : wr f p [] = f := by
  funext i; unfold wr; rw [if_neg (by simp)]
theorem wr_one (f : Nat → Nat) (p x : Nat) : wr f p [x] = fun i => if i = p then x else f i := by
  funext i; unfold wr
  by_cases h : i = p
  · rw [if_pos (by simp; omega), if_pos h, h]; simp
  · rw [if_neg (by simp; omega), if_neg h]
theorem wr_wr (f : Nat → Nat) (p : Nat) (l m : List Nat) : wr (wr f (p + l.length) m) p l = wr f p (l ++ m) := by
  funext i; unfold wr
  rw [List.length_append]
  by_cases h1 : p ≤ i ∧ i < p + l.length
  · rw [if_pos h1, if_pos (by omega)]
    rw [List.getD_eq_getElem?_getD, List.getD_eq_getElem?_getD, List.getElem?_append_left (by omega)]
  · rw [if_neg h1]
    by_cases h2 : p + l.length ≤ i ∧ i < p + l.length + m.length
    · rw [if_pos h2, if_pos (by omega)]
      rw [List.getD_eq_getElem?_getD, List.getD_eq_getElem?_getD, List.getElem?_append_right (by omega)]
      rw [show i - (p + l.length) = i - p - l.length by omega]
    · rw [if_neg h2, if_neg (by omega)]
theorem wr_zero (f : Nat → Nat) (l : List Nat) : bc l.length (wr f 0 l) = bc l.length (fun i => l.getD i 0) := by
  refine bc_congr fun i hi => ?_
  unfold wr; rw [if_pos (by omega), Nat.sub_zero]
def RdA (X : List Nat) (w : World) (v : Value) (l : List Nat) : Prop := ∃ p c, v = .slice p l.length c ∧ l.length ≤ c ∧ (∀ x ∈ l, x < 256) ∧ (l ≠ [] → ∃ b o, p = some ⟨b, o, none⟩ ∧ b < w.heap.size ∧ b ∉ X ∧ ∀ i, i < l.length → w.cell? ⟨b, o + i, none⟩ = some (.int .u8 ((l.getD i 0 : Nat) : Int)))
theorem RdA.tch {X : List Nat} {w w' : World} {v : Value} {l : List Nat} (h : RdA X w v l) (hT : Tch X w w') : RdA X w' v l := by
  obtain ⟨p, c, h1, h2, h3, h4⟩ := h
  refine ⟨p, c, h1, h2, h3, fun hl => ?_⟩
  obtain ⟨b, o, h5, h6, h7, h8⟩ := h4 hl
  exact ⟨b, o, h5, Nat.lt_of_lt_of_le h6 hT.size, h7, fun i hi => by rw [hT.cell (p := ⟨b, o + i, none⟩) h6 h7]; exact h8 i hi⟩
theorem RdA.rdB {X : List Nat} {w : World} {v : Value} {l : List Nat} (h : RdA X w v l) : RdB w v l := by
  obtain ⟨p, c, h1, h2, h3, h4⟩ := h
  refine ⟨p, c, h1, h2, h3, fun hl => ?_⟩
  obtain ⟨b, o, h5, h6, _, h8⟩ := h4 hl
  exact ⟨b, o, h5, h6, h8⟩
theorem RdB.rdA {X : List Nat} {w : World} {v : Value} {l : List Nat} (h : RdB w v l) (hX : ∀ x ∈ X, w.heap.size ≤ x) : RdA X w v l := by
  obtain ⟨p, c, h1, h2, h3, h4⟩ := h
  refine ⟨p, c, h1, h2, h3, fun hl => ?_⟩
  obtain ⟨b, o, h5, h6, h8⟩ := h4 hl
  exact ⟨b, o, h5, h6, fun hm => Nat.lt_irrefl b (Nat.lt_of_lt_of_le h6 (hX _ hm)), h8⟩
theorem RdA.mono {X Y : List Nat} {w : World} {v : Value} {l : List Nat} (h : RdA X w v l) (hX : ∀ y ∈ Y, y ∈ X ∨ w.heap.size ≤ y) : RdA Y w v l := by
  obtain ⟨p, c, h1, h2, h3, h4⟩ := h
  refine ⟨p, c, h1, h2, h3, fun hl => ?_⟩
  obtain ⟨b, o, h5, h6, h7, h8⟩ := h4 hl
  exact ⟨b, o, h5, h6, fun hm => (hX _ hm).elim h7 (fun h => by omega), h8⟩
theorem splice_bc (n0 at_ : Nat) (f : Nat → Nat) (l : List Nat) (h : at_ + l.length ≤ n0) : ((bc n0 f).toList.take at_ ++ (nb l ++ (bc n0 f).toList.drop (at_ + (nb l).length))).toArray = bc n0 (wr f at_ l) := by
  apply Array.ext_getElem?
  intro i
  simp only [nb_length, List.getElem?_toArray]
  have hsz : (bc n0 f).toList.length = n0 := by simp [bc_size]
  have hg : ∀ i, (bc n0 f).toList[i]? = (bc n0 f)[i]? := fun i => Array.getElem?_toList
  by_cases h1 : i < at_
  · rw [List.getElem?_append_left (by rw [List.length_take, hsz]; omega), List.getElem?_take, if_pos h1, hg, bc_get (by omega), bc_get (by omega)]
    unfold wr; rw [if_neg (by omega)]
  · rw [List.getElem?_append_right (by rw [List.length_take, hsz]; omega), List.length_take, hsz, Nat.min_eq_left (by omega)]
    by_cases h2 : i < at_ + l.length
    · rw [List.getElem?_append_left (by rw [nb_length]; omega), nb_get (by omega), bc_get (by omega)]
      unfold wr; rw [if_pos (by omega)]
    · rw [List.getElem?_append_right (by rw [nb_length]; omega), nb_length, List.getElem?_drop, show at_ + l.length + (i - at_ - l.length) = i by omega, hg]
      by_cases h3 : i < n0
      · rw [bc_get h3, bc_get h3]; unfold wr; rw [if_neg (by omega)]
      · rw [bc_none (by omega), bc_none (by omega)]
theorem copy_bytes {ops : Array Oper} {rest : List Oper} {o : Oper} {a : Act} {w : World} {Q : Exit → Act → World → Prop} {b n0 at_ c : Nat} {t sT : TypeId} {f : Nat → Nat} {v : Value} {l : List Nat} (hB : Blk w b t (bc n0 f)) (hgd : o.guard = none) (d s : Operand)
    (ho : o.op = .call { callee := .builtin .copy, args := #[d, s], argTypes := #[26, sT] }) {dp : Option Addr} (hd : a.eval d = .slice dp l.length c) (hdp : l ≠ [] → dp = some ⟨b, at_, none⟩) (hs : a.eval s = v) (hv : RdB w v l) (hl : at_ + l.length ≤ n0)
    (h : ∀ w', Blk w' b t (bc n0 (wr f at_ l)) → Only b w w' → wpList Tryz.prog ops Q rest (a.put o.dst (goInt l.length)) w') : wpList Tryz.prog ops Q (o :: rest) a w := by
  obtain ⟨p, c', rfl, h2, h3, h4⟩ := hv
  by_cases hl0 : l = []
  · subst hl0
    refine wpList_copy_nothing hgd d s _ sT ho _ bytes_ty u8_size _ _ _ _ _ _ hd hs (by simp) ?_
    refine h w ?_ (Only.refl _ _)
    rw [wr_nil]; exact hB
  · obtain ⟨pb, po, rfl, h6, h7⟩ := h4 hl0
    obtain rfl := hdp hl0
    refine wpList_copy_own hgd d s 26 sT ho 5 bytes_ty u8_size b at_ l.length c ⟨pb, po, none⟩ l.length c' hd hs (bc n0 f) t hB (nb l) (by rw [nb_length]; exact (Nat.min_self _).symm) (fun j u hj => ?_) (by rw [nb_length, bc_size]; exact hl) (fun u hu => ?_) ?_
    · have hj' : j < l.length := by
        have := (List.getElem?_eq_some_iff.1 hj).1
        rwa [nb_length] at this
      have hadd : (⟨pb, po, none⟩ : Addr).add j = ⟨pb, po + j, none⟩ := by unfold Addr.add; split <;> simp_all
      rw [hadd, h7 j hj', ← nb_get hj', hj]
    · obtain ⟨x, _, rfl⟩ := List.mem_map.1 hu; rfl
    · rw [splice_bc _ _ _ _ hl, nb_length]
      exact h _ (hB.row _) (Only.setRow _ _ _)
theorem RdA.take {X : List Nat} {w : World} {p : Option Addr} {n c k : Nat} {l : List Nat} (h : RdA X w (.slice p n c) l) (hk : k ≤ n) : RdA X w (.slice p k c) (l.take k) := by
  obtain ⟨p', c', h1, h2, h3, h4⟩ := h
  cases h1
  refine ⟨p, c, by rw [List.length_take, Nat.min_eq_left hk], by rw [List.length_take]; omega, fun x hx => h3 x (List.mem_of_mem_take hx), fun hl => ?_⟩
  have hne : l ≠ [] := by intro e; subst e; simp at hl
  obtain ⟨b, o, h5, h6, h7, h8⟩ := h4 hne
  refine ⟨b, o, h5, h6, h7, fun i hi => ?_⟩
  rw [List.length_take] at hi
  rw [h8 i (by omega), List.getD_eq_getElem?_getD, List.getD_eq_getElem?_getD, List.getElem?_take, if_pos (by omega)]
theorem RdA.len {X : List Nat} {w : World} {p : Option Addr} {n c : Nat} {l : List Nat} (h : RdA X w (.slice p n c) l) : n = l.length := by
  obtain ⟨p', c', h1, _⟩ := h
  cases h1; rfl
theorem RdA.cap {X : List Nat} {w : World} {p : Option Addr} {n c : Nat} {l : List Nat} (h : RdA X w (.slice p n c) l) : n ≤ c := by
  obtain ⟨p', c', h1, h2, _⟩ := h
  cases h1; exact h2
theorem RdA.lt {X : List Nat} {w : World} {v : Value} {l : List Nat} (h : RdA X w v l) : ∀ x ∈ l, x < 256 := h.choose_spec.choose_spec.2.2.1
theorem sizeOf_u8 (w : World) : (sizeOf 5).run Tryz.prog w = .ok 1 w := by kernel_rfl
theorem slice_keep {X : List Nat} {w : World} {v : Value} {l : List Nat} (h : RdA X w v l) : ∃ p n c, v = .slice p n c := by
  obtain ⟨p, c, h, _⟩ := h; exact ⟨p, _, c, h⟩
theorem RdA.gone {X : List Nat} {w : World} {p q : Option Addr} {n c m k : Nat} {l : List Nat} (h : RdA X w (.slice p n c) l) (hk : n ≤ k) : RdA X w (.slice q 0 m) (l.drop k) := by
  rw [List.drop_eq_nil_of_le (by rw [← h.len]; exact hk)]
  exact ⟨q, m, rfl, Nat.zero_le _, by simp, fun h => absurd rfl h⟩
def RdF (w w' : World) (u : Value) (l : List Nat) : Prop := ∀ X, (∀ x ∈ X, x < w.heap.size) → RdA X w' u l
theorem RdB.rdA' {w : World} (h : RdB w (.slice none 0 0) []) (X : List Nat) : RdA X w (.slice none 0 0) [] := ⟨none, 0, rfl, Nat.le_refl _, by simp, fun h => absurd rfl h⟩
theorem nb_ne {l : List Nat} {i : Nat} {u : Value} (h : (nb l)[i]? = some u) : i < l.length ∧ u = .int .u8 ((l.getD i 0 : Nat) : Int) := by
  have hi : i < l.length := by
    have := (List.getElem?_eq_some_iff.1 h).1
    rwa [nb_length] at this
  rw [nb_get hi] at h
  exact ⟨hi, (Option.some.inj h).symm⟩
theorem RdF.own {w w' : World} {v : Value} {l : List Nat} (h : w'.ownsRow w.heap.size 5 1 v l.length (nb l)) (hl : ∀ x ∈ l, x < 256) : RdF w w' v l := by
  intro X hX
  obtain ⟨h1, h2⟩ := h
  rcases h2 with ⟨rfl, h0⟩ | ⟨g, cap, cur, rfl, hg, hb, hn, _, hcs, htk⟩
  · have : l = [] := List.length_eq_zero_iff.1 h0
    subst this
    exact (RdB.nil w').rdA' X
  · refine ⟨some ⟨g, 0, none⟩, cap, rfl, hn, hl, fun _ => ⟨g, 0, rfl, (Array.getElem?_eq_some_iff.1 hb).1, fun hm => by have := hX _ hm; omega, fun i hi => ?_⟩⟩
    have hB : Blk w' g 5 cur := hb
    rw [Nat.zero_add, hB.cell (v := .int .u8 ((l.getD i 0 : Nat) : Int))]
    have e := congrArg (fun x => x[i]?) htk
    simp only [Nat.mul_one, List.getElem?_take, hi, if_true, nb_get hi] at e
    simpa using e
theorem St.apart2 {bs : List Nat} {w0 w : World} {L : List Ent} {e f : Ent} (h : St bs w0 w (e :: f :: L)) : e.1 ≠ f.1 := (List.pairwise_cons.1 h.apart).1 f List.mem_cons_self
theorem Tch.fresh {w a b : World} {bs : List Nat} (h : Tch [] w a) (k : Tch bs a b) (hb : ∀ x ∈ bs, w.heap.size ≤ x) : Tch [] w b :=
  (h.mono (by simp)).trans (k.mono (cs := bs) (fun x hx => .inl hx)) |>.mono (fun x hx => .inr (hb x hx))
theorem strB_list (l : List Nat) : (strB l).toList = l.map UInt8.ofNat := by
  rw [ByteArray.toList_eq]; rfl
theorem ofNat_inj : ∀ {a b : List Nat}, (∀ x ∈ a, x < 256) → (∀ x ∈ b, x < 256) → a.map UInt8.ofNat = b.map UInt8.ofNat → a = b
  | [], [], _, _, _ => rfl
  | [], _ :: _, _, _, h => by simp at h
  | _ :: _, [], _, _, h => by simp at h
  | x :: r, y :: s, ha, hb, h => by
    simp only [List.map_cons, List.cons.injEq] at h
    have h1 := congrArg UInt8.toNat h.1
    have hx := ha x List.mem_cons_self
    have hy := hb y List.mem_cons_self
    simp [Nat.mod_eq_of_lt hx, Nat.mod_eq_of_lt hy] at h1
    rw [h1, ofNat_inj (fun z hz => ha z (List.mem_cons_of_mem _ hz)) (fun z hz => hb z (List.mem_cons_of_mem _ hz)) h.2]
theorem strB_eq {a b : List Nat} (ha : ∀ x ∈ a, x < 256) (hb : ∀ x ∈ b, x < 256) : ((strB a).toList == (strB b).toList) = (a == b) := by
  rw [strB_list, strB_list]
  by_cases h : a = b
  · subst h; simp
  · have h1 : ¬ a.map UInt8.ofNat = b.map UInt8.ofNat := fun e => h (ofNat_inj ha hb e)
    rw [beq_eq_false_iff_ne.2 h1, beq_eq_false_iff_ne.2 h]
theorem RdA.ofBlk {X : List Nat} {w : World} {b : Nat} {l : List Nat} (h : Blk w b 5 (bc l.length fun i => l.getD i 0)) (hl : ∀ x ∈ l, x < 256) (hb : b ∉ X) : RdA X w (.slice (some ⟨b, 0, none⟩) l.length l.length) l :=
  ⟨_, _, rfl, Nat.le_refl _, hl, fun _ => ⟨b, 0, rfl, h.lt, hb, fun i hi => by rw [Nat.zero_add]; exact h.cell (bc_get hi)⟩⟩
theorem sizeOf_one {e n : Nat} (h : (Tryz.prog.info? e).map (·.size) = some n) (w : World) : (sizeOf e).run Tryz.prog w = .ok n w := by
  cases hq : Tryz.prog.info? e with
  | none => simp [hq] at h
  | some i =>
    have hs : i.size = n := by simpa [hq] using h
    simp [sizeOf, typeInfo, hq, hs]
theorem wpList_of_quiet {P : Program} {ops : Array Oper} {C : World → Prop} {Q : Exit → Act → World → Prop} : ∀ (l : List Oper) (a : Act) (w : World), C w → wpQuiet P ops C (fun a' => ∀ w', C w' → Q .normal a' w') l a → wpList P ops Q l a w
  | [], a, w, hC, h => h w hC
  | o :: rest, a, w, hC, h => by
    unfold wpQuiet at h
    unfold wpList
    split
    · rename_i hw
      rw [if_pos hw] at h
      exact .inl (Oper.wp_of_quiet hC (fun a w' hw' hK => wpList_of_quiet rest a w' hw' hK) h)
    · rename_i hw
      rw [if_neg hw] at h
      exact wpList_of_quiet rest _ w hC h
theorem k_seq {id : Nat} {Q : Exit → Act → World → Prop} {a : Act} {w : World} {l : List Oper} {C : World → Prop} (hC : C w)
    (h : KQ l.toArray C (fun a' => ∀ w', C w' → Q .normal a' w') l a) : (Code.region id l.toArray false).wp Tryz.prog Q a w :=
  wp_region_lit (wpList_of_quiet l a w hC h.go)
section
variable {o : Oper} {a : Act} {ops : Array Oper} {rest : List Oper} {C : World → Prop} {Q : Act → Prop}
theorem k_in {v : Value} (hw : Region.wanted o (yielded ops a.tmps) = true) (hr : ∀ w, C w → (execOp a.eval o).run Tryz.prog w = .ok (.value v) w) (h : KQ ops C Q rest (a.put o.dst v)) : KQ ops C Q (o :: rest) a := by
  constructor
  unfold wpQuiet
  rw [if_pos hw]
  exact ⟨v, fun w hC => by unfold Oper.quietAt; rw [hr w hC]; exact ⟨rfl, rfl⟩, h.go⟩
theorem k_callC {v : Value} {f : FuncId} {ts : Array TypeId} {xs : Array Operand} {args : Array Value} (hw : Region.wanted o (yielded ops a.tmps) = true) (ho : o.op = .call { callee := .value (.func f), args := xs, argTypes := ts }) (ha : xs.map a.eval = args)
    (hf : ∀ args w, (callFunc f args).run Tryz.prog w = .ok (.enter f args) w) (hc : ∀ w, C w → Calls Tryz.prog f args w fun e w' => e = .returned v ∧ C w')
    (h : KQ ops C Q rest (a.put o.dst v)) : KQ ops C Q (o :: rest) a := by
  constructor
  unfold wpQuiet
  rw [if_pos hw]
  refine ⟨v, fun w hC => ?_, h.go⟩
  have hr : (execOp a.eval o).run Tryz.prog w = .ok (.enter f args) w := by
    unfold execOp; simp [ho, resolve, invoke, ha, hf, show a.eval (.func f) = .func (.func f) #[] #[] from rfl, Deferred.ofValue]
  unfold Oper.quietAt
  rw [hr]
  exact ⟨rfl, hc w hC⟩
theorem k_idxSl {b off j n c e : Nat} (hw : Region.wanted o (yielded ops a.tmps) = true) (ty : TypeId) (x y : Operand) (ho : o.op = .indexAddr ty x y) (hx : a.eval x = .slice (some ⟨b, off, none⟩) n c) (hy : a.eval y = .int .i64 (j : Int)) (hu : Tryz.prog.underlying ty = some (.slice e)) (he : (Tryz.prog.info? e).map (·.size) = some 1) (hj : j < n)
    (h : KQ ops C Q rest (a.put o.dst (.pointer (some ⟨b, off + j, none⟩)))) : KQ ops C Q (o :: rest) a :=
  k_pure hw (fun w => by
    have hadd : (⟨b, off, none⟩ : Addr).add j = ⟨b, off + j, none⟩ := by unfold Addr.add; split <;> simp_all
    unfold execOp
    simp [ho, hx, hy, Instr.indexAt, run_underlying hu, Instr.sureAddr, asIntOf, sizeOf_one he, hj, hadd]) h
theorem k_callC1 {v v1 : Value} {f : FuncId} {ts : Array TypeId} {x1 : Operand} (hw : Region.wanted o (yielded ops a.tmps) = true) (ho : o.op = .call { callee := .value (.func f), args := #[x1], argTypes := ts }) (h1 : a.eval x1 = v1)
    (hf : ∀ args w, (callFunc f args).run Tryz.prog w = .ok (.enter f args) w) (hc : ∀ w, C w → Calls Tryz.prog f #[v1] w fun e w' => e = .returned v ∧ C w')
    (h : KQ ops C Q rest (a.put o.dst v)) : KQ ops C Q (o :: rest) a := k_callC hw ho (by simp [h1]) hf hc h
theorem k_slice {p : Option Addr} {l c : Nat} (hw : Region.wanted o (yielded ops a.tmps) = true) (xo : Operand) (ho : o.op = .move xo) (hx : a.eval xo = .slice p l c)
    (h : KQ ops C Q rest (a.put o.dst (.slice p l c))) : KQ ops C Q (o :: rest) a := k_val hw xo (.inl ho) hx h
end
end
end Go.Proofs.YtopfmaoeebgjmaaGreatDoor
