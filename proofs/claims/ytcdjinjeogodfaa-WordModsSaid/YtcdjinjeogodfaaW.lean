/- Blocks of memory known whole: the words that the walks share. No function of the program is walked here. -/
import Derived.Test.YtcdjinjeogodfaaV2
import Derived.WalkKit
import Derived.WalkSpells
import Derived.WalkLawsBesides
import Derived.Deep.RegionHeld3
import Derived.Laws.Externs
import Derived.Lib.Hide
namespace Go.Proofs.Ytcdjinjeogodfaa
open Go.RowKit

/-- Block b holds the cells c, of type t, none of them frozen. -/
def Blk (w : World) (b : Nat) (t : TypeId) (c : Array Value) : Prop := w.heap[b]? = some (.cells c t (0, 0))

section
variable {w w' : World} {b b' : Nat} {t : TypeId} {c : Array Value}
theorem Blk.lt (h : Blk w b t c) : b < w.heap.size := by
  unfold Blk at h
  exact (Array.getElem?_eq_some_iff.1 h).1
theorem Blk.cell {j : Nat} {v : Value} (h : Blk w b t c) (hv : c[j]? = some v) : w.cell? ⟨b, j, none⟩ = some v := by
  rw [cell_of_row w b j c t (0, 0) h]; exact hv
theorem Blk.free (h : Blk w b t c) (j : Nat) : w.frozen? ⟨b, j, none⟩ = false := frozen_of_row w b j c t h
theorem Blk.set (h : Blk w b t c) (j : Nat) (v : Value) : Blk (w.setCell ⟨b, j, none⟩ v) b t (c.setIfInBounds j v) := heap_setCell_same w b j c t v h
theorem Blk.far (h : Blk w b t c) {p : Addr} (hp : b ≠ p.block) (v : Value) : Blk (w.setCell p v) b t c := by
  unfold Blk; rw [heap_setCell_other w p b v hp]; exact h
theorem Blk.drew (h : Blk w b t c) : Blk w.drew b t c := h
theorem Blk.drewN (h : Blk w b t c) (n : Nat) : Blk (w.drewN n) b t c := h
theorem Blk.new (w : World) (t : TypeId) (c : Array Value) : Blk (w.alloc (.cells c t)) w.heap.size t c := Go.heap_alloc_new w _
theorem Blk.alloc (h : Blk w b t c) (o : Obj) : Blk (w.alloc o) b t c := by
  unfold Blk; rw [Below.heap_alloc w o b h.lt]; exact h
theorem Blk.row (h : Blk w b t c) (c' : Array Value) : Blk (w.setRow b c') b t c' := setRow_heap w b c c' t _ h
theorem Blk.rowFar (h : Blk w b t c) (hb : b ≠ b') (c' : Array Value) : Blk (w.setRow b' c') b t c := by
  unfold Blk; rw [setRow_other w b' b c' hb]; exact h
theorem Blk.below {B : Nat} (h : Blk w b t c) (hb : Below B w w') (hB : b < B) : Blk w' b t c := by
  unfold Blk; rw [hb.block b hB]; exact h
theorem below_row {B : Nat} {w0 : World} (hb : Below B w0 w) (hB : B ≤ b) (c' : Array Value) : Below B w0 (w.setRow b c') :=
  hb.trans ⟨rfl, rfl, rfl, by simp [World.setRow], fun k hk => setRow_other w b k c' (by omega)⟩
theorem below_drewN {B : Nat} {w0 : World} (hb : Below B w0 w) (n : Nat) : Below B w0 (w.drewN n) := ⟨hb.os, hb.tape, hb.output, hb.size, hb.block⟩
theorem Blk.load {P : Program} {ty : TypeId} {d : TypeDesc} (h : Blk w b t c) (hu : P.underlying ty = some d) (hd : (match d with | .struct _ | .array _ _ => true | _ => false) = true)
    {n : Nat} (hi : (P.info? ty).map (·.size) = some n) (hn : c.size = n) :
    (Instr.loadAt ty (.pointer (some ⟨b, 0, none⟩))).run P w = .ok (.agg c) w := by
  simp only [Instr.loadAt, Instr.sureAddr, Sem.run_bind, Sem.run_pure, Result.andThen_ok, run_loadVar_row w b t ty c (0, 0) d h hu hd (by rw [hn]; exact hi)]
theorem Blk.store {P : Program} {ty : TypeId} {c' : Array Value} (h : Blk w b t c) {n : Nat} (hi : (P.info? ty).map (·.size) = some n) (hn : c.size = n) (hn' : c'.size = n) (h1 : c'.all (·.oneCell') = true) :
    (Instr.storeAt ty (.pointer (some ⟨b, 0, none⟩)) (.agg c')).run P w = .ok () (w.setRow b c') := by
  have := run_storeCells_at (P := P) b 0 t c'.toList 0 c w h (by simp; omega) (fun x hx => (Array.all_eq_true_iff_forall_mem.1 h1) x (by simpa using hx))
  cases hq : P.info? ty with
  | none => simp [hq] at hi
  | some i =>
    have hs : i.size = n := by simpa [hq] using hi
    have e : c.toList.drop (0 + 0 + c'.toList.length) = [] := by rw [List.drop_eq_nil_iff]; simp; omega
    rw [e] at this
    simp only [Nat.add_zero, List.take_zero, List.nil_append, List.append_nil, Array.toArray_toList] at this
    simp [Instr.storeAt, Instr.sureAddr, storeVar, sizeOf, typeInfo, hq, Value.cells, hs, hn', this]
theorem results_cell_only {P : Program} {fn : Func} {p : Tmp} {ty : TypeId} (hr : fn.results = #[.cell p ty]) (tmps : Array Value) {d : TypeDesc} (hp : tmps.getD p undef = .pointer (some ⟨b, 0, none⟩)) (h : Blk w b t c)
    (hu : P.underlying ty = some d) (hd : (match d with | .struct _ | .array _ _ => true | _ => false) = true) {n : Nat} (hi : (P.info? ty).map (·.size) = some n) (hn : c.size = n) :
    (results fn tmps).run P w = .ok (.agg c) w := results_cell_row hr tmps w b t c (0, 0) d hp h hu hd (by rw [hn]; exact hi)
theorem results_cell_one {P : Program} {fn : Func} {p u : Tmp} {ty : TypeId} (hr : fn.results = #[.cell p ty, .tmp u]) (tmps : Array Value) {d : TypeDesc} (hp : tmps.getD p undef = .pointer (some ⟨b, 0, none⟩)) (h : Blk w b t c)
    (hu : P.underlying ty = some d) (hd : (match d with | .struct _ | .array _ _ => true | _ => false) = true) {n : Nat} (hi : (P.info? ty).map (·.size) = some n) (hn : c.size = n) :
    (results fn tmps).run P w = .ok (.tuple #[.agg c, tmps.getD u undef]) w := by
  rw [results_cell_tmp hr, hp]
  have e : (asAddr (.pointer (some ⟨b, 0, none⟩))).run P w = .ok ⟨b, 0, none⟩ w := rfl
  rw [e]
  simp only [Result.andThen_ok, run_loadVar_row w b t ty c (0, 0) d h hu hd (by rw [hn]; exact hi)]
end
/-- An array is loaded whole, out of a block known whole. -/
theorem arm_load {P : Program} {ops : Array Oper} {rest : List Oper} {o : Oper} {a : Act} {w : World} {Q : Exit → Act → World → Prop} {b : Nat} {c : Array Value} (hgd : o.guard = none) (ty : TypeId) (x : Operand)
    (ho : o.op = .load ty x) (hx : a.eval x = .pointer (some ⟨b, 0, none⟩)) (hl : (Instr.loadAt ty (.pointer (some ⟨b, 0, none⟩))).run P w = .ok (.agg c) w)
    (h : wpList P ops Q rest (a.put o.dst (.agg c)) w) : wpList P ops Q (o :: rest) a w :=
  wpList_plain hgd fun K hK => by
    unfold Oper.wp execOp
    simp only [ho, hx, Sem.run_bind, hl, Result.andThen_ok, Sem.run_pure]
    exact hK _ _ h
/-- An array is stored whole, into a block known whole. -/
theorem arm_store {P : Program} {ops : Array Oper} {rest : List Oper} {o : Oper} {a : Act} {w : World} {Q : Exit → Act → World → Prop} {b : Nat} {c : Array Value} {w' : World} (hgd : o.guard = none) (ty : TypeId) (x y : Operand)
    (ho : o.op = .store ty x y) (hx : a.eval x = .pointer (some ⟨b, 0, none⟩)) (hy : a.eval y = .agg c) (hl : (Instr.storeAt ty (.pointer (some ⟨b, 0, none⟩)) (.agg c)).run P w = .ok () w')
    (h : wpList P ops Q rest (a.put o.dst undef) w') : wpList P ops Q (o :: rest) a w :=
  wpList_plain hgd fun K hK => by
    unfold Oper.wp execOp
    simp only [ho, hx, hy, Sem.run_bind, hl, Result.andThen_ok, Sem.run_pure]
    exact hK _ _ h
/-- The end of a body whose one result is an array in memory. -/
theorem post_cell {P : Program} {fn : Func} {R : Ending → World → Prop} {a : Act} {w : World} {b : Nat} {t : TypeId} {c : Array Value} {d : TypeDesc} {n : Nat} (p : Tmp) (ty : TypeId) (hr : fn.results = #[.cell p ty]) (hd0 : a.defers = [])
    (hp : a.tmps.getD p undef = .pointer (some ⟨b, 0, none⟩)) (h : Blk w b t c)
    (hu : P.underlying ty = some d) (hd : (match d with | .struct _ | .array _ _ => true | _ => false) = true) (hi : (P.info? ty).map (·.size) = some n) (hn : c.size = n)
    (hR : R (.returned (.agg c)) w) : bodyPost P fn R .ret a w :=
  bodyPost_ret (results_cell_only hr a.tmps hp h hu hd hi hn) hd0 hR
/-- The end of a body with two results, of which the first one is an array in memory. -/
theorem post_cell_one {P : Program} {fn : Func} {R : Ending → World → Prop} {a : Act} {w : World} {b : Nat} {t : TypeId} {c : Array Value} {d : TypeDesc} {n : Nat} {v : Value} (p u : Tmp) (ty : TypeId) (hr : fn.results = #[.cell p ty, .tmp u]) (hd0 : a.defers = [])
    (hp : a.tmps.getD p undef = .pointer (some ⟨b, 0, none⟩)) (hv : a.tmps.getD u undef = v) (h : Blk w b t c)
    (hu : P.underlying ty = some d) (hd : (match d with | .struct _ | .array _ _ => true | _ => false) = true) (hi : (P.info? ty).map (·.size) = some n) (hn : c.size = n)
    (hR : R (.returned (.tuple #[.agg c, v])) w) : bodyPost P fn R .ret a w :=
  bodyPost_ret (results_cell_one hr a.tmps hp h hu hd hi hn) hd0 (by rw [hv]; exact hR)
/-- Of all that was there, at most block b has turned; no block has come or gone. -/
structure Only (b : Nat) (w w' : World) : Prop where
  os : w'.os = w.os
  tape : w'.tape = w.tape
  output : w'.output = w.output
  size : w'.heap.size = w.heap.size
  block : ∀ k, k ≠ b → w'.heap[k]? = w.heap[k]?
theorem Only.refl (b : Nat) (w : World) : Only b w w := ⟨rfl, rfl, rfl, rfl, fun _ _ => rfl⟩
theorem Only.trans {b : Nat} {w w1 w2 : World} (h : Only b w w1) (k : Only b w1 w2) : Only b w w2 :=
  ⟨k.os.trans h.os, k.tape.trans h.tape, k.output.trans h.output, k.size.trans h.size, fun i hi => (k.block i hi).trans (h.block i hi)⟩
theorem Only.setCell (w : World) (p : Addr) (v : Value) : Only p.block w (w.setCell p v) :=
  ⟨rfl, rfl, rfl, by simp [World.setCell], fun k hk => Below.heap_setCell _ _ _ _ hk⟩
theorem Only.drew {b : Nat} {w w1 : World} (h : Only b w w1) : Only b w w1.drew := ⟨h.os, h.tape, h.output, h.size, h.block⟩
theorem Only.drewN {b : Nat} {w w1 : World} (h : Only b w w1) (n : Nat) : Only b w (w1.drewN n) := ⟨h.os, h.tape, h.output, h.size, h.block⟩
theorem Only.below {b B : Nat} {w w1 : World} (h : Only b w w1) (hB : B ≤ b) : Below B w w1 := ⟨h.os, h.tape, h.output, Nat.le_of_eq h.size.symm, fun k hk => h.block k (by omega)⟩
theorem Only.blk {b k : Nat} {w w1 : World} {t : TypeId} {c : Array Value} (h : Only b w w1) (hk : k ≠ b) (hb : Blk w k t c) : Blk w1 k t c := by
  unfold Blk; rw [h.block k hk]; exact hb
/-- One cell is stored, into a block known whole; the world behind it is told by what its blocks hold. -/
theorem arm_store1 {P : Program} {ops : Array Oper} {rest : List Oper} {o : Oper} {a : Act} {w : World} {Q : Exit → Act → World → Prop} {b j : Nat} {t : TypeId} {c : Array Value} {v : Value} (hgd : o.guard = none) (ty : TypeId) (x y : Operand)
    (ho : o.op = .store ty x y) (hx : a.eval x = .pointer (some ⟨b, j, none⟩)) (hy : a.eval y = v) (hv : v.oneCell' = true) (hi : (P.info? ty).map (·.size) = some 1) (hb : Blk w b t c) (hj : j < c.size)
    (h : ∀ w', Blk w' b t (c.setIfInBounds j v) → Only b w w' → wpList P ops Q rest (a.put o.dst undef) w') : wpList P ops Q (o :: rest) a w :=
  wpList_plain hgd fun K hK => by
    have hc : v.cells = #[v] := by cases v <;> first | rfl | exact absurd hv (by simp [Value.oneCell'])
    have hst : (Instr.storeAt ty (.pointer (some ⟨b, j, none⟩)) v).run P w = .ok () (w.setCell ⟨b, j, none⟩ v) := by
      cases hq : P.info? ty with
      | none => simp [hq] at hi
      | some i =>
        have hs : i.size = 1 := by simpa [hq] using hi
        have hcell : w.cell? ⟨b, j, none⟩ = some c[j] := hb.cell (by simp [hj])
        simp [Instr.storeAt, Instr.sureAddr, storeVar, sizeOf, typeInfo, hq, hc, hs, storeCells, Addr.add, run_store P w ⟨b, j, none⟩ v .plain hv, hcell, hb.free j]
    unfold Oper.wp execOp
    simp only [ho, hx, hy, Sem.run_bind, hst, Result.andThen_ok, Sem.run_pure]
    exact hK _ _ (h _ (hb.set j v) (Only.setCell w ⟨b, j, none⟩ v))
/-- The same of a number: its term stands reckoned. -/
theorem arm_store_int {P : Program} {ops : Array Oper} {rest : List Oper} {o : Oper} {a : Act} {w : World} {Q : Exit → Act → World → Prop} {b j : Nat} {t : TypeId} {c : Array Value} {k : IntKind} {n : Int} (hgd : o.guard = none) (ty : TypeId) (x y : Operand)
    (ho : o.op = .store ty x y) (hx : a.eval x = .pointer (some ⟨b, j, none⟩)) (hy : a.eval y = .int k n) (hi : (P.info? ty).map (·.size) = some 1) (hb : Blk w b t c) (hj : j < c.size)
    (h : ∀ w', Blk w' b t (c.setIfInBounds j (.int k n)) → Only b w w' → wpList P ops Q rest (a.put o.dst undef) w') : wpList P ops Q (o :: rest) a w :=
  arm_store1 hgd ty x y ho hx hy rfl hi hb hj h
theorem u8_size : (Try.prog.info? 5).map (·.size) = some 1 := by kernel_rfl
theorem u64_size : (Try.prog.info? 40).map (·.size) = some 1 := by kernel_rfl
theorem int_size : (Try.prog.info? 3).map (·.size) = some 1 := by kernel_rfl
theorem ret_two {k k' : IntKind} {a b a' b' : Int} (h : a = a') (h' : b = b') : Ending.returned (.tuple #[.int k a, .int k' b]) = .returned (.tuple #[.int k a', .int k' b']) := by rw [h, h']
theorem ret_int {k : IntKind} {a b : Int} (h : a = b) : Ending.returned (.int k a) = .returned (.int k b) := by rw [h]
theorem ret_bool {a b : Bool} (h : a = b) : Ending.returned (.bool a) = .returned (.bool b) := by rw [h]
theorem dig_one (n x : Nat) : (dig n x).all (·.oneCell') = true := by
  rw [Array.all_eq_true_iff_forall_mem]
  intro v hv
  simp only [dig, List.mem_toArray, List.mem_map] at hv
  obtain ⟨i, _, rfl⟩ := hv
  rfl

/-! The program's array types: limbs, words, wide numbers. -/
theorem limbs_type : Try.prog.underlying 42 = some (.array 4 40) := by kernel_rfl
theorem limbs_size : (Try.prog.info? 42).map (·.size) = some 4 := by kernel_rfl
theorem word_type : Try.prog.underlying 23 = some (.array 32 5) := by kernel_rfl
theorem word_size : (Try.prog.info? 23).map (·.size) = some 32 := by kernel_rfl
theorem wide_type : Try.prog.underlying 53 = some (.array 8 40) := by kernel_rfl
theorem wide_size : (Try.prog.info? 53).map (·.size) = some 8 := by kernel_rfl

theorem load_limbs {w : World} {b x : Nat} {t : TypeId} (h : Blk w b t (dig 4 x)) : (Instr.loadAt 42 (.pointer (some ⟨b, 0, none⟩))).run Try.prog w = .ok (.agg (dig 4 x)) w :=
  h.load limbs_type rfl limbs_size (dig_size _ _)
theorem store_limbs {w : World} {b x y : Nat} {t : TypeId} (h : Blk w b t (dig 4 x)) : (Instr.storeAt 42 (.pointer (some ⟨b, 0, none⟩)) (.agg (dig 4 y))).run Try.prog w = .ok () (w.setRow b (dig 4 y)) :=
  h.store limbs_size (dig_size _ _) (dig_size _ _) (dig_one _ _)
theorem load_wide {w : World} {b x : Nat} {t : TypeId} (h : Blk w b t (dig 8 x)) : (Instr.loadAt 53 (.pointer (some ⟨b, 0, none⟩))).run Try.prog w = .ok (.agg (dig 8 x)) w :=
  h.load wide_type rfl wide_size (dig_size _ _)
theorem store_wide {w : World} {b x y : Nat} {t : TypeId} (h : Blk w b t (dig 8 x)) : (Instr.storeAt 53 (.pointer (some ⟨b, 0, none⟩)) (.agg (dig 8 y))).run Try.prog w = .ok () (w.setRow b (dig 8 y)) :=
  h.store wide_size (dig_size _ _) (dig_size _ _) (dig_one _ _)
theorem wf_one (f : Nat → Nat) : (wf f).all (·.oneCell') = true := by
  rw [Array.all_eq_true_iff_forall_mem]
  intro v hv
  simp only [wf, List.mem_toArray, List.mem_map] at hv
  obtain ⟨i, _, rfl⟩ := hv
  rfl
theorem load_wf {w : World} {b : Nat} {f : Nat → Nat} {t : TypeId} (h : Blk w b t (wf f)) : (Instr.loadAt 23 (.pointer (some ⟨b, 0, none⟩))).run Try.prog w = .ok (.agg (wf f)) w :=
  h.load word_type rfl word_size (wf_size _)
theorem store_wf {w : World} {b : Nat} {f g : Nat → Nat} {t : TypeId} (h : Blk w b t (wf f)) : (Instr.storeAt 23 (.pointer (some ⟨b, 0, none⟩)) (.agg (wf g))).run Try.prog w = .ok () (w.setRow b (wf g)) :=
  h.store word_size (wf_size _) (wf_size _) (wf_one _)

/-! The two entries of math/bits for which the model stands in. -/
def sub64E : Array Value → Sem Value := fun args => do
  let (x, y, b) ← Extern.MathBitsCarry.three "Sub64" args
  pure (Extern.MathBitsCarry.pair ((x + Extern.MathBitsCarry.m64 - y - b) % Extern.MathBitsCarry.m64) (if x < y + b then 1 else 0))
theorem run_sub64E {P : Program} (x y b : Nat) (hb : b ≤ 1) (w : World) :
    (sub64E #[.int .u64 x, .int .u64 y, .int .u64 b]).run P w =
      .ok (.tuple #[.int .u64 (((x + 18446744073709551616 - y - b) % 18446744073709551616 : Nat) : Int), .int .u64 ((if x < y + b then 1 else 0 : Nat) : Int)]) w := by
  have : b = 0 ∨ b = 1 := by omega
  rcases this with rfl | rfl <;> rfl
theorem add64 (x y c : Nat) (hc : c ≤ 1) (w : World) :
    (callFunc 98 #[.int .u64 x, .int .u64 y, .int .u64 c]).run Try.prog w =
      .ok (.value (.tuple #[.int .u64 (((x + y + c) % 18446744073709551616 : Nat) : Int), .int .u64 (((x + y + c) / 18446744073709551616 : Nat) : Int)])) w := by
  rw [run_callFunc_extern Try.func98 (by kernel_rfl) (by kernel_rfl) (by kernel_rfl) (e := add64Entry) (by kernel_rfl), run_add64 x y c (by omega) (by omega) (by omega) (by omega)]
  simp only [Result.andThen]
  congr 5 <;> omega
theorem sub64 (x y b : Nat) (hb : b ≤ 1) (w : World) :
    (callFunc 100 #[.int .u64 x, .int .u64 y, .int .u64 b]).run Try.prog w =
      .ok (.value (.tuple #[.int .u64 (((x + 18446744073709551616 - y - b) % 18446744073709551616 : Nat) : Int), .int .u64 ((if x < y + b then 1 else 0 : Nat) : Int)])) w := by
  rw [run_callFunc_extern Try.func100 (by kernel_rfl) (by kernel_rfl) (by kernel_rfl) (e := sub64E) (by kernel_rfl), run_sub64E x y b hb]
  rfl
end Go.Proofs.Ytcdjinjeogodfaa
