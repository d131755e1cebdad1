/- Sorted entries: whether two have one path. -/
import Derived.Test.YtdjhjgockgmbkaaGreatDoorM25
import Derived.Lib.SlBytesConst
import Derived.Deep.MidRow
import Derived.Deep.AppendLies
set_option linter.unusedVariables false
set_option linter.unusedSimpArgs false
namespace Go.Proofs.YtdjhjgockgmbkaaGreatDoor
open Go.RowKit Tr

theorem SortPost.pairs {ps : List En} {w w' : World} {e : Ending} (h : SortPost ps w e w') : Tch [] w w' ∧ ∃ (m : List En) (v : Value), (entries ps).Perm m ∧ m.Pairwise (fun x y => ¬ lt y.1 x.1) ∧ e = .returned v ∧ PairsAt w' v m := by
  obtain ⟨hT, m, b, hp, hs, hb, he, xs, hxm, hB, hok⟩ := h
  refine ⟨hT, m, _, hp, hs, he, _, _, rfl, Nat.le_refl _, fun _ => ⟨b, 0, rfl, hB.lt, fun i hi => ?_⟩⟩
  have hi' : i < xs.length := by rw [← hxm] at hi; simpa using hi
  have hf := flat_get xs i hi'
  have hx := hok xs[i] (List.getElem_mem hi')
  have e : m[i] = xs[i].2 := by simp only [← hxm, List.getElem_map]
  refine ⟨xs[i].1.1, xs[i].1.2, ?_, ?_, ?_, ?_⟩
  · rw [Nat.zero_add]; exact hB.cell (by rw [List.getElem?_toArray]; exact hf.1)
  · rw [Nat.zero_add]; exact hB.cell (by rw [List.getElem?_toArray]; exact hf.2)
  · rw [e]; exact hx.1.rdB
  · rw [e]; exact hx.2.rdB
section
variable {a : Act} {w : World} {o : Oper}
end
section
variable {o : Oper} {a : Act} {ops : Array Oper} {rest : List Oper} {C : World → Prop} {Q : Act → Prop}
end
end Go.Proofs.YtdjhjgockgmbkaaGreatDoor

/- The program's trees in memory; build, of one entry. -/
namespace Go.Proofs.YtdjhjgockgmbkaaGreatDoor
open Go.RowKit Tr

/-- Cells among which there is no byte. -/
def NoB (c : Array Value) : Prop := ∀ (j : Nat) (x : Int), c[j]? ≠ some (.int .u8 x)
theorem RdB.offL {w : World} {v : Value} {l : List Nat} {X : List Nat} (h : RdB w v l) (hX : ∀ x ∈ X, ∃ t c, Blk w x t c ∧ NoB c) : RdA X w v l := by
  obtain ⟨p, cc, h1, h2, h3, h4⟩ := h
  refine ⟨p, cc, h1, h2, h3, fun hl => ?_⟩
  obtain ⟨b', o, h5, h6, h7⟩ := h4 hl
  refine ⟨b', o, h5, h6, fun hm => ?_, h7⟩
  obtain ⟨t, c, hB, hc⟩ := hX b' hm
  have hx := h7 0 (List.length_pos_iff.2 hl)
  unfold Blk at hB
  rw [Lib.cell_of_heap hB] at hx
  exact hc _ _ hx
def brC (c : Nat → Value) (u : Value) : Array Value := ((List.range 16).map c ++ [u]).toArray
/-- A tree in memory, all its nodes from block B on. -/
def TreeV (B : Nat) (w : World) : TN → Value → Prop
  | .nil, v => v = .nilIface
  | .leaf p u, v => ∃ b pv uv, v = .iface 223 (.pointer (some ⟨b, 0, none⟩)) ∧ B ≤ b ∧ Blk w b 224 #[pv, uv] ∧ RdB w pv p ∧ RdB w uv u
  | .ext p s, v => ∃ b pv sv, v = .iface 225 (.pointer (some ⟨b, 0, none⟩)) ∧ B ≤ b ∧ Blk w b 227 #[pv, sv] ∧ RdB w pv p ∧ TreeV B w s sv
  | .branch s u, v => ∃ b c uv, v = .iface 232 (.pointer (some ⟨b, 0, none⟩)) ∧ B ≤ b ∧ Blk w b 236 (brC c uv) ∧ RdB w uv u ∧ ∀ d, d < 16 → TreeV B w (s d) (c d)
theorem TreeV.touch {B : Nat} {X : List Nat} {w w' : World} (hT : Tch X w w') (hX : ∀ x ∈ X, x < B ∧ ∃ t c, Blk w x t c ∧ NoB c) : ∀ {T : TN} {v : Value}, TreeV B w T v → TreeV B w' T v
  | .nil, _, h => h
  | .leaf p u, v, h => by
    obtain ⟨b, pv, uv, h1, h2, h3, h4, h5⟩ := h
    exact ⟨b, pv, uv, h1, h2, hT.blk h3 (fun hm => by have := (hX b hm).1; omega), ((h4.offL fun x hx => (hX x hx).2).tch hT).rdB, ((h5.offL fun x hx => (hX x hx).2).tch hT).rdB⟩
  | .ext p s, v, h => by
    obtain ⟨b, pv, sv, h1, h2, h3, h4, h5⟩ := h
    exact ⟨b, pv, sv, h1, h2, hT.blk h3 (fun hm => by have := (hX b hm).1; omega), ((h4.offL fun x hx => (hX x hx).2).tch hT).rdB, TreeV.touch hT hX h5⟩
  | .branch s u, v, h => by
    obtain ⟨b, c, uv, h1, h2, h3, h4, h5⟩ := h
    exact ⟨b, c, uv, h1, h2, hT.blk h3 (fun hm => by have := (hX b hm).1; omega), ((h4.offL fun x hx => (hX x hx).2).tch hT).rdB, fun d hd => TreeV.touch hT hX (h5 d hd)⟩
theorem TreeV.tch {B : Nat} {w w' : World} {T : TN} {v : Value} (h : TreeV B w T v) (hT : Tch [] w w') : TreeV B w' T v := h.touch hT (by simp)
section
variable {a : Act} {w : World} {o : Oper} {Q : Exit → Act → World → Prop}
theorem x_mkI {v u : Value} (ty : TypeId) (x : Operand) (ho : o.op = .makeInterface ty x) (hx : a.eval x = v) (hr : (Instr.makeInterface ty v).run Tryz.prog w = .ok u w) : (execOp a.eval o).run Tryz.prog w = .ok (.value u) w := by
  unfold execOp; simp only [ho, hx, Sem.run_bind, hr, Result.andThen_ok, Sem.run_pure]
end
end Go.Proofs.YtdjhjgockgmbkaaGreatDoor

/- The example that the laws of nodes begin with. -/
namespace Go.Proofs.YtdjhjgockgmbkaaGreatDoor
open Go.RowKit

section
variable {ops : Array Oper} {rest : List Oper} {o : Oper} {a : Act} {bs : List Nat} {w0 w w1 : World} {Q : Exit → Act → World → Prop} {L : List Ent}
/-- A slice is built; the world behind it is told outright. -/
theorem st_buildC {n : Nat} {ty t : TypeId} {c : Array Value} {parts : Array (Nat × Operand)} (vals : Array (Nat × Value)) (hgd : o.guard = none) (ho : o.op = .buildSlice ty n parts)
    (hv : (parts.map fun (i, x) => (i, a.eval x)) = vals) (hr : ∀ w : World, (Instr.buildSlice ty n vals).run Tryz.prog w = .ok (.slice (some ⟨w.heap.size, 0, none⟩) n n) (w.alloc (.cells c t)))
    (h : ∀ w', w' = w.alloc (.cells c t) → wpList Tryz.prog ops Q rest (a.put o.dst (.slice (some ⟨w.heap.size, 0, none⟩) n n)) w') : wpList Tryz.prog ops Q (o :: rest) a w :=
  wpList_plain hgd fun K hK => by
    subst hv
    have hr2 := hr w
    unfold Oper.wp execOp
    simp only [ho, Sem.run_bind, hr2, Result.andThen_ok, Sem.run_pure]
    exact hK _ _ (h _ rfl)
end
section
variable {P : Program} {ops : Array Oper} {rest : List Oper} {o : Oper} {a : Act} {bs : List Nat} {w0 w : World} {Q : Exit → Act → World → Prop} {L L' : List Ent} {b : Nat} {t : TypeId} {c c' : Array Value}
theorem st_newT (hS : St bs w0 w L) (hgd : o.guard = none) (ty : TypeId) (ho : o.op = .alloc ty) (hz : (P.info? ty).bind (·.zero) = some (.agg c))
    (h : ∀ w' b, St bs w0 w' ((b, ty, c) :: L) → Tch [] w w' → w.heap.size ≤ b → wpList P ops Q rest (a.put o.dst (.pointer (some ⟨b, 0, none⟩))) w') : wpList P ops Q (o :: rest) a w :=
  wpList_plain hgd fun K hK => by
    have hr : (Instr.alloc ty true (.tuple #[])).run P w = .ok (.pointer (some ⟨w.heap.size, 0, none⟩)) (w.alloc (.cells c ty)) := by
      cases hq : P.info? ty with
      | none => simp [hq] at hz
      | some i =>
        have hz' : i.zero = some (.agg c) := by simpa [hq] using hz
        simp [Instr.alloc, zeroValue, typeInfo, hq, hz', newVar, newRow, Value.cells]
    unfold Oper.wp execOp
    simp only [ho, Sem.run_bind, hr, Result.andThen_ok, Sem.run_pure]
    exact hK _ _ (h _ _ (hS.new ty c) ((Tch.refl _ _).alloc _) (Nat.le_refl _))
theorem st_storeO (hS : St bs w0 w L) (hgd : o.guard = none) (ty : TypeId) (x y : Operand) (ho : o.op = .store ty x y) (hx : a.eval x = .pointer (some ⟨b, 0, none⟩)) (hy : a.eval y = .agg c') (m : Upd L b t c c' L')
    {n : Nat} (hi : (P.info? ty).map (·.size) = some n) (hn : c.size = n) (hn' : c'.size = n) (h1 : c'.all (·.oneCell') = true)
    (h : ∀ w', St bs w0 w' L' → Only b w w' → wpList P ops Q rest (a.put o.dst undef) w') : wpList P ops Q (o :: rest) a w :=
  arm_store hgd ty x y ho hx hy ((hS.get m.at_).store hi hn hn' h1) (h _ (hS.upd m (Only.setRow _ _ _) ((hS.get m.at_).row _)) (Only.setRow _ _ _))
end
theorem RdB.kept {w w1 w2 : World} {b : Nat} {v : Value} {l : List Nat} (h : RdB w v l) (hT : Tch [] w w1) (hb : w.heap.size ≤ b) (hO : Only b w1 w2) : RdB w2 v l := h.tch (bs := []) (hT.only hO (.inl hb)) (by simp)
section
variable {o : Oper} {a : Act} {ops : Array Oper} {rest : List Oper} {C : World → Prop} {Q : Act → Prop}
theorem k_hash {l : List Nat} (hw : Region.wanted o (yielded ops a.tmps) = true) (xo yo : Operand) (yt : TypeId) (ho : o.op = .binOp .eql 23 xo yo yt) (hxe : a.eval xo = .agg (wf (hashN l))) (hye : a.eval yo = .agg (wf (hashN l))) (h : KQ ops C Q rest (a.put o.dst (.bool true))) : KQ ops C Q (o :: rest) a :=
  k_pure hw (fun w => x_hash xo yo yt ho hxe hye) h
theorem k_loadW {b : Nat} {t : TypeId} {c : Array Value} (hw : Region.wanted o (yielded ops a.tmps) = true) (xo : Operand) (ho : o.op = .load 23 xo) (hx : a.eval xo = .pointer (some ⟨b, 0, none⟩)) (hB : ∀ w, C w → Blk w b t c) (hn : c.size = 32)
    (h : KQ ops C Q rest (a.put o.dst (.agg c))) : KQ ops C Q (o :: rest) a :=
  k_in hw (fun w hC => x_load _ xo ho hx (hB w hC) word_type word_size hn) h
theorem k_callC0 {v : Value} {f : FuncId} {ts : Array TypeId} (hw : Region.wanted o (yielded ops a.tmps) = true) (ho : o.op = .call { callee := .value (.func f), args := #[], argTypes := ts })
    (hf : ∀ args w, (callFunc f args).run Tryz.prog w = .ok (.enter f args) w) (hc : ∀ w, C w → Calls Tryz.prog f #[] w fun e w' => e = .returned v ∧ C w') (h : KQ ops C Q rest (a.put o.dst v)) : KQ ops C Q (o :: rest) a :=
  k_callC hw ho (by simp) hf hc h
end
end Go.Proofs.YtdjhjgockgmbkaaGreatDoor

/- Steps over a body in memory; items of bytes in a row. -/
namespace Go.Proofs.YtdjhjgockgmbkaaGreatDoor
open Go.RowKit
set_option linter.unusedVariables false

theorem fa_bd0 (b : Nat) (w : World) : (Instr.fieldAt 25 (.pointer (some ⟨b, 0, none⟩)) 0).run Tryz.prog w = .ok (.pointer (some ⟨b, 0, none⟩)) w := by kernel_rfl
theorem fa_bd1 (b : Nat) (w : World) : (Instr.fieldAt 25 (.pointer (some ⟨b, 0, none⟩)) 1).run Tryz.prog w = .ok (.pointer (some ⟨b, 1, none⟩)) w := by kernel_rfl
theorem fa_bd2 (b : Nat) (w : World) : (Instr.fieldAt 25 (.pointer (some ⟨b, 0, none⟩)) 2).run Tryz.prog w = .ok (.pointer (some ⟨b, 33, none⟩)) w := by kernel_rfl
theorem fa_bd3 (b : Nat) (w : World) : (Instr.fieldAt 25 (.pointer (some ⟨b, 0, none⟩)) 3).run Tryz.prog w = .ok (.pointer (some ⟨b, 65, none⟩)) w := by kernel_rfl
theorem mkI_count (b o : Nat) (w : World) : (Instr.makeInterface 171 (.pointer (some ⟨b, o, none⟩))).run Tryz.prog w = .ok (.iface 171 (.pointer (some ⟨b, o, none⟩))) w := by kernel_rfl
theorem mkI_amount (b o : Nat) (w : World) : (Instr.makeInterface 173 (.pointer (some ⟨b, o, none⟩))).run Tryz.prog w = .ok (.iface 173 (.pointer (some ⟨b, o, none⟩))) w := by kernel_rfl
theorem mkI_hash (b o : Nat) (w : World) : (Instr.makeInterface 175 (.pointer (some ⟨b, o, none⟩))).run Tryz.prog w = .ok (.iface 175 (.pointer (some ⟨b, o, none⟩))) w := by kernel_rfl
theorem sl_hash (b o : Nat) (w : World) : (Instr.sliceAt 297 (.pointer (some ⟨b, o, none⟩)) none none none).run Tryz.prog w = .ok (.slice (some ⟨b, o, none⟩) 32 32) w := by kernel_rfl
theorem sl_word (b o : Nat) (w : World) : (Instr.sliceAt 23 (.pointer (some ⟨b, o, none⟩)) none none none).run Tryz.prog w = .ok (.slice (some ⟨b, o, none⟩) 32 32) w := by kernel_rfl
/-- The four fields of a body as values of the interface. -/
def partV (b : Nat) : Nat → Value
  | 0 => .iface 171 (.pointer (some ⟨b, 0, none⟩))
  | 1 => .iface 173 (.pointer (some ⟨b, 1, none⟩))
  | 2 => .iface 175 (.pointer (some ⟨b, 33, none⟩))
  | _ => .iface 175 (.pointer (some ⟨b, 65, none⟩))
def partsC (b : Nat) : Array Value := #[.iface 171 (.pointer (some ⟨b, 0, none⟩)), .iface 173 (.pointer (some ⟨b, 1, none⟩)), .iface 175 (.pointer (some ⟨b, 33, none⟩)), .iface 175 (.pointer (some ⟨b, 65, none⟩))]
theorem build_parts (b : Nat) (w : World) : (Instr.build 121 #[(0, .iface 171 (.pointer (some ⟨b, 0, none⟩))), (1, .iface 173 (.pointer (some ⟨b, 1, none⟩))), (2, .iface 175 (.pointer (some ⟨b, 33, none⟩))), (3, .iface 175 (.pointer (some ⟨b, 65, none⟩)))]).run Tryz.prog w = .ok (.agg (partsC b)) w := by kernel_rfl
theorem parts_ty : Tryz.prog.underlying 121 = some (.array 4 120) := by kernel_rfl
theorem parts_size : (Tryz.prog.info? 121).map (·.size) = some 4 := by kernel_rfl
theorem parts_zero : (Tryz.prog.info? 121).bind (·.zero) = some (.agg #[.nilIface, .nilIface, .nilIface, .nilIface]) := by kernel_rfl
theorem idx_parts0 (b : Nat) (w : World) : (Instr.index 121 (.agg (partsC b)) (.int .i64 0)).run Tryz.prog w = .ok (partV b 0) w := by kernel_rfl
theorem idx_parts1 (b : Nat) (w : World) : (Instr.index 121 (.agg (partsC b)) (.int .i64 1)).run Tryz.prog w = .ok (partV b 1) w := by kernel_rfl
theorem idx_parts2 (b : Nat) (w : World) : (Instr.index 121 (.agg (partsC b)) (.int .i64 2)).run Tryz.prog w = .ok (partV b 2) w := by kernel_rfl
theorem idx_parts3 (b : Nat) (w : World) : (Instr.index 121 (.agg (partsC b)) (.int .i64 3)).run Tryz.prog w = .ok (partV b 3) w := by kernel_rfl
theorem idx_parts (b k : Nat) (h : k < 4) (w : World) : (Instr.index 121 (.agg (partsC b)) (.int .i64 (k : Int))).run Tryz.prog w = .ok (partV b k) w := by
  have hk : k = 0 ∨ k = 1 ∨ k = 2 ∨ k = 3 := by omega
  rcases hk with rfl | rfl | rfl | rfl
  · exact idx_parts0 b w
  · exact idx_parts1 b w
  · exact idx_parts2 b w
  · exact idx_parts3 b w
section
variable {o : Oper} {a : Act} {w : World} {ops : Array Oper} {rest : List Oper} {Q : Exit → Act → World → Prop} {bs : List Nat} {w0 : World} {L : List Ent}
/-- A step told by what the operation yields. -/
theorem st_x {v : Value} (hgd : o.guard = none) (hr : (execOp a.eval o).run Tryz.prog w = .ok (.value v) w) (h : wpList Tryz.prog ops Q rest (a.put o.dst v) w) : wpList Tryz.prog ops Q (o :: rest) a w :=
  wpList_plain hgd fun K hK => by
    unfold Oper.wp
    simp only [hr]
    exact hK _ _ h
theorem x_idxP {b k : Nat} (x y : Operand) (ho : o.op = .index 121 x y) (hx : a.eval x = .agg (partsC b)) (hy : a.eval y = .int .i64 (k : Int)) (hk : k < 4) : (execOp a.eval o).run Tryz.prog w = .ok (.value (partV b k)) w := by
  have hr := idx_parts b k hk w
  unfold execOp
  simp only [ho, hx, hy, Sem.run_bind, hr, Result.andThen_ok, Sem.run_pure]
theorem x_sl {v u : Value} (ty : TypeId) (x : Operand) (ho : o.op = .slice ty x none none none) (hx : a.eval x = v) (hr : (Instr.sliceAt ty v none none none).run Tryz.prog w = .ok u w) : (execOp a.eval o).run Tryz.prog w = .ok (.value u) w := by
  unfold execOp
  simp only [ho, hx, Option.map_none]
  show Sem.run _ _ w = _
  simp only [Sem.run_bind, hr, Result.andThen_ok]
  rfl
theorem x_build4 {ty : TypeId} {v0 v1 v2 v3 u : Value} {i0 i1 i2 i3 : Nat} (ho : ∃ x0 x1 x2 x3, o.op = .build ty #[(i0, x0), (i1, x1), (i2, x2), (i3, x3)] ∧ a.eval x0 = v0 ∧ a.eval x1 = v1 ∧ a.eval x2 = v2 ∧ a.eval x3 = v3) (hr : (Instr.build ty #[(i0, v0), (i1, v1), (i2, v2), (i3, v3)]).run Tryz.prog w = .ok u w) : (execOp a.eval o).run Tryz.prog w = .ok (.value u) w := by
  obtain ⟨x0, x1, x2, x3, ho, h0, h1, h2, h3⟩ := ho
  unfold execOp
  simp only [ho, List.map_toArray, List.map_cons, List.map_nil, h0, h1, h2, h3, Sem.run_bind, hr, Result.andThen_ok, Sem.run_pure]
/-- A word is read out of the middle of a block. -/
theorem x_wordAt {b j : Nat} {t ty : TypeId} {c : Array Value} {W : List Nat} (x : Operand) (ho : o.op = .load ty x) (hx : a.eval x = .pointer (some ⟨b, j, none⟩)) (hB : Blk w b t c) (hc : ∀ i, i < 32 → c[j + i]? = (wv W)[i]?)
    (hu : Tryz.prog.underlying ty = some (.array 32 5)) (hs : (Tryz.prog.info? ty).map (·.size) = some 32) : (execOp a.eval o).run Tryz.prog w = .ok (.value (.agg (wv W))) w := by
  have hl : (wv W).toList.length = 32 := by rw [Array.length_toList]; exact bc_size _ _
  have hr := run_loadAt_mid (P := Tryz.prog) w b j ty (wv W).toList _ (fun i v hv => by
    have hi : i < 32 := by have := (List.getElem?_eq_some_iff.1 hv).1; omega
    rw [Array.getElem?_toList, ← hc i hi] at hv
    exact hB.cell hv) hu rfl (by rw [hl]; exact hs)
  rw [Array.toArray_toList] at hr
  unfold execOp
  simp only [ho, hx, Sem.run_bind, hr, Result.andThen_ok, Sem.run_pure]
end
theorem amount_ty : Tryz.prog.underlying 177 = some (.array 32 5) := by kernel_rfl
theorem amount_size : (Tryz.prog.info? 177).map (·.size) = some 32 := by kernel_rfl
theorem count_agg (w : World) : (isAgg 176).run Tryz.prog w = .ok false w := by kernel_rfl
theorem int_aggQ (w : World) : (isAgg 3).run Tryz.prog w = .ok false w := by kernel_rfl
theorem item_infosQ : (Tryz.prog.info? 68).map (fun i => (i.zero, i.size, i.bytes)) = some (some (.agg #[.bool false, .slice none 0 0, .slice none 0 0]), 3, 56) := by kernel_rfl
theorem buildI1Q (p : Option Addr) (n c : Nat) (w : World) : (Instr.buildSlice 66 1 #[(0, .agg #[.bool false, .slice p n c, .slice none 0 0])]).run Tryz.prog w = .ok (.slice (some ⟨w.heap.size, 0, none⟩) 1 1) (w.alloc (.cells #[.bool false, .slice p n c, .slice none 0 0] 68)) := by kernel_rfl
/-- Items of bytes as cells. -/
def iCells (ys : List Value) : List Value := ys.flatMap fun y => [.bool false, y, .slice none 0 0]
theorem iCells_snoc (ys : List Value) (y : Value) : iCells (ys ++ [y]) = iCells ys ++ [.bool false, y, .slice none 0 0] := by simp [iCells]
theorem iCells_get : ∀ (ys : List Value) (i : Nat) (h : i < ys.length), (iCells ys)[i * 3]? = some (.bool false) ∧ (iCells ys)[i * 3 + 1]? = some ys[i] ∧ (iCells ys)[i * 3 + 2]? = some (.slice none 0 0)
  | [], i, h => absurd h (by simp)
  | y :: r, 0, h => ⟨rfl, rfl, rfl⟩
  | y :: r, i + 1, h => by
    have ih := iCells_get r i (by simpa using h)
    have e : iCells (y :: r) = .bool false :: y :: .slice none 0 0 :: iCells r := rfl
    rw [e, show (i + 1) * 3 = i * 3 + 1 + 1 + 1 by omega]
    simp only [List.getElem?_cons_succ, List.getElem_cons_succ]
    refine ⟨ih.1, ?_, ?_⟩
    · exact ih.2.1
    · exact ih.2.2
/-- Slices that read as these, off the blocks X. -/
def RdL (X : List Nat) (w : World) (ys : List Value) (Ls : List (List Nat)) : Prop := ys.length = Ls.length ∧ ∀ i (h : i < ys.length) (h2 : i < Ls.length), RdA X w ys[i] Ls[i]
theorem RdL.snoc {X : List Nat} {w : World} {ys : List Value} {Ls : List (List Nat)} {y : Value} {l : List Nat} (h : RdL X w ys Ls) (h1 : RdA X w y l) : RdL X w (ys ++ [y]) (Ls ++ [l]) := by
  refine ⟨by simp [h.1], fun i hi hj => ?_⟩
  by_cases hk : i < ys.length
  · rw [List.getElem_append_left hk, List.getElem_append_left (by rw [← h.1]; exact hk)]
    exact h.2 i hk _
  · rw [List.length_append, List.length_singleton] at hi
    obtain rfl : i = ys.length := by omega
    rw [List.getElem_append_right (Nat.le_refl _), List.getElem_append_right (by rw [h.1]; exact Nat.le_refl _)]
    simp only [h.1, Nat.sub_self, List.getElem_cons_zero]
    exact h1
theorem RdL.tch {X : List Nat} {w w' : World} {ys : List Value} {Ls : List (List Nat)} (h : RdL X w ys Ls) (hT : Tch X w w') : RdL X w' ys Ls := ⟨h.1, fun i hi hj => (h.2 i hi hj).tch hT⟩
theorem RdL.mono {X Y : List Nat} {w : World} {ys : List Value} {Ls : List (List Nat)} (h : RdL X w ys Ls) (hX : ∀ y ∈ Y, y ∈ X ∨ w.heap.size ≤ y) : RdL Y w ys Ls := ⟨h.1, fun i hi hj => (h.2 i hi hj).mono hX⟩
/-- A list of items of bytes, in memory. -/
theorem itemsL {X : List Nat} {w : World} {B : Nat} {v vb : Value} {ys : List Value} {Ls : List (List Nat)} (hown : w.ownsRow B 68 3 v ys.length (iCells ys)) (hr : RdL X w ys Ls) (hm : ∀ l ∈ Ls, l.length < 4611686018427387904) (hl : Ls.length < 4611686018427387904) :
    ItC [] w 2 (.bool true) vb v (.lst (Ls.map .str)) := by
  unfold ItC
  have hlm : (Ls.map It.str).length = Ls.length := List.length_map _
  rcases hown.2 with ⟨rfl, h0⟩ | ⟨g, cap, cur, rfl, hg, hb, hn, _, hcs, htk⟩
  · refine ⟨rfl, none, 0, by rw [hlm, ← hr.1, h0], ⟨by rw [hlm, ← hr.1, h0]; exact Nat.le_refl _, by rw [hlm]; exact hl⟩, fun hne => absurd (List.eq_nil_of_length_eq_zero (by rw [hlm, ← hr.1, h0])) hne⟩
  · refine ⟨rfl, _, cap, by rw [hlm, ← hr.1], ⟨by rw [hlm, ← hr.1]; exact hn, by rw [hlm]; exact hl⟩, fun _ => ⟨g, 0, rfl, (Array.getElem?_eq_some_iff.1 hb).1, by simp, fun i hi => ?_⟩⟩
    rw [hlm] at hi
    have hi' : i < ys.length := by rw [hr.1]; exact hi
    obtain ⟨c0, c1, c2⟩ := iCells_get ys i hi'
    have hc := fun j u hu => hown.cells (g := g) rfl j u hu
    have hadd : ∀ j, (⟨g, 0, none⟩ : Addr).add j = ⟨g, j, none⟩ := fun j => by unfold Addr.add; split <;> simp_all
    refine ⟨.bool false, ys[i], .slice none 0 0, ?_, ?_, ?_, ?_⟩
    · have := hc _ _ c0; rw [hadd] at this; rw [Nat.zero_add]; exact this
    · have := hc _ _ c1; rw [hadd] at this; rw [Nat.zero_add]; exact this
    · have := hc _ _ c2; rw [hadd] at this; rw [Nat.zero_add]; exact this
    · rw [List.getElem_map]
      unfold ItC
      exact ⟨rfl, (hr.2 i hi' hi).mono (by simp), hm _ (List.getElem_mem hi)⟩
section
variable {ops : Array Oper} {rest : List Oper} {o : Oper} {a : Act} {w0 w : World} {Q : Exit → Act → World → Prop}
/-- An item of bytes more. -/
theorem st_appQ {v : Value} {n : Nat} {us : List Value} {p : Option Addr} {m c : Nat} (hgd : o.guard = none) (s x : Operand)
    (ho : o.op = .call { callee := .builtin .append, args := #[s, x], argTypes := #[66, 66] }) (hs : a.eval s = v) (hx : a.eval x = .slice (some ⟨w.heap.size, 0, none⟩) 1 1)
    (hown : w.ownsRow w0.heap.size 68 3 v n us) (hT : Tch [] w0 w) (hlen : n ≤ 100000000)
    (h : ∀ v' w', w'.ownsRow w0.heap.size 68 3 v' (n + 1) (us ++ [Value.bool false, .slice p m c, .slice none 0 0]) → Tch [] w0 w' → (∀ X ys Ls, RdL (v.ownBlock.toList ++ X) w ys Ls → RdL (v'.ownBlock.toList ++ X) w' ys Ls) → wpList Tryz.prog ops Q rest (a.put o.dst v') w') :
    wpList Tryz.prog ops Q (o :: rest) a (w.alloc (.cells #[.bool false, .slice p m c, .slice none 0 0] 68)) := by
  obtain ⟨i0, hi, hz0, hz1, hz2⟩ := info_parts item_infosQ
  have hnews : ∀ j u, [Value.bool false, .slice p m c, .slice none 0 0][j]? = some u → (w.alloc (.cells #[.bool false, .slice p m c, .slice none 0 0] 68)).cell? ((⟨w.heap.size, 0, none⟩ : Addr).add j) = some u := World.news_of_block (cs := #[.bool false, .slice p m c, .slice none 0 0]) (t := 68) (fr := (0, 0)) (heap_alloc_new w _)
  refine wpList_append_own_at (w := w.alloc (.cells #[.bool false, .slice p m c, .slice none 0 0] 68)) hgd s x 66 ho w0.heap.size 68 i0 _ 3 56 items_ty hi hz0 hz1 hz2 rfl (by decide) v n us hs (hown.alloc _) ⟨w.heap.size, 0, none⟩ 1 1 [Value.bool false, .slice p m c, .slice none 0 0] hx rfl hnews (by simp [Value.oneCell']) (by unfold maxLen; omega) (by omega) (by have := hT.size; simp; omega) ?_
  intro v' w' hown' hgrow _ hv'
  have hlt := hown.lt
  have hTa := hT.alloc (bs := []) (.cells #[.bool false, .slice p m c, .slice none 0 0] 68)
  refine h v' w' hown' ⟨hgrow.os.trans hTa.os, hgrow.tape.trans hTa.tape, hgrow.output.trans hTa.output, Nat.le_trans hTa.size hgrow.size, fun q hq hqb => (hgrow.block q (Nat.lt_of_lt_of_le hq hTa.size) (fun e => by have := (hlt q e.symm).1; omega)).trans (hTa.block q hq hqb)⟩ ?_
  intro X ys Ls hR
  have hTg : Tch (v.ownBlock.toList ++ (v'.ownBlock.toList ++ X)) w w' := ((Tch.refl _ _).alloc _).trans (tch_grown hgrow)
  refine ((hR.mono (Y := v.ownBlock.toList ++ (v'.ownBlock.toList ++ X)) ?_).tch hTg).mono (fun y hy => .inl (List.mem_append_right _ hy))
  intro y hy
  rcases List.mem_append.1 hy with hy | hy
  · exact .inl (List.mem_append_left _ hy)
  rcases List.mem_append.1 hy with hy | hy
  · rcases hv' with e | e
    · rw [e] at hy; exact .inl (List.mem_append_left _ hy)
    · rw [e] at hy; simp at hy; subst hy; exact .inr (by omega)
  · exact .inl (List.mem_append_right _ hy)
end
end Go.Proofs.YtdjhjgockgmbkaaGreatDoor
