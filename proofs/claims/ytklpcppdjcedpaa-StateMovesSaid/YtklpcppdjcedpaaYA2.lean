/- Slots and accounts in memory; is a key among them twice? -/
import Derived.Test.YtklpcppdjcedpaaYA1
namespace Go.Proofs.Ytklpcppdjcedpaa
open Go.RowKit Go.WideMaps
set_option linter.unusedVariables false
set_option linter.unusedSimpArgs false
set_option maxRecDepth 100000

/-- n elements of m cells each, one behind the other, the i-th with the cells C i. -/
def ElAt (w : World) (v : Value) (m n : Nat) (C : Nat → Array Value) : Prop := ∃ p c, v = .slice p n c ∧ n ≤ c ∧ (0 < n → ∃ b o, p = some ⟨b, o, none⟩ ∧ b < w.heap.size ∧ ∀ i, i < n → w.rangeAt b (o + i * m) (C i).toList)
theorem ElAt.tch {w w' : World} {v : Value} {m n : Nat} {C : Nat → Array Value} (h : ElAt w v m n C) (hT : Tch [] w w') : ElAt w' v m n C := by
  obtain ⟨p, c, h1, h2, h3⟩ := h
  refine ⟨p, c, h1, h2, fun hn => ?_⟩
  obtain ⟨b, o, h4, h5, h6⟩ := h3 hn
  refine ⟨b, o, h4, Nat.lt_of_lt_of_le h5 hT.size, fun i hi j u hu => ?_⟩
  rw [hT.cell (p := ⟨b, o + i * m + j, none⟩) h5 (by simp)]
  exact h6 i hi j u hu
theorem ownsMap_tch {k : TypeId} {R : Value → Option (DataW Unit × List MemPlace)} {b n : Nat} {D : DataW Unit} {w w' : World} (h : w.ownsMap Try.prog k R b n D) (hT : Tch [] w w') : w'.ownsMap Try.prog k R b n D := by
  have hlt := h.lt
  obtain ⟨es, clock, hb, F, hs, hD⟩ := h
  exact ⟨es, clock, (hT.block b hlt (by simp)).trans hb, F, hs, hD⟩
theorem Tch.grownR {a b c : World} {r : Nat} (h : Tch [] a b) (hg : b.grownBy c (some r)) (hr : a.heap.size ≤ r) : Tch [] a c :=
  ⟨hg.os.trans h.os, hg.tape.trans h.tape, hg.output.trans h.output, Nat.le_trans h.size hg.size, fun i hi hb => (hg.block i (Nat.lt_of_lt_of_le hi h.size) (fun e => by injection e with e; omega)).trans (h.block i hi hb)⟩
theorem ownsMap_new {w : World} {r : Nat} (k : TypeId) (h : w.heap[r]? = some (.map #[] 0)) : w.ownsMap Try.prog k unitElem r 0 (setK []) := ⟨#[], 0, h, ⟨by simp, MapKept.stamped_empty 0, by simp⟩, Nat.le_refl _, rfl⟩
section
variable {o : Oper} {a : Act} {w : World}
theorem sizeOf_n {P : Program} {e n : Nat} (he : (P.info? e).map (·.size) = some n) (w : World) : (sizeOf e).run P w = .ok n w := by
  cases hq : P.info? e with
  | none => simp [hq] at he
  | some i =>
    have hs : i.size = n := by simpa [hq] using he
    simp [sizeOf, typeInfo, hq, hs]
theorem x_idxS {b off j n c m ty e : Nat} (x y : Operand) (ho : o.op = .indexAddr ty x y) (hx : a.eval x = .slice (some ⟨b, off, none⟩) n c) (hy : a.eval y = .int .i64 (j : Int)) (hu : Try.prog.underlying ty = some (.slice e)) (he : (Try.prog.info? e).map (·.size) = some m) (hj : j < n) : (execOp a.eval o).run Try.prog w = .ok (.value (.pointer (some ⟨b, off + j * m, none⟩))) w := by
  have hadd : (⟨b, off, none⟩ : Addr).add (j * m) = ⟨b, off + j * m, none⟩ := by unfold Addr.add; split <;> simp_all
  unfold execOp
  simp [ho, hx, hy, Instr.indexAt, run_underlying hu, Instr.sureAddr, asIntOf, sizeOf_n he, hj, hadd]
theorem x_ldMid {b q : Nat} {ty : TypeId} {c : Array Value} {d : TypeDesc} (x : Operand) (ho : o.op = .load ty x) (hx : a.eval x = .pointer (some ⟨b, q, none⟩)) (hr : w.rangeAt b q c.toList) (hu : Try.prog.underlying ty = some d) (hd : d.isRow = true) (hs : (Try.prog.info? ty).map (·.size) = some c.size) : (execOp a.eval o).run Try.prog w = .ok (.value (.agg c)) w := by
  have h := run_loadAt_mid (P := Try.prog) w b q ty c.toList d hr hu hd (by rw [Array.length_toList]; exact hs)
  rw [Array.toArray_toList] at h
  unfold execOp
  simp only [ho, hx, Sem.run_bind, h, Result.andThen_ok, Sem.run_pure]
theorem x_lenMap {r n k : Nat} {mt et : TypeId} {D : DataW Unit} (x : Operand) (ho : o.op = .call { callee := .builtin .len, args := #[x], argTypes := #[mt] }) (hx : a.eval x = .map (some r)) (h : w.ownsMap Try.prog k unitElem r n D) (hu : Try.prog.underlying mt = some (.map k et)) : (execOp a.eval o).run Try.prog w = .ok (.value (.int .i64 (Maps.size D))) w := by
  have hr := h.len hu o.type
  unfold execOp
  simp only [ho, resolve, invoke, builtin, Sem.run_bind, Sem.run_pure, Result.andThen_ok, List.map_toArray, List.map_cons, List.map_nil, hx, hr]
end
/-- The cells of a slot, of an account. -/
def slotC (K V : List Nat) : Array Value := ((arrV 32 K).toList ++ (arrV 32 V).toList).toArray
def acctC (A : List Nat) (n : Int) (B : List Nat) (cv sv : Value) : Array Value := ((arrV 20 A).toList ++ (Value.int .i64 n :: ((arrV 32 B).toList ++ [cv, sv]))).toArray
theorem slotC_size (K V : List Nat) : (slotC K V).size = 64 := by simp [slotC, arrV_size]
theorem acctC_size (A : List Nat) (n : Int) (B : List Nat) (cv sv : Value) : (acctC A n B cv sv).size = 55 := by simp [acctC, arrV_size]
theorem slotC_key (K V : List Nat) (j : Nat) (h : j < 32) : (slotC K V)[j]? = (arrV 32 K)[j]? := by
  simp only [slotC, List.getElem?_toArray]
  rw [List.getElem?_append_left (by rw [Array.length_toList, arrV_size]; exact h), Array.getElem?_toList]
theorem slotC_val (K V : List Nat) (j : Nat) (h : j < 32) : (slotC K V)[32 + j]? = (arrV 32 V)[j]? := by
  simp only [slotC, List.getElem?_toArray]
  rw [List.getElem?_append_right (by rw [Array.length_toList, arrV_size]; omega), Array.getElem?_toList, Array.length_toList, arrV_size]
  congr 1; omega
theorem acctC_key (A : List Nat) (n : Int) (B : List Nat) (cv sv : Value) (j : Nat) (h : j < 20) : (acctC A n B cv sv)[j]? = (arrV 20 A)[j]? := by
  simp only [acctC, List.getElem?_toArray]
  rw [List.getElem?_append_left (by rw [Array.length_toList, arrV_size]; exact h), Array.getElem?_toList]
theorem arrV_one (n : Nat) (l : List Nat) : ∀ x ∈ (arrV n l).toList, x.oneCell' = true := fun x hx => by
  have := bc_one n fun i => l.getD i 0
  rw [Array.all_eq_true_iff_forall_mem] at this
  exact this x (Array.mem_toList_iff.1 hx)
theorem slotC_one (K V : List Nat) : (slotC K V).all (·.oneCell') = true := by
  rw [Array.all_eq_true_iff_forall_mem]
  intro x hx
  have hx' : x ∈ (arrV 32 K).toList ++ (arrV 32 V).toList := by unfold slotC at hx; exact List.mem_toArray.1 hx
  rcases List.mem_append.1 hx' with hx' | hx'
  · exact arrV_one _ _ _ hx'
  · exact arrV_one _ _ _ hx'
theorem acctC_one (A : List Nat) (n : Int) (B : List Nat) (cv sv : Value) (hc : cv.oneCell' = true) (hs : sv.oneCell' = true) : (acctC A n B cv sv).all (·.oneCell') = true := by
  rw [Array.all_eq_true_iff_forall_mem]
  intro x hx
  have hx' : x ∈ (arrV 20 A).toList ++ (Value.int .i64 n :: ((arrV 32 B).toList ++ [cv, sv])) := by unfold acctC at hx; exact List.mem_toArray.1 hx
  rcases List.mem_append.1 hx' with hx' | hx'
  · exact arrV_one _ _ _ hx'
  · rcases List.mem_cons.1 hx' with rfl | hx'
    · rfl
    · rcases List.mem_append.1 hx' with hx' | hx'
      · exact arrV_one _ _ _ hx'
      · rcases List.mem_cons.1 hx' with rfl | hx'
        · exact hc
        · rcases List.mem_cons.1 hx' with rfl | hx'
          · exact hs
          · cases hx'
theorem slot_tyY : Try.prog.underlying 59 = some (.struct (Try.prog.fieldsOf 59)) := by kernel_rfl
theorem acct_tyY : Try.prog.underlying 37 = some (.struct (Try.prog.fieldsOf 37)) := by kernel_rfl
theorem slot_sizeY : (Try.prog.info? 59).map (·.size) = some 64 := by kernel_rfl
theorem acct_sizeY : (Try.prog.info? 37).map (·.size) = some 55 := by kernel_rfl
theorem slots_tyY : Try.prog.underlying 35 = some (.slice 59) := by kernel_rfl
theorem accts_tyY : Try.prog.underlying 44 = some (.slice 37) := by kernel_rfl
def zSlot : Array Value := (List.replicate 64 (Value.int .u8 0)).toArray
def zAcct : Array Value := (List.replicate 20 (Value.int .u8 0) ++ (Value.int .i64 0 :: (List.replicate 32 (Value.int .u8 0) ++ [.slice none 0 0, .slice none 0 0]))).toArray
theorem slot_zeroY : (Try.prog.info? 59).bind (·.zero) = some (.agg zSlot) := by kernel_rfl
theorem acct_zeroY : (Try.prog.info? 37).bind (·.zero) = some (.agg zAcct) := by kernel_rfl
theorem zSlot_size : zSlot.size = 64 := by rfl
theorem zAcct_size : zAcct.size = 55 := by rfl
theorem word_tyY : Try.prog.underlying 25 = some (.array 32 5) := by kernel_rfl
theorem addr_tyY : Try.prog.underlying 23 = some (.array 20 5) := by kernel_rfl
theorem word_sizeY : (Try.prog.info? 25).map (·.size) = some 32 := by kernel_rfl
theorem addr_sizeY : (Try.prog.info? 23).map (·.size) = some 20 := by kernel_rfl
def zArr (n : Nat) : Array Value := (List.replicate n (Value.int .u8 0)).toArray
theorem word_zeroY : (Try.prog.info? 25).bind (·.zero) = some (.agg (zArr 32)) := by kernel_rfl
theorem addr_zeroY : (Try.prog.info? 23).bind (·.zero) = some (.agg (zArr 20)) := by kernel_rfl
theorem blk_range {w : World} {b q n : Nat} {t : TypeId} {c : Array Value} {l : List Nat} (h : Blk w b t c) (hc : ∀ j, j < n → c[q + j]? = (arrV n l)[j]?) : w.rangeAt b q (arrV n l).toList := fun j v hv => by
  have hj : j < n := by have := (List.getElem?_eq_some_iff.1 hv).1; rw [Array.length_toList, arrV_size] at this; exact this
  rw [Array.getElem?_toList, ← hc j hj] at hv
  exact h.cell hv
theorem slot_f0 (b q : Nat) (w : World) : (Instr.fieldAt 59 (.pointer (some ⟨b, q, none⟩)) 0).run Try.prog w = .ok (.pointer (some ⟨b, q, none⟩)) w := by kernel_rfl
theorem slot_f1 (b q : Nat) (w : World) : (Instr.fieldAt 59 (.pointer (some ⟨b, q, none⟩)) 1).run Try.prog w = .ok (.pointer (some ⟨b, q + 32, none⟩)) w := by kernel_rfl
theorem acct_f0 (b q : Nat) (w : World) : (Instr.fieldAt 37 (.pointer (some ⟨b, q, none⟩)) 0).run Try.prog w = .ok (.pointer (some ⟨b, q, none⟩)) w := by kernel_rfl
section
variable {o : Oper} {a : Act} {w : World}
theorem x_fldY {v u : Value} (ty : TypeId) (i : Nat) (x : Operand) (ho : o.op = .fieldAddr ty x i) (hx : a.eval x = v) (hr : (Instr.fieldAt ty v i).run Try.prog w = .ok u w) : (execOp a.eval o).run Try.prog w = .ok (.value u) w := by
  unfold execOp
  simp only [ho, hx, Sem.run_bind, hr, Result.andThen_ok, Sem.run_pure]
end
end Go.Proofs.Ytklpcppdjcedpaa
