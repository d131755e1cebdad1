/- Rows of words in memory; single operations and steps of regions that draw their order, for stacks. -/
import Derived.Test.YtopfmaoeebgjmaaGreatDoorM01
import Derived.Test.YtopfmaoeebgjmaaGreatDoorM13
import Derived.Test.YtopfmaoeebgjmaaGreatDoorM16
import Derived.Test.YtopfmaoeebgjmaaGreatDoorM19
import Derived.Deep.MidRow
import Derived.Deep.AppendLies
import Derived.Maps.OwnSet
import Derived.Maps.Views
import Derived.WideKeyArr
set_option linter.unusedVariables false
set_option linter.unusedSimpArgs false
namespace Go.Proofs.YtopfmaoeebgjmaaGreatDoor
section
open Go.RowKit
set_option maxRecDepth 100000
section
variable {o : Oper} {a : Act} {w : World}
theorem x_val {v : Value} (xo : Operand) (ho : o.op = .move xo ∨ o.op = .assign xo) (hx : a.eval xo = v) : (execOp a.eval o).run Tryz.prog w = .ok (.value v) w := by
  unfold execOp; rcases ho with ho | ho <;> simp only [ho, hx] <;> rfl
theorem x_fa {v u : Value} (ty : TypeId) (x : Operand) (i : Nat) (ho : o.op = .fieldAddr ty x i) (hx : a.eval x = v) (hr : (Instr.fieldAt ty v i).run Tryz.prog w = .ok u w) : (execOp a.eval o).run Tryz.prog w = .ok (.value u) w := by
  unfold execOp; simp only [ho, hx, Sem.run_bind, hr, Result.andThen_ok, Sem.run_pure]
theorem x_subI {m n s : Int} (ty yt : TypeId) (xo yo : Operand) (ho : o.op = .binOp .sub ty xo yo yt) (hx : a.eval xo = .int .i64 m) (hy : a.eval yo = .int .i64 n) (he : IntKind.i64.wrap (m - n) = s) : (execOp a.eval o).run Tryz.prog w = .ok (.value (.int .i64 s)) w := by
  unfold execOp; simp only [ho, hx, hy]; show Sem.run _ _ w = _; simp [eqGuard, binOp, Op.intArith, he]
end
section
variable {a : Act} {w : World} {o : Oper} {Q : Exit → Act → World → Prop} {md : Region.Mode} {S : World → Prop} {fuel : Nat} {listed : Array Bool} {ops : Array Oper}
theorem held_two {P : Program} (j k : Nat) (hr : Region.ready md ops listed = [j, k]) (h1 : wpOp P ops Q j (fun a' w' => S w' ∧ wpAnyH P md ops Q S fuel (listed.setIfInBounds j true) a' w') a w) (h2 : wpOp P ops Q k (fun a' w' => S w' ∧ wpAnyH P md ops Q S fuel (listed.setIfInBounds k true) a' w') a w) : wpAnyH P md ops Q S (fuel + 1) listed a w :=
  wpAnyH_all hr (by simp) (fun i hi => by
    have : i = j ∨ i = k := by simpa using hi
    rcases this with rfl | rfl
    · exact h1
    · exact h2)
theorem held_x {l0 : List Oper} {n : Nat} {K : Act → World → Prop} {v : Value} (ho : l0[n]? = some o) (hw : Region.wanted o (yielded l0.toArray a.tmps) = true) (hr : (execOp a.eval o).run Tryz.prog w = .ok (.value v) w)
    (h : K (a.put o.dst v) w) : wpOp Tryz.prog l0.toArray Q n K a w := by
  have ho' : l0.toArray[n]? = some o := by rw [List.getElem?_toArray]; exact ho
  unfold wpOp
  simp only [ho', hw, if_true]
  refine .inl ?_
  unfold Oper.wp
  simp only [hr]
  exact h
end
end
section
open Go.RowKit Go.WideMaps
set_option maxRecDepth 100000
theorem wordArr : ArrKey Tryz.prog 25 5 32 := ⟨by kernel_rfl, by kernel_rfl, by kernel_rfl, by kernel_rfl⟩
theorem addrArr : ArrKey Tryz.prog 23 5 20 := ⟨by kernel_rfl, by kernel_rfl, by kernel_rfl, by kernel_rfl⟩
theorem wordKeyed : Maps.Keyed Tryz.prog 25 := Maps.Keyed.of_law wordArr.law
theorem addrKeyed : Maps.Keyed Tryz.prog 23 := Maps.Keyed.of_law addrArr.law
theorem byte_tyY : Tryz.prog.underlying 5 = some (.int .u8) := by kernel_rfl
theorem types_pos : ∃ m, Tryz.prog.types.size = m + 1 := ⟨Tryz.prog.types.size - 1, by kernel_rfl⟩
def keyL (l : List Nat) : Lit := .string (keyBytes (l.map fun b : Nat => .int .u8 (b : Int)))
theorem keyL_is (l : List Nat) : WideAt.IsKeyLit (keyL l) := by unfold keyL; trivial
def arrV (n : Nat) (l : List Nat) : Array Value := bc n fun i => l.getD i 0
theorem arrV_size (n : Nat) (l : List Nat) : (arrV n l).size = n := bc_size _ _
theorem arrV_list {n : Nat} {l : List Nat} (hl : l.length = n) : (arrV n l).toList = l.map fun b : Nat => Value.int .u8 (b : Int) := by
  apply List.ext_getElem?
  intro i
  by_cases hi : i < n
  · rw [Array.getElem?_toList, arrV, bc_get hi]
    have hi' : i < l.length := by omega
    simp [hi', List.getD_eq_getElem?_getD]
  · rw [Array.getElem?_toList, arrV, bc_none (by omega)]
    rw [List.getElem?_eq_none]; simp; omega
theorem arrV_inj {n : Nat} {l m : List Nat} (hl : l.length = n) (hm : m.length = n) (h : arrV n l = arrV n m) : l = m := by
  have e : (arrV n l).toList = (arrV n m).toList := by rw [h]
  rw [arrV_list hl, arrV_list hm] at e
  have inj : ∀ a b : Nat, Value.int .u8 (a : Int) = Value.int .u8 (b : Int) → a = b := fun a b h => by
    have := Value.int.inj h; omega
  have hm : ∀ (l m : List Nat), (l.map fun b : Nat => Value.int .u8 (b : Int)) = (m.map fun b : Nat => Value.int .u8 (b : Int)) → l = m := by
    intro l
    induction l with
    | nil => intro m h; cases m with | nil => rfl | cons a m => simp at h
    | cons a l ih =>
      intro m h
      cases m with
      | nil => simp at h
      | cons b m =>
        rw [List.map_cons, List.map_cons] at h
        obtain ⟨h1, h2⟩ := List.cons.inj h
        rw [inj _ _ h1, ih m h2]
  exact hm _ _ e
theorem wf_byteY {b : Nat} (h : b < 256) : (Lit.int .u8 (b : Int)).wf = true := by
  have e1 : IntKind.u8.min = 0 := by rfl
  have e2 : IntKind.u8.max = 255 := by rfl
  simp only [Lit.wf, e1, e2, Bool.and_eq_true, decide_eq_true_eq]
  omega
theorem keyLits_arr {n k m : Nat} (A : ArrKey Tryz.prog k 5 n) {l : List Nat} (hl : l.length = n) (hb : ∀ b ∈ l, b < 256) : Tryz.prog.keyLits (m + 2) k (arrV n l).toList = some (l.map fun b : Nat => .int .u8 (b : Int)) := by
  unfold Program.keyLits
  simp only [A.hu]
  rw [if_pos (by rw [A.size, Array.length_toList, arrV_size]), A.one]
  have h : ∀ (L : List Nat), (∀ i ∈ L, i < n) → L.mapM (fun i => Tryz.prog.keyLits (m + 1) 5 (((arrV n l).toList.drop (i * 1)).take 1)) = some (L.map fun i : Nat => [Lit.int .u8 ((l.getD i 0 : Nat) : Int)]) := by
    intro L
    induction L with
    | nil => intro _; rfl
    | cons i L ih =>
      intro hL
      have hi := hL i List.mem_cons_self
      have hv : ((arrV n l).toList.drop (i * 1)).take 1 = [Value.int .u8 ((l.getD i 0 : Nat) : Int)] := by
        rw [arrV_list hl, Nat.mul_one]
        have hi' : i < l.length := by omega
        rw [List.drop_eq_getElem_cons (by simpa using hi')]
        simp [List.getD_eq_getElem?_getD, hi']
      have hw := wf_byteY (hb (l.getD i 0) (by
        have hi' : i < l.length := by omega
        rw [List.getD_eq_getElem?_getD, List.getElem?_eq_getElem hi']
        exact List.getElem_mem hi'))
      rw [List.mapM_cons, ih (fun j hj => hL j (List.mem_cons_of_mem _ hj)), hv]
      simp only [List.getD_eq_getElem?_getD] at hw
      simp [Program.keyLits, byte_tyY, hw]
  rw [h _ (fun i hi => List.mem_range.1 hi)]
  have hfl : ∀ (L : List Nat), (L.map fun i : Nat => [Lit.int .u8 ((l.getD i 0 : Nat) : Int)]).flatten = L.map fun i : Nat => Lit.int .u8 ((l.getD i 0 : Nat) : Int) := fun L => by
    induction L with
    | nil => rfl
    | cons a r ih => simp only [List.map_cons, List.flatten_cons, ih, List.cons_append, List.nil_append]
  simp only [Option.map_some, hfl]
  congr 1
  apply List.ext_getElem?
  intro i
  by_cases hi : i < n
  · have hi' : i < l.length := by omega
    simp [hi, hi', List.getD_eq_getElem?_getD]
  · rw [List.getElem?_eq_none (by simp; omega), List.getElem?_eq_none (by simp; omega)]
theorem keyOf_arr {n k : Nat} (A : ArrKey Tryz.prog k 5 n) {l : List Nat} (hl : l.length = n) (hb : ∀ b ∈ l, b < 256) : keyOf Tryz.prog k (.agg (arrV n l)) = some (keyL l) := by
  obtain ⟨m0, hm0⟩ := types_pos
  have hkt := A.keyType ⟨m0, hm0⟩
  unfold keyOf
  simp only [A.hu]
  rw [if_pos (by simp [hkt, Value.formed, A.hu, A.size, arrV_size])]
  have h2 : ∃ m1, Tryz.prog.types.size + 1 = m1 + 2 := ⟨m0, by omega⟩
  obtain ⟨m1, hm1⟩ := h2
  rw [hm1, show (Value.agg (arrV n l)).cells.toList = (arrV n l).toList from rfl, keyLits_arr A hl hb]
  rfl
theorem keyL_inj {n k : Nat} (A : ArrKey Tryz.prog k 5 n) {l m : List Nat} (hl : l.length = n) (hb : ∀ b ∈ l, b < 256) (hm : m.length = n) (hc : ∀ b ∈ m, b < 256) (h : keyL l = keyL m) : l = m := by
  have h1 := keyOf_arr A hl hb
  have h2 := keyOf_arr A hm hc
  rw [← h] at h2
  have e := A.law.inj h1 h2
  exact arrV_inj hl hm (Value.agg.inj e)
end
section
open Go.RowKit Go.WideMaps
set_option maxRecDepth 100000
def ElAt (w : World) (v : Value) (m n : Nat) (C : Nat → Array Value) : Prop := ∃ p c, v = .slice p n c ∧ n ≤ c ∧ (0 < n → ∃ b o, p = some ⟨b, o, none⟩ ∧ b < w.heap.size ∧ ∀ i, i < n → w.rangeAt b (o + i * m) (C i).toList)
theorem ElAt.tch {w w' : World} {v : Value} {m n : Nat} {C : Nat → Array Value} (h : ElAt w v m n C) (hT : Tch [] w w') : ElAt w' v m n C := by
  obtain ⟨p, c, h1, h2, h3⟩ := h
  refine ⟨p, c, h1, h2, fun hn => ?_⟩
  obtain ⟨b, o, h4, h5, h6⟩ := h3 hn
  refine ⟨b, o, h4, Nat.lt_of_lt_of_le h5 hT.size, fun i hi j u hu => ?_⟩
  rw [hT.cell (p := ⟨b, o + i * m + j, none⟩) h5 (by simp)]
  exact h6 i hi j u hu
section
variable {o : Oper} {a : Act} {w : World}
theorem sizeOf_n {P : Program} {e n : Nat} (he : (P.info? e).map (·.size) = some n) (w : World) : (sizeOf e).run P w = .ok n w := by
  cases hq : P.info? e with
  | none => simp [hq] at he
  | some i =>
    have hs : i.size = n := by simpa [hq] using he
    simp [sizeOf, typeInfo, hq, hs]
theorem x_idxS {b off j n c m ty e : Nat} (x y : Operand) (ho : o.op = .indexAddr ty x y) (hx : a.eval x = .slice (some ⟨b, off, none⟩) n c) (hy : a.eval y = .int .i64 (j : Int)) (hu : Tryz.prog.underlying ty = some (.slice e)) (he : (Tryz.prog.info? e).map (·.size) = some m) (hj : j < n) : (execOp a.eval o).run Tryz.prog w = .ok (.value (.pointer (some ⟨b, off + j * m, none⟩))) w := by
  have hadd : (⟨b, off, none⟩ : Addr).add (j * m) = ⟨b, off + j * m, none⟩ := by unfold Addr.add; split <;> simp_all
  unfold execOp
  simp [ho, hx, hy, Instr.indexAt, run_underlying hu, Instr.sureAddr, asIntOf, sizeOf_n he, hj, hadd]
theorem x_ldMid {b q : Nat} {ty : TypeId} {c : Array Value} {d : TypeDesc} (x : Operand) (ho : o.op = .load ty x) (hx : a.eval x = .pointer (some ⟨b, q, none⟩)) (hr : w.rangeAt b q c.toList) (hu : Tryz.prog.underlying ty = some d) (hd : d.isRow = true) (hs : (Tryz.prog.info? ty).map (·.size) = some c.size) : (execOp a.eval o).run Tryz.prog w = .ok (.value (.agg c)) w := by
  have h := run_loadAt_mid (P := Tryz.prog) w b q ty c.toList d hr hu hd (by rw [Array.length_toList]; exact hs)
  rw [Array.toArray_toList] at h
  unfold execOp
  simp only [ho, hx, Sem.run_bind, h, Result.andThen_ok, Sem.run_pure]
end
theorem accts_tyY : Tryz.prog.underlying 31 = some (.slice 49) := by kernel_rfl
theorem addr_tyY : Tryz.prog.underlying 23 = some (.array 20 5) := by kernel_rfl
theorem addr_sizeY : (Tryz.prog.info? 23).map (·.size) = some 20 := by kernel_rfl
section
variable {o : Oper} {a : Act} {w : World}
end
end
end Go.Proofs.YtopfmaoeebgjmaaGreatDoor
