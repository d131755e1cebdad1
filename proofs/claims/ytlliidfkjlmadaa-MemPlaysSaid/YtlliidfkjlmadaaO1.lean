/- Integers in memory: cells that are integers, slices that read as integers, an integer appended to a row of the call's own. -/
import Derived.Test.YtlliidfkjlmadaaB1
set_option linter.unusedVariables false
set_option linter.unusedSimpArgs false
namespace Go.Proofs.Ytlliidfkjlmadaa
open Go.RowKit

/-- Integers as cells. -/
def ni (l : List Nat) : List Value := l.map fun x => Value.int .i64 ((x : Nat) : Int)
theorem ni_length (l : List Nat) : (ni l).length = l.length := by simp [ni]
theorem ni_append (l m : List Nat) : ni (l ++ m) = ni l ++ ni m := by simp [ni]
theorem ni_get {l : List Nat} {i : Nat} (h : i < l.length) : (ni l)[i]? = some (.int .i64 ((l.getD i 0 : Nat) : Int)) := by simp [ni, h]
theorem ni_ne {l : List Nat} {i : Nat} {u : Value} (h : (ni l)[i]? = some u) : i < l.length ∧ u = .int .i64 ((l.getD i 0 : Nat) : Int) := by
  have hi : i < l.length := by
    have := (List.getElem?_eq_some_iff.1 h).1
    rwa [ni_length] at this
  rw [ni_get hi] at h
  exact ⟨hi, (Option.some.inj h).symm⟩
/-- A value that is a slice of these integers. -/
def RdI (w : World) (v : Value) (l : List Nat) : Prop := ∃ p c, v = .slice p l.length c ∧ l.length ≤ c ∧ (l ≠ [] → ∃ b o, p = some ⟨b, o, none⟩ ∧ b < w.heap.size ∧ ∀ i, i < l.length → w.cell? ⟨b, o + i, none⟩ = some (.int .i64 ((l.getD i 0 : Nat) : Int)))
theorem RdI.tch {w w' : World} {v : Value} {l : List Nat} (h : RdI w v l) (hT : Tch [] w w') : RdI w' v l := by
  obtain ⟨p, c, h1, h2, h4⟩ := h
  refine ⟨p, c, h1, h2, fun hl => ?_⟩
  obtain ⟨b, o, h5, h6, h7⟩ := h4 hl
  exact ⟨b, o, h5, Nat.lt_of_lt_of_le h6 hT.size, fun i hi => by rw [hT.cell (p := ⟨b, o + i, none⟩) h6 (by simp)]; exact h7 i hi⟩
theorem RdI.own {w : World} {B n : Nat} {v : Value} {l : List Nat} (h : w.ownsRow B 3 1 v n (ni l)) : RdI w v l := by
  obtain ⟨h1, h2⟩ := h
  rw [ni_length, Nat.mul_one] at h1
  subst h1
  rcases h2 with ⟨rfl, h0⟩ | ⟨g, cap, cur, rfl, hg, hb, hn, _, hcs, htk⟩
  · have : l = [] := List.length_eq_zero_iff.1 h0
    subst this
    exact ⟨none, 0, rfl, Nat.le_refl _, fun h => absurd rfl h⟩
  · refine ⟨some ⟨g, 0, none⟩, cap, rfl, hn, fun _ => ⟨g, 0, rfl, (Array.getElem?_eq_some_iff.1 hb).1, fun i hi => ?_⟩⟩
    have hB : Blk w g 3 cur := hb
    rw [Nat.zero_add, hB.cell (v := .int .i64 ((l.getD i 0 : Nat) : Int))]
    have e := congrArg (fun x => x[i]?) htk
    simp only [Nat.mul_one, List.getElem?_take, hi, if_true, ni_get hi] at e
    simpa using e
theorem RdI.lit (w : World) (t : TypeId) (l : List Nat) (cs : Array Value) (hc : cs = (ni l).toArray) : RdI (w.alloc (.cells cs t)) (.slice (some ⟨w.heap.size, 0, none⟩) l.length l.length) l := by
  subst hc
  refine ⟨_, _, rfl, Nat.le_refl _, fun _ => ⟨_, _, rfl, (Blk.new w t _).lt, fun i hi => ?_⟩⟩
  rw [Nat.zero_add, (Blk.new w t _).cell (v := .int .i64 ((l.getD i 0 : Nat) : Int)) (by rw [List.getElem?_toArray]; exact ni_get hi)]
theorem ints_ty : Try.prog.underlying 49 = some (.slice 3) := by kernel_rfl
theorem int_tyI : Try.prog.underlying 3 = some (.int .i64) := by kernel_rfl
theorem int_sizeI : (Try.prog.info? 3).map (·.size) = some 1 := by kernel_rfl
theorem int_aggI (w : World) : (isAgg 3).run Try.prog w = .ok false w := by simp [isAgg, run_underlying int_tyI]
theorem I_info : (Try.prog.info? 3).map (fun i => (i.zero, i.size, i.bytes)) = some (some (.int .i64 0), 1, 8) := by kernel_rfl
theorem ownI_nil (w : World) (B : Nat) : w.ownsRow B 3 1 (.slice none 0 0) ([] : List Nat).length (ni []) := ⟨rfl, .inl ⟨rfl, rfl⟩⟩
/-- append(v, x), v the call's own; x lies in a block that was just laid down. -/
theorem st_appI {ops : Array Oper} {rest : List Oper} {o : Oper} {a : Act} {w0 w : World} {Q : Exit → Act → World → Prop} {v : Value} {l : List Nat} {x b : Nat} {t : TypeId} (hgd : o.guard = none) (s y : Operand)
    (ho : o.op = .call { callee := .builtin .append, args := #[s, y], argTypes := #[49, 49] }) (hs : a.eval s = v) (hy : a.eval y = .slice (some ⟨b, 0, none⟩) 1 1) (hB : Blk w b t #[.int .i64 (x : Int)]) (hown : w.ownsRow w0.heap.size 3 1 v l.length (ni l)) (hT : Tch [] w0 w) (hl : l.length ≤ 100000000)
    (h : ∀ v' w', w'.ownsRow w0.heap.size 3 1 v' (l ++ [x]).length (ni (l ++ [x])) → Tch [] w0 w' → wpList Try.prog ops Q rest (a.put o.dst v') w') : wpList Try.prog ops Q (o :: rest) a w := by
  obtain ⟨i0, hi, hz0, hz1, hz2⟩ := info_parts I_info
  refine wpList_append_own w hgd s y 49 ho w0.heap.size 3 i0 (.int .i64 0) 1 8 ints_ty hi hz0 hz1 hz2 rfl (by decide) _ _ _ hs hown ⟨b, 0, none⟩ 1 1 [.int .i64 (x : Int)] hy rfl ?_ (fun u hu => by obtain rfl := List.mem_singleton.1 hu; rfl) (by unfold maxLen; omega) (by omega) hT.size ?_
  · intro j u hu
    have hj : j = 0 := by
      have := (List.getElem?_eq_some_iff.1 hu).1
      simpa using this
    subst hj
    have hadd : (⟨b, 0, none⟩ : Addr).add 0 = ⟨b, 0, none⟩ := by unfold Addr.add; split <;> simp_all
    rw [hadd]
    exact hB.cell (by simpa using hu)
  · intro v' w' hown' hgrow _
    refine h v' w' ?_ ⟨hgrow.os.trans hT.os, hgrow.tape.trans hT.tape, hgrow.output.trans hT.output, Nat.le_trans hT.size hgrow.size, fun k hk _ => (hgrow.block k (Nat.lt_of_lt_of_le hk hT.size) (fun e => ?_)).trans (hT.block k hk (by simp))⟩
    · rw [ni_append, List.length_append]; exact hown'
    · have := (hown.lt k e.symm).1; omega
end Go.Proofs.Ytlliidfkjlmadaa
