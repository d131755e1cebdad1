/- Bytes appended to bytes of the call's own; short lists of bytes built. -/
import Derived.Test.YtklpcppdjcedpaaB0
import Derived.Deep.AppendLies
set_option linter.unusedVariables false
set_option linter.unusedSimpArgs false
namespace Go.Proofs.Ytklpcppdjcedpaa
open Go.RowKit

theorem append_any_nil (ty : TypeId) (q : Option Addr) (n c c' : Nat) (w : World) (hn : n ≤ c) (hq : q = none → n = 0 ∧ c = 0) : (Builtin.append_ #[34, 34] ty #[.slice q n c, .slice none 0 c']).run Try.prog w = .ok (.slice q n c) w := by
  obtain ⟨i, hi, hz, hs, hb⟩ := info_parts A_info
  cases q with
  | none =>
    obtain ⟨rfl, rfl⟩ := hq rfl
    simp [Builtin.append_, run_underlying bytes_ty, sizeOf, typeInfo, hi, storeCells, Builtin.lenOf, Builtin.firstCells]
  | some a => simp [Builtin.append_, run_underlying bytes_ty, sizeOf, typeInfo, hi, storeCells, Builtin.lenOf, Builtin.firstCells, hn]
/-- append(v, u...), v the call's own. -/
theorem st_appB {ops : Array Oper} {rest : List Oper} {o : Oper} {a : Act} {w0 w : World} {Q : Exit → Act → World → Prop} {v u : Value} {l m : List Nat} {ty : TypeId} (hgd : o.guard = none) (s x : Operand)
    (ho : o.op = .call { callee := .builtin .append, args := #[s, x], argTypes := #[34, 34] }) (hs : a.eval s = v) (hx : a.eval x = u) (hown : w.ownsRow w0.heap.size 5 1 v l.length (nb l)) (hT : Tch [] w0 w) (hu : RdB w u m) (hl : l.length + m.length ≤ 100000000)
    (h : ∀ v' w', w'.ownsRow w0.heap.size 5 1 v' (l ++ m).length (nb (l ++ m)) → Tch [] w0 w' → wpList Try.prog ops Q rest (a.put o.dst v') w') : wpList Try.prog ops Q (o :: rest) a w := by
  obtain ⟨i0, hi, hz0, hz1, hz2⟩ := info_parts A_info
  obtain ⟨p, c, rfl, hlc, hb, h4⟩ := hu
  cases p with
  | none =>
    have hl0 : m = [] := by
      cases m with
      | nil => rfl
      | cons x r => obtain ⟨_, _, h, _⟩ := h4 (by simp); cases h
    subst hl0
    have hv : ∃ q n c, v = .slice q n c ∧ n ≤ c ∧ (q = none → n = 0 ∧ c = 0) := by
      obtain ⟨_, h2⟩ := hown
      rcases h2 with ⟨rfl, _⟩ | ⟨g, cap, cur, rfl, _, _, hn, _⟩
      · exact ⟨none, 0, 0, rfl, Nat.le_refl _, fun _ => ⟨rfl, rfl⟩⟩
      · exact ⟨_, _, _, rfl, hn, fun h => by cases h⟩
    obtain ⟨q, n, cq, rfl, hn, hq⟩ := hv
    refine wpList_plain hgd fun K hK => ?_
    unfold Oper.wp execOp
    simp only [ho, resolve, invoke, builtin, Sem.run_bind, Sem.run_pure, Result.andThen_ok, List.map_toArray, List.map_cons, List.map_nil, hs, hx, List.length_nil, append_any_nil _ q n cq c w hn hq]
    exact hK _ _ (h _ _ (by rw [List.append_nil]; exact hown) hT)
  | some ad =>
    refine wpList_append_own w hgd s x 34 ho w0.heap.size 5 i0 (.int .u8 0) 1 1 bytes_ty hi hz0 hz1 hz2 rfl (by decide) _ _ _ hs hown ad m.length c (nb m) hx (by rw [nb_length, Nat.mul_one]) ?_ (fun u hu => by obtain ⟨x, _, rfl⟩ := List.mem_map.1 hu; rfl) (by unfold maxLen; omega) (by omega) hT.size ?_
    · intro j u hu
      obtain ⟨hj, rfl⟩ := nb_ne hu
      obtain ⟨b, o, h5, h6, h7⟩ := h4 (by intro e; subst e; simp at hj)
      cases h5
      have hadd : (⟨b, o, none⟩ : Addr).add j = ⟨b, o + j, none⟩ := by unfold Addr.add; split <;> simp_all
      rw [hadd]; exact h7 j hj
    · intro v' w' hown' hgrow _
      refine h v' w' ?_ ⟨hgrow.os.trans hT.os, hgrow.tape.trans hT.tape, hgrow.output.trans hT.output, Nat.le_trans hT.size hgrow.size, fun k hk _ => (hgrow.block k (Nat.lt_of_lt_of_le hk hT.size) (fun e => ?_)).trans (hT.block k hk (by simp))⟩
      · have e : nb (l ++ m) = nb l ++ nb m := by simp [nb]
        rw [e, List.length_append]; exact hown'
      · have := (hown.lt k e.symm).1; omega
theorem append_nil_any (ty : TypeId) (q : Option Addr) (c' : Nat) (w : World) : (Builtin.append_ #[34, 34] ty #[.slice none 0 0, .slice q 0 c']).run Try.prog w = .ok (.slice none 0 0) w := by
  obtain ⟨i, hi, hz, hs, hb⟩ := info_parts A_info
  cases q <;> simp [Builtin.append_, run_underlying bytes_ty, sizeOf, typeInfo, hi, storeCells, loadCells, loadCellsFrom, Builtin.lenOf, Builtin.firstCells]
/-- append([]byte(nil), u...) in a region that draws its order. -/
theorem step_cloneB {ops : Array Oper} {o : Oper} {a : Act} {w : World} {K : Act → World → Prop} {Q : Exit → Act → World → Prop} {E : Prop} {B : Nat} {u : Value} {m : List Nat} (hgd : o.guard = none) (s x : Operand)
    (ho : o.op = .call { callee := .builtin .append, args := #[s, x], argTypes := #[34, 34] }) (hs : a.eval s = .slice none 0 0) (hx : a.eval x = u) (hB : B ≤ w.heap.size) (hu : RdB w u m) (hl : m.length ≤ 100000000)
    (h : ∀ v' w', w'.ownsRow B 5 1 v' m.length (nb m) → Tch [] w w' → K (a.put o.dst v') w') : if Region.wanted o (yielded ops a.tmps) = true then Oper.wp Try.prog o a w K Q else E := by
  obtain ⟨i0, hi, hz0, hz1, hz2⟩ := info_parts A_info
  obtain ⟨p, c, rfl, hlc, hb, h4⟩ := hu
  by_cases h0 : m = []
  · subst h0
    have hw : Region.wanted o (yielded ops a.tmps) = true := by simp [Region.wanted, hgd]
    rw [if_pos hw]
    unfold Oper.wp execOp
    simp only [ho, resolve, invoke, builtin, Sem.run_bind, Sem.run_pure, Result.andThen_ok, List.map_toArray, List.map_cons, List.map_nil, hs, hx, List.length_nil, append_nil_any]
    exact h _ _ ⟨rfl, .inl ⟨rfl, rfl⟩⟩ (Tch.refl _ _)
  · obtain ⟨b, o', rfl, hbw, hc⟩ := h4 h0
    refine step_append_lies w hgd s x 34 ho B 5 i0 (.int .u8 0) 1 1 bytes_ty hi hz0 hz1 hz2 rfl (by decide) (.slice none 0 0) 0 [] hs ⟨rfl, .inl ⟨rfl, rfl⟩⟩ ⟨b, o', none⟩ m.length c (nb m) hx (by rw [nb_length, Nat.mul_one]) ?_ (fun u hu => by obtain ⟨x, _, rfl⟩ := List.mem_map.1 hu; rfl) (List.length_pos_iff.2 h0) (by unfold maxLen; omega) (by omega) hB _ rfl ?_
    · intro j u hu
      obtain ⟨hj, rfl⟩ := nb_ne hu
      have hadd : (⟨b, o', none⟩ : Addr).add j = ⟨b, o' + j, none⟩ := by unfold Addr.add; split <;> simp_all
      rw [hadd]; exact hc j hj
    · intro g cap w' hown hgrow _ _
      rw [Nat.zero_add, List.nil_append] at hown
      have e : (0 + m.length) = m.length := Nat.zero_add _
      rw [e]
      exact h _ _ hown ⟨hgrow.os, hgrow.tape, hgrow.output, hgrow.size, fun k hk _ => hgrow.block k hk (by simp [Value.ownBlock])⟩
/-- A list of bytes laid into a new block. -/
theorem RdB.lit (w : World) (t : TypeId) (l : List Nat) (hl : ∀ x ∈ l, x < 256) (cs : Array Value) (hc : cs = (nb l).toArray) : RdB (w.alloc (.cells cs t)) (.slice (some ⟨w.heap.size, 0, none⟩) l.length l.length) l := by
  subst hc
  refine ⟨_, _, rfl, Nat.le_refl _, hl, fun _ => ⟨_, _, rfl, (Blk.new w t _).lt, fun i hi => ?_⟩⟩
  rw [Nat.zero_add, (Blk.new w t _).cell (v := .int .u8 ((l.getD i 0 : Nat) : Int)) (by rw [List.getElem?_toArray]; exact nb_get hi)]
theorem own_drewN {w : World} {B n : Nat} {v : Value} {l : List Value} (h : w.ownsRow B 5 1 v n l) (k : Nat) : (w.drewN k).ownsRow B 5 1 v n l := h
theorem own_nil (w w0 : World) : w.ownsRow w0.heap.size 5 1 (.slice none 0 0) ([] : List Nat).length (nb []) := ⟨rfl, .inl ⟨rfl, rfl⟩⟩
/-- The same, as the call's own. -/
theorem own_lit {w w0 : World} (l : List Nat) (hw : w0.heap.size ≤ w.heap.size) (hl : l.length ≤ 1000) (cs : Array Value) (hc : cs = (nb l).toArray) : (w.alloc (.cells cs 5)).ownsRow w0.heap.size 5 1 (.slice (some ⟨w.heap.size, 0, none⟩) l.length l.length) l.length (nb l) := by
  subst hc
  refine ⟨by rw [nb_length, Nat.mul_one], .inr ⟨_, _, _, rfl, hw, Blk.new w _ _, Nat.le_refl _, by unfold maxLen; omega, by simp [nb_length], ?_⟩⟩
  rw [Nat.mul_one, ← nb_length l]
  exact List.take_length
theorem u8_agg (w : World) : (isAgg 5).run Try.prog w = .ok false w := by simp [isAgg, run_underlying byte_ty]
/-- Two bytes held against each other. -/
theorem k_u8 {o : Oper} {a : Act} {ops : Array Oper} {rest : List Oper} {C : World → Prop} {Q : Act → Prop} {t : Bool} {m n : Int} (hw : Region.wanted o (yielded ops a.tmps) = true) (xo yo : Operand) (yt : TypeId) (ho : o.op = .binOp .eql 5 xo yo yt)
    (hxe : a.eval xo = .int .u8 m) (hye : a.eval yo = .int .u8 n) (hxy : (m == n) = t) (h : KQ ops C Q rest (a.put o.dst (.bool t))) : KQ ops C Q (o :: rest) a :=
  k_pure hw (fun w => by unfold execOp; simp only [ho, hxe, hye]; show Sem.run _ _ w = _; simp [eqGuard, binOp, Op.intCmp, hxy]) h
end Go.Proofs.Ytklpcppdjcedpaa
