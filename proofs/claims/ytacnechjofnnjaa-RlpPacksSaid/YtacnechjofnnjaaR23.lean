/- Bytes cloned by append; bytes made of a text; steps that the laws share. -/
import Derived.Test.YtacnechjofnnjaaR22
import Derived.Laws.AppendOwnNone
import Derived.Laws.BitsAllLaws
namespace Go.Proofs.Ytacnechjofnnjaa
open Go.RowKit

theorem append_nil_nil (ty : TypeId) (c : Nat) (w : World) : (Builtin.append_ #[22, 22] ty #[.slice none 0 0, .slice none 0 c]).run Try.prog w = .ok (.slice none 0 0) w := by
  obtain ⟨i, hi, hz, hs, hb⟩ := info_parts A_info
  simp [Builtin.append_, run_underlying bytes_ty, sizeOf, typeInfo, hi, storeCells, Builtin.lenOf, Builtin.firstCells]
/-- append([]byte(nil), v...). -/
theorem st_cloneB {ops : Array Oper} {rest : List Oper} {o : Oper} {a : Act} {w : World} {Q : Exit → Act → World → Prop} {v : Value} {l : List Nat} (hgd : o.guard = none) (s x : Operand)
    (ho : o.op = .call { callee := .builtin .append, args := #[s, x], argTypes := #[22, 22] }) (hs : a.eval s = .slice none 0 0) (hx : a.eval x = v) (hv : RdA [] w v l) (hl : l.length ≤ 100000000)
    (h : ∀ v' w', w'.ownsRow w.heap.size 5 1 v' l.length (nb l) → Tch [] w w' → wpList Try.prog ops Q rest (a.put o.dst v') w') : wpList Try.prog ops Q (o :: rest) a w := by
  obtain ⟨i0, hi, hz0, hz1, hz2⟩ := info_parts A_info
  obtain ⟨p, c, rfl, hlc, hb, h4⟩ := hv
  cases p with
  | none =>
    have hl0 : l = [] := by
      cases l with
      | nil => rfl
      | cons x r => obtain ⟨_, _, h, _⟩ := h4 (by simp); cases h
    subst hl0
    refine wpList_plain hgd fun K hK => ?_
    unfold Oper.wp execOp
    simp only [ho, resolve, invoke, builtin, Sem.run_bind, Sem.run_pure, Result.andThen_ok, List.map_toArray, List.map_cons, List.map_nil, hs, hx, List.length_nil, append_nil_nil]
    exact hK _ _ (h _ _ ⟨rfl, .inl ⟨rfl, rfl⟩⟩ (Tch.refl _ _))
  | some ad =>
    refine wpList_append_own w hgd s x 22 ho w.heap.size 5 i0 (.int .u8 0) 1 1 bytes_ty hi hz0 hz1 hz2 rfl (by decide) _ _ _ hs (World.ownsRow_nil w _ _ _) ad l.length c (nb l) hx (by rw [nb_length, Nat.mul_one]) ?_ (fun u hu => by obtain ⟨x, _, rfl⟩ := List.mem_map.1 hu; rfl) (by unfold maxLen; omega) (by omega) (Nat.le_refl _) ?_
    · intro j u hu
      obtain ⟨hj, rfl⟩ := nb_ne hu
      obtain ⟨b, o, h5, h6, _, h7⟩ := h4 (by intro e; subst e; simp at hj)
      cases h5
      have hadd : (⟨b, o, none⟩ : Addr).add j = ⟨b, o + j, none⟩ := by unfold Addr.add; split <;> simp_all
      rw [hadd]; exact h7 j hj
    · intro v' w' hown hgrow _
      rw [Nat.zero_add, List.nil_append] at hown
      exact h v' w' hown ⟨hgrow.os, hgrow.tape, hgrow.output, hgrow.size, fun k hk _ => hgrow.block k hk (by simp [Value.ownBlock])⟩
end Go.Proofs.Ytacnechjofnnjaa
