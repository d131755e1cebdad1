/- What bytes are as a tree: parse, parseList. -/
import Derived.Test.YtacnechjofnnjaaR14
import Derived.Maps.AppendAt
namespace Go.Proofs.Ytacnechjofnnjaa
open Go.RowKit

/-- A row of pieces that the call made. -/
def PRow (X : List Nat) (B k : Nat) (w : World) (v : Value) (ts : List It) : Prop :=
  ∃ us, w.ownsRow B 42 1 v ts.length us ∧ ∀ i (h : i < ts.length), ∃ u, us[i]? = some u ∧ PcV (v.ownBlock.toList ++ X) w k u ts[i]
theorem Tch.grownBy {w w' : World} (h : Tch [] w w') : w.grownBy w' none := ⟨h.os, h.tape, h.output, h.size, fun k hk _ => h.block k hk (by simp)⟩
theorem PRow.call {X : List Nat} {B k : Nat} {w w' : World} {v : Value} {ts : List It} (h : PRow X B k w v ts) (hT : Tch [] w w') : PRow X B k w' v ts := by
  obtain ⟨us, h1, h2⟩ := h
  refine ⟨us, h1.kept hT.grownBy (by cases v.ownBlock <;> simp), fun i hi => ?_⟩
  obtain ⟨u, h3, h4⟩ := h2 i hi
  exact ⟨u, h3, h4.tch (hT.mono (by simp))⟩
theorem tch_grown {X : List Nat} {w w' : World} {row : Option Nat} (h : w.grownBy w' row) : Tch (row.toList ++ X) w w' :=
  ⟨h.os, h.tape, h.output, h.size, fun k hk hm => h.block k hk (fun e => hm (by rw [← e]; simp))⟩
theorem PcV.one {X : List Nat} {w : World} {k : Nat} {v : Value} {t : It} (h : PcV X w k v t) : v.oneCell' = true := by
  obtain ⟨T, u, rfl⟩ := h.iface; rfl
/-- A piece more. -/
theorem st_appendP {ops : Array Oper} {rest : List Oper} {o : Oper} {a : Act} {w0 w : World} {Q : Exit → Act → World → Prop} {X : List Nat} {k : Nat} {v u : Value} {ts : List It} {t : It} {ty : TypeId} (hgd : o.guard = none) (s x : Operand)
    (ho : o.op = .call { callee := .builtin .append, args := #[s, x], argTypes := #[61, 61] }) (hs : a.eval s = v) (hx : a.eval x = .slice (some ⟨w.heap.size, 0, none⟩) 1 1)
    (hR : PRow X w0.heap.size k w v ts) (hu : PcV (v.ownBlock.toList ++ X) w k u t) (hT : Tch [] w0 w) (hlen : ts.length ≤ 100000000)
    (h : ∀ v' w', PRow X w0.heap.size k w' v' (ts ++ [t]) → Tch [] w0 w' → (∀ y q, RdA (v.ownBlock.toList ++ X) w y q → RdA (v'.ownBlock.toList ++ X) w' y q) → wpList Try.prog ops Q rest (a.put o.dst v') w') :
    wpList Try.prog ops Q (o :: rest) a (w.alloc (.cells #[u] ty)) := by
  obtain ⟨us, hown, hps⟩ := hR
  obtain ⟨i0, hi, hz0, hz1, hz2⟩ := info_parts piece_info
  refine wpList_append_own_at (w := w.alloc (.cells #[u] ty)) hgd s x 61 ho w0.heap.size 42 i0 .nilIface 1 16 list_ty hi hz0 hz1 hz2 rfl (by decide) v ts.length us hs (hown.alloc _) ⟨w.heap.size, 0, none⟩ 1 1 [u] hx rfl (cell_one_new w u ty) (fun y hy => by simp at hy; subst hy; exact hu.one) (by unfold maxLen; omega) (by omega) (by have := hT.size; simp; omega) ?_
  intro v' w' hown' hgrow _ hv'
  have hlt := hown.lt
  have hlen' : us.length = ts.length := by have := hown.1; omega
  have hTg : Tch (v.ownBlock.toList ++ (v'.ownBlock.toList ++ X)) w w' := ((Tch.refl _ _).alloc _).trans (tch_grown hgrow)
  have hm1 : ∀ y ∈ v.ownBlock.toList ++ (v'.ownBlock.toList ++ X), y ∈ v.ownBlock.toList ++ X ∨ w.heap.size ≤ y := by
    intro y hy
    rcases List.mem_append.1 hy with hy | hy
    · exact .inl (List.mem_append_left _ hy)
    rcases List.mem_append.1 hy with hy | hy
    · rcases hv' with e | e
      · rw [e] at hy; exact .inl (List.mem_append_left _ hy)
      · rw [e] at hy; simp at hy; subst hy; exact .inr (by omega)
    · exact .inl (List.mem_append_right _ hy)
  have hm2 : ∀ {W : World}, ∀ y ∈ v'.ownBlock.toList ++ X, y ∈ v.ownBlock.toList ++ (v'.ownBlock.toList ++ X) ∨ W.heap.size ≤ y := fun y hy => .inl (List.mem_append_right _ hy)
  refine h v' w' ⟨us ++ [u], by rw [List.length_append]; exact hown', fun i hi => ?_⟩ ?_ (fun y q hy => ((hy.mono hm1).tch hTg).mono hm2)
  · rw [List.length_append, List.length_singleton] at hi
    by_cases hi2 : i < ts.length
    · obtain ⟨y, h1, h2⟩ := hps i hi2
      refine ⟨y, by rw [List.getElem?_append_left (by omega)]; exact h1, ?_⟩
      rw [List.getElem_append_left hi2]
      exact ((h2.mono hm1).tch hTg).mono hm2
    · obtain rfl : i = ts.length := by omega
      refine ⟨u, by rw [List.getElem?_append_right (by omega), hlen', Nat.sub_self]; rfl, ?_⟩
      rw [List.getElem_append_right (by omega)]
      simp only [Nat.sub_self, List.getElem_cons_zero]
      exact ((hu.mono hm1).tch hTg).mono hm2
  · have hTa := hT.alloc (bs := []) (.cells #[u] ty)
    exact ⟨hgrow.os.trans hTa.os, hgrow.tape.trans hTa.tape, hgrow.output.trans hTa.output, Nat.le_trans hTa.size hgrow.size, fun q hq hqb => (hgrow.block q (Nat.lt_of_lt_of_le hq hTa.size) (fun e => by have := (hlt q e.symm).1; omega)).trans (hTa.block q hq hqb)⟩
theorem decL_error {f : List Nat → Res (It × List Nat)} (hf : ∀ l c, f l = .error c → c = 3 ∨ c = 4) : ∀ (n : Nat) (l : List Nat) (c : Nat), decL f n l = .error c → c = 3 ∨ c = 4
  | 0, l, c, h => by
    unfold decL at h
    split at h
    · cases h
    · cases h; omega
  | n + 1, l, c, h => by
    unfold decL at h
    split at h
    · cases h
    · split at h
      · rename_i e he; cases h; exact hf _ _ he
      · split at h
        · rename_i e he; cases h; exact decL_error hf _ _ _ he
        · cases h
/-- What parse answers; j: how many lists may still be begun. -/
def ParsePost (X : List Nat) (j : Nat) (l : List Nat) (w : World) (e : Ending) (w' : World) : Prop :=
  Tch [] w w' ∧ match dec j l with
    | .error c => ∃ v1 v2, e = .returned (.tuple #[v1, v2, .int .i64 (c : Int)])
    | .ok (t, r) => ∃ v1 v2, e = .returned (.tuple #[v1, v2, .int .i64 0]) ∧ PcV X w' (j + 1) v1 t ∧ RdA X w' v2 r
theorem parsepost_no {X : List Nat} {j c : Nat} {l : List Nat} {w w' : World} {v1 v2 : Value} {n : Int} (h : dec j l = .error c) (hn : n = (c : Int)) (hT : Tch [] w w') : ParsePost X j l w (.returned (.tuple #[v1, v2, .int .i64 n])) w' := ⟨hT, by rw [h, hn]; exact ⟨v1, v2, rfl⟩⟩
theorem parsepost_yes {X : List Nat} {j : Nat} {l r : List Nat} {t : It} {w w' : World} {v1 v2 : Value} (h : dec j l = .ok (t, r)) (hT : Tch [] w w') (h1 : PcV X w' (j + 1) v1 t) (h2 : RdA X w' v2 r) : ParsePost X j l w (.returned (.tuple #[v1, v2, .int .i64 0])) w' := ⟨hT, by rw [h]; exact ⟨v1, v2, rfl, h1, h2⟩⟩
def ListPost (X : List Nat) (j : Nat) (l : List Nat) (w : World) (e : Ending) (w' : World) : Prop :=
  Tch [] w w' ∧ match decL (dec j) l.length l with
    | .error c => ∃ p n k, e = .returned (.tuple #[.slice p n k, .int .i64 (c : Int)])
    | .ok ts => ∃ p k, e = .returned (.tuple #[.slice p ts.length k, .int .i64 0]) ∧ PcV X w' (j + 2) (.iface 61 (.slice p ts.length k)) (.lst ts)
theorem dec_error {j c : Nat} {l : List Nat} (h : dec j l = .error c) : c = 3 ∨ c = 4 := by
  induction j generalizing l c with
  | zero =>
    rw [dec_eq] at h
    split at h
    · cases h; omega
    · split at h
      · cases h; omega
      · split at h
        · cases h
        · cases h; omega
  | succ j ih =>
    rw [dec_eq] at h
    split at h
    · cases h; omega
    · split at h
      · cases h; omega
      · split at h
        · cases h
        · split at h
          · rename_i e; cases e
          · rename_i j' e
            cases e
            split at h
            · rename_i e he
              cases h
              exact decL_error (fun l c h => ih h) _ _ _ he
            · cases h
end Go.Proofs.Ytacnechjofnnjaa
