/- A row of items that the call made; an item more. -/
import Derived.Test.YtnkfkahbkjdnpaaK0
import Derived.Deep.AppendLies
namespace Go.Proofs.Ytnkfkahbkjdnpaa
open Go.RowKit

/-- A row of items that the call made. -/
def IRow (X : List Nat) (B k : Nat) (w : World) (v : Value) (ts : List It) : Prop :=
  ∃ us, w.ownsRow B 25 3 v ts.length us ∧ ∀ i (h : i < ts.length), ∃ y0 yb yl, us[i * 3]? = some y0 ∧ us[i * 3 + 1]? = some yb ∧ us[i * 3 + 2]? = some yl ∧ ∀ Z, (∀ z ∈ Z, z < B) → ItC (v.ownBlock.toList ++ (X ++ Z)) w k y0 yb yl ts[i]
theorem IRow.nil (X : List Nat) (B k : Nat) (w : World) : IRow X B k w (.slice none 0 0) [] := ⟨[], ⟨rfl, .inl ⟨rfl, rfl⟩⟩, fun i h => absurd h (by simp)⟩
theorem IRow.call {X : List Nat} {B k : Nat} {w w' : World} {v : Value} {ts : List It} (h : IRow X B k w v ts) (hT : Tch [] w w') : IRow X B k w' v ts := by
  obtain ⟨us, h1, h2⟩ := h
  refine ⟨us, h1.kept hT.grownBy (by cases v.ownBlock <;> simp), fun i hi => ?_⟩
  obtain ⟨y0, yb, yl, h3, h4, h5, h6⟩ := h2 i hi
  exact ⟨y0, yb, yl, h3, h4, h5, fun Z hZ => (h6 Z hZ).tch (hT.mono (by simp))⟩
/-- A block of X turns, which is not the row's. -/
theorem IRow.only {X : List Nat} {B k b : Nat} {w w' : World} {v : Value} {ts : List It} (h : IRow X B k w v ts) (hO : Only b w w') (hb : b ∈ X) (hne : v.ownBlock ≠ some b) : IRow X B k w' v ts := by
  obtain ⟨us, h1, h2⟩ := h
  refine ⟨us, h1.kept (row := some b) ⟨hO.os, hO.tape, hO.output, Nat.le_of_eq hO.size.symm, fun k hk he => hO.block k (fun e => he (by rw [e]))⟩ (.inr hne), fun i hi => ?_⟩
  obtain ⟨y0, yb, yl, h3, h4, h5, h6⟩ := h2 i hi
  exact ⟨y0, yb, yl, h3, h4, h5, fun Z hZ => (h6 Z hZ).tch ((Tch.refl _ _).only hO (.inr (List.mem_append_right _ (List.mem_append_left _ hb))))⟩
theorem IRow.form {X : List Nat} {B k : Nat} {w : World} {v : Value} {ts : List It} (h : IRow X B k w v ts) : ∃ p c, v = .slice p ts.length c := by
  obtain ⟨us, h1, _⟩ := h
  rcases h1.2 with ⟨rfl, h0⟩ | ⟨g, cap, cur, rfl, _⟩
  · exact ⟨none, 0, by rw [h0]⟩
  · exact ⟨_, cap, rfl⟩
theorem IRow.lt {X : List Nat} {B k : Nat} {w : World} {v : Value} {ts : List It} (h : IRow X B k w v ts) : ∀ g, v.ownBlock = some g → B ≤ g ∧ g < w.heap.size := h.choose_spec.1.lt
/-- The list of these items. -/
theorem IRow.itc {X Y : List Nat} {B k : Nat} {w : World} {v vb : Value} {ts : List It} (h : IRow X B k w v ts) (hl : ts.length < 4611686018427387904) (hY : ∀ y ∈ Y, (y ∈ X ∧ v.ownBlock ≠ some y) ∨ y < B) : ItC Y w (k + 1) (.bool true) vb v (.lst ts) := by
  obtain ⟨us, h1, h2⟩ := h
  unfold ItC
  rcases h1.2 with ⟨rfl, h0⟩ | ⟨g, cap, cur, rfl, hg, hb, hn, _, hcs, htk⟩
  · refine ⟨rfl, none, 0, by rw [h0], ⟨by rw [h0]; exact Nat.le_refl _, hl⟩, fun hne => absurd (List.eq_nil_of_length_eq_zero h0) hne⟩
  · refine ⟨rfl, _, cap, rfl, ⟨hn, hl⟩, fun _ => ⟨g, 0, rfl, (Array.getElem?_eq_some_iff.1 hb).1, fun hm => (hY g hm).elim (fun h => h.2 rfl) (fun h => by omega), fun i hi => ?_⟩⟩
    obtain ⟨y0, yb, yl, h3, h4, h5, h6⟩ := h2 i hi
    have hc := fun j u hu => h1.cells (g := g) rfl j u hu
    have hadd : ∀ j, (⟨g, 0, none⟩ : Addr).add j = ⟨g, j, none⟩ := fun j => by unfold Addr.add; split <;> simp_all
    refine ⟨y0, yb, yl, ?_, ?_, ?_, (h6 (Y.filter (· < B)) (fun z hz => by simpa using (List.mem_filter.1 hz).2)).mono (fun y hy => .inl (List.mem_append_right _ ((hY y hy).elim (fun h => List.mem_append_left _ h.1) (fun h => List.mem_append_right _ (List.mem_filter.2 ⟨hy, by simpa using h⟩)))))⟩
    · have := hc _ _ h3; rw [hadd] at this; rw [Nat.zero_add]; exact this
    · have := hc _ _ h4; rw [hadd] at this; rw [Nat.zero_add]; exact this
    · have := hc _ _ h5; rw [hadd] at this; rw [Nat.zero_add]; exact this
theorem get3 {us : List Value} {y0 yb yl : Value} {n i : Nat} (hl : us.length = n * 3) : (i < n → (us ++ [y0, yb, yl])[i * 3]? = us[i * 3]? ∧ (us ++ [y0, yb, yl])[i * 3 + 1]? = us[i * 3 + 1]? ∧ (us ++ [y0, yb, yl])[i * 3 + 2]? = us[i * 3 + 2]?) ∧ ((us ++ [y0, yb, yl])[n * 3]? = some y0 ∧ (us ++ [y0, yb, yl])[n * 3 + 1]? = some yb ∧ (us ++ [y0, yb, yl])[n * 3 + 2]? = some yl) := by
  refine ⟨fun h => ⟨?_, ?_, ?_⟩, ?_, ?_, ?_⟩
  · rw [List.getElem?_append_left (by omega)]
  · rw [List.getElem?_append_left (by omega)]
  · rw [List.getElem?_append_left (by omega)]
  · rw [List.getElem?_append_right (by omega), hl, Nat.sub_self]; rfl
  · rw [List.getElem?_append_right (by omega), hl, show n * 3 + 1 - n * 3 = 1 by omega]; rfl
  · rw [List.getElem?_append_right (by omega), hl, show n * 3 + 2 - n * 3 = 2 by omega]; rfl
/-- An item more. -/
theorem st_appendI {ops : Array Oper} {rest : List Oper} {o : Oper} {a : Act} {w0 w : World} {Q : Exit → Act → World → Prop} {X : List Nat} {k : Nat} {v y0 yb yl : Value} {ts : List It} {t : It} {ty : TypeId} (hgd : o.guard = none) (s x : Operand)
    (ho : o.op = .call { callee := .builtin .append, args := #[s, x], argTypes := #[23, 23] }) (hs : a.eval s = v) (hx : a.eval x = .slice (some ⟨w.heap.size, 0, none⟩) 1 1)
    (hR : IRow X w0.heap.size k w v ts) (hu : ∀ Z, (∀ z ∈ Z, z < w0.heap.size) → ItC (v.ownBlock.toList ++ (X ++ Z)) w k y0 yb yl t) (hone : (#[y0, yb, yl] : Array Value).all (·.oneCell') = true) (hT : Tch [] w0 w) (hlen : ts.length ≤ 100000000)
    (h : ∀ p c w', IRow X w0.heap.size k w' (.slice p (ts.length + 1) c) (ts ++ [t]) → Tch [] w0 w' → w.heap.size ≤ w'.heap.size → (∀ b, b < w.heap.size → v.ownBlock ≠ some b → w'.heap[b]? = w.heap[b]?) → ((Value.slice p (ts.length + 1) c).ownBlock = v.ownBlock ∨ ∀ g, (Value.slice p (ts.length + 1) c).ownBlock = some g → w.heap.size ≤ g) → wpList Try.prog ops Q rest (a.put o.dst (.slice p (ts.length + 1) c)) w') :
    wpList Try.prog ops Q (o :: rest) a (w.alloc (.cells #[y0, yb, yl] ty)) := by
  obtain ⟨us, hown, hps⟩ := hR
  obtain ⟨i0, hi, hz0, hz1, hz2⟩ := info_parts item_infos
  have hnews : ∀ j u, [y0, yb, yl][j]? = some u → (w.alloc (.cells #[y0, yb, yl] ty)).cell? ((⟨w.heap.size, 0, none⟩ : Addr).add j) = some u := World.news_of_block (cs := #[y0, yb, yl]) (t := ty) (fr := (0, 0)) (heap_alloc_new w _)
  have hone' : ∀ u ∈ [y0, yb, yl], u.oneCell' = true := fun u hu => (Array.all_eq_true_iff_forall_mem.1 hone) u (by simpa using hu)
  refine wpList_append_own_at (w := w.alloc (.cells #[y0, yb, yl] ty)) hgd s x 23 ho w0.heap.size 25 i0 _ 3 56 items_ty hi hz0 hz1 hz2 rfl (by decide) v ts.length us hs (hown.alloc _) ⟨w.heap.size, 0, none⟩ 1 1 [y0, yb, yl] hx rfl hnews hone' (by unfold maxLen; omega) (by omega) (by have := hT.size; simp; omega) ?_
  intro v' w' hown' hgrow _ hv'
  have hlt := hown.lt
  have hlen' : us.length = ts.length * 3 := hown.1
  have hTg : ∀ Z, Tch (v.ownBlock.toList ++ (v'.ownBlock.toList ++ (X ++ Z))) w w' := fun Z => ((Tch.refl _ _).alloc _).trans (tch_grown hgrow)
  have hm1 : ∀ Z, ∀ y ∈ v.ownBlock.toList ++ (v'.ownBlock.toList ++ (X ++ Z)), y ∈ v.ownBlock.toList ++ (X ++ Z) ∨ w.heap.size ≤ y := by
    intro Z y hy
    rcases List.mem_append.1 hy with hy | hy
    · exact .inl (List.mem_append_left _ hy)
    rcases List.mem_append.1 hy with hy | hy
    · rcases hv' with e | e
      · rw [e] at hy; exact .inl (List.mem_append_left _ hy)
      · rw [e] at hy; simp at hy; subst hy; exact .inr (by omega)
    · exact .inl (List.mem_append_right _ hy)
  have hm2 : ∀ Z, ∀ {W : World}, ∀ y ∈ v'.ownBlock.toList ++ (X ++ Z), y ∈ v.ownBlock.toList ++ (v'.ownBlock.toList ++ (X ++ Z)) ∨ W.heap.size ≤ y := fun Z {_} y hy => .inl (List.mem_append_right _ hy)
  have hrow : IRow X w0.heap.size k w' v' (ts ++ [t]) := by
    refine ⟨us ++ [y0, yb, yl], by rw [List.length_append]; exact hown', fun i hi => ?_⟩
    rw [List.length_append, List.length_singleton] at hi
    by_cases hi2 : i < ts.length
    · obtain ⟨z0, zb, zl, h1, h2, h3, h4⟩ := hps i hi2
      obtain ⟨e1, e2, e3⟩ := (get3 (y0 := y0) (yb := yb) (yl := yl) hlen').1 hi2
      refine ⟨z0, zb, zl, e1.trans h1, e2.trans h2, e3.trans h3, fun Z hZ => ?_⟩
      rw [List.getElem_append_left hi2]
      exact (((h4 Z hZ).mono (hm1 Z)).tch (hTg Z)).mono (hm2 Z)
    · obtain rfl : i = ts.length := by omega
      obtain ⟨e1, e2, e3⟩ := (get3 (i := 0) (y0 := y0) (yb := yb) (yl := yl) hlen').2
      refine ⟨y0, yb, yl, e1, e2, e3, fun Z hZ => ?_⟩
      rw [List.getElem_append_right (by omega)]
      simp only [Nat.sub_self, List.getElem_cons_zero]
      exact (((hu Z hZ).mono (hm1 Z)).tch (hTg Z)).mono (hm2 Z)
  obtain ⟨p, c, hvf⟩ := hrow.form
  rw [List.length_append, List.length_singleton] at hvf
  subst hvf
  have hTa := hT.alloc (bs := []) (.cells #[y0, yb, yl] ty)
  refine h p c w' hrow ⟨hgrow.os.trans hTa.os, hgrow.tape.trans hTa.tape, hgrow.output.trans hTa.output, Nat.le_trans hTa.size hgrow.size, fun q hq hqb => (hgrow.block q (Nat.lt_of_lt_of_le hq hTa.size) (fun e => by have := (hlt q e.symm).1; omega)).trans (hTa.block q hq hqb)⟩ (hTg []).size (fun b hb hbv => (hgrow.block b (by simp; omega) (fun e => hbv e.symm)).trans (Below.heap_alloc _ _ _ hb)) ?_
  rcases hv' with e | e
  · exact .inl e
  · exact .inr (fun g hg => by rw [e] at hg; simp at hg; omega)
end Go.Proofs.Ytnkfkahbkjdnpaa
