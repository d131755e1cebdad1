/- A row of items that the call made; an item more. -/
import Derived.Test.YtdjhjgockgmbkaaGreatDoorM21
import Derived.Deep.AppendLies
import Derived.Deep.RegionHeld3
set_option linter.unusedVariables false
set_option linter.unusedSimpArgs false
namespace Go.Proofs.YtdjhjgockgmbkaaGreatDoor
open Go.RowKit

/-- A row of items that the call made. -/
def IRow (X : List Nat) (B k : Nat) (w : World) (v : Value) (ts : List It) : Prop :=
  ∃ us, w.ownsRow B 68 3 v ts.length us ∧ ∀ i (h : i < ts.length), ∃ y0 yb yl, us[i * 3]? = some y0 ∧ us[i * 3 + 1]? = some yb ∧ us[i * 3 + 2]? = some yl ∧ ∀ Z, (∀ z ∈ Z, z < B) → ItC (v.ownBlock.toList ++ (X ++ Z)) w k y0 yb yl ts[i]
theorem IRow.nil (X : List Nat) (B k : Nat) (w : World) : IRow X B k w (.slice none 0 0) [] := ⟨[], ⟨rfl, .inl ⟨rfl, rfl⟩⟩, fun i h => absurd h (by simp)⟩
theorem IRow.call {X : List Nat} {B k : Nat} {w w' : World} {v : Value} {ts : List It} (h : IRow X B k w v ts) (hT : Tch [] w w') : IRow X B k w' v ts := by
  obtain ⟨us, h1, h2⟩ := h
  refine ⟨us, h1.kept hT.grownBy (by cases v.ownBlock <;> simp), fun i hi => ?_⟩
  obtain ⟨y0, yb, yl, h3, h4, h5, h6⟩ := h2 i hi
  exact ⟨y0, yb, yl, h3, h4, h5, fun Z hZ => (h6 Z hZ).tch (hT.mono (by simp))⟩
/-- A block of X turns, which is not the row's. -/
theorem IRow.only {X : List Nat} {B k b : Nat} {w w' : World} {v : Value} {ts : List It} (h : IRow X B k w v ts) (hO : Only b w w') (hb : b ∈ X) (hne : v.ownBlock ≠ some b) : IRow X B k w' v ts := by
  obtain ⟨us, h1, h2⟩ := h
  refine ⟨us, h1.kept (row := some b) ⟨hO.os, hO.tape, hO.output, Nat.le_of_eq hO.size.symm, fun k hk he => hO.block k (fun e => he (by rw [e]))⟩ (.inr hne), fun i hi => ?_⟩
  obtain ⟨y0, yb, yl, h3, h4, h5, h6⟩ := h2 i hi
  exact ⟨y0, yb, yl, h3, h4, h5, fun Z hZ => (h6 Z hZ).tch ((Tch.refl _ _).only hO (.inr (List.mem_append_right _ (List.mem_append_left _ hb))))⟩
theorem IRow.form {X : List Nat} {B k : Nat} {w : World} {v : Value} {ts : List It} (h : IRow X B k w v ts) : ∃ p c, v = .slice p ts.length c := by
  obtain ⟨us, h1, _⟩ := h
  rcases h1.2 with ⟨rfl, h0⟩ | ⟨g, cap, cur, rfl, _⟩
  · exact ⟨none, 0, by rw [h0]⟩
  · exact ⟨_, cap, rfl⟩
theorem IRow.lt {X : List Nat} {B k : Nat} {w : World} {v : Value} {ts : List It} (h : IRow X B k w v ts) : ∀ g, v.ownBlock = some g → B ≤ g ∧ g < w.heap.size := h.choose_spec.1.lt
/-- The list of these items. -/
theorem IRow.itc {X Y : List Nat} {B k : Nat} {w : World} {v vb : Value} {ts : List It} (h : IRow X B k w v ts) (hl : ts.length < 4611686018427387904) (hY : ∀ y ∈ Y, (y ∈ X ∧ v.ownBlock ≠ some y) ∨ y < B) : ItC Y w (k + 1) (.bool true) vb v (.lst ts) := by
  obtain ⟨us, h1, h2⟩ := h
  unfold ItC
  rcases h1.2 with ⟨rfl, h0⟩ | ⟨g, cap, cur, rfl, hg, hb, hn, _, hcs, htk⟩
  · refine ⟨rfl, none, 0, by rw [h0], ⟨by rw [h0]; exact Nat.le_refl _, hl⟩, fun hne => absurd (List.eq_nil_of_length_eq_zero h0) hne⟩
  · refine ⟨rfl, _, cap, rfl, ⟨hn, hl⟩, fun _ => ⟨g, 0, rfl, (Array.getElem?_eq_some_iff.1 hb).1, fun hm => (hY g hm).elim (fun h => h.2 rfl) (fun h => by omega), fun i hi => ?_⟩⟩
    obtain ⟨y0, yb, yl, h3, h4, h5, h6⟩ := h2 i hi
    have hc := fun j u hu => h1.cells (g := g) rfl j u hu
    have hadd : ∀ j, (⟨g, 0, none⟩ : Addr).add j = ⟨g, j, none⟩ := fun j => by unfold Addr.add; split <;> simp_all
    refine ⟨y0, yb, yl, ?_, ?_, ?_, (h6 (Y.filter (· < B)) (fun z hz => by simpa using (List.mem_filter.1 hz).2)).mono (fun y hy => .inl (List.mem_append_right _ ((hY y hy).elim (fun h => List.mem_append_left _ h.1) (fun h => List.mem_append_right _ (List.mem_filter.2 ⟨hy, by simpa using h⟩)))))⟩
    · have := hc _ _ h3; rw [hadd] at this; rw [Nat.zero_add]; exact this
    · have := hc _ _ h4; rw [hadd] at this; rw [Nat.zero_add]; exact this
    · have := hc _ _ h5; rw [hadd] at this; rw [Nat.zero_add]; exact this
theorem get3 {us : List Value} {y0 yb yl : Value} {n i : Nat} (hl : us.length = n * 3) : (i < n → (us ++ [y0, yb, yl])[i * 3]? = us[i * 3]? ∧ (us ++ [y0, yb, yl])[i * 3 + 1]? = us[i * 3 + 1]? ∧ (us ++ [y0, yb, yl])[i * 3 + 2]? = us[i * 3 + 2]?) ∧ ((us ++ [y0, yb, yl])[n * 3]? = some y0 ∧ (us ++ [y0, yb, yl])[n * 3 + 1]? = some yb ∧ (us ++ [y0, yb, yl])[n * 3 + 2]? = some yl) := by
  refine ⟨fun h => ⟨?_, ?_, ?_⟩, ?_, ?_, ?_⟩
  · rw [List.getElem?_append_left (by omega)]
  · rw [List.getElem?_append_left (by omega)]
  · rw [List.getElem?_append_left (by omega)]
  · rw [List.getElem?_append_right (by omega), hl, Nat.sub_self]; rfl
  · rw [List.getElem?_append_right (by omega), hl, show n * 3 + 1 - n * 3 = 1 by omega]; rfl
  · rw [List.getElem?_append_right (by omega), hl, show n * 3 + 2 - n * 3 = 2 by omega]; rfl
/-- An item more. -/
theorem st_appendI {ops : Array Oper} {rest : List Oper} {o : Oper} {a : Act} {w0 w : World} {Q : Exit → Act → World → Prop} {X : List Nat} {k : Nat} {v y0 yb yl : Value} {ts : List It} {t : It} {ty : TypeId} (hgd : o.guard = none) (s x : Operand)
    (ho : o.op = .call { callee := .builtin .append, args := #[s, x], argTypes := #[66, 66] }) (hs : a.eval s = v) (hx : a.eval x = .slice (some ⟨w.heap.size, 0, none⟩) 1 1)
    (hR : IRow X w0.heap.size k w v ts) (hu : ∀ Z, (∀ z ∈ Z, z < w0.heap.size) → ItC (v.ownBlock.toList ++ (X ++ Z)) w k y0 yb yl t) (hone : (#[y0, yb, yl] : Array Value).all (·.oneCell') = true) (hT : Tch [] w0 w) (hlen : ts.length ≤ 100000000)
    (h : ∀ p c w', IRow X w0.heap.size k w' (.slice p (ts.length + 1) c) (ts ++ [t]) → Tch [] w0 w' → w.heap.size ≤ w'.heap.size → (∀ b, b < w.heap.size → v.ownBlock ≠ some b → w'.heap[b]? = w.heap[b]?) → ((Value.slice p (ts.length + 1) c).ownBlock = v.ownBlock ∨ ∀ g, (Value.slice p (ts.length + 1) c).ownBlock = some g → w.heap.size ≤ g) → wpList Tryz.prog ops Q rest (a.put o.dst (.slice p (ts.length + 1) c)) w') :
    wpList Tryz.prog ops Q (o :: rest) a (w.alloc (.cells #[y0, yb, yl] ty)) := by
  obtain ⟨us, hown, hps⟩ := hR
  obtain ⟨i0, hi, hz0, hz1, hz2⟩ := info_parts item_infos
  have hnews : ∀ j u, [y0, yb, yl][j]? = some u → (w.alloc (.cells #[y0, yb, yl] ty)).cell? ((⟨w.heap.size, 0, none⟩ : Addr).add j) = some u := World.news_of_block (cs := #[y0, yb, yl]) (t := ty) (fr := (0, 0)) (heap_alloc_new w _)
  have hone' : ∀ u ∈ [y0, yb, yl], u.oneCell' = true := fun u hu => (Array.all_eq_true_iff_forall_mem.1 hone) u (by simpa using hu)
  refine wpList_append_own_at (w := w.alloc (.cells #[y0, yb, yl] ty)) hgd s x 66 ho w0.heap.size 68 i0 _ 3 56 items_ty hi hz0 hz1 hz2 rfl (by decide) v ts.length us hs (hown.alloc _) ⟨w.heap.size, 0, none⟩ 1 1 [y0, yb, yl] hx rfl hnews hone' (by unfold maxLen; omega) (by omega) (by have := hT.size; simp; omega) ?_
  intro v' w' hown' hgrow _ hv'
  have hlt := hown.lt
  have hlen' : us.length = ts.length * 3 := hown.1
  have hTg : ∀ Z, Tch (v.ownBlock.toList ++ (v'.ownBlock.toList ++ (X ++ Z))) w w' := fun Z => ((Tch.refl _ _).alloc _).trans (tch_grown hgrow)
  have hm1 : ∀ Z, ∀ y ∈ v.ownBlock.toList ++ (v'.ownBlock.toList ++ (X ++ Z)), y ∈ v.ownBlock.toList ++ (X ++ Z) ∨ w.heap.size ≤ y := by
    intro Z y hy
    rcases List.mem_append.1 hy with hy | hy
    · exact .inl (List.mem_append_left _ hy)
    rcases List.mem_append.1 hy with hy | hy
    · rcases hv' with e | e
      · rw [e] at hy; exact .inl (List.mem_append_left _ hy)
      · rw [e] at hy; simp at hy; subst hy; exact .inr (by omega)
    · exact .inl (List.mem_append_right _ hy)
  have hm2 : ∀ Z, ∀ {W : World}, ∀ y ∈ v'.ownBlock.toList ++ (X ++ Z), y ∈ v.ownBlock.toList ++ (v'.ownBlock.toList ++ (X ++ Z)) ∨ W.heap.size ≤ y := fun Z {_} y hy => .inl (List.mem_append_right _ hy)
  have hrow : IRow X w0.heap.size k w' v' (ts ++ [t]) := by
    refine ⟨us ++ [y0, yb, yl], by rw [List.length_append]; exact hown', fun i hi => ?_⟩
    rw [List.length_append, List.length_singleton] at hi
    by_cases hi2 : i < ts.length
    · obtain ⟨z0, zb, zl, h1, h2, h3, h4⟩ := hps i hi2
      obtain ⟨e1, e2, e3⟩ := (get3 (y0 := y0) (yb := yb) (yl := yl) hlen').1 hi2
      refine ⟨z0, zb, zl, e1.trans h1, e2.trans h2, e3.trans h3, fun Z hZ => ?_⟩
      rw [List.getElem_append_left hi2]
      exact (((h4 Z hZ).mono (hm1 Z)).tch (hTg Z)).mono (hm2 Z)
    · obtain rfl : i = ts.length := by omega
      obtain ⟨e1, e2, e3⟩ := (get3 (i := 0) (y0 := y0) (yb := yb) (yl := yl) hlen').2
      refine ⟨y0, yb, yl, e1, e2, e3, fun Z hZ => ?_⟩
      rw [List.getElem_append_right (by omega)]
      simp only [Nat.sub_self, List.getElem_cons_zero]
      exact (((hu Z hZ).mono (hm1 Z)).tch (hTg Z)).mono (hm2 Z)
  obtain ⟨p, c, hvf⟩ := hrow.form
  rw [List.length_append, List.length_singleton] at hvf
  subst hvf
  have hTa := hT.alloc (bs := []) (.cells #[y0, yb, yl] ty)
  refine h p c w' hrow ⟨hgrow.os.trans hTa.os, hgrow.tape.trans hTa.tape, hgrow.output.trans hTa.output, Nat.le_trans hTa.size hgrow.size, fun q hq hqb => (hgrow.block q (Nat.lt_of_lt_of_le hq hTa.size) (fun e => by have := (hlt q e.symm).1; omega)).trans (hTa.block q hq hqb)⟩ (hTg []).size (fun b hb hbv => (hgrow.block b (by simp; omega) (fun e => hbv e.symm)).trans (Below.heap_alloc _ _ _ hb)) ?_
  rcases hv' with e | e
  · exact .inl e
  · exact .inr (fun g hg => by rw [e] at hg; simp at hg; omega)
end Go.Proofs.YtdjhjgockgmbkaaGreatDoor

/- A region that draws its order and holds one call whose value hangs on the world: reads are taken first, the call comes up alone, then the rest is quiet in a class of its own. -/
namespace Go.Proofs.YtdjhjgockgmbkaaGreatDoor
open Go.RowKit

section
variable {ops : Array Oper} {md : Region.Mode} {Q : Exit → Act → World → Prop} {S : World → Prop} {a : Act} {w : World} {fuel : Nat} {listed : Array Bool}
/-- Number k comes up alone. -/
theorem held_one {P : Program} (k : Nat) (hr : Region.ready md ops listed = [k]) (h : wpOp P ops Q k (fun a' w' => S w' ∧ wpAnyH P md ops Q S fuel (listed.setIfInBounds k true) a' w') a w) : wpAnyH P md ops Q S (fuel + 1) listed a w :=
  wpAnyH_all hr (by simp) (fun i hi => by
    have : i = k := by simpa using hi
    subst this; exact h)
/-- The call itself. -/
theorem held_call {P : Program} {l0 : List Oper} {n : Nat} {o : Oper} {K : Act → World → Prop} {f : FuncId} {ts : Array TypeId} {x1 : Operand} {v1 : Value} {R : Ending → World → Prop} (ho : l0[n]? = some o) (hw : Region.wanted o (yielded l0.toArray a.tmps) = true)
    (hop : o.op = .call { callee := .value (.func f), args := #[x1], argTypes := ts }) (h1 : a.eval x1 = v1) (hf : ∀ args w, (callFunc f args).run P w = .ok (.enter f args) w)
    (hc : Calls P f #[v1] w R) (h : ∀ e w', R e w' → ∃ v, e = .returned v ∧ K (a.put o.dst v) w') : wpOp P l0.toArray Q n K a w :=
  o_callR (by rw [List.getElem?_toArray]; exact ho) hw (by unfold execOp; simp [hop, resolve, invoke, h1, hf, show a.eval (.func f) = .func (.func f) #[] #[] from rfl, Deferred.ofValue]) hc h
end
end Go.Proofs.YtdjhjgockgmbkaaGreatDoor

/- Steps for the laws of hashes. -/
namespace Go.Proofs.YtdjhjgockgmbkaaGreatDoor
open Go.RowKit

theorem byteN_ty : Tryz.prog.underlying 5 = some (.int .u8) := by kernel_rfl
def bytesOfN (n : Nat) (f : Nat → Nat) : List UInt8 := (List.range n).map fun i => UInt8.ofNat (f i)
theorem bc_bytesN (n : Nat) (f : Nat → Nat) (h : ∀ i, i < n → f i < 256) : bc n f = ((bytesOfN n f).map Extern.Stop.cell).toArray := by
  unfold bytesOfN
  rw [List.map_map]
  show ((List.range n).map fun i => Value.int .u8 ((f i : Nat) : Int)).toArray = _
  congr 1
  apply List.map_congr_left
  intro i hi
  simp only [Function.comp, Extern.Stop.cell]
  have h := h i (List.mem_range.1 hi)
  congr 1
  simp [Nat.mod_eq_of_lt h]
theorem run_eql_hash (l : List Nat) (w : World) : (binOp .eql 23 (.agg (wf (hashN l))) (.agg (wf (hashN l)))).run Tryz.prog w = .ok (.bool true) w := by
  have := run_eql_bytes (P := Tryz.prog) w 23 5 32 word_type byteN_ty (fun w => sizeOf_u8 w) (bytesOfN 32 (hashN l)) (bytesOfN 32 (hashN l)) (by simp [bytesOfN]) (by simp [bytesOfN])
  rw [← bc_bytesN 32 (hashN l) (fun i _ => outN_lt _ _), beq_self_eq_true, bc_wf] at this
  exact this
section
variable {a : Act} {w : World} {o : Oper}
theorem x_hash {l : List Nat} (xo yo : Operand) (yt : TypeId) (ho : o.op = .binOp .eql 23 xo yo yt) (hxe : a.eval xo = .agg (wf (hashN l))) (hye : a.eval yo = .agg (wf (hashN l))) : (execOp a.eval o).run Tryz.prog w = .ok (.value (.bool true)) w := by
  have := run_eql_hash l w
  unfold execOp
  simp only [ho, hxe, hye]
  show Sem.run _ _ w = _
  simp [eqGuard, this]
end
section
variable {o : Oper} {a : Act} {ops : Array Oper} {rest : List Oper} {C : World → Prop} {Q : Act → Prop}
end
section
variable {ops : Array Oper} {md : Region.Mode} {Q : Exit → Act → World → Prop} {S : World → Prop} {a : Act} {w : World} {fuel : Nat} {listed : Array Bool} {o : Oper}
/-- What yields in every world that is met is taken first. -/
theorem held_in {l0 : List Oper} {v : Value} (i : Nat) (hi : l0[i]? = some o) (hs : Region.noSelect l0.toArray = true) (hf : Region.free md l0.toArray listed i = true) (hr : (Region.ready md l0.toArray listed).contains i = true) (hQ : ∀ c a w, Q (.panic c) (a.put o.dst v) w → Q (.panic c) a w) (hS : S w)
    (hw : Region.wanted o (yielded l0.toArray a.tmps) = true) (hx : ∀ w, S w → (execOp a.eval o).run Tryz.prog w = .ok (.value v) w)
    (h : wpAnyH Tryz.prog md l0.toArray Q S fuel (listed.setIfInBounds i true) (a.put o.dst v) w) : wpAnyH Tryz.prog md l0.toArray Q S (fuel + 1) listed a w :=
  wpAnyH_take (by rw [List.getElem?_toArray]; exact hi) hs hf hr hQ (.inl ⟨hw, fun w hS => by rw [hx w hS]⟩) hS h
/-- A slice is built. -/
theorem held_build {P : Program} {l0 : List Oper} {n m : Nat} {K : Act → World → Prop} {ty t : TypeId} {c : Array Value} {parts : Array (Nat × Operand)} (ho : l0[n]? = some o) (hw : Region.wanted o (yielded l0.toArray a.tmps) = true)
    (hop : o.op = .buildSlice ty m parts) (hr : (Instr.buildSlice ty m (parts.map fun (i, x) => (i, a.eval x))).run P w = .ok (.slice (some ⟨w.heap.size, 0, none⟩) m m) (w.alloc (.cells c t)))
    (h : K (a.put o.dst (.slice (some ⟨w.heap.size, 0, none⟩) m m)) (w.alloc (.cells c t))) : wpOp P l0.toArray Q n K a w := by
  unfold wpOp
  have ho' : l0.toArray[n]? = some o := by rw [List.getElem?_toArray]; exact ho
  simp only [ho', hw, if_true]
  refine .inl ?_
  unfold Oper.wp execOp
  simp only [hop, Sem.run_bind, hr, Result.andThen_ok, Sem.run_pure]
  exact h
theorem x_load {b n n1 : Nat} {t e1 : TypeId} {c : Array Value} (ty : TypeId) (x : Operand) (ho : o.op = .load ty x) (hx : a.eval x = .pointer (some ⟨b, 0, none⟩)) (hB : Blk w b t c)
    (hu : Tryz.prog.underlying ty = some (.array n1 e1)) (hi : (Tryz.prog.info? ty).map (·.size) = some n) (hn : c.size = n) : (execOp a.eval o).run Tryz.prog w = .ok (.value (.agg c)) w := by
  have hl := hB.load (P := Tryz.prog) hu rfl hi hn
  unfold execOp
  simp only [ho, hx, Sem.run_bind, hl, Result.andThen_ok, Sem.run_pure]
end
end Go.Proofs.YtdjhjgockgmbkaaGreatDoor

/- path.Split, path.Join. -/
namespace Go.Proofs.YtdjhjgockgmbkaaGreatDoor
open Go.RowKit

theorem RdA.fresh {w w1 : World} {v : Value} {l : List Nat} {b : Nat} (h : RdA [] w v l) (hT : Tch [] w w1) (hb : w.heap.size ≤ b) : RdA [b] w1 v l :=
  (h.mono (Y := [b]) (fun y hy => .inr (by simp at hy; subst hy; exact hb))).tch (hT.mono (fun x hx => by simp at hx))
end Go.Proofs.YtdjhjgockgmbkaaGreatDoor
