/- The item of a tree: item; rlp.Read. -/
import Derived.Test.YtacnechjofnnjaaR18
import Derived.Test.YtacnechjofnnjaaF2
namespace Go.Proofs.Ytacnechjofnnjaa
open Go.RowKit

theorem item_size : (Try.prog.info? 25).map (·.size) = some 3 := by kernel_rfl
theorem item_zero : (Try.prog.info? 25).bind (·.zero) = some (.agg #[.bool false, .slice none 0 0, .slice none 0 0]) := by kernel_rfl
theorem item_infos : (Try.prog.info? 25).map (fun i => (i.zero, i.size, i.bytes)) = some (some (.agg #[.bool false, .slice none 0 0, .slice none 0 0]), 3, 56) := by kernel_rfl
theorem slc_size : (Try.prog.info? 22).map (·.size) = some 1 := by kernel_rfl
theorem sli_size : (Try.prog.info? 23).map (·.size) = some 1 := by kernel_rfl
theorem bool_size : (Try.prog.info? 4).map (·.size) = some 1 := by kernel_rfl
section
variable {P : Program} {ops : Array Oper} {rest : List Oper} {o : Oper} {a : Act} {bs : List Nat} {w0 w : World} {Q : Exit → Act → World → Prop} {L L' : List Ent} {b : Nat} {t : TypeId} {c c' : Array Value}
/-- Any value of one cell is stored. -/
theorem st_store1v {v : Value} {j : Nat} (hS : St bs w0 w L) (hgd : o.guard = none) (ty : TypeId) (x y : Operand) (ho : o.op = .store ty x y) (hx : a.eval x = .pointer (some ⟨b, j, none⟩)) (hy : a.eval y = v) (hv : v.oneCell' = true) (hi : (P.info? ty).map (·.size) = some 1)
    (m : Upd L b t c (c.setIfInBounds j v) L') (hj : j < c.size)
    (h : ∀ w', St bs w0 w' L' → wpList P ops Q rest (a.put o.dst undef) w') : wpList P ops Q (o :: rest) a w :=
  arm_store1 hgd ty x y ho hx hy hv hi (hS.get m.at_) hj fun w' hB hO => h w' (hS.upd m hO hB)
/-- A slice is built of values. -/
theorem st_build' {n : Nat} (hS : St bs w0 w L) (hgd : o.guard = none)
    (hr : ∀ w : World, (execOp a.eval o).run P w = .ok (.value (.slice (some ⟨w.heap.size, 0, none⟩) n n)) (w.alloc (.cells c t)))
    (h : ∀ w' b, St bs w0 w' ((b, t, c) :: L) → wpList P ops Q rest (a.put o.dst (.slice (some ⟨b, 0, none⟩) n n)) w') : wpList P ops Q (o :: rest) a w :=
  wpList_plain hgd fun K hK => by
    unfold Oper.wp
    rw [hr w]
    exact hK _ _ (h _ _ (hS.new t c))
end
/-- A row of cells with some of them others. -/
def splice (c : Array Value) (o : Nat) (c' : Array Value) : Array Value := (c.toList.take o ++ c'.toList ++ c.toList.drop (o + c'.size)).toArray
theorem splice_size {c c' : Array Value} {o : Nat} (h : o + c'.size ≤ c.size) : (splice c o c').size = c.size := by
  simp [splice]; omega
theorem splice_in {c c' : Array Value} {o j : Nat} (h : o + c'.size ≤ c.size) (hj : j < c'.size) : (splice c o c')[o + j]? = c'[j]? := by
  have : (splice c o c')[o + j]? = (c.toList.take o ++ c'.toList ++ c.toList.drop (o + c'.size))[o + j]? := by simp [splice]
  rw [this, List.append_assoc, List.getElem?_append_right (by simp; omega), List.getElem?_append_left (by simp; omega)]
  simp
  congr 1; omega
theorem splice_out {c c' : Array Value} {o j : Nat} (h : o + c'.size ≤ c.size) (hj : j < o ∨ o + c'.size ≤ j) : (splice c o c')[j]? = c[j]? := by
  have : (splice c o c')[j]? = (c.toList.take o ++ c'.toList ++ c.toList.drop (o + c'.size))[j]? := by simp [splice]
  rw [this, List.append_assoc]
  rcases hj with hj | hj
  · rw [List.getElem?_append_left (by simp; omega)]
    simp [hj]
  · rw [List.getElem?_append_right (by simp; omega), List.getElem?_append_right (by simp; omega)]
    simp only [List.getElem?_drop, List.length_take, Array.length_toList]
    rw [show o + c'.size + (j - min o c.size - c'.size) = j by omega]
    simp
theorem Blk.storeAt {P : Program} {w : World} {b o : Nat} {t ty : TypeId} {c c' : Array Value} (h : Blk w b t c) {n : Nat} (hi : (P.info? ty).map (·.size) = some n) (hn' : c'.size = n) (hl : o + c'.size ≤ c.size) (h1 : c'.all (·.oneCell') = true) :
    (Instr.storeAt ty (.pointer (some ⟨b, o, none⟩)) (.agg c')).run P w = .ok () (w.setRow b (splice c o c')) := by
  have := run_storeCells_at (P := P) b o t c'.toList 0 c w h (by simpa using hl) (fun x hx => (Array.all_eq_true_iff_forall_mem.1 h1) x (by simpa using hx))
  cases hq : P.info? ty with
  | none => simp [hq] at hi
  | some i =>
    have hs : i.size = n := by simpa [hq] using hi
    simp only [Nat.add_zero] at this
    simp [Instr.storeAt, Instr.sureAddr, storeVar, sizeOf, typeInfo, hq, Value.cells, hs, hn', this, splice]
/-- At a step of a region that draws its order: an item is stored among items. -/
theorem step_storeAt {P : Program} {ops : Array Oper} {o : Oper} {a : Act} {bs : List Nat} {w0 w : World} {K : Act → World → Prop} {Q : Exit → Act → World → Prop} {E : Prop} {L L' : List Ent} {b off n : Nat} {t : TypeId} {c c' : Array Value} (hS : St bs w0 w L) (hgd : o.guard = none) (ty : TypeId) (x y : Operand)
    (ho : o.op = .store ty x y) (hx : a.eval x = .pointer (some ⟨b, off, none⟩)) (hy : a.eval y = .agg c') (hi : (P.info? ty).map (·.size) = some n) (hn' : c'.size = n) (m : Upd L b t c (splice c off c') L') (hl : off + c'.size ≤ c.size) (h1 : c'.all (·.oneCell') = true)
    (h : ∀ w', St bs w0 w' L' → K (a.put o.dst undef) w') : if Region.wanted o (yielded ops a.tmps) = true then Oper.wp P o a w K Q else E := by
  have hw : Region.wanted o (yielded ops a.tmps) = true := by simp [Region.wanted, hgd]
  rw [if_pos hw]
  have hl' := (hS.get m.at_).storeAt (P := P) hi hn' hl h1
  unfold Oper.wp execOp
  simp only [ho, hx, hy, Sem.run_bind, hl', Result.andThen_ok, Sem.run_pure]
  exact h _ (hS.upd m (Only.setRow _ _ _) ((hS.get m.at_).row _))
theorem one3 {a b c : Value} (ha : a.oneCell' = true) (hb : b.oneCell' = true) (hc : c.oneCell' = true) : (#[a, b, c] : Array Value).all (·.oneCell') = true := by simp [ha, hb, hc]
/-- An item in memory that the call made. -/
def ItF (w w' : World) (k : Nat) (x0 vb vl : Value) (it : It) : Prop := ∀ X, (∀ x ∈ X, x < w.heap.size) → ItC X w' k x0 vb vl it
def ItemPost (w : World) (k : Nat) (it : It) (e : Ending) (w' : World) : Prop :=
  Tch [] w w' ∧ ∃ d p1 n1 c1 p2 n2 c2, e = .returned (.agg #[.bool d, .slice p1 n1 c1, .slice p2 n2 c2]) ∧ ItF w w' k (.bool d) (.slice p1 n1 c1) (.slice p2 n2 c2) it
def ItemOK (k : Nat) : Prop := ∀ (X : List Nat) (v : Value) (it : It) (w : World), PcV X w k v it → (enc it).length ≤ 100000000 → Calls Try.prog 18 #[v] w (ItemPost w k it)
set_option maxHeartbeats 800000 in
set_option maxRecDepth 100000 in
theorem item_single (x k : Nat) (w : World) (hx : x < 128) : Calls Try.prog 18 #[.iface 54 (.int .u8 (x : Int))] w (ItemPost w (k + 1) (.str [x])) := by
  obtain ⟨f0, f1, f2, hty, _⟩ := item_ty
  have hS := St.start w
  have k1 := taSS
  go_enter Try.func18, Try.ntmps18
  go_wp2_with (first
    | (refine st_new hS rfl 25 rfl item_zero ?_; clear hS; intro w1 b1 hS)
    | (refine st_store1v (j := 1) (v := .slice (some ⟨w1.heap.size, 0, none⟩) 1 1) (hS.new 5 #[.int .u8 (x : Int)]) rfl 22 _ _ rfl rfl rfl rfl slc_size (by repeat (first | exact Upd.head | apply Upd.tail)) (by decide) ?_; have hz := hS.frame.size; clear hS; intro w3 hS)
    | (refine st_load hS rfl 25 _ rfl rfl (by repeat (first | exact At.head | apply At.tail)) hty rfl item_size (by rfl) ?_)
    | (refine st_store (c' := #[.bool false, .slice (some ⟨w1.heap.size, 0, none⟩) 1 1, .slice none 0 0]) hS rfl 25 _ _ rfl rfl rfl (by repeat (first | exact Upd.head | apply Upd.tail)) item_size (by rfl) (by rfl) (one3 rfl rfl rfl) ?_; clear hS; intro w4 hS))
  refine st_post (c := #[.bool false, .slice (some ⟨w1.heap.size, 0, none⟩) 1 1, .slice none 0 0]) hS 2 25 rfl rfl rfl (by repeat (first | exact At.head | apply At.tail)) hty rfl item_size rfl (fun hT => ⟨hT, _, _, _, _, _, _, _, rfl, fun X hX => ?_⟩)
  have hB := hS.get .head
  unfold ItC
  refine ⟨rfl, ⟨_, _, rfl, Nat.le_refl _, by simp; omega, fun _ => ⟨w1.heap.size, 0, rfl, hB.lt, fun hm => by have := hX _ hm; omega, fun i hi => ?_⟩⟩, by simp⟩
  obtain rfl : i = 0 := by simp at hi; exact hi
  exact hB.cell rfl
theorem St.apart2 {bs : List Nat} {w0 w : World} {L : List Ent} {e f : Ent} (h : St bs w0 w (e :: f :: L)) : e.1 ≠ f.1 := (List.pairwise_cons.1 h.apart).1 f List.mem_cons_self
set_option maxHeartbeats 800000 in
set_option maxRecDepth 100000 in
theorem item_text (X : List Nat) (k : Nat) (s : Value) (l : List Nat) (w : World) (hn : l.length ≤ 100000000) (hv : RdA X w s l) : Calls Try.prog 18 #[.iface 56 s] w (ItemPost w (k + 1) (.str l)) := by
  obtain ⟨f0, f1, f2, hty, _⟩ := item_ty
  obtain ⟨p, n, c, rfl⟩ := slice_keep hv
  have hS := St.start w
  have k1 := taTS
  have k2 := taTT
  have hcl := fun (w1 : World) (hT : Tch [] w w1) => clone_any (.slice p n c) l w1 hn ((hv.tch (hT.mono (by simp))).mono (Y := []) (by simp))
  have HC := Lib.hid hcl
  clear hcl hv
  go_enter Try.func18, Try.ntmps18
  go_wp2_with (first
    | (refine st_new (L := []) hS rfl 25 rfl item_zero ?_; clear hS; intro w0 b0 hS)
    | (refine st_new hS rfl 25 rfl item_zero ?_; clear hS; intro w1 b1 hS)
    | (go_at_call 28; refine (HC.out w1 hS.frame).mono ?_; rintro e w2 ⟨hT2, p2, n2, c2, rfl, hrd⟩
       have hB1 := (hS.call hT2).get .head
       have hB0 := (hS.call hT2).get (.tail .head)
       have hne := hS.apart2
       have hge0 := (hS.own .head).resolve_right (by simp)
       have hge1 := (hS.own (.tail .head)).resolve_right (by simp)
       have hlt1 := (hS.get .head).lt
       have hlt0 := (hS.get (.tail .head)).lt
       have hF := hS.frame
       clear hS
       have hS := St.two hB1 hB0 hne)
    | (refine st_store1v (j := 1) (v := .slice p2 n2 c2) hS rfl 22 _ _ rfl rfl rfl rfl slc_size (by repeat (first | exact Upd.head | apply Upd.tail)) (by decide) ?_; clear hS; intro w3 hS)
    | (refine st_load hS rfl 25 _ rfl rfl (by repeat (first | exact At.head | apply At.tail)) hty rfl item_size (by rfl) ?_)
    | (refine st_store (c' := #[.bool false, .slice p2 n2 c2, .slice none 0 0]) hS rfl 25 _ _ rfl rfl rfl (by repeat (first | exact Upd.head | apply Upd.tail)) item_size (by rfl) (by rfl) (one3 rfl rfl rfl) ?_; clear hS; intro w4 hS))
  refine st_post (c := #[.bool false, .slice p2 n2 c2, .slice none 0 0]) hS 2 25 rfl rfl rfl (by repeat (first | exact At.head | apply At.tail)) hty rfl item_size rfl (fun hT => ⟨(hF.trans hT2).fresh hT (fun x hx => by simp at hx; omega), _, _, _, _, _, _, _, rfl, fun X hX => ?_⟩)
  have h1 := hrd (b1 :: b0 :: X) (fun x hx => by
    rcases List.mem_cons.1 hx with rfl | hx
    · exact hlt1
    rcases List.mem_cons.1 hx with rfl | hx
    · exact hlt0
    · exact Nat.lt_of_lt_of_le (hX x hx) hF.size)
  unfold ItC
  exact ⟨rfl, (h1.tch (hT.mono (fun x hx => .inl (by simp at hx ⊢; rcases hx with h | h <;> simp [h])))).mono (fun y hy => .inl (by simp [hy])), by omega⟩
/-- What holds behind m rounds of the loop over a list. -/
def ILI (w : World) (k n : Nat) (ts : List It) (b0 b1 Rb m : Nat) (wr : World) : Prop :=
  ∃ c, St [] w wr [(Rb, 25, c), (b1, 25, #[.bool true, .slice none 0 0, .slice (some ⟨Rb, 0, none⟩) n n]), (b0, 25, #[.bool false, .slice none 0 0, .slice none 0 0])] ∧ c.size = n * 3 ∧
    ∀ q (h : q < ts.length), q < m → ∃ y0 yb yl, c[q * 3]? = some y0 ∧ c[q * 3 + 1]? = some yb ∧ c[q * 3 + 2]? = some yl ∧ ∀ X, (∀ x ∈ X, x < w.heap.size) → ItC (Rb :: b0 :: X) wr k y0 yb yl ts[q]
theorem splice_three {c : Array Value} {m n : Nat} {a b d : Value} (hc : c.size = n * 3) (hm : m < n) : (splice c (m * 3) #[a, b, d])[m * 3]? = some a ∧ (splice c (m * 3) #[a, b, d])[m * 3 + 1]? = some b ∧ (splice c (m * 3) #[a, b, d])[m * 3 + 2]? = some d := by
  have hle : m * 3 + (#[a, b, d] : Array Value).size ≤ c.size := by simp; omega
  exact ⟨by have := splice_in (j := 0) hle (by simp); simpa using this, by have := splice_in (j := 1) hle (by simp); simpa using this, by have := splice_in (j := 2) hle (by simp); simpa using this⟩
end Go.Proofs.Ytacnechjofnnjaa
