/- Items as they lie in memory, both slices of each known, whatever kind it is. -/
import Derived.Test.YtjlhnjnoigjjfaaDoorF2
namespace Go.Proofs.YtjlhnjnoigjjfaaDoor
open Go.ChangeShapes Go.WideShapes Go.ChangeAt Go.RowKit

/-- A value that is an item, both its slices known; k: how deep it is at most. -/
def ItR (X : List Nat) (w : World) : Nat → Value → Value → Value → Prop
  | 0, _, _, _ => False
  | k + 1, y0, yb, yl => (∃ d, y0 = .bool d) ∧ (∃ p n c, yb = .slice p n c ∧ n < 4611686018427387904) ∧ ∃ p n c, yl = .slice p n c ∧ n ≤ c ∧ n < 4611686018427387904 ∧ (0 < n → ∃ b o, p = some ⟨b, o, none⟩ ∧ b < w.heap.size ∧ b ∉ X ∧ ∀ i, i < n → ∃ z0 zb zl, w.cell? ⟨b, o + i * 3, none⟩ = some z0 ∧ w.cell? ⟨b, o + i * 3 + 1, none⟩ = some zb ∧ w.cell? ⟨b, o + i * 3 + 2, none⟩ = some zl ∧ ItR X w k z0 zb zl)
theorem ItR.tch {X : List Nat} {w w' : World} (hT : Tch X w w') : ∀ {k : Nat} {x y z : Value}, ItR X w k x y z → ItR X w' k x y z
  | 0, _, _, _, h => h.elim
  | k + 1, _, _, _, h => by
    unfold ItR at h ⊢
    obtain ⟨h0, h1, p, n, c, h2, h3, h4, h5⟩ := h
    refine ⟨h0, h1, p, n, c, h2, h3, h4, fun hn => ?_⟩
    obtain ⟨b, o, h6, h7, h8, h9⟩ := h5 hn
    refine ⟨b, o, h6, Nat.lt_of_lt_of_le h7 hT.size, h8, fun i hi => ?_⟩
    obtain ⟨z0, zb, zl, g0, g1, g2, g3⟩ := h9 i hi
    exact ⟨z0, zb, zl, by rw [hT.cell (p := ⟨b, o + i * 3, none⟩) h7 h8]; exact g0, by rw [hT.cell (p := ⟨b, o + i * 3 + 1, none⟩) h7 h8]; exact g1, by rw [hT.cell (p := ⟨b, o + i * 3 + 2, none⟩) h7 h8]; exact g2, ItR.tch hT g3⟩
theorem ItR.up {X : List Nat} {w : World} : ∀ {k j : Nat} {x y z : Value}, k ≤ j → ItR X w k x y z → ItR X w j x y z
  | 0, _, _, _, _, _, h => h.elim
  | _ + 1, 0, _, _, _, hj, _ => by omega
  | k + 1, j + 1, _, _, _, hj, h => by
    unfold ItR at h ⊢
    obtain ⟨h0, h1, p, n, c, h2, h3, h4, h5⟩ := h
    refine ⟨h0, h1, p, n, c, h2, h3, h4, fun hn => ?_⟩
    obtain ⟨b, o, h6, h7, h8, h9⟩ := h5 hn
    refine ⟨b, o, h6, h7, h8, fun i hi => ?_⟩
    obtain ⟨z0, zb, zl, g0, g1, g2, g3⟩ := h9 i hi
    exact ⟨z0, zb, zl, g0, g1, g2, ItR.up (by omega) g3⟩
section
variable {H : Type} {enc' : TypeId × Value → H} {w : World}
/-- An item that comes in, both its slices. -/
theorem item_trodR : ∀ (fuel : Nat) (cs : List Value) (x : DataW H × List MemPlace), DataW.trod enc' Tryd.prog w 0 (fun _ => true) true fuel 27 cs = some x → (∀ n ∈ x.1.weights Tryd.prog 27, n ≤ reachBytes) → ∃ x0 vb vl, cs = [x0, vb, vl] ∧ ItR [] w fuel x0 vb vl := by
  intro fuel
  induction fuel using Nat.strongRecOn with
  | _ fuel ih =>
    intro cs x hf hwt
    obtain ⟨f0, f1, f2, hty, t0, o0, t1, o1, t2, o2⟩ := item_ty
    obtain ⟨xs, n, rfl, hx, hlen, hxl, hel⟩ := DataW.trod_struct hty hf
    rw [item_cells] at hlen
    match cs, hlen with
    | [x0, vb, vl], _ =>
      have e0 := hel 0 f0 rfl
      have e1 := hel 1 f1 rfl
      have e2 := hel 2 f2 rfl
      rw [t0, o0, bool_cells] at e0
      rw [t1, o1, bytesl_cells] at e1
      rw [t2, o2, itemsl_cells] at e2
      simp only [List.drop_zero, List.take_succ_cons, List.take_zero, List.drop_succ_cons] at e0 e1 e2
      have hs : xs.length = 3 := by simpa using hxl
      rw [List.getElem?_eq_getElem (by omega)] at e0 e1 e2
      have hwx : ∀ n ∈ DataW.weightsEach Tryd.prog [4, 24, 25] (xs.map (·.1)), n ≤ reachBytes := fun n hn => hwt n (by
        subst hx
        simp only [DataW.weights, hty, List.map_cons, List.map_nil, t0, t1, t2]
        exact hn)
      have hw1 := fun n (hq : n ∈ (xs[1]'(by omega)).1.weights Tryd.prog 24) => hwx n (DataW.weights_mem_each (j := 1) rfl (d := (xs[1]'(by omega)).1) (by rw [List.getElem?_map, List.getElem?_eq_getElem (by omega)]; rfl) n hq)
      have hw2 := fun n (hq : n ∈ (xs[2]'(by omega)).1.weights Tryd.prog 25) => hwx n (DataW.weights_mem_each (j := 2) rfl (d := (xs[2]'(by omega)).1) (by rw [List.getElem?_map, List.getElem?_eq_getElem (by omega)]; rfl) n hq)
      obtain ⟨v, L, hv, hL, hLm⟩ := bytes_trod e1 hw1
      obtain rfl : vb = v := by simpa using hv
      obtain ⟨bb, hbb, _⟩ := DataW.trod_bool bool_under e0
      obtain rfl : x0 = .bool bb := by simpa using hbb
      unfold reachBytes at hLm
      obtain ⟨pb, cb, rfl, _⟩ := hL
      have hbn : (∃ p n c, Value.slice pb L.length cb = .slice p n c ∧ n < 4611686018427387904) := ⟨_, _, _, rfl, by omega⟩
      refine ⟨_, _, vl, rfl, ?_⟩
      unfold ItR
      refine ⟨⟨_, rfl⟩, hbn, ?_⟩
      rcases DataW.trod_slice items_ty e2 with ⟨hcs, _⟩ | ⟨a, len, cap, elems, rest, m, rfl, hcs, hx2, _, hlc, hcm, hlen, hget, _, _⟩
      · obtain rfl : vl = .slice none 0 0 := by simpa using hcs
        exact ⟨none, 0, 0, rfl, Nat.le_refl _, by omega, fun h => by omega⟩
      · obtain rfl : vl = .slice (some a) len cap := by simpa using hcs
        rw [item_cells] at hget
        rw [hx2] at hw2
        simp only [DataW.weights, items_ty, item_bytes] at hw2
        have hl56 := hw2 _ List.mem_cons_self
        simp only [List.length_map] at hl56
        unfold reachBytes at hl56
        have key : ∀ i, i < len → ∃ y0 yb yl, w.cell? (a.add (i * 3)) = some y0 ∧ w.cell? (a.add (i * 3 + 1)) = some yb ∧ w.cell? (a.add (i * 3 + 2)) = some yl ∧ ItR [] w m y0 yb yl := by
          intro i hi
          have e := hget i hi
          rw [List.getElem?_eq_getElem (by omega)] at e
          obtain ⟨cs', hc, ht⟩ := Option.bind_eq_some_iff.1 e
          obtain ⟨y0, yb, yl, rfl, hit⟩ := ih m (by omega) cs' _ ht (fun n hn => hw2 n (List.mem_cons_of_mem _ (List.mem_append_left _ (weights_mem_all (List.mem_map_of_mem (List.getElem_mem _)) n hn))))
          have hcl := cells_three hc
          exact ⟨y0, yb, yl, hcl.1, hcl.2.1, hcl.2.2, hit⟩
        refine ⟨some a, len, cap, rfl, hlc, by omega, fun hpos => ?_⟩
        obtain ⟨b, off, spot⟩ := a
        have hspot : spot = none := by
          obtain ⟨y0, yb, yl, h1, _⟩ := key 0 hpos
          simpa [Addr.add] using World.cell?_spot h1
        subst hspot
        have hadd : ∀ j, (⟨b, off, none⟩ : Addr).add j = ⟨b, off + j, none⟩ := fun j => by unfold Addr.add; split <;> simp_all
        simp only [hadd] at key
        refine ⟨b, off, rfl, ?_, by simp, fun i hi => ?_⟩
        · obtain ⟨y0, yb, yl, h1, _⟩ := key 0 hpos
          exact World.block_lt_of_cell? w _ h1
        · obtain ⟨y0, yb, yl, h1, h2, h3, h4⟩ := key i hi
          exact ⟨y0, yb, yl, h1, h2, h3, h4.up (by omega)⟩
/-- A list of items, each told in both ways. -/
def LsR (w : World) (k : Nat) (v : Value) (its : List It) : Prop :=
  ∃ p c, v = .slice p its.length c ∧ its.length ≤ c ∧ its.length < 4611686018427387904 ∧ (its ≠ [] → ∃ b o, p = some ⟨b, o, none⟩ ∧ b < w.heap.size ∧ ∀ i (h : i < its.length), ∃ y0 yb yl, w.cell? ⟨b, o + i * 3, none⟩ = some y0 ∧ w.cell? ⟨b, o + i * 3 + 1, none⟩ = some yb ∧ w.cell? ⟨b, o + i * 3 + 2, none⟩ = some yl ∧ ItC [] w k y0 yb yl its[i] ∧ ItR [] w k y0 yb yl)
/-- A list of items among the arguments. -/
theorem open_items {r : Reach} {b0 : Nat} {v : Value} {d : DataW H} {p : List MemPlace} (hv : Value.okWide Tryd.prog w r b0 25 v) (h : DataW.Trod enc' Tryd.prog w 0 (fun _ => true) true 25 v d p) :
    (∀ n ∈ d.weights Tryd.prog 25, n ≤ reachBytes) → ∃ k its, LsR w k v its := by
  intro hw2
  obtain ⟨a0, len0, cap0, rfl⟩ := okWide_slice items_ty hv
  obtain ⟨fuel, hf⟩ := h
  rcases DataW.trod_slice items_ty hf with ⟨hcs, _⟩ | ⟨a, len, cap, elems, rest, m, rfl, hcs, hx2, _, hlc, hcm, hlen, hget, _, _⟩
  · have : Value.slice a0 len0 cap0 = .slice none 0 0 := by simpa [Value.cells] using hcs
    rw [this]
    exact ⟨0, [], none, 0, rfl, Nat.le_refl _, by simp, fun h => absurd rfl h⟩
  · have : Value.slice a0 len0 cap0 = .slice (some a) len cap := by simpa [Value.cells] using hcs
    rw [this]
    rw [item_cells] at hget
    have hx2' : d = _ := congrArg Prod.fst hx2
    rw [hx2'] at hw2
    simp only [DataW.weights, items_ty, item_bytes] at hw2
    have hl56 := hw2 _ List.mem_cons_self
    simp only [List.length_map] at hl56
    unfold reachBytes at hl56
    have key : ∀ i, i < len → ∃ y0 yb yl it, w.cell? (a.add (i * 3)) = some y0 ∧ w.cell? (a.add (i * 3 + 1)) = some yb ∧ w.cell? (a.add (i * 3 + 2)) = some yl ∧ ItC [] w m y0 yb yl it ∧ ItR [] w m y0 yb yl := by
      intro i hi
      have e := hget i hi
      rw [List.getElem?_eq_getElem (by omega)] at e
      obtain ⟨cs', hc, ht⟩ := Option.bind_eq_some_iff.1 e
      have hw3 : ∀ n ∈ (elems[i]'(by omega)).1.weights Tryd.prog 27, n ≤ reachBytes := fun n hn => hw2 n (List.mem_cons_of_mem _ (List.mem_append_left _ (weights_mem_all (List.mem_map_of_mem (List.getElem_mem _)) n hn)))
      obtain ⟨y0, yb, yl, it, rfl, hit⟩ := item_trod m cs' _ ht hw3
      obtain ⟨z0, zb, zl, hz, hitr⟩ := item_trodR m _ _ ht hw3
      obtain ⟨rfl, rfl, rfl⟩ : y0 = z0 ∧ yb = zb ∧ yl = zl := by simpa using hz
      have hcl := cells_three hc
      exact ⟨y0, yb, yl, it, hcl.1, hcl.2.1, hcl.2.2, hit, hitr⟩
    have hex : ∃ its : List It, its.length = len ∧ ∀ i (h : i < its.length), ∃ y0 yb yl, w.cell? (a.add (i * 3)) = some y0 ∧ w.cell? (a.add (i * 3 + 1)) = some yb ∧ w.cell? (a.add (i * 3 + 2)) = some yl ∧ ItC [] w m y0 yb yl its[i] ∧ ItR [] w m y0 yb yl := by
      refine ⟨(List.range len).map fun i => if h : i < len then (key i h).choose_spec.choose_spec.choose_spec.choose else .str [], by simp, fun i hi => ?_⟩
      have hi' : i < len := by simpa using hi
      refine ⟨_, _, _, (key i hi').choose_spec.choose_spec.choose_spec.choose_spec.1, (key i hi').choose_spec.choose_spec.choose_spec.choose_spec.2.1, (key i hi').choose_spec.choose_spec.choose_spec.choose_spec.2.2.1, ?_⟩
      have := (key i hi').choose_spec.choose_spec.choose_spec.choose_spec.2.2.2
      simpa [hi'] using this
    obtain ⟨its, rfl, hits⟩ := hex
    refine ⟨m, its, some a, cap, rfl, hlc, by omega, fun hne => ?_⟩
    have hpos : 0 < its.length := List.length_pos_iff.2 hne
    obtain ⟨b, off, spot⟩ := a
    have hspot : spot = none := by
      obtain ⟨y0, yb, yl, h1, _⟩ := hits 0 hpos
      simpa [Addr.add] using World.cell?_spot h1
    subst hspot
    have hadd : ∀ j, (⟨b, off, none⟩ : Addr).add j = ⟨b, off + j, none⟩ := fun j => by unfold Addr.add; split <;> simp_all
    simp only [hadd] at hits
    refine ⟨b, off, rfl, ?_, fun i hi => ?_⟩
    · obtain ⟨y0, yb, yl, h1, _⟩ := hits 0 hpos
      exact World.block_lt_of_cell? w _ h1
    · obtain ⟨y0, yb, yl, h1, h2, h3, h4, h5⟩ := hits i hi
      exact ⟨y0, yb, yl, h1, h2, h3, h4, h5⟩
/-- An item among the arguments, told in both ways. -/
theorem open_itemR {r : Reach} {b0 : Nat} {v : Value} {d : DataW H} {p : List MemPlace} (hv : Value.okWide Tryd.prog w r b0 27 v) (h : DataW.Trod enc' Tryd.prog w 0 (fun _ => true) true 27 v d p) :
    (∀ n ∈ d.weights Tryd.prog 27, n ≤ reachBytes) → ∃ k x0 vb vl it, v = .agg #[x0, vb, vl] ∧ ItC [] w k x0 vb vl it ∧ ItR [] w k x0 vb vl := by
  intro hwt
  obtain ⟨f0, f1, f2, hty, _⟩ := item_ty
  obtain ⟨cs, rfl, hsz⟩ : ∃ cs, v = .agg cs ∧ cs.size = 3 := by
    unfold Value.okWide at hv
    rw [hty] at hv
    obtain ⟨cs, h1, h2, _⟩ := hv
    exact ⟨cs, h1, by rw [h2, item_cells]⟩
  obtain ⟨fuel, hf⟩ := h
  obtain ⟨x0, vb, vl, it, hcs, hit⟩ := item_trod fuel _ _ hf hwt
  obtain ⟨z0, zb, zl, hz, hitr⟩ := item_trodR fuel _ _ hf hwt
  have hcs' : cs.toList = [x0, vb, vl] := hcs
  have hz' : cs.toList = [z0, zb, zl] := hz
  rw [hcs'] at hz'
  obtain ⟨rfl, rfl, rfl⟩ : x0 = z0 ∧ vb = zb ∧ vl = zl := by simpa using hz'
  refine ⟨fuel, x0, vb, vl, it, ?_, hit, hitr⟩
  rw [show cs = #[x0, vb, vl] from Array.toList_inj.1 hcs']
end
end Go.Proofs.YtjlhnjnoigjjfaaDoor
