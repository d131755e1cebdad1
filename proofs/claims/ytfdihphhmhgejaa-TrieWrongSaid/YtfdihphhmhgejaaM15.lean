/- Bytes and bools among a law's arguments: which there are. -/
import Derived.Test.YtfdihphhmhgejaaM01
import Derived.ProofKit
import Derived.OpenShut
import Derived.SizedLaws
import Derived.Test.YtfdihphhmhgejaaM14
set_option linter.unusedVariables false
set_option linter.unusedSimpArgs false
namespace Go.Proofs.Ytfdihphhmhgejaa
open Go.ChangeShapes Go.WideShapes Go.ChangeAt Go.RowKit

theorem byte_cells : Try.prog.cellsOf 5 = 1 := by kernel_rfl
theorem byte_bytes : Try.prog.bytesOf 5 = 1 := by kernel_rfl
theorem weights_mem_all {H : Type} {P : Program} {t : TypeId} {ds : List (DataW H)} {d : DataW H} (hd : d ∈ ds) : ∀ n ∈ d.weights P t, n ∈ DataW.weightsAll P t ds := by
  induction ds with
  | nil => simp at hd
  | cons a r ih =>
    intro n hn
    rw [DataW.weightsAll, List.mem_append]
    rcases List.mem_cons.1 hd with rfl | hd
    · exact .inl hn
    · exact .inr (ih hd n hn)
set_option linter.unusedVariables false
theorem open_bool' {H : Type} {enc : TypeId × Value → H} {P : Program} {w : World} {base b0 : Nat} {spare : Nat → Bool} {held : Bool} {r : Reach} {t : TypeId} {v : Value} {d : DataW H} {ps : List MemPlace} (ht : P.underlying t = some .bool) (hval : Value.okWide P w r b0 t v) (hd : DataW.Trod enc P w base spare held t v d ps) : ∃ b, v = .bool b ∧ d = .lit (.bool b) ∧ ps = [] := by
  obtain ⟨n, rfl⟩ := okWide_bool ht hval
  obtain ⟨fuel, hf⟩ := hd
  obtain ⟨n', h, hx⟩ := DataW.trod_bool ht hf
  simp [Value.cells] at h
  subst h
  simp only [Prod.mk.injEq] at hx
  exact ⟨n, rfl, hx.1, hx.2⟩
section
variable {H : Type} {enc' : TypeId × Value → H} {w : World}
theorem bytes_trod {fuel : Nat} {cs : List Value} {x : DataW H × List MemPlace} (hf : DataW.trod enc' Try.prog w 0 (fun _ => true) true fuel 22 cs = some x) (hw : ∀ n ∈ x.1.weights Try.prog 22, n ≤ reachBytes) : ∃ v L, cs = [v] ∧ RdA [] w v L ∧ L.length ≤ reachBytes := by
  rcases open_ints bytes_ty byte_ty byte_cells hf with ⟨hcs, hx⟩ | ⟨a, len, cap, zs, hcs, _, hl, hm, hz, hx, hcell, hwz⟩
  · exact ⟨_, [], hcs, (RdB.nil w).rdA (by simp), by simp⟩
  · simp only [if_true] at hz
    have hrange : ∀ z ∈ zs, 0 ≤ z ∧ z ≤ 255 := fun z hzm => by
      have := hwz z hzm
      simp [Lit.wf, IntKind.min, IntKind.max, IntKind.bits, IntKind.signed] at this
      omega
    have hreach : len ≤ reachBytes := by
      subst hx
      have := hw ((zs.take len).length * 1 + (zs.drop len).length * 1) (by simp [DataW.weights, bytes_ty, lits, byte_bytes])
      simp at this; omega
    refine ⟨_, (zs.take len).map Int.toNat, hcs, ⟨some a, cap, by rw [List.length_map, List.length_take, hz, Nat.min_eq_left hl], by rw [List.length_map, List.length_take]; omega, fun x hx => ?_, fun hne => ?_⟩, by rw [List.length_map, List.length_take]; omega⟩
    · obtain ⟨z, hzm, rfl⟩ := List.mem_map.1 hx
      have := hrange z (List.mem_of_mem_take hzm)
      omega
    · have hlen : 0 < len := by
        rcases Nat.eq_zero_or_pos len with h0 | h0
        · subst h0; simp at hne
        · exact h0
      obtain ⟨b, off, spot⟩ := a
      have hspot : spot = none := by simpa [Addr.add] using World.cell?_spot (hcell 0 (by omega))
      subst hspot
      refine ⟨b, off, rfl, ?_, by simp, fun i hi => ?_⟩
      · have := hcell 0 (by omega)
        exact World.block_lt_of_cell? w _ this
      · rw [List.length_map, List.length_take] at hi
        have hi' : i < zs.length := by omega
        have hc := hcell i hi'
        have hadd : (⟨b, off, none⟩ : Addr).add i = ⟨b, off + i, none⟩ := by unfold Addr.add; split <;> simp_all
        rw [hadd] at hc
        rw [hc]
        have e1 : zs.getD i 0 = zs[i] := by simp [hi']
        have e2 : ((zs.take len).map Int.toNat).getD i 0 = zs[i].toNat := by
          have : i < len := by omega
          simp [this, hi']
        rw [e1, e2, Int.toNat_of_nonneg (hrange _ (List.getElem_mem hi')).1]
set_option maxRecDepth 100000 in
/-- Bytes among the arguments. -/
theorem open_bytesA {r : Reach} {b0 : Nat} {v : Value} {d : DataW H} {p : List MemPlace} (hv : Value.okWide Try.prog w r b0 22 v) (h : DataW.Trod enc' Try.prog w 0 (fun _ => true) true 22 v d p) :
    (∀ n ∈ d.weights Try.prog 22, n ≤ reachBytes) → ∃ L, RdA [] w v L ∧ L.length ≤ reachBytes := by
  intro hwt
  obtain ⟨a0, len, cap, rfl⟩ := okWide_slice bytes_ty hv
  obtain ⟨fuel, hf⟩ := h
  obtain ⟨v, L, hcs, hL, hm⟩ := bytes_trod (x := (d, p)) hf hwt
  have : Value.slice a0 len cap = v := by simpa [Value.cells] using hcs
  rw [this]
  exact ⟨L, hL, hm⟩
end
end Go.Proofs.Ytfdihphhmhgejaa

/- Items, bytes among a law's arguments: which there are. -/
namespace Go.Proofs.Ytfdihphhmhgejaa
open Go.ChangeShapes Go.WideShapes Go.ChangeAt Go.RowKit
set_option maxRecDepth 100000

theorem item_bytes : Try.prog.bytesOf 27 = 56 := by kernel_rfl
theorem item_cells : Try.prog.cellsOf 27 = 3 := by kernel_rfl
theorem items_ty : Try.prog.underlying 25 = some (.slice 27) := by kernel_rfl
theorem item_fields : (Try.prog.underlying 27).map (fun d => match d with | .struct fs => fs.map (fun f => (f.type, f.offset)) | _ => #[]) = some #[(4, 0), (22, 1), (25, 2)] := by kernel_rfl
theorem item_ty : ∃ f0 f1 f2 : Field, Try.prog.underlying 27 = some (.struct #[f0, f1, f2]) ∧ f0.type = 4 ∧ f0.offset = 0 ∧ f1.type = 22 ∧ f1.offset = 1 ∧ f2.type = 25 ∧ f2.offset = 2 := by
  have h := item_fields
  cases hq : Try.prog.underlying 27 with
  | none => rw [hq] at h; cases h
  | some d =>
    rw [hq] at h
    simp only [Option.map_some, Option.some.injEq] at h
    split at h
    · rename_i fs
      have hl := congrArg Array.size h
      simp at hl
      obtain ⟨l⟩ := fs
      match l, hl, h with
      | [f0, f1, f2], _, h =>
        simp at h
        exact ⟨f0, f1, f2, rfl, h.1.1, h.1.2, h.2.1.1, h.2.1.2, h.2.2.1, h.2.2.2⟩
    · simp at h
theorem bool_cells : Try.prog.cellsOf 4 = 1 := by kernel_rfl
theorem bytesl_cells : Try.prog.cellsOf 22 = 1 := by kernel_rfl
theorem itemsl_cells : Try.prog.cellsOf 25 = 1 := by kernel_rfl
theorem bool_under : Try.prog.underlying 4 = some .bool := by kernel_rfl
theorem addr_add_add (a : Addr) (i j : Nat) : (a.add i).add j = a.add (i + j) := by
  obtain ⟨b, o, s⟩ := a
  unfold Addr.add
  by_cases hi : i = 0
  · subst hi; simp
  · by_cases hj : j = 0
    · subst hj; simp [hi]
    · rw [if_neg hi, if_neg hj, if_neg (by omega)]
      simp [Nat.add_assoc]
theorem cells_three {w : World} {base i : Nat} {a : Addr} {y0 yb yl : Value} (h : w.cells? base (a.add (i * 3)) 3 = some [y0, yb, yl]) : w.cell? (a.add (i * 3)) = some y0 ∧ w.cell? (a.add (i * 3 + 1)) = some yb ∧ w.cell? (a.add (i * 3 + 2)) = some yl := by
  have hh := (World.cells?_some h).2.2
  have e : ∀ j, (a.add (i * 3)).add j = a.add (i * 3 + j) := fun j => addr_add_add a (i * 3) j
  have h0 := hh 0 (by omega)
  have h1 := hh 1 (by omega)
  have h2 := hh 2 (by omega)
  rw [e] at h0 h1 h2
  exact ⟨h0, h1, h2⟩
section
variable {H : Type} {enc' : TypeId × Value → H} {w : World}
/-- An item that comes in. -/
theorem item_trod : ∀ (fuel : Nat) (cs : List Value) (x : DataW H × List MemPlace), DataW.trod enc' Try.prog w 0 (fun _ => true) true fuel 27 cs = some x → (∀ n ∈ x.1.weights Try.prog 27, n ≤ reachBytes) → ∃ x0 vb vl it, cs = [x0, vb, vl] ∧ ItC [] w fuel x0 vb vl it := by
  intro fuel
  induction fuel using Nat.strongRecOn with
  | _ fuel ih =>
    intro cs x hf hwt
    obtain ⟨f0, f1, f2, hty, t0, o0, t1, o1, t2, o2⟩ := item_ty
    obtain ⟨xs, n, rfl, hx, hlen, hxl, hel⟩ := DataW.trod_struct hty hf
    rw [item_cells] at hlen
    match cs, hlen with
    | [x0, vb, vl], _ =>
      have e0 := hel 0 f0 rfl
      have e1 := hel 1 f1 rfl
      have e2 := hel 2 f2 rfl
      rw [t0, o0, bool_cells] at e0
      rw [t1, o1, bytesl_cells] at e1
      rw [t2, o2, itemsl_cells] at e2
      simp only [List.drop_zero, List.take_succ_cons, List.take_zero, List.drop_succ_cons] at e0 e1 e2
      have hs : xs.length = 3 := by simpa using hxl
      rw [List.getElem?_eq_getElem (by omega)] at e0 e1 e2
      have hwx : ∀ n ∈ DataW.weightsEach Try.prog [4, 22, 25] (xs.map (·.1)), n ≤ reachBytes := fun n hn => hwt n (by
        subst hx
        simp only [DataW.weights, hty, List.map_cons, List.map_nil, t0, t1, t2]
        exact hn)
      have hw1 := fun n (hq : n ∈ (xs[1]'(by omega)).1.weights Try.prog 22) => hwx n (DataW.weights_mem_each (j := 1) rfl (d := (xs[1]'(by omega)).1) (by rw [List.getElem?_map, List.getElem?_eq_getElem (by omega)]; rfl) n hq)
      have hw2 := fun n (hq : n ∈ (xs[2]'(by omega)).1.weights Try.prog 25) => hwx n (DataW.weights_mem_each (j := 2) rfl (d := (xs[2]'(by omega)).1) (by rw [List.getElem?_map, List.getElem?_eq_getElem (by omega)]; rfl) n hq)
      obtain ⟨v, L, hv, hL, hLm⟩ := bytes_trod e1 hw1
      obtain rfl : vb = v := by simpa using hv
      obtain ⟨bb, hbb, _⟩ := DataW.trod_bool bool_under e0
      obtain rfl : x0 = .bool bb := by simpa using hbb
      unfold reachBytes at hLm
      cases bb with
      | false =>
        refine ⟨_, vb, vl, .str L, rfl, ?_⟩
        unfold ItC
        exact ⟨rfl, hL, by omega⟩
      | true =>
        rcases DataW.trod_slice items_ty e2 with ⟨hcs, _⟩ | ⟨a, len, cap, elems, rest, m, rfl, hcs, hx2, _, hlc, hcm, hlen, hget, _, _⟩
        · refine ⟨_, vb, vl, .lst [], rfl, ?_⟩
          obtain rfl : vl = .slice none 0 0 := by simpa using hcs
          unfold ItC
          exact ⟨rfl, none, 0, rfl, ⟨Nat.le_refl _, by simp⟩, fun h => absurd rfl h⟩
        · obtain rfl : vl = .slice (some a) len cap := by simpa using hcs
          rw [item_cells] at hget
          rw [hx2] at hw2
          simp only [DataW.weights, items_ty, item_bytes] at hw2
          have hl56 := hw2 _ List.mem_cons_self
          simp only [List.length_map] at hl56
          unfold reachBytes at hl56
          have key : ∀ i, i < len → ∃ y0 yb yl it, w.cell? (a.add (i * 3)) = some y0 ∧ w.cell? (a.add (i * 3 + 1)) = some yb ∧ w.cell? (a.add (i * 3 + 2)) = some yl ∧ ItC [] w m y0 yb yl it := by
            intro i hi
            have e := hget i hi
            rw [List.getElem?_eq_getElem (by omega)] at e
            obtain ⟨cs', hc, ht⟩ := Option.bind_eq_some_iff.1 e
            obtain ⟨y0, yb, yl, it, rfl, hit⟩ := ih m (by omega) cs' _ ht (fun n hn => hw2 n (List.mem_cons_of_mem _ (List.mem_append_left _ (weights_mem_all (List.mem_map_of_mem (List.getElem_mem _)) n hn))))
            have hcl := cells_three hc
            exact ⟨y0, yb, yl, it, hcl.1, hcl.2.1, hcl.2.2, hit⟩
          have hex : ∃ its : List It, its.length = len ∧ ∀ i (h : i < its.length), ∃ y0 yb yl, w.cell? (a.add (i * 3)) = some y0 ∧ w.cell? (a.add (i * 3 + 1)) = some yb ∧ w.cell? (a.add (i * 3 + 2)) = some yl ∧ ItC [] w m y0 yb yl its[i] := by
            refine ⟨(List.range len).map fun i => if h : i < len then (key i h).choose_spec.choose_spec.choose_spec.choose else .str [], by simp, fun i hi => ?_⟩
            have hi' : i < len := by simpa using hi
            refine ⟨_, _, _, (key i hi').choose_spec.choose_spec.choose_spec.choose_spec.1, (key i hi').choose_spec.choose_spec.choose_spec.choose_spec.2.1, (key i hi').choose_spec.choose_spec.choose_spec.choose_spec.2.2.1, ?_⟩
            have := (key i hi').choose_spec.choose_spec.choose_spec.choose_spec.2.2.2
            simpa [hi'] using this
          obtain ⟨its, rfl, hits⟩ := hex
          refine ⟨_, vb, _, .lst its, rfl, ?_⟩
          unfold ItC
          refine ⟨rfl, some a, cap, rfl, ⟨hlc, by omega⟩, fun hne => ?_⟩
          have hpos : 0 < its.length := List.length_pos_iff.2 hne
          obtain ⟨b, off, spot⟩ := a
          have hspot : spot = none := by
            obtain ⟨y0, yb, yl, h1, _⟩ := hits 0 hpos
            simpa [Addr.add] using World.cell?_spot h1
          subst hspot
          have hadd : ∀ j, (⟨b, off, none⟩ : Addr).add j = ⟨b, off + j, none⟩ := fun j => by unfold Addr.add; split <;> simp_all
          simp only [hadd] at hits
          refine ⟨b, off, rfl, ?_, by simp, fun i hi => ?_⟩
          · obtain ⟨y0, yb, yl, h1, _⟩ := hits 0 hpos
            exact World.block_lt_of_cell? w _ h1
          · obtain ⟨y0, yb, yl, h1, h2, h3, h4⟩ := hits i hi
            exact ⟨y0, yb, yl, h1, h2, h3, h4.up (by omega)⟩
/-- An item among the arguments. -/
theorem open_item {r : Reach} {b0 : Nat} {v : Value} {d : DataW H} {p : List MemPlace} (hv : Value.okWide Try.prog w r b0 27 v) (h : DataW.Trod enc' Try.prog w 0 (fun _ => true) true 27 v d p) :
    (∀ n ∈ d.weights Try.prog 27, n ≤ reachBytes) → ∃ k x0 vb vl it, v = .agg #[x0, vb, vl] ∧ ItC [] w k x0 vb vl it := by
  intro hwt
  obtain ⟨f0, f1, f2, hty, _⟩ := item_ty
  obtain ⟨cs, rfl, hsz⟩ : ∃ cs, v = .agg cs ∧ cs.size = 3 := by
    unfold Value.okWide at hv
    rw [hty] at hv
    obtain ⟨cs, h1, h2, _⟩ := hv
    exact ⟨cs, h1, by rw [h2, item_cells]⟩
  obtain ⟨fuel, hf⟩ := h
  obtain ⟨x0, vb, vl, it, hcs, hit⟩ := item_trod fuel _ _ hf hwt
  refine ⟨fuel, x0, vb, vl, it, ?_, hit⟩
  have : cs.toList = [x0, vb, vl] := hcs
  rw [show cs = #[x0, vb, vl] from Array.toList_inj.1 this]
end
end Go.Proofs.Ytfdihphhmhgejaa

/- Items as they lie in memory, both slices of each known, whatever kind it is. -/
namespace Go.Proofs.Ytfdihphhmhgejaa
open Go.ChangeShapes Go.WideShapes Go.ChangeAt Go.RowKit
set_option maxRecDepth 100000

/-- A value that is an item, both its slices known; k: how deep it is at most. -/
def ItR (X : List Nat) (w : World) : Nat → Value → Value → Value → Prop
  | 0, _, _, _ => False
  | k + 1, y0, yb, yl => (∃ d, y0 = .bool d) ∧ (∃ p n c, yb = .slice p n c ∧ n < 4611686018427387904) ∧ ∃ p n c, yl = .slice p n c ∧ n ≤ c ∧ n < 4611686018427387904 ∧ (0 < n → ∃ b o, p = some ⟨b, o, none⟩ ∧ b < w.heap.size ∧ b ∉ X ∧ ∀ i, i < n → ∃ z0 zb zl, w.cell? ⟨b, o + i * 3, none⟩ = some z0 ∧ w.cell? ⟨b, o + i * 3 + 1, none⟩ = some zb ∧ w.cell? ⟨b, o + i * 3 + 2, none⟩ = some zl ∧ ItR X w k z0 zb zl)
theorem ItR.tch {X : List Nat} {w w' : World} (hT : Tch X w w') : ∀ {k : Nat} {x y z : Value}, ItR X w k x y z → ItR X w' k x y z
  | 0, _, _, _, h => h.elim
  | k + 1, _, _, _, h => by
    unfold ItR at h ⊢
    obtain ⟨h0, h1, p, n, c, h2, h3, h4, h5⟩ := h
    refine ⟨h0, h1, p, n, c, h2, h3, h4, fun hn => ?_⟩
    obtain ⟨b, o, h6, h7, h8, h9⟩ := h5 hn
    refine ⟨b, o, h6, Nat.lt_of_lt_of_le h7 hT.size, h8, fun i hi => ?_⟩
    obtain ⟨z0, zb, zl, g0, g1, g2, g3⟩ := h9 i hi
    exact ⟨z0, zb, zl, by rw [hT.cell (p := ⟨b, o + i * 3, none⟩) h7 h8]; exact g0, by rw [hT.cell (p := ⟨b, o + i * 3 + 1, none⟩) h7 h8]; exact g1, by rw [hT.cell (p := ⟨b, o + i * 3 + 2, none⟩) h7 h8]; exact g2, ItR.tch hT g3⟩
theorem ItR.up {X : List Nat} {w : World} : ∀ {k j : Nat} {x y z : Value}, k ≤ j → ItR X w k x y z → ItR X w j x y z
  | 0, _, _, _, _, _, h => h.elim
  | _ + 1, 0, _, _, _, hj, _ => by omega
  | k + 1, j + 1, _, _, _, hj, h => by
    unfold ItR at h ⊢
    obtain ⟨h0, h1, p, n, c, h2, h3, h4, h5⟩ := h
    refine ⟨h0, h1, p, n, c, h2, h3, h4, fun hn => ?_⟩
    obtain ⟨b, o, h6, h7, h8, h9⟩ := h5 hn
    refine ⟨b, o, h6, h7, h8, fun i hi => ?_⟩
    obtain ⟨z0, zb, zl, g0, g1, g2, g3⟩ := h9 i hi
    exact ⟨z0, zb, zl, g0, g1, g2, ItR.up (by omega) g3⟩
section
variable {H : Type} {enc' : TypeId × Value → H} {w : World}
/-- An item that comes in, both its slices. -/
theorem item_trodR : ∀ (fuel : Nat) (cs : List Value) (x : DataW H × List MemPlace), DataW.trod enc' Try.prog w 0 (fun _ => true) true fuel 27 cs = some x → (∀ n ∈ x.1.weights Try.prog 27, n ≤ reachBytes) → ∃ x0 vb vl, cs = [x0, vb, vl] ∧ ItR [] w fuel x0 vb vl := by
  intro fuel
  induction fuel using Nat.strongRecOn with
  | _ fuel ih =>
    intro cs x hf hwt
    obtain ⟨f0, f1, f2, hty, t0, o0, t1, o1, t2, o2⟩ := item_ty
    obtain ⟨xs, n, rfl, hx, hlen, hxl, hel⟩ := DataW.trod_struct hty hf
    rw [item_cells] at hlen
    match cs, hlen with
    | [x0, vb, vl], _ =>
      have e0 := hel 0 f0 rfl
      have e1 := hel 1 f1 rfl
      have e2 := hel 2 f2 rfl
      rw [t0, o0, bool_cells] at e0
      rw [t1, o1, bytesl_cells] at e1
      rw [t2, o2, itemsl_cells] at e2
      simp only [List.drop_zero, List.take_succ_cons, List.take_zero, List.drop_succ_cons] at e0 e1 e2
      have hs : xs.length = 3 := by simpa using hxl
      rw [List.getElem?_eq_getElem (by omega)] at e0 e1 e2
      have hwx : ∀ n ∈ DataW.weightsEach Try.prog [4, 22, 25] (xs.map (·.1)), n ≤ reachBytes := fun n hn => hwt n (by
        subst hx
        simp only [DataW.weights, hty, List.map_cons, List.map_nil, t0, t1, t2]
        exact hn)
      have hw1 := fun n (hq : n ∈ (xs[1]'(by omega)).1.weights Try.prog 22) => hwx n (DataW.weights_mem_each (j := 1) rfl (d := (xs[1]'(by omega)).1) (by rw [List.getElem?_map, List.getElem?_eq_getElem (by omega)]; rfl) n hq)
      have hw2 := fun n (hq : n ∈ (xs[2]'(by omega)).1.weights Try.prog 25) => hwx n (DataW.weights_mem_each (j := 2) rfl (d := (xs[2]'(by omega)).1) (by rw [List.getElem?_map, List.getElem?_eq_getElem (by omega)]; rfl) n hq)
      obtain ⟨v, L, hv, hL, hLm⟩ := bytes_trod e1 hw1
      obtain rfl : vb = v := by simpa using hv
      obtain ⟨bb, hbb, _⟩ := DataW.trod_bool bool_under e0
      obtain rfl : x0 = .bool bb := by simpa using hbb
      unfold reachBytes at hLm
      obtain ⟨pb, cb, rfl, _⟩ := hL
      have hbn : (∃ p n c, Value.slice pb L.length cb = .slice p n c ∧ n < 4611686018427387904) := ⟨_, _, _, rfl, by omega⟩
      refine ⟨_, _, vl, rfl, ?_⟩
      unfold ItR
      refine ⟨⟨_, rfl⟩, hbn, ?_⟩
      rcases DataW.trod_slice items_ty e2 with ⟨hcs, _⟩ | ⟨a, len, cap, elems, rest, m, rfl, hcs, hx2, _, hlc, hcm, hlen, hget, _, _⟩
      · obtain rfl : vl = .slice none 0 0 := by simpa using hcs
        exact ⟨none, 0, 0, rfl, Nat.le_refl _, by omega, fun h => by omega⟩
      · obtain rfl : vl = .slice (some a) len cap := by simpa using hcs
        rw [item_cells] at hget
        rw [hx2] at hw2
        simp only [DataW.weights, items_ty, item_bytes] at hw2
        have hl56 := hw2 _ List.mem_cons_self
        simp only [List.length_map] at hl56
        unfold reachBytes at hl56
        have key : ∀ i, i < len → ∃ y0 yb yl, w.cell? (a.add (i * 3)) = some y0 ∧ w.cell? (a.add (i * 3 + 1)) = some yb ∧ w.cell? (a.add (i * 3 + 2)) = some yl ∧ ItR [] w m y0 yb yl := by
          intro i hi
          have e := hget i hi
          rw [List.getElem?_eq_getElem (by omega)] at e
          obtain ⟨cs', hc, ht⟩ := Option.bind_eq_some_iff.1 e
          obtain ⟨y0, yb, yl, rfl, hit⟩ := ih m (by omega) cs' _ ht (fun n hn => hw2 n (List.mem_cons_of_mem _ (List.mem_append_left _ (weights_mem_all (List.mem_map_of_mem (List.getElem_mem _)) n hn))))
          have hcl := cells_three hc
          exact ⟨y0, yb, yl, hcl.1, hcl.2.1, hcl.2.2, hit⟩
        refine ⟨some a, len, cap, rfl, hlc, by omega, fun hpos => ?_⟩
        obtain ⟨b, off, spot⟩ := a
        have hspot : spot = none := by
          obtain ⟨y0, yb, yl, h1, _⟩ := key 0 hpos
          simpa [Addr.add] using World.cell?_spot h1
        subst hspot
        have hadd : ∀ j, (⟨b, off, none⟩ : Addr).add j = ⟨b, off + j, none⟩ := fun j => by unfold Addr.add; split <;> simp_all
        simp only [hadd] at key
        refine ⟨b, off, rfl, ?_, by simp, fun i hi => ?_⟩
        · obtain ⟨y0, yb, yl, h1, _⟩ := key 0 hpos
          exact World.block_lt_of_cell? w _ h1
        · obtain ⟨y0, yb, yl, h1, h2, h3, h4⟩ := key i hi
          exact ⟨y0, yb, yl, h1, h2, h3, h4.up (by omega)⟩
/-- A list of items, each told in both ways. -/
def LsR (w : World) (k : Nat) (v : Value) (its : List It) : Prop :=
  ∃ p c, v = .slice p its.length c ∧ its.length ≤ c ∧ its.length < 4611686018427387904 ∧ (its ≠ [] → ∃ b o, p = some ⟨b, o, none⟩ ∧ b < w.heap.size ∧ ∀ i (h : i < its.length), ∃ y0 yb yl, w.cell? ⟨b, o + i * 3, none⟩ = some y0 ∧ w.cell? ⟨b, o + i * 3 + 1, none⟩ = some yb ∧ w.cell? ⟨b, o + i * 3 + 2, none⟩ = some yl ∧ ItC [] w k y0 yb yl its[i] ∧ ItR [] w k y0 yb yl)
/-- A list of items among the arguments. -/
theorem open_items {r : Reach} {b0 : Nat} {v : Value} {d : DataW H} {p : List MemPlace} (hv : Value.okWide Try.prog w r b0 25 v) (h : DataW.Trod enc' Try.prog w 0 (fun _ => true) true 25 v d p) :
    (∀ n ∈ d.weights Try.prog 25, n ≤ reachBytes) → ∃ k its, LsR w k v its := by
  intro hw2
  obtain ⟨a0, len0, cap0, rfl⟩ := okWide_slice items_ty hv
  obtain ⟨fuel, hf⟩ := h
  rcases DataW.trod_slice items_ty hf with ⟨hcs, _⟩ | ⟨a, len, cap, elems, rest, m, rfl, hcs, hx2, _, hlc, hcm, hlen, hget, _, _⟩
  · have : Value.slice a0 len0 cap0 = .slice none 0 0 := by simpa [Value.cells] using hcs
    rw [this]
    exact ⟨0, [], none, 0, rfl, Nat.le_refl _, by simp, fun h => absurd rfl h⟩
  · have : Value.slice a0 len0 cap0 = .slice (some a) len cap := by simpa [Value.cells] using hcs
    rw [this]
    rw [item_cells] at hget
    have hx2' : d = _ := congrArg Prod.fst hx2
    rw [hx2'] at hw2
    simp only [DataW.weights, items_ty, item_bytes] at hw2
    have hl56 := hw2 _ List.mem_cons_self
    simp only [List.length_map] at hl56
    unfold reachBytes at hl56
    have key : ∀ i, i < len → ∃ y0 yb yl it, w.cell? (a.add (i * 3)) = some y0 ∧ w.cell? (a.add (i * 3 + 1)) = some yb ∧ w.cell? (a.add (i * 3 + 2)) = some yl ∧ ItC [] w m y0 yb yl it ∧ ItR [] w m y0 yb yl := by
      intro i hi
      have e := hget i hi
      rw [List.getElem?_eq_getElem (by omega)] at e
      obtain ⟨cs', hc, ht⟩ := Option.bind_eq_some_iff.1 e
      have hw3 : ∀ n ∈ (elems[i]'(by omega)).1.weights Try.prog 27, n ≤ reachBytes := fun n hn => hw2 n (List.mem_cons_of_mem _ (List.mem_append_left _ (weights_mem_all (List.mem_map_of_mem (List.getElem_mem _)) n hn)))
      obtain ⟨y0, yb, yl, it, rfl, hit⟩ := item_trod m cs' _ ht hw3
      obtain ⟨z0, zb, zl, hz, hitr⟩ := item_trodR m _ _ ht hw3
      obtain ⟨rfl, rfl, rfl⟩ : y0 = z0 ∧ yb = zb ∧ yl = zl := by simpa using hz
      have hcl := cells_three hc
      exact ⟨y0, yb, yl, it, hcl.1, hcl.2.1, hcl.2.2, hit, hitr⟩
    have hex : ∃ its : List It, its.length = len ∧ ∀ i (h : i < its.length), ∃ y0 yb yl, w.cell? (a.add (i * 3)) = some y0 ∧ w.cell? (a.add (i * 3 + 1)) = some yb ∧ w.cell? (a.add (i * 3 + 2)) = some yl ∧ ItC [] w m y0 yb yl its[i] ∧ ItR [] w m y0 yb yl := by
      refine ⟨(List.range len).map fun i => if h : i < len then (key i h).choose_spec.choose_spec.choose_spec.choose else .str [], by simp, fun i hi => ?_⟩
      have hi' : i < len := by simpa using hi
      refine ⟨_, _, _, (key i hi').choose_spec.choose_spec.choose_spec.choose_spec.1, (key i hi').choose_spec.choose_spec.choose_spec.choose_spec.2.1, (key i hi').choose_spec.choose_spec.choose_spec.choose_spec.2.2.1, ?_⟩
      have := (key i hi').choose_spec.choose_spec.choose_spec.choose_spec.2.2.2
      simpa [hi'] using this
    obtain ⟨its, rfl, hits⟩ := hex
    refine ⟨m, its, some a, cap, rfl, hlc, by omega, fun hne => ?_⟩
    have hpos : 0 < its.length := List.length_pos_iff.2 hne
    obtain ⟨b, off, spot⟩ := a
    have hspot : spot = none := by
      obtain ⟨y0, yb, yl, h1, _⟩ := hits 0 hpos
      simpa [Addr.add] using World.cell?_spot h1
    subst hspot
    have hadd : ∀ j, (⟨b, off, none⟩ : Addr).add j = ⟨b, off + j, none⟩ := fun j => by unfold Addr.add; split <;> simp_all
    simp only [hadd] at hits
    refine ⟨b, off, rfl, ?_, fun i hi => ?_⟩
    · obtain ⟨y0, yb, yl, h1, _⟩ := hits 0 hpos
      exact World.block_lt_of_cell? w _ h1
    · obtain ⟨y0, yb, yl, h1, h2, h3, h4, h5⟩ := hits i hi
      exact ⟨y0, yb, yl, h1, h2, h3, h4, h5⟩
/-- An item among the arguments, told in both ways. -/
theorem open_itemR {r : Reach} {b0 : Nat} {v : Value} {d : DataW H} {p : List MemPlace} (hv : Value.okWide Try.prog w r b0 27 v) (h : DataW.Trod enc' Try.prog w 0 (fun _ => true) true 27 v d p) :
    (∀ n ∈ d.weights Try.prog 27, n ≤ reachBytes) → ∃ k x0 vb vl it, v = .agg #[x0, vb, vl] ∧ ItC [] w k x0 vb vl it ∧ ItR [] w k x0 vb vl := by
  intro hwt
  obtain ⟨f0, f1, f2, hty, _⟩ := item_ty
  obtain ⟨cs, rfl, hsz⟩ : ∃ cs, v = .agg cs ∧ cs.size = 3 := by
    unfold Value.okWide at hv
    rw [hty] at hv
    obtain ⟨cs, h1, h2, _⟩ := hv
    exact ⟨cs, h1, by rw [h2, item_cells]⟩
  obtain ⟨fuel, hf⟩ := h
  obtain ⟨x0, vb, vl, it, hcs, hit⟩ := item_trod fuel _ _ hf hwt
  obtain ⟨z0, zb, zl, hz, hitr⟩ := item_trodR fuel _ _ hf hwt
  have hcs' : cs.toList = [x0, vb, vl] := hcs
  have hz' : cs.toList = [z0, zb, zl] := hz
  rw [hcs'] at hz'
  obtain ⟨rfl, rfl, rfl⟩ : x0 = z0 ∧ vb = zb ∧ vl = zl := by simpa using hz'
  refine ⟨fuel, x0, vb, vl, it, ?_, hit, hitr⟩
  rw [show cs = #[x0, vb, vl] from Array.toList_inj.1 hcs']
end
end Go.Proofs.Ytfdihphhmhgejaa
