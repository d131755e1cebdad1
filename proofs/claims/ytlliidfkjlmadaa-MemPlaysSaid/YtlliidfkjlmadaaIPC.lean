/- A list of calls among a law's arguments. -/
import Derived.Test.YtlliidfkjlmadaaIPB
import Derived.Test.YtlliidfkjlmadaaB3
set_option linter.unusedSimpArgs false
namespace Go.Proofs.Ytlliidfkjlmadaa
open Go.ChangeShapes Go.WideShapes Go.ChangeAt Go.RowKit
set_option maxRecDepth 100000
set_option linter.unusedVariables false

theorem int_cellsP : Try.prog.cellsOf 3 = 1 := by kernel_rfl
theorem word_cellsP : Try.prog.cellsOf 37 = 32 := by kernel_rfl
theorem bytes_cellsP : Try.prog.cellsOf 24 = 1 := by kernel_rfl
theorem act_cellsP : Try.prog.cellsOf 39 = 68 := by kernel_rfl
theorem acts_ty : Try.prog.underlying 22 = some (.slice 39) := by kernel_rfl
theorem act_fields : (Try.prog.underlying 39).map (fun d => match d with | .struct fs => fs.map (fun f => (f.type, f.offset)) | _ => #[]) = some #[(3, 0), (3, 1), (3, 2), (37, 3), (37, 35), (24, 67)] := by kernel_rfl
theorem act_ty : ∃ f0 f1 f2 f3 f4 f5 : Field, Try.prog.underlying 39 = some (.struct #[f0, f1, f2, f3, f4, f5]) ∧ (f0.type = 3 ∧ f0.offset = 0) ∧ (f1.type = 3 ∧ f1.offset = 1) ∧ (f2.type = 3 ∧ f2.offset = 2) ∧ (f3.type = 37 ∧ f3.offset = 3) ∧ (f4.type = 37 ∧ f4.offset = 35) ∧ f5.type = 24 ∧ f5.offset = 67 := by
  have h := act_fields
  cases hq : Try.prog.underlying 39 with
  | none => rw [hq] at h; cases h
  | some d =>
    rw [hq] at h
    simp only [Option.map_some, Option.some.injEq] at h
    split at h
    · rename_i fs
      have hl := congrArg Array.size h
      simp at hl
      obtain ⟨l⟩ := fs
      match l, hl, h with
      | [f0, f1, f2, f3, f4, f5], _, h =>
        simp at h
        exact ⟨f0, f1, f2, f3, f4, f5, rfl, h.1, h.2.1, h.2.2.1, h.2.2.2.1, h.2.2.2.2.1, h.2.2.2.2.2⟩
    · simp at h
section
variable {H : Type} {enc' : TypeId × Value → H} {w : World}
theorem word_trodP {fuel : Nat} {cs : List Value} {x : DataW H × List MemPlace} {base : Nat} {spare : Nat → Bool} {held : Bool} (hf : DataW.trod enc' Try.prog w base spare held fuel 37 cs = some x) : ∃ W : List Nat, W.length = 32 ∧ (∀ y ∈ W, y < 256) ∧ cs = (wv W).toList := by
  obtain ⟨xs, m, rfl, hx, hcl, hlen, hel⟩ := DataW.trod_array wordN_type hf
  have hcl' : cs.length = 32 := by rw [hcl, word_cellsP]
  have key : ∀ i, i < 32 → ∃ n : Nat, n < 256 ∧ cs[i]? = some (.int .u8 (n : Int)) := by
    intro i hi
    have hi' : i < cs.length := by omega
    have e := hel i hi
    rw [byte_cells, Nat.mul_one] at e
    have e2 : (cs.drop i).take 1 = [cs[i]] := by
      rw [List.drop_eq_getElem_cons hi', List.take_succ_cons, List.take_zero]
    rw [e2, List.getElem?_eq_getElem (by omega)] at e
    obtain ⟨n, hc, hxn, hw⟩ := DataW.trod_int byte_ty e
    have hn : 0 ≤ n ∧ n ≤ 255 := by
      simp [Lit.wf, IntKind.min, IntKind.max, IntKind.bits, IntKind.signed] at hw
      omega
    refine ⟨n.toNat, by omega, ?_⟩
    rw [List.getElem?_eq_getElem hi', List.cons.inj hc |>.1]
    congr 2; omega
  have hex : ∃ g : Nat → Nat, ∀ i, g i < 256 ∧ (i < 32 → cs[i]? = some (.int .u8 ((g i : Nat) : Int))) := by
    refine ⟨fun i => if h : i < 32 then (key i h).choose else 0, fun i => ?_⟩
    by_cases hi : i < 32
    · simp only [hi, dif_pos]
      exact ⟨(key i hi).choose_spec.1, fun _ => (key i hi).choose_spec.2⟩
    · simp only [hi, dif_neg, not_false_eq_true]
      exact ⟨by omega, fun h => h.elim⟩
  obtain ⟨g, hg⟩ := hex
  refine ⟨(List.range 32).map g, by simp, ?_, ?_⟩
  · intro y hy
    obtain ⟨i, _, rfl⟩ := List.mem_map.1 hy
    exact (hg i).1
  · apply List.ext_getElem?
    intro i
    have e : (wv ((List.range 32).map g)).toList[i]? = (wv ((List.range 32).map g))[i]? := Array.getElem?_toList
    rw [e]
    unfold wv
    by_cases hi : i < 32
    · rw [bc_get hi, (hg i).2 hi]
      congr 3
      rw [List.getD_eq_getElem?_getD, List.getElem?_map, List.getElem?_range hi]
      rfl
    · rw [bc_none (by omega), List.getElem?_eq_none (by rw [hcl']; omega)]
theorem bytes_trodP {fuel : Nat} {cs : List Value} {x : DataW H × List MemPlace} (hf : DataW.trod enc' Try.prog w 0 (fun _ => true) true fuel 24 cs = some x) : ∃ v L, cs = [v] ∧ RdB w v L := by
  rcases open_ints bytes_ty byte_ty byte_cells hf with ⟨hcs, hx⟩ | ⟨a, len, cap, zs, hcs, _, hl, hm, hz, hx, hcell, hwz⟩
  · exact ⟨_, [], hcs, RdB.nil w⟩
  · simp only [if_true] at hz
    have hrange : ∀ z ∈ zs, 0 ≤ z ∧ z ≤ 255 := fun z hzm => by
      have := hwz z hzm
      simp [Lit.wf, IntKind.min, IntKind.max, IntKind.bits, IntKind.signed] at this
      omega
    refine ⟨_, (zs.take len).map Int.toNat, hcs, ⟨some a, cap, by rw [List.length_map, List.length_take, hz, Nat.min_eq_left hl], by rw [List.length_map, List.length_take]; omega, fun x hx => ?_, fun hne => ?_⟩⟩
    · obtain ⟨z, hzm, rfl⟩ := List.mem_map.1 hx
      have := hrange z (List.mem_of_mem_take hzm)
      omega
    · have hlen : 0 < len := by
        rcases Nat.eq_zero_or_pos len with h0 | h0
        · subst h0; simp at hne
        · exact h0
      obtain ⟨b, off, spot⟩ := a
      have hspot : spot = none := by simpa [Addr.add] using World.cell?_spot (hcell 0 (by omega))
      subst hspot
      refine ⟨b, off, rfl, World.block_lt_of_cell? w _ (hcell 0 (by omega)), fun i hi => ?_⟩
      rw [List.length_map, List.length_take] at hi
      have hi' : i < zs.length := by omega
      have hc := hcell i hi'
      have hadd : (⟨b, off, none⟩ : Addr).add i = ⟨b, off + i, none⟩ := by unfold Addr.add; split <;> simp_all
      rw [hadd] at hc
      rw [hc]
      have e1 : zs.getD i 0 = zs[i] := by simp [hi']
      have e2 : ((zs.take len).map Int.toNat).getD i 0 = zs[i].toNat := by
        have : i < len := by omega
        simp [this, hi']
      rw [e1, e2, Int.toNat_of_nonneg (hrange _ (List.getElem_mem hi')).1]
theorem take1_get {cs : List Value} {n : Nat} {u : Value} (h : (cs.drop n).take 1 = [u]) : cs[n]? = some u := by
  have := congrArg (fun l => l[0]?) h
  simpa [List.getElem?_take, List.getElem?_drop] using this
theorem act_trod {fuel : Nat} {cs : List Value} {x : DataW H × List MemPlace} (hf : DataW.trod enc' Try.prog w 0 (fun _ => true) true fuel 39 cs = some x) :
    ∃ d : ActD, cs = d.cells.toList ∧ (-9223372036854775808 ≤ d.i ∧ d.i ≤ 9223372036854775807) ∧ (-9223372036854775808 ≤ d.j ∧ d.j ≤ 9223372036854775807) ∧ Wd d.A ∧ Wd d.N ∧ RdB w d.v d.M := by
  obtain ⟨f0, f1, f2, f3, f4, f5, hty, ⟨t0, o0⟩, ⟨t1, o1⟩, ⟨t2, o2⟩, ⟨t3, o3⟩, ⟨t4, o4⟩, t5, o5⟩ := act_ty
  obtain ⟨xs, m, rfl, hx, hlen, hxl, hel⟩ := DataW.trod_struct hty hf
  have q0 := hel 0 f0 rfl
  have q1 := hel 1 f1 rfl
  have q2 := hel 2 f2 rfl
  have q3 := hel 3 f3 rfl
  have q4 := hel 4 f4 rfl
  have q5 := hel 5 f5 rfl
  have hs : xs.length = 6 := by simpa using hxl
  rw [t0, o0, int_cellsP, List.getElem?_eq_getElem (by omega)] at q0
  rw [t1, o1, int_cellsP, List.getElem?_eq_getElem (by omega)] at q1
  rw [t2, o2, int_cellsP, List.getElem?_eq_getElem (by omega)] at q2
  rw [t3, o3, word_cellsP, List.getElem?_eq_getElem (by omega)] at q3
  rw [t4, o4, word_cellsP, List.getElem?_eq_getElem (by omega)] at q4
  rw [t5, o5, bytes_cellsP, List.getElem?_eq_getElem (by omega)] at q5
  obtain ⟨n0, hc0, _, _⟩ := DataW.trod_int int_tyI q0
  obtain ⟨n1, hc1, _, hw1⟩ := DataW.trod_int int_tyI q1
  obtain ⟨n2, hc2, _, hw2⟩ := DataW.trod_int int_tyI q2
  obtain ⟨A, hA, hAl, hAe⟩ := word_trodP q3
  obtain ⟨N, hN, hNl, hNe⟩ := word_trodP q4
  obtain ⟨v, M, hve, hv⟩ := bytes_trodP q5
  have r1 : -9223372036854775808 ≤ n1 ∧ n1 ≤ 9223372036854775807 := by
    simp [Lit.wf, IntKind.min, IntKind.max, IntKind.bits, IntKind.signed] at hw1; omega
  have r2 : -9223372036854775808 ≤ n2 ∧ n2 ≤ 9223372036854775807 := by
    simp [Lit.wf, IntKind.min, IntKind.max, IntKind.bits, IntKind.signed] at hw2; omega
  refine ⟨⟨n0, n1, n2, A, N, v, M⟩, ?_, r1, r2, ⟨hA, hAl⟩, ⟨hN, hNl⟩, hv⟩
  rw [act_cellsP] at hlen
  show cs = (actC n0 n1 n2 A N v).toList
  apply List.ext_getElem?
  intro i
  rw [show (actC n0 n1 n2 A N v).toList[i]? = (actC n0 n1 n2 A N v)[i]? from Array.getElem?_toList]
  have hsz : (actC n0 n1 n2 A N v).size = 68 := actC_size _ _ _ _ _ _
  rcases Nat.lt_or_ge i 68 with h68 | h68
  · rcases Nat.lt_or_ge i 3 with h | h
    · rcases (show i = 0 ∨ i = 1 ∨ i = 2 by omega) with rfl | rfl | rfl
      · rw [take1_get hc0]; rfl
      · rw [take1_get hc1]; rfl
      · rw [take1_get hc2]; rfl
    · rcases Nat.lt_or_ge i 35 with h2 | h2
      · obtain ⟨j, rfl⟩ : ∃ j, i = 3 + j := ⟨i - 3, by omega⟩
        rw [actC_at _ _ _ _ _ _ (by omega), ← Array.getElem?_toList, ← hAe, List.getElem?_take_of_lt (by omega), List.getElem?_drop]
      · rcases Nat.lt_or_ge i 67 with h3 | h3
        · obtain ⟨j, rfl⟩ : ∃ j, i = 35 + j := ⟨i - 35, by omega⟩
          rw [actC_n _ _ _ _ _ _ (by omega), ← Array.getElem?_toList, ← hNe, List.getElem?_take_of_lt (by omega), List.getElem?_drop]
        · obtain rfl : i = 67 := by omega
          rw [take1_get hve, actC_b]
  · rw [List.getElem?_eq_none (by omega), Array.getElem?_eq_none (by omega)]
theorem open_acts {r : Reach} {b0 : Nat} {v : Value} {d : DataW H} {p : List MemPlace} (hv : Value.okWide Try.prog w r b0 22 v) (h : DataW.Trod enc' Try.prog w 0 (fun _ => true) true 22 v d p) : ∃ As, RdActs w v As := by
  obtain ⟨a0, len0, cap0, rfl⟩ := okWide_slice acts_ty hv
  obtain ⟨fuel, hf⟩ := h
  rcases DataW.trod_slice acts_ty hf with ⟨hcs, _⟩ | ⟨a, len, cap, elems, rest, m, rfl, hcs, hx2, _, hlc, hcm, hlen, hget, _, _⟩
  · have : Value.slice a0 len0 cap0 = .slice none 0 0 := by simpa [Value.cells] using hcs
    rw [this]
    exact ⟨[], none, 0, rfl, fun h => absurd rfl h, by simp⟩
  · have : Value.slice a0 len0 cap0 = .slice (some a) len cap := by simpa [Value.cells] using hcs
    rw [this]
    rw [act_cellsP] at hget
    have key : ∀ i, i < len → ∃ y : ActD, w.cells? 0 (a.add (i * 68)) 68 = some y.cells.toList ∧ (-9223372036854775808 ≤ y.i ∧ y.i ≤ 9223372036854775807) ∧ (-9223372036854775808 ≤ y.j ∧ y.j ≤ 9223372036854775807) ∧ Wd y.A ∧ Wd y.N ∧ RdB w y.v y.M := by
      intro i hi
      have e := hget i hi
      rw [List.getElem?_eq_getElem (by omega)] at e
      obtain ⟨cs', hc, ht⟩ := Option.bind_eq_some_iff.1 e
      obtain ⟨y, hy, r⟩ := act_trod ht
      exact ⟨y, by rw [hc, hy], r⟩
    obtain ⟨ys, hyl, hys⟩ : ∃ ys : List ActD, ys.length = len ∧ ∀ i (h : i < ys.length), w.cells? 0 (a.add (i * 68)) 68 = some ys[i].cells.toList ∧ (-9223372036854775808 ≤ ys[i].i ∧ ys[i].i ≤ 9223372036854775807) ∧ (-9223372036854775808 ≤ ys[i].j ∧ ys[i].j ≤ 9223372036854775807) ∧ Wd ys[i].A ∧ Wd ys[i].N ∧ RdB w ys[i].v ys[i].M := by
      clear hget hcs hlen hx2 this hlc
      revert key
      generalize hl : len = n
      clear hl
      intro key
      have : ∀ k, k ≤ n → ∃ ys : List ActD, ys.length = k ∧ ∀ i (h : i < ys.length), w.cells? 0 (a.add (i * 68)) 68 = some ys[i].cells.toList ∧ (-9223372036854775808 ≤ ys[i].i ∧ ys[i].i ≤ 9223372036854775807) ∧ (-9223372036854775808 ≤ ys[i].j ∧ ys[i].j ≤ 9223372036854775807) ∧ Wd ys[i].A ∧ Wd ys[i].N ∧ RdB w ys[i].v ys[i].M := by
        intro k
        induction k with
        | zero => exact fun _ => ⟨[], rfl, fun i h => absurd h (Nat.not_lt_zero i)⟩
        | succ k ih =>
          intro hk
          obtain ⟨ys, h1, h2⟩ := ih (by omega)
          obtain ⟨y, hy⟩ := key k (by omega)
          refine ⟨ys ++ [y], by simp [h1], fun i hi => ?_⟩
          rcases Nat.lt_or_ge i ys.length with h | h
          · rw [List.getElem_append_left h]; exact h2 i h
          · have : i = k := by rw [List.length_append] at hi; simp at hi; omega
            subst this
            rw [List.getElem_append_right h]
            simpa using hy
      exact this n (Nat.le_refl n)
    refine ⟨ys, some a, cap, by rw [hyl], fun hne => ?_, fun d hd => ?_⟩
    · have hpos : 0 < ys.length := List.length_pos_iff.2 hne
      have c0 := (World.cells?_some (hys 0 hpos).1).2.2 0 (by decide)
      obtain ⟨b, off, spot⟩ := a
      have hg0 : ys[0].cells.toList[0]? = some (.int .i64 ys[0].way) := by rw [Array.getElem?_toList]; rfl
      have hc0 : w.cell? (((⟨b, off, spot⟩ : Addr).add (0 * 68)).add 0) = some (.int .i64 ys[0].way) := by rw [← hg0]; exact c0
      have hspot : spot = none := by simpa [Addr.add] using World.cell?_spot hc0
      subst hspot
      have hadd : ∀ q j, ((⟨b, off, none⟩ : Addr).add q).add j = ⟨b, off + q + j, none⟩ := fun q j => by
        have h1 : (⟨b, off, none⟩ : Addr).add q = ⟨b, off + q, none⟩ := by unfold Addr.add; split <;> simp_all
        rw [h1]
        unfold Addr.add; split <;> simp_all
      refine ⟨b, off, rfl, ?_, fun k hk q u hq => ?_⟩
      · rw [hadd] at hc0
        exact World.block_lt_of_cell? w _ hc0
      · have hql : q < 68 := by
          have h1 := (List.getElem?_eq_some_iff.1 hq).1
          rw [Array.length_toList, show ys[k].cells.size = 68 from actC_size _ _ _ _ _ _] at h1
          exact h1
        have := (World.cells?_some (hys k hk).1).2.2 q hql
        rw [hadd, hq] at this
        exact this
    · obtain ⟨i, hi, rfl⟩ := List.mem_iff_getElem.1 hd
      exact (hys i hi).2
end
end Go.Proofs.Ytlliidfkjlmadaa
