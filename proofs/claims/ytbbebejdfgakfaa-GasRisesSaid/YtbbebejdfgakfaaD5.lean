/- A word and a transaction among a law's arguments. -/
import Derived.Test.YtbbebejdfgakfaaD4
import Derived.Test.YtbbebejdfgakfaaB3
set_option linter.unusedSimpArgs false
namespace Go.Proofs.Ytbbebejdfgakfaa
open Go.ChangeShapes Go.WideShapes Go.ChangeAt Go.RowKit
set_option maxRecDepth 100000
set_option linter.unusedVariables false

theorem word_cells14 : Try.prog.cellsOf 25 = 32 := by kernel_rfl
theorem bool_cells14 : Try.prog.cellsOf 4 = 1 := by kernel_rfl
theorem bytes_cells14 : Try.prog.cellsOf 26 = 1 := by kernel_rfl
theorem tx_cells : Try.prog.cellsOf 28 = 77 := by kernel_rfl
theorem tx_size : (Try.prog.info? 28).map (·.size) = some 77 := by kernel_rfl
theorem tx_fields : (Try.prog.underlying 28).map (fun d => match d with | .struct fs => fs.map (fun f => (f.type, f.offset)) | _ => #[]) = some #[(3, 0), (3, 1), (3, 2), (23, 3), (23, 23), (4, 43), (25, 44), (26, 76)] := by kernel_rfl
theorem tx_ty : ∃ f0 f1 f2 f3 f4 f5 f6 f7 : Field, Try.prog.underlying 28 = some (.struct #[f0, f1, f2, f3, f4, f5, f6, f7]) ∧ (f5.type = 4 ∧ f5.offset = 43) ∧ f7.type = 26 ∧ f7.offset = 76 := by
  have h := tx_fields
  cases hq : Try.prog.underlying 28 with
  | none => rw [hq] at h; cases h
  | some d =>
    rw [hq] at h
    simp only [Option.map_some, Option.some.injEq] at h
    split at h
    · rename_i fs
      have hl := congrArg Array.size h
      simp at hl
      obtain ⟨l⟩ := fs
      match l, hl, h with
      | [f0, f1, f2, f3, f4, f5, f6, f7], _, h =>
        simp at h
        exact ⟨f0, f1, f2, f3, f4, f5, f6, f7, rfl, h.2.2.2.2.2.1, h.2.2.2.2.2.2.2⟩
    · simp at h
theorem tx_type : ∃ fs, Try.prog.underlying 28 = some (.struct fs) := by
  obtain ⟨f0, f1, f2, f3, f4, f5, f6, f7, h, _⟩ := tx_ty
  exact ⟨_, h⟩
theorem fa_txM (b : Nat) (w : World) : (Instr.fieldAt 28 (.pointer (some ⟨b, 0, none⟩)) 5).run Try.prog w = .ok (.pointer (some ⟨b, 43, none⟩)) w := by kernel_rfl
theorem fa_txD (b : Nat) (w : World) : (Instr.fieldAt 28 (.pointer (some ⟨b, 0, none⟩)) 7).run Try.prog w = .ok (.pointer (some ⟨b, 76, none⟩)) w := by kernel_rfl
theorem okWide_arr14 {w : World} {r : Reach} {base : Nat} {t : TypeId} {v : Value} {n : Nat} {e : TypeId} (ht : Try.prog.underlying t = some (.array n e)) (h : Value.okWide Try.prog w r base t v) : ∃ cs, v = .agg cs ∧ cs.size = Try.prog.cellsOf t := by
  simp only [Value.okWide, ht] at h
  obtain ⟨cs, h1, h2, _⟩ := h
  exact ⟨cs, h1, h2⟩
theorem okWide_one14 {w : World} {r : Reach} {base : Nat} {t : TypeId} {v : Value} {fs : Array Field} (ht : Try.prog.underlying t = some (.struct fs)) (h : Value.okWide Try.prog w r base t v) : ∀ cs, v = .agg cs → cs.all (·.oneCell') = true := by
  intro cs hc
  subst hc
  simp only [Value.okWide, ht] at h
  obtain ⟨cs', h1, _, ts, _, _, h3⟩ := h
  cases h1
  rw [Array.all_eq_true]
  intro i hi
  obtain ⟨u, _, hu⟩ := h3 i cs[i] (by simp [hi])
  generalize cs[i] = x at hu
  cases x with
  | agg y => unfold Cell.okWide Cell.ok at hu; exfalso; revert hu; cases Try.prog.underlying u with
    | none => exact id
    | some d => cases d <;> exact id
  | tuple y => unfold Cell.okWide Cell.ok at hu; exfalso; revert hu; cases Try.prog.underlying u with
    | none => exact id
    | some d => cases d <;> exact id
  | _ => rfl
section
variable {H : Type} {enc' : TypeId × Value → H} {w : World}
theorem word_trod14 {fuel : Nat} {cs : List Value} {x : DataW H × List MemPlace} {base : Nat} {spare : Nat → Bool} {held : Bool} (hf : DataW.trod enc' Try.prog w base spare held fuel 25 cs = some x) : ∃ W : List Nat, W.length = 32 ∧ (∀ y ∈ W, y < 256) ∧ cs = (wv W).toList := by
  obtain ⟨xs, m, rfl, hx, hcl, hlen, hel⟩ := DataW.trod_array wordN_type hf
  have hcl' : cs.length = 32 := by rw [hcl, word_cells14]
  have key : ∀ i, i < 32 → ∃ n : Nat, n < 256 ∧ cs[i]? = some (.int .u8 (n : Int)) := by
    intro i hi
    have hi' : i < cs.length := by omega
    have e := hel i hi
    rw [byte_cells, Nat.mul_one] at e
    have e2 : (cs.drop i).take 1 = [cs[i]] := by
      rw [List.drop_eq_getElem_cons hi', List.take_succ_cons, List.take_zero]
    rw [e2, List.getElem?_eq_getElem (by omega)] at e
    obtain ⟨n, hc, hxn, hw⟩ := DataW.trod_int byte_ty e
    have hn : 0 ≤ n ∧ n ≤ 255 := by
      simp [Lit.wf, IntKind.min, IntKind.max, IntKind.bits, IntKind.signed] at hw
      omega
    refine ⟨n.toNat, by omega, ?_⟩
    rw [List.getElem?_eq_getElem hi', List.cons.inj hc |>.1]
    congr 2; omega
  have hex : ∃ g : Nat → Nat, ∀ i, g i < 256 ∧ (i < 32 → cs[i]? = some (.int .u8 ((g i : Nat) : Int))) := by
    refine ⟨fun i => if h : i < 32 then (key i h).choose else 0, fun i => ?_⟩
    by_cases hi : i < 32
    · simp only [hi, dif_pos]
      exact ⟨(key i hi).choose_spec.1, fun _ => (key i hi).choose_spec.2⟩
    · simp only [hi, dif_neg, not_false_eq_true]
      exact ⟨by omega, fun h => h.elim⟩
  obtain ⟨g, hg⟩ := hex
  refine ⟨(List.range 32).map g, by simp, ?_, ?_⟩
  · intro y hy
    obtain ⟨i, _, rfl⟩ := List.mem_map.1 hy
    exact (hg i).1
  · apply List.ext_getElem?
    intro i
    have e : (wv ((List.range 32).map g)).toList[i]? = (wv ((List.range 32).map g))[i]? := Array.getElem?_toList
    rw [e]
    unfold wv
    by_cases hi : i < 32
    · rw [bc_get hi, (hg i).2 hi]
      congr 3
      rw [List.getD_eq_getElem?_getD, List.getElem?_map, List.getElem?_range hi]
      rfl
    · rw [bc_none (by omega), List.getElem?_eq_none (by rw [hcl']; omega)]
theorem bytes_trod14 {fuel : Nat} {cs : List Value} {x : DataW H × List MemPlace} (hf : DataW.trod enc' Try.prog w 0 (fun _ => true) true fuel 26 cs = some x) : ∃ v L, cs = [v] ∧ RdB w v L := by
  rcases open_ints bytes_ty byte_ty byte_cells hf with ⟨hcs, hx⟩ | ⟨a, len, cap, zs, hcs, _, hl, hm, hz, hx, hcell, hwz⟩
  · exact ⟨_, [], hcs, RdB.nil w⟩
  · simp only [if_true] at hz
    have hrange : ∀ z ∈ zs, 0 ≤ z ∧ z ≤ 255 := fun z hzm => by
      have := hwz z hzm
      simp [Lit.wf, IntKind.min, IntKind.max, IntKind.bits, IntKind.signed] at this
      omega
    refine ⟨_, (zs.take len).map Int.toNat, hcs, ⟨some a, cap, by rw [List.length_map, List.length_take, hz, Nat.min_eq_left hl], by rw [List.length_map, List.length_take]; omega, fun x hx => ?_, fun hne => ?_⟩⟩
    · obtain ⟨z, hzm, rfl⟩ := List.mem_map.1 hx
      have := hrange z (List.mem_of_mem_take hzm)
      omega
    · have hlen : 0 < len := by
        rcases Nat.eq_zero_or_pos len with h0 | h0
        · subst h0; simp at hne
        · exact h0
      obtain ⟨b, off, spot⟩ := a
      have hspot : spot = none := by simpa [Addr.add] using World.cell?_spot (hcell 0 (by omega))
      subst hspot
      refine ⟨b, off, rfl, World.block_lt_of_cell? w _ (hcell 0 (by omega)), fun i hi => ?_⟩
      rw [List.length_map, List.length_take] at hi
      have hi' : i < zs.length := by omega
      have hc := hcell i hi'
      have hadd : (⟨b, off, none⟩ : Addr).add i = ⟨b, off + i, none⟩ := by unfold Addr.add; split <;> simp_all
      rw [hadd] at hc
      rw [hc]
      have e1 : zs.getD i 0 = zs[i] := by simp [hi']
      have e2 : ((zs.take len).map Int.toNat).getD i 0 = zs[i].toNat := by
        have : i < len := by omega
        simp [this, hi']
      rw [e1, e2, Int.toNat_of_nonneg (hrange _ (List.getElem_mem hi')).1]
theorem take1_get14 {cs : List Value} {n : Nat} {u : Value} (h : (cs.drop n).take 1 = [u]) : cs[n]? = some u := by
  have := congrArg (fun l => l[0]?) h
  simpa [List.getElem?_take, List.getElem?_drop] using this
theorem open_word14 {r : Reach} {b0 : Nat} {v : Value} {d : DataW H} {p : List MemPlace} (hv : Value.okWide Try.prog w r b0 25 v) (h : DataW.Trod enc' Try.prog w 0 (fun _ => true) true 25 v d p) : ∃ W, v = .agg (wv W) ∧ Wd W := by
  obtain ⟨cs, rfl, _⟩ := okWide_arr14 wordN_type hv
  obtain ⟨fuel, hf⟩ := h
  obtain ⟨W, h1, h2, h3⟩ := word_trod14 hf
  refine ⟨W, ?_, h1, h2⟩
  have : cs.toList = (wv W).toList := h3
  rw [show cs = wv W from Array.ext' this]
theorem open_tx {r : Reach} {b0 : Nat} {v : Value} {d : DataW H} {p : List MemPlace} (hv : Value.okWide Try.prog w r b0 28 v) (h : DataW.Trod enc' Try.prog w 0 (fun _ => true) true 28 v d p) : ∃ c m u L, v = .agg c ∧ TxIn w c m u L ∧ c.all (·.oneCell') = true := by
  obtain ⟨f0, f1, f2, f3, f4, f5, f6, f7, hty, ⟨t5, o5⟩, t7, o7⟩ := tx_ty
  have hone := okWide_one14 hty hv
  obtain ⟨cs, rfl, hsz⟩ := okWide_struct hty hv
  obtain ⟨fuel, hf⟩ := h
  obtain ⟨xs, m, rfl, hx, hlen, hxl, hel⟩ := DataW.trod_struct hty hf
  have q5 := hel 5 f5 rfl
  have q7 := hel 7 f7 rfl
  have hs : xs.length = 8 := by simpa using hxl
  rw [t5, o5, bool_cells14, List.getElem?_eq_getElem (by omega)] at q5
  rw [t7, o7, bytes_cells14, List.getElem?_eq_getElem (by omega)] at q7
  obtain ⟨b, hb, _⟩ := DataW.trod_bool bool_ty q5
  obtain ⟨u, L, hu, hR⟩ := bytes_trod14 q7
  have g5 := take1_get14 hb
  have g7 := take1_get14 hu
  have e : ∀ i : Nat, (Value.agg cs).cells.toList[i]? = cs[i]? := fun i => Array.getElem?_toList
  rw [e] at g5 g7
  exact ⟨cs, b, u, L, rfl, ⟨by rw [hsz, tx_cells], g5, g7, hR⟩, hone cs rfl⟩
end
theorem st_loadT {ops : Array Oper} {rest : List Oper} {o : Oper} {a : Act} {bs : List Nat} {w0 w : World} {Q : Exit → Act → World → Prop} {L : List Ent} {b : Nat} {t : TypeId} {c : Array Value} (hS : St bs w0 w L) (hgd : o.guard = none) (x : Operand) (ho : o.op = .load 28 x) (hx : a.eval x = .pointer (some ⟨b, 0, none⟩)) (m : At L b t c) (hn : c.size = 77)
    (h : wpList Try.prog ops Q rest (a.put o.dst (.agg c)) w) : wpList Try.prog ops Q (o :: rest) a w := by
  obtain ⟨fs, hu⟩ := tx_type
  exact st_load hS hgd _ x ho hx m hu rfl tx_size hn h
theorem k_loadT {ops : Array Oper} {rest : List Oper} {o : Oper} {a : Act} {bs : List Nat} {w0 : World} {Q : Act → Prop} {L : List Ent} {b : Nat} {t : TypeId} {c : Array Value} (hw : Region.wanted o (yielded ops a.tmps) = true) (x : Operand) (ho : o.op = .load 28 x) (hx : a.eval x = .pointer (some ⟨b, 0, none⟩)) (m : At L b t c) (hn : c.size = 77)
    (h : KQ ops (fun w' => St bs w0 w' L) Q rest (a.put o.dst (.agg c))) : KQ ops (fun w' => St bs w0 w' L) Q (o :: rest) a := by
  obtain ⟨fs, hu⟩ := tx_type
  exact ⟨q_load hw _ x ho hx m hu rfl tx_size hn h.go⟩
theorem expW_r (U : List Nat) (hU : Wd U) (w : World) : Calls Try.prog 13 #[.agg (wv U)] w fun e w' => e = .returned (.int .i64 (expG (bval U))) ∧ Tch [] w w' := by
  rw [wv_byt hU.1 hU.2]
  exact rexpG_any _ (bval_top hU.1 hU.2) w
theorem expW_p (U : List Nat) (hU : Wd U) (w : World) : Calls Try.prog 12 #[.agg (wv U)] w fun e w' => e = .returned (.int .i64 (expG (bval U))) ∧ Tch [] w w' := by
  rw [wv_byt hU.1 hU.2]
  exact pexpG_any _ (bval_top hU.1 hU.2) w
theorem alive14 (w : World) : Calls Try.prog 5 #[] w fun e w' => e = .returned (.bool true) ∧ Tch [] w w' := by
  have h63 : shareG 64 = 63 := by decide
  have HS := Lib.hid (fun w' => pshareG_any 64 w' (by decide))
  rw [h63] at HS
  go_enter Try.func5, Try.ntmps5
  go_wp2_with (go_at_call 14; go_must (refine (HS.out _).mono ?_; rintro e w2 ⟨rfl, rfl⟩))
  go_ret
  exact ⟨rfl, Tch.refl _ _⟩
end Go.Proofs.Ytbbebejdfgakfaa
