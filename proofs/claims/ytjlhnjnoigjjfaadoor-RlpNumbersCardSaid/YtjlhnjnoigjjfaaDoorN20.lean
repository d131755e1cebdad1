/- RlpNumbers, whole; words among a law's arguments. -/
import Derived.Test.YtjlhnjnoigjjfaaDoorN17
import Derived.Test.YtjlhnjnoigjjfaaDoorN18
import Derived.Test.YtjlhnjnoigjjfaaDoorN19
namespace Go.Proofs.YtjlhnjnoigjjfaaDoor
open Go.ChangeShapes Go.WideShapes Go.ChangeAt Go.RowKit

theorem numbers_any (n : Int) (Wd : List Nat) (k : Nat) (y0 yb yl : Value) (it : It) (w : World) (hn : n ≤ 9223372036854775807) (hw : Wd.length = 32) (hwl : ∀ x ∈ Wd, x < 256) (hit : ItC [] w k y0 yb yl it) (hitr : ItR [] w k y0 yb yl) :
    Calls Tryd.prog 3 #[.int .i64 n, .agg (wv Wd), .agg #[y0, yb, yl]] w fun e w' => e = .returned (.bool true) ∧ Tch [] w w' := by
  have C6 : ∀ w', Tch [] w w' → Calls Tryd.prog 6 #[.agg #[y0, yb, yl]] w' (IntP (intOfN it) w') := by
    intro w' hT
    have hi := hit.tch hT
    cases k with
    | zero => exact hi.elim
    | succ k => cases it with
      | str L => unfold ItC at hi; obtain ⟨rfl, hr, _⟩ := hi; exact pint_str _ _ _ _ hr
      | lst l => unfold ItC at hi; obtain ⟨rfl, _⟩ := hi; exact pint_lst _ _ _ _
  have C7 : ∀ w', Tch [] w w' → Calls Tryd.prog 7 #[.agg #[y0, yb, yl]] w' (IntP (intOfN it) w') := by
    intro w' hT
    have hi := hit.tch hT
    cases k with
    | zero => exact hi.elim
    | succ k => cases it with
      | str L => unfold ItC at hi; obtain ⟨rfl, hr, _⟩ := hi; exact rint_str _ _ _ _ hr
      | lst l => unfold ItC at hi; obtain ⟨rfl, _⟩ := hi; exact rint_lst _ _ _ _
  have C8 : ∀ w', Tch [] w w' → Calls Tryd.prog 8 #[.agg #[y0, yb, yl]] w' (WordPost it w') := by
    intro w' hT
    have hi := hit.tch hT
    cases k with
    | zero => exact hi.elim
    | succ k => cases it with
      | str L => unfold ItC at hi; obtain ⟨rfl, hr, _⟩ := hi; exact pword_any _ _ _ _ hr
      | lst l => unfold ItC at hi; obtain ⟨rfl, _⟩ := hi; exact pword_lst _ _ _ _
  have C9 : ∀ w', Tch [] w w' → Calls Tryd.prog 9 #[.agg #[y0, yb, yl]] w' (WordPost it w') := by
    intro w' hT
    have hi := hit.tch hT
    cases k with
    | zero => exact hi.elim
    | succ k => cases it with
      | str L => unfold ItC at hi; obtain ⟨rfl, hr, _⟩ := hi; exact rword_any _ _ _ _ hr
      | lst l => unfold ItC at hi; obtain ⟨rfl, _⟩ := hi; exact rword_lst _ _ _ _
  have hb : ∀ L, it = .str L → ∀ x ∈ L, x < 256 := by
    intro L hL
    subst hL
    cases k with
    | zero => exact hit.elim
    | succ k => unfold ItC at hit; exact hit.2.1.lt
  cases hwo : wordOf it with
  | none =>
    have hio : intOfN it = none := by unfold intOfN; rw [hwo]; rfl
    rw [hio] at C6 C7
    unfold WordPost at C8 C9
    rw [hwo] at C8 C9
    exact numb_none n Wd k y0 yb yl w hn hw hwl hitr C6 C7 C8 C9
  | some V =>
    obtain ⟨_, hV⟩ := wordOf_ok hb hwo
    unfold WordPost at C8 C9
    rw [hwo] at C8 C9
    cases hio : intOfN it with
    | none =>
      rw [hio] at C6 C7
      exact numb_great n Wd k y0 yb yl V hV w hn hw hwl hitr C6 C7 C8 C9
    | some A =>
      rw [hio] at C6 C7
      exact numb_some n Wd k y0 yb yl A V hV w hn hw hwl hitr C6 C7 C8 C9
section
variable {H : Type} {enc : TypeId × Value → H} {w w' : World} {base base' : Nat} {spare spare' : Nat → Bool} {held held' : Bool}
theorem byte_any (fuel : Nat) (cs : List Value) : DataW.trod enc Tryd.prog w base spare held fuel 5 cs = DataW.trod enc Tryd.prog w' base' spare' held' fuel 5 cs := by
  cases fuel with
  | zero => rfl
  | succ n =>
    unfold DataW.trod
    rw [byteN_ty]
    split <;> simp_all
theorem arr_any_world {ty k : Nat} (hty : Tryd.prog.underlying ty = some (.array k 5)) (fuel : Nat) (cs : List Value) : DataW.trod enc Tryd.prog w base spare held fuel ty cs = DataW.trod enc Tryd.prog w' base' spare' held' fuel ty cs := by
  cases fuel with
  | zero => rfl
  | succ n =>
    unfold DataW.trod
    simp only [hty]
    rw [show (fun i => DataW.trod enc Tryd.prog w base spare held n 5 ((cs.drop (i * Tryd.prog.cellsOf 5)).take (Tryd.prog.cellsOf 5))) = (fun i => DataW.trod enc Tryd.prog w' base' spare' held' n 5 ((cs.drop (i * Tryd.prog.cellsOf 5)).take (Tryd.prog.cellsOf 5))) from funext fun i => byte_any n _]
theorem word_cellsN : Tryd.prog.cellsOf 23 = 32 := by kernel_rfl
/-- A word that comes in. -/
theorem open_wordN {r : Reach} {b0 : Nat} {v : Value} {d : DataW H} {p : List MemPlace} (hv : Value.okWide Tryd.prog w r b0 23 v) (h : DataW.Trod enc Tryd.prog w base spare held 23 v d p) :
    ∃ W : List Nat, W.length = 32 ∧ (∀ x ∈ W, x < 256) ∧ v = .agg (wv W) ∧ p = [] ∧ ∀ (w' : World) (base' : Nat) (spare' : Nat → Bool) (held' : Bool), DataW.Trod enc Tryd.prog w' base' spare' held' 23 (.agg (wv W)) d [] := by
  obtain ⟨cs, rfl, hsz⟩ : ∃ cs, v = .agg cs ∧ cs.size = 32 := by
    unfold Value.okWide at hv
    rw [wordN_type] at hv
    obtain ⟨cs, h1, h2, _⟩ := hv
    exact ⟨cs, h1, by rw [h2, word_cellsN]⟩
  obtain ⟨fuel, hf⟩ := h
  have hf0 := hf
  obtain ⟨xs, m, rfl, hx, _, hlen, hel⟩ := DataW.trod_array wordN_type hf
  have key : ∀ i, i < 32 → ∃ n : Nat, n < 256 ∧ cs[i]? = some (.int .u8 (n : Int)) ∧ (xs[i]?).map (·.2) = some [] := by
    intro i hi
    have hi' : i < cs.size := by omega
    have e := hel i hi
    rw [byte_cells, Nat.mul_one] at e
    have e2 : ((Value.agg cs).cells.toList.drop i).take 1 = [cs[i]] := by
      show (cs.toList.drop i).take 1 = _
      rw [List.drop_eq_getElem_cons (by simpa using hi')]
      simp
    rw [e2, List.getElem?_eq_getElem (by omega)] at e
    obtain ⟨n, hc, hxn, hw⟩ := DataW.trod_int byteN_ty e
    have hn : 0 ≤ n ∧ n ≤ 255 := by
      simp [Lit.wf, IntKind.min, IntKind.max, IntKind.bits, IntKind.signed] at hw
      omega
    refine ⟨n.toNat, by omega, ?_, ?_⟩
    · rw [Array.getElem?_eq_getElem hi', List.cons.inj hc |>.1]
      congr 2; omega
    · rw [List.getElem?_eq_getElem (by omega), hxn]; rfl
  have hex : ∃ g : Nat → Nat, ∀ i, g i < 256 ∧ (i < 32 → cs[i]? = some (.int .u8 ((g i : Nat) : Int))) := by
    refine ⟨fun i => if h : i < 32 then (key i h).choose else 0, fun i => ?_⟩
    by_cases hi : i < 32
    · simp only [hi, dif_pos]
      exact ⟨(key i hi).choose_spec.1, fun _ => (key i hi).choose_spec.2.1⟩
    · simp only [hi, dif_neg, not_false_eq_true]
      exact ⟨by omega, fun h => h.elim⟩
  obtain ⟨g, hg⟩ := hex
  have hcs : cs = wv ((List.range 32).map g) := by
    apply Array.ext_getElem?
    intro i
    unfold wv
    by_cases hi : i < 32
    · rw [bc_get hi, (hg i).2 hi]
      congr 3
      rw [List.getD_eq_getElem?_getD, List.getElem?_map, List.getElem?_range hi]
      rfl
    · rw [bc_none (by omega), Array.getElem?_eq_none (by omega)]
  subst hcs
  have hp : xs.flatMap (·.2) = [] := by
    rw [List.flatMap_eq_nil_iff]
    intro y hy
    obtain ⟨i, hi, rfl⟩ := List.getElem_of_mem hy
    obtain ⟨_, _, _, h3⟩ := key i (by omega)
    rw [List.getElem?_eq_getElem hi] at h3
    simpa using h3
  have hp2 : p = [] := by rw [← hp]; exact (Prod.mk.inj hx).2
  subst hp2
  refine ⟨_, by simp, ?_, rfl, rfl, fun w' base' spare' held' => ⟨_, by rw [← arr_any_world wordN_type (w := w) (base := base) (spare := spare) (held := held)]; exact hf0⟩⟩
  intro x hx
  obtain ⟨i, _, rfl⟩ := List.mem_map.1 hx
  exact (hg i).1
end
end Go.Proofs.YtjlhnjnoigjjfaaDoor
