/- Addresses, numbers among the arguments of a law. -/
import Derived.Test.YtopfmaoeebgjmaaGreatDoorM01
import Derived.Test.YtopfmaoeebgjmaaGreatDoorM17
import Derived.Test.YtopfmaoeebgjmaaGreatDoorM27
import Derived.Test.YtopfmaoeebgjmaaGreatDoorM36
set_option linter.unusedVariables false
set_option linter.unusedSimpArgs false
namespace Go.Proofs.YtopfmaoeebgjmaaGreatDoor
open Go.ChangeShapes Go.WideShapes Go.ChangeAt Go.RowKit
set_option maxRecDepth 100000
theorem word_exists (g : Nat → Nat) (hg : ∀ i, g i < 256) : ∀ n, ∃ x, x < 256 ^ n ∧ ∀ j, j < n → x / 256 ^ j % 256 = g j
  | 0 => ⟨0, by simp, fun j hj => by omega⟩
  | n + 1 => by
    obtain ⟨x, hx, h⟩ := word_exists g hg n
    have hp : 0 < 256 ^ n := Nat.pow_pos (by decide)
    have hgn := hg n
    refine ⟨x + g n * 256 ^ n, ?_, fun j hj => ?_⟩
    · rw [Nat.pow_succ]
      have : (g n + 1) * 256 ^ n ≤ 256 * 256 ^ n := Nat.mul_le_mul_right _ (by omega)
      rw [Nat.add_mul, Nat.one_mul] at this
      rw [Nat.mul_comm _ 256]; omega
    · rcases Nat.lt_or_ge j n with hlt | hge
      · have e : 256 ^ n = 256 ^ j * (256 * 256 ^ (n - j - 1)) := by
          rw [← Nat.pow_succ', ← Nat.pow_add]; congr 1; omega
        rw [e, show g n * (256 ^ j * (256 * 256 ^ (n - j - 1))) = 256 ^ j * (256 * (g n * 256 ^ (n - j - 1))) by simp only [Nat.mul_left_comm],
          Nat.add_mul_div_left _ _ (Nat.pow_pos (by decide)), Nat.add_mul_mod_self_left, h j hlt]
      · obtain rfl : j = n := by omega
        rw [Nat.add_mul_div_right _ _ hp, Nat.div_eq_of_lt hx, Nat.zero_add, Nat.mod_eq_of_lt hgn]
theorem word_of_bytes (g : Nat → Nat) (hg : ∀ i, g i < 256) : ∃ x, x < M256 ∧ ∀ i, i < 32 → byt x i = g i := by
  obtain ⟨x, hx, h⟩ := word_exists (fun j => g (31 - j)) (fun j => hg _) 32
  refine ⟨x, by unfold M256; rw [show (2 : Nat) ^ 256 = 256 ^ 32 by decide]; exact hx, fun i hi => ?_⟩
  have := h (31 - i) (by omega)
  unfold byt
  rw [show (2 : Nat) ^ (8 * (31 - i)) = 256 ^ (31 - i) by rw [Nat.pow_mul]]
  rw [this, show 31 - (31 - i) = i by omega]
theorem arr_get {n : Nat} {c : Array Value} {W : List Nat} (hs : c.size = n) (hW : W.length = n) (h : ∀ i, i < n → c[i]? = some (.int .u8 ((W.getD i 0 : Nat) : Int))) : c = arrV n W := by
  apply Array.ext_getElem?
  intro i
  by_cases hi : i < n
  · rw [h i hi]
    show _ = (bc n fun i => W.getD i 0)[i]?
    rw [bc_get hi]
  · rw [Array.getElem?_eq_none (by omega)]
    show _ = (bc n fun i => W.getD i 0)[i]?
    rw [bc_none (by omega)]
section
variable {H : Type} {enc' : TypeId × Value → H} {w : World}
theorem open_arr {n : Nat} {ty : TypeId} (hty : Tryz.prog.underlying ty = some (.array n 5)) (hcl : Tryz.prog.cellsOf ty = n) {r : Reach} {b0 : Nat} {v : Value} {d : DataW H} {p : List MemPlace} (hv : Value.okWide Tryz.prog w r b0 ty v) (h : DataW.Trod enc' Tryz.prog w 0 (fun _ => true) true ty v d p) : ∃ W : List Nat, W.length = n ∧ (∀ x ∈ W, x < 256) ∧ v = .agg (arrV n W) := by
  obtain ⟨cs, rfl, hsz⟩ : ∃ cs, v = .agg cs ∧ cs.size = n := by
    unfold Value.okWide at hv
    rw [hty] at hv
    obtain ⟨cs, h1, h2, _⟩ := hv
    exact ⟨cs, h1, by rw [h2, hcl]⟩
  obtain ⟨fuel, hf⟩ := h
  obtain ⟨xs, m, rfl, hx, _, hlen, hel⟩ := DataW.trod_array hty hf
  have key : ∀ i, i < n → ∃ k : Nat, k < 256 ∧ cs[i]? = some (.int .u8 (k : Int)) := by
    intro i hi
    have hi' : i < cs.size := by omega
    have e := hel i hi
    rw [byte_cells, Nat.mul_one] at e
    have e2 : ((Value.agg cs).cells.toList.drop i).take 1 = [cs[i]] := by
      show (cs.toList.drop i).take 1 = _
      rw [List.drop_eq_getElem_cons (by simpa using hi')]
      simp
    rw [e2, List.getElem?_eq_getElem (by omega)] at e
    obtain ⟨k, hc, hxn, hw⟩ := DataW.trod_int byte_ty e
    have hk : 0 ≤ k ∧ k ≤ 255 := by
      simp [Lit.wf, IntKind.min, IntKind.max, IntKind.bits, IntKind.signed] at hw
      omega
    refine ⟨k.toNat, by omega, ?_⟩
    rw [Array.getElem?_eq_getElem hi', List.cons.inj hc |>.1]
    congr 2; omega
  have hex : ∃ g : Nat → Nat, ∀ i, g i < 256 ∧ (i < n → cs[i]? = some (.int .u8 ((g i : Nat) : Int))) := by
    refine ⟨fun i => if h : i < n then (key i h).choose else 0, fun i => ?_⟩
    by_cases hi : i < n
    · simp only [hi, dif_pos]
      exact ⟨(key i hi).choose_spec.1, fun _ => (key i hi).choose_spec.2⟩
    · simp only [hi, dif_neg, not_false_eq_true]
      exact ⟨by omega, fun h => h.elim⟩
  obtain ⟨g, hg⟩ := hex
  refine ⟨(List.range n).map g, by simp, ?_, ?_⟩
  · intro y hy
    obtain ⟨i, _, rfl⟩ := List.mem_map.1 hy
    exact (hg i).1
  · refine congrArg Value.agg (arr_get hsz (by simp) (fun i hi => ?_))
    rw [(hg i).2 hi]
    congr 3
    rw [List.getD_eq_getElem?_getD, List.getElem?_map, List.getElem?_range hi]
    rfl
theorem open_addr {r : Reach} {b0 : Nat} {v : Value} {d : DataW H} {p : List MemPlace} (hv : Value.okWide Tryz.prog w r b0 23 v) (h : DataW.Trod enc' Tryz.prog w 0 (fun _ => true) true 23 v d p) : ∃ A, v = .agg (av A) ∧ Ad A := by
  obtain ⟨W, h1, h2, h3⟩ := open_arr addr_tyY (by kernel_rfl) hv h
  exact ⟨W, h3, h1, h2⟩
theorem open_num {r : Reach} {b0 : Nat} {v : Value} {d : DataW H} {p : List MemPlace} (hv : Value.okWide Tryz.prog w r b0 25 v) (h : DataW.Trod enc' Tryz.prog w 0 (fun _ => true) true 25 v d p) : ∃ x, v = .agg (wcells x) ∧ x < M256 := by
  obtain ⟨W, h1, h2, h3⟩ := open_arr wordN_type (by kernel_rfl) hv h
  obtain ⟨x, hx, hb⟩ := word_of_bytes (fun i => W.getD i 0) (fun i => by
    rw [List.getD_eq_getElem?_getD]
    cases hi : W[i]? with
    | none => exact (by decide : (0 : Nat) < 256)
    | some y => exact h2 y (List.mem_of_getElem? hi))
  exact ⟨x, by rw [h3]; exact congrArg Value.agg (bc_congr fun i hi => (hb i hi).symm), hx⟩
end
namespace SMoves
end SMoves
end Go.Proofs.YtopfmaoeebgjmaaGreatDoor

namespace Go.Proofs.YtopfmaoeebgjmaaGreatDoor.Empt
open Go.RowKit
theorem walk (a0 : List Nat) (a1 : Int) (a2 a3 a4 : Nat) (v5 : Value) (a5 : List Nat) (W : World) (l0 : Ad a0) (l1 : (Lit.int .i64 a1).wf = true) (l2 : a2 < M256) (l3 : a3 < M256) (l4 : a4 < M256) (l5 : RdA [] W v5 a5) :
    Calls Tryz.prog 3 #[.agg (av a0), .int .i64 a1, .agg (wcells a2), .agg (wcells a3), .agg (wcells a4), v5] W fun e w' => e = .returned (.bool true) ∧ Tch [] W w' :=
  empty_walk a0 a1 a2 a3 a4 v5 a5 W l0 (by
    simp [Lit.wf, IntKind.min, IntKind.max, IntKind.bits, IntKind.signed] at l1
    omega) l2 l3 l4 l5
end Go.Proofs.YtopfmaoeebgjmaaGreatDoor.Empt
