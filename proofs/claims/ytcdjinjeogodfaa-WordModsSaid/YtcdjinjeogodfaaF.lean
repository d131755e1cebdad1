/- A word among a law's arguments: which words there are, and that it reads behind the call as it read before. -/
import Derived.Test.YtcdjinjeogodfaaV2
import Derived.WalkKit
import Derived.ProofKit
import Derived.OpenShut
namespace Go.Proofs.Ytcdjinjeogodfaa
open Go.ChangeShapes Go.WideShapes Go.ChangeAt Go.RowKit

theorem word_ty : Try.prog.underlying 23 = some (.array 32 5) := by kernel_rfl
theorem byte_ty : Try.prog.underlying 5 = some (.int .u8) := by kernel_rfl
theorem word_cells : Try.prog.cellsOf 23 = 32 := by kernel_rfl
theorem byte_cells : Try.prog.cellsOf 5 = 1 := by kernel_rfl

theorem word_exists (g : Nat → Nat) (hg : ∀ i, g i < 256) : ∀ n, ∃ x, x < 256 ^ n ∧ ∀ j, j < n → x / 256 ^ j % 256 = g j
  | 0 => ⟨0, by simp, fun j hj => by omega⟩
  | n + 1 => by
    obtain ⟨x, hx, h⟩ := word_exists g hg n
    have hp : 0 < 256 ^ n := Nat.pow_pos (by decide)
    have hgn := hg n
    refine ⟨x + g n * 256 ^ n, ?_, fun j hj => ?_⟩
    · rw [Nat.pow_succ]
      have : (g n + 1) * 256 ^ n ≤ 256 * 256 ^ n := Nat.mul_le_mul_right _ (by omega)
      rw [Nat.add_mul, Nat.one_mul] at this
      rw [Nat.mul_comm _ 256]; omega
    · rcases Nat.lt_or_ge j n with hlt | hge
      · have e : 256 ^ n = 256 ^ j * (256 * 256 ^ (n - j - 1)) := by
          rw [← Nat.pow_succ', ← Nat.pow_add]; congr 1; omega
        rw [e, show g n * (256 ^ j * (256 * 256 ^ (n - j - 1))) = 256 ^ j * (256 * (g n * 256 ^ (n - j - 1))) by simp only [Nat.mul_left_comm],
          Nat.add_mul_div_left _ _ (Nat.pow_pos (by decide)), Nat.add_mul_mod_self_left, h j hlt]
      · obtain rfl : j = n := by omega
        rw [Nat.add_mul_div_right _ _ hp, Nat.div_eq_of_lt hx, Nat.zero_add, Nat.mod_eq_of_lt hgn]
theorem word_of_bytes (g : Nat → Nat) (hg : ∀ i, g i < 256) : ∃ x, x < M256 ∧ ∀ i, i < 32 → byt x i = g i := by
  obtain ⟨x, hx, h⟩ := word_exists (fun j => g (31 - j)) (fun j => hg _) 32
  refine ⟨x, by unfold M256; rw [show (2 : Nat) ^ 256 = 256 ^ 32 by decide]; exact hx, fun i hi => ?_⟩
  have := h (31 - i) (by omega)
  unfold byt
  rw [show (2 : Nat) ^ (8 * (31 - i)) = 256 ^ (31 - i) by rw [Nat.pow_mul]]
  rw [this, show 31 - (31 - i) = i by omega]

section
variable {H : Type} {enc : TypeId × Value → H} {w w' : World} {base base' : Nat} {spare spare' : Nat → Bool} {held held' : Bool}
theorem byte_any (fuel : Nat) (cs : List Value) : DataW.trod enc Try.prog w base spare held fuel 5 cs = DataW.trod enc Try.prog w' base' spare' held' fuel 5 cs := by
  cases fuel with
  | zero => rfl
  | succ n =>
    unfold DataW.trod
    rw [byte_ty]
    split <;> simp_all
theorem word_any_world (fuel : Nat) (cs : List Value) : DataW.trod enc Try.prog w base spare held fuel 23 cs = DataW.trod enc Try.prog w' base' spare' held' fuel 23 cs := by
  cases fuel with
  | zero => rfl
  | succ n =>
    unfold DataW.trod
    simp only [word_ty]
    rw [show (fun i => DataW.trod enc Try.prog w base spare held n 5 ((cs.drop (i * Try.prog.cellsOf 5)).take (Try.prog.cellsOf 5))) = (fun i => DataW.trod enc Try.prog w' base' spare' held' n 5 ((cs.drop (i * Try.prog.cellsOf 5)).take (Try.prog.cellsOf 5))) from funext fun i => byte_any n _]
/-- A word that comes in. -/
theorem open_word {r : Reach} {b0 : Nat} {v : Value} {d : DataW H} {p : List MemPlace} (hv : Value.okWide Try.prog w r b0 23 v) (h : DataW.Trod enc Try.prog w base spare held 23 v d p) :
    ∃ x, x < M256 ∧ v = .agg (wcells x) ∧ p = [] ∧ ∀ (w' : World) (base' : Nat) (spare' : Nat → Bool) (held' : Bool), DataW.Trod enc Try.prog w' base' spare' held' 23 (.agg (wcells x)) d [] := by
  obtain ⟨cs, rfl, hsz⟩ : ∃ cs, v = .agg cs ∧ cs.size = 32 := by
    unfold Value.okWide at hv
    rw [word_ty] at hv
    obtain ⟨cs, h1, h2, _⟩ := hv
    exact ⟨cs, h1, by rw [h2, word_cells]⟩
  obtain ⟨fuel, hf⟩ := h
  have hf0 := hf
  obtain ⟨xs, m, rfl, hx, _, hlen, hel⟩ := DataW.trod_array word_ty hf
  have key : ∀ i, i < 32 → ∃ n : Nat, n < 256 ∧ cs[i]? = some (.int .u8 (n : Int)) ∧ (xs[i]?).map (·.2) = some [] := by
    intro i hi
    have hi' : i < cs.size := by omega
    have e := hel i hi
    rw [byte_cells, Nat.mul_one] at e
    have e2 : ((Value.agg cs).cells.toList.drop i).take 1 = [cs[i]] := by
      show (cs.toList.drop i).take 1 = _
      rw [List.drop_eq_getElem_cons (by simpa using hi')]
      simp
    rw [e2, List.getElem?_eq_getElem (by omega)] at e
    obtain ⟨n, hc, hxn, hw⟩ := DataW.trod_int byte_ty e
    have hn : 0 ≤ n ∧ n ≤ 255 := by
      simp [Lit.wf, IntKind.min, IntKind.max, IntKind.bits, IntKind.signed] at hw
      omega
    refine ⟨n.toNat, by omega, ?_, ?_⟩
    · rw [Array.getElem?_eq_getElem hi', List.cons.inj hc |>.1]
      congr 2; omega
    · rw [List.getElem?_eq_getElem (by omega), hxn]; rfl
  have hex : ∃ g : Nat → Nat, ∀ i, g i < 256 ∧ (i < 32 → cs[i]? = some (.int .u8 ((g i : Nat) : Int))) := by
    refine ⟨fun i => if h : i < 32 then (key i h).choose else 0, fun i => ?_⟩
    by_cases hi : i < 32
    · simp only [hi, dif_pos]
      exact ⟨(key i hi).choose_spec.1, fun _ => (key i hi).choose_spec.2.1⟩
    · simp only [hi, dif_neg, not_false_eq_true]
      exact ⟨by omega, fun h => h.elim⟩
  obtain ⟨g, hg⟩ := hex
  obtain ⟨x, hx256, hb⟩ := word_of_bytes g (fun i => (hg i).1)
  have hcs : cs = wcells x := by
    apply Array.ext_getElem?
    intro i
    by_cases hi : i < 32
    · rw [wf_get hi, hb i hi]; exact (hg i).2 hi
    · rw [wf_none (by omega), Array.getElem?_eq_none (by omega)]
  subst hcs
  have hp : xs.flatMap (·.2) = [] := by
    rw [List.flatMap_eq_nil_iff]
    intro y hy
    obtain ⟨i, hi, rfl⟩ := List.getElem_of_mem hy
    obtain ⟨_, _, _, h3⟩ := key i (by omega)
    rw [List.getElem?_eq_getElem hi] at h3
    simpa using h3
  have hp2 : p = [] := by rw [← hp]; exact (Prod.mk.inj hx).2
  subst hp2
  exact ⟨x, hx256, rfl, rfl, fun w' base' spare' held' => ⟨_, by rw [← word_any_world (w := w) (base := base) (spare := spare) (held := held)]; exact hf0⟩⟩
end
end Go.Proofs.Ytcdjinjeogodfaa
