/- rlp.Word, the document's WordOf. -/
import Derived.Test.YtklpcppdjcedpaaNK
set_option linter.unusedVariables false
set_option linter.unusedSimpArgs false
namespace Go.Proofs.Ytklpcppdjcedpaa
open Go.RowKit

/-- A word out of bytes, zeros in front. -/
def padW (L : List Nat) : List Nat := List.replicate (32 - L.length) 0 ++ L
theorem padW_len {L : List Nat} (h : L.length ≤ 32) : (padW L).length = 32 := by unfold padW; simp; omega
theorem padW_lt {L : List Nat} (h : ∀ x ∈ L, x < 256) : ∀ x ∈ padW L, x < 256 := by
  intro x hx
  rcases List.mem_append.1 hx with hx | hx
  · rw [List.eq_of_mem_replicate hx]; decide
  · exact h x hx
theorem wv_pad {L : List Nat} (h : L.length ≤ 32) : bc 32 (wr (fun _ => 0) (32 - L.length) L) = wv (padW L) := by
  refine bc_congr fun i hi => ?_
  unfold wr padW
  by_cases h1 : 32 - L.length ≤ i
  · rw [if_pos ⟨h1, by omega⟩, List.getD_eq_getElem?_getD, List.getD_eq_getElem?_getD, List.getElem?_append_right (by simpa using h1)]; simp
  · rw [if_neg (by omega), List.getD_eq_getElem?_getD, List.getElem?_append_left (by simp; omega)]
    simp [show i < 32 - L.length by omega]
theorem word_lit : (bc 32 fun _ => 0) = #[.int .u8 0, .int .u8 0, .int .u8 0, .int .u8 0, .int .u8 0, .int .u8 0, .int .u8 0, .int .u8 0, .int .u8 0, .int .u8 0, .int .u8 0, .int .u8 0, .int .u8 0, .int .u8 0, .int .u8 0, .int .u8 0, .int .u8 0, .int .u8 0, .int .u8 0, .int .u8 0, .int .u8 0, .int .u8 0, .int .u8 0, .int .u8 0, .int .u8 0, .int .u8 0, .int .u8 0, .int .u8 0, .int .u8 0, .int .u8 0, .int .u8 0, .int .u8 0] := by kernel_rfl
theorem word_lit_eq : (Value.agg #[.int .u8 0, .int .u8 0, .int .u8 0, .int .u8 0, .int .u8 0, .int .u8 0, .int .u8 0, .int .u8 0, .int .u8 0, .int .u8 0, .int .u8 0, .int .u8 0, .int .u8 0, .int .u8 0, .int .u8 0, .int .u8 0, .int .u8 0, .int .u8 0, .int .u8 0, .int .u8 0, .int .u8 0, .int .u8 0, .int .u8 0, .int .u8 0, .int .u8 0, .int .u8 0, .int .u8 0, .int .u8 0, .int .u8 0, .int .u8 0, .int .u8 0, .int .u8 0]) = .agg (bc 32 fun _ => 0) := by rw [word_lit]
theorem word_zero : (Try.prog.info? 25).bind (·.zero) = some (.agg (bc 32 fun _ => 0)) := by rw [word_lit]; kernel_rfl
theorem wordN_one (W : List Nat) : (wv W).all (·.oneCell') = true := bc_one _ _
/-- The place of a word's cells from the k-th on. -/
noncomputable def ap (b k : Nat) : Option Addr := if k < 32 then some ⟨b, k, none⟩ else (arr_from b 32 (Nat.le_refl _)).choose
theorem ap_lt (b : Nat) {k : Nat} (h : k < 32) : ap b k = some ⟨b, k, none⟩ := if_pos h
theorem arr_fromL (b k : Nat) (hk : k ≤ 32) : ∀ w, (Instr.sliceAt 25 (.pointer (some ⟨b, 0, none⟩)) (some (.int .i64 (k : Int))) none none).run Try.prog w = .ok (.slice (ap b k) (32 - k) (32 - k)) w := by
  by_cases h : k < 32
  · obtain ⟨p', h1, h2⟩ := arr_from b k hk
    rw [ap_lt b h, ← h2 h]; exact h1
  · obtain rfl : k = 32 := by omega
    have h1 := (arr_from b 32 (Nat.le_refl _)).choose_spec.1
    unfold ap
    rw [if_neg (by omega)]; exact h1
theorem k_slc {o : Oper} {a : Act} {ops : Array Oper} {rest : List Oper} {C : World → Prop} {Q : Act → Prop} {v n u : Value} (hw : Region.wanted o (yielded ops a.tmps) = true) (x y : Operand) (t : TypeId) (ho : o.op = .slice t x (some y) none none) (hx : a.eval x = v) (hy : a.eval y = n)
    (hr : ∀ w, (Instr.sliceAt t v (some n) none none).run Try.prog w = .ok u w) (h : KQ ops C Q rest (a.put o.dst u)) : KQ ops C Q (o :: rest) a :=
  k_pure hw (fun w => by unfold execOp; simp only [ho, hx, hy, Option.map_some, Option.map_none]; show Sem.run _ _ w = _; simp only [Sem.run_bind, hr w, Result.andThen_ok]; rfl) h
end Go.Proofs.Ytklpcppdjcedpaa
