/- rlp.Big; the document's Bytes, Big. -/
import Derived.Test.YtklpcppdjcedpaaN1
set_option linter.unusedVariables false
set_option linter.unusedSimpArgs false
namespace Go.Proofs.Ytklpcppdjcedpaa
open Go.RowKit

theorem wordN_type : Try.prog.underlying 25 = some (.array 32 5) := by kernel_rfl
theorem wordN_size : (Try.prog.info? 25).map (·.size) = some 32 := by kernel_rfl
theorem oneN3 {a b c : Value} (ha : a.oneCell' = true) (hb : b.oneCell' = true) (hc : c.oneCell' = true) : (#[a, b, c] : Array Value).all (·.oneCell') = true := by simp [ha, hb, hc]
theorem apartN {bs : List Nat} {w0 w : World} {L : List Ent} {e f : Ent} (h : St bs w0 w (e :: f :: L)) : e.1 ≠ f.1 := (List.pairwise_cons.1 h.apart).1 f List.mem_cons_self
/-- A word of these bytes. -/
def wv (W : List Nat) : Array Value := bc 32 fun i => W.getD i 0
theorem RdA.ofWord {X : List Nat} {w : World} {b : Nat} {t : TypeId} {W : List Nat} (h : Blk w b t (wv W)) (hn : W.length = 32) (hl : ∀ x ∈ W, x < 256) (hb : b ∉ X) : RdA X w (.slice (some ⟨b, 0, none⟩) 32 32) W :=
  ⟨_, _, by rw [hn], by omega, hl, fun _ => ⟨b, 0, rfl, h.lt, hb, fun i hi => by rw [Nat.zero_add]; exact h.cell (bc_get (by omega))⟩⟩
/-- An item of bytes is handed back. -/
def BytesPost (X : List Nat) (L : List Nat) (w : World) (e : Ending) (w' : World) : Prop :=
  Tch [] w w' ∧ ∃ p n c, e = .returned (.agg #[.bool false, .slice p n c, .slice none 0 0]) ∧ RdA X w' (.slice p n c) L
theorem strip_drop : ∀ (W : List Nat) (k : Nat), (∀ i, i < k → W.getD i 0 = 0) → k ≤ W.length → (k = W.length ∨ W.getD k 0 ≠ 0) → stripZ W = W.drop k
  | [], k, _, hk, _ => by
    obtain rfl : k = 0 := by simpa using hk
    rfl
  | x :: r, 0, _, _, h => by
    rcases h with h | h
    · simp at h
    · rw [stripZ_pos r (by simpa using h), List.drop_zero]
  | x :: r, k + 1, h0, hk, h => by
    have hx := h0 0 (by omega)
    simp only [List.getD_cons_zero] at hx
    subst hx
    rw [stripZ_zero, List.drop_succ_cons]
    refine strip_drop r k (fun i hi => ?_) (by simpa using hk) ?_
    · have := h0 (i + 1) (by omega); simpa using this
    · rcases h with h | h
      · left; simpa using h
      · right; simpa using h
end Go.Proofs.Ytklpcppdjcedpaa
