/- States: the two side by side. -/
import Derived.Test.YtklpcppdjcedpaaST20
import Derived.Test.YtklpcppdjcedpaaDT4
namespace Go.Proofs.Ytklpcppdjcedpaa
open Go.RowKit Go.WideMaps Go.ChangeMaps Go.MapKept
set_option linter.unusedVariables false
set_option linter.unusedSimpArgs false
set_option maxRecDepth 100000
set_option maxHeartbeats 2000000
/-- The state of the code and the document's, side by side. -/
def Two (B N : Nat) (u : World) (bS bR : Nat) (E : List Nat → Nat × Nat) (L : AL) : Prop :=
  ∃ mv F lv, StP B N u bS mv (.slice none 0 0) 0 F E ∧ DocP B u bR lv L ∧ ∀ j, foot bS mv F j → ¬ dfoot bR lv j
section
variable {B N : Nat} {u u' : World} {bS bR : Nat} {E : List Nat → Nat × Nat} {L : AL}
theorem Two.call (h : Two B N u bS bR E L) (hT : Tch [] u u') : Two B N u' bS bR E L := by
  obtain ⟨mv, F, lv, h1, h2, h3⟩ := h
  exact ⟨mv, F, lv, h1.call hT, h2.call hT, h3⟩
theorem Two.size (h : Two B N u bS bR E L) : B ≤ u.heap.size := by
  obtain ⟨mv, F, lv, h1, h2, h3⟩ := h
  exact Nat.le_trans h1.base (Nat.le_of_lt h1.blk.lt)
theorem Two.stepS {mv lv : Value} {F : List Nat → Option Nat} {M : Nat} {E' : List Nat → Nat × Nat} (h1 : StP B N u bS mv (.slice none 0 0) 0 F E) (h2 : DocP B u bR lv L) (h3 : ∀ j, foot bS mv F j → ¬ dfoot bR lv j) (h : StepP B M bS mv F (.slice none 0 0) 0 E' u u') : Two B M u' bS bR E' L ∧ Below B u u' := by
  obtain ⟨mv', F', g1, g2, g3⟩ := h
  refine ⟨⟨mv', F', lv, g1, h2.far g2 (fun hf => h3 bR hf (.inl rfl)) (fun g hg hf => h3 g hf (.inr hg)), fun j hj hd => ?_⟩, below_of_pt g2 (fun k hk => (h1.lt hk).1) (Nat.le_trans h1.base (Nat.le_of_lt h1.blk.lt))⟩
  rcases g3 j hj with g | g
  · exact h3 j g hd
  · have := (h2.lt hd).2; omega
theorem Two.stepD {mv lv : Value} {F : List Nat → Option Nat} {L' : AL} (h1 : StP B N u bS mv (.slice none 0 0) 0 F E) (h2 : DocP B u bR lv L) (h3 : ∀ j, foot bS mv F j → ¬ dfoot bR lv j) (h : DStep B bR lv L' u u') : Two B N u' bS bR E L' ∧ Below B u u' := by
  obtain ⟨lv', g1, g2, g3⟩ := h
  refine ⟨⟨mv, F, lv', h1.far g2 (fun j hj hd => h3 j hj hd), g1, fun j hj hd => ?_⟩, below_of_pt g2 (fun k hk => (h2.lt hk).1) (Nat.le_trans h1.base (Nat.le_of_lt h1.blk.lt))⟩
  rcases g3 j hd with g | g
  · exact h3 j hj g
  · have := (h1.lt hj).2; omega
theorem Two.setS (h : Two B N u bS bR E L) (A : List Nat) (y : Nat) (hA : Ad A) (hN : N < 100000) (hy : y < M256) : Calls Try.prog 7 #[.pointer (some ⟨bS, 0, none⟩), .agg (av A), .agg (wcells y)] u fun e u' => e = .returned (.tuple #[]) ∧ Two B (N + 1) u' bS bR (upE E A ((E A).1, y)) L ∧ Below B u u' := by
  obtain ⟨mv, F, lv, h1, h2, h3⟩ := h
  exact (setBal_any B N u bS mv 0 F E A y h1 hA (by omega) hy).mono fun e u' ⟨he, hs⟩ => ⟨he, Two.stepS h1 h2 h3 hs⟩
theorem Two.moveS (h : Two B N u bS bR E L) (f t : List Nat) (x : Nat) (hf : Ad f) (ht : Ad t) (hN : N < 100000) (hx : x < M256) : Calls Try.prog 9 #[.pointer (some ⟨bS, 0, none⟩), .agg (av f), .agg (av t), .agg (wcells x)] u fun e u' => e = .returned (.bool (mvOK E f t x)) ∧ Two B (N + 2) u' bS bR (mvR E f t x) L ∧ Below B u u' := by
  obtain ⟨mv, F, lv, h1, h2, h3⟩ := h
  exact (move_any B N u bS mv 0 F E f t x h1 hf ht (by omega) hx).mono fun e u' ⟨he, hs⟩ => ⟨he, Two.stepS h1 h2 h3 hs⟩
theorem Two.setD (h : Two B N u bS bR E L) (A : List Nat) (y : Nat) (hA : Ad A) (hL : L.length < 100000) (hy : y < M256) : Calls Try.prog 8 #[.pointer (some ⟨bR, 0, none⟩), .agg (av A), .agg (wcells y)] u fun e u' => e = .returned (.tuple #[]) ∧ ∃ L', (Two B N u' bS bR E L' ∧ Below B u u') ∧ (∀ X, balL L' X = if X = A then y else balL L X) ∧ L'.length ≤ L.length + 1 := by
  obtain ⟨mv, F, lv, h1, h2, h3⟩ := h
  exact (rsetBal_any B u bR lv L A y h2 hA (by omega) hy).mono fun e u' ⟨he, L', hs, hb, hl⟩ => ⟨he, L', Two.stepD h1 h2 h3 hs, hb, hl⟩
theorem Two.moveD (h : Two B N u bS bR E L) (f t : List Nat) (x : Nat) (hf : Ad f) (ht : Ad t) (hL : L.length < 100000) (hx : x < M256) : Calls Try.prog 10 #[.pointer (some ⟨bR, 0, none⟩), .agg (av f), .agg (av t), .agg (wcells x)] u fun e u' => e = .returned (.bool (mvOK (EL L) f t x)) ∧ ∃ L', (Two B N u' bS bR E L' ∧ Below B u u') ∧ (∀ X, balL L' X = (mvR (EL L) f t x X).2) ∧ L'.length ≤ L.length + 2 := by
  obtain ⟨mv, F, lv, h1, h2, h3⟩ := h
  exact (rmove_any B u bR lv L f t x h2 hf ht (by omega) hx).mono fun e u' ⟨he, L', hs, hb, hl⟩ => ⟨he, L', Two.stepD h1 h2 h3 hs, hb, hl⟩
theorem Two.bal (h : Two B N u bS bR E L) (A : List Nat) (hA : Ad A) : Calls Try.prog 11 #[.pointer (some ⟨bS, 0, none⟩), .agg (av A)] u fun e u' => e = .returned (.agg (wcells (E A).2)) ∧ Tch [] u u' := by
  obtain ⟨mv, F, lv, h1, h2, h3⟩ := h
  exact balance_any B N u bS mv _ 0 F E A h1 hA
theorem Two.get (h : Two B N u bS bR E L) (A : List Nat) (hA : Ad A) : Calls Try.prog 12 #[.pointer (some ⟨bR, 0, none⟩), .agg (av A)] u fun e u' => e = .returned (.agg (dC A (balL L A))) ∧ Tch [] u u' := by
  obtain ⟨mv, F, lv, h1, h2, h3⟩ := h
  exact rget_any B u bR lv L A h2 hA
theorem Two.ok (h : Two B N u bS bR E L) (A : List Nat) (hA : Ad A) : (E A).2 < M256 := by
  obtain ⟨mv, F, lv, h1, h2, h3⟩ := h
  exact (h1.ok A hA).2
end
theorem upE_EL {L L' : AL} {A : List Nat} {y : Nat} (h : ∀ X, balL L' X = if X = A then y else balL L X) : upE (EL L) A ((EL L A).1, y) = EL L' := by
  funext X
  unfold upE EL
  rw [h X]
  split <;> rfl
theorem mvR_EL {L L' : AL} {f t : List Nat} {x : Nat} (h : ∀ X, balL L' X = (mvR (EL L) f t x X).2) : mvR (EL L) f t x = EL L' := by
  funext X
  have h1 : (mvR (EL L) f t x X).1 = 0 := by
    unfold mvR mvE upE EL
    repeat' split
    all_goals first | rfl | (dsimp only; repeat' split
                             all_goals rfl)
  have h2 := h X
  show _ = (0, balL L' X)
  rw [h2, ← h1]
theorem fld_bal (A : List Nat) (y : Nat) (w : World) : (Instr.field 37 (.agg (dC A y)) 2).run Try.prog w = .ok (.agg (wcells y)) w := by kernel_rfl
end Go.Proofs.Ytklpcppdjcedpaa
