/- The hash of parts that lie in a row; the example that the laws begin with. -/
import Derived.Test.YthchmnhoombecaaGreatK16
import Derived.Test.YthchmnhoombecaaGreatKm
namespace Go.Proofs.YthchmnhoombecaaGreat
open Go.RowKit

theorem RdB.part {w : World} {v : Value} {l : List Nat} (h : RdB w v l) (hl : l.length < 1000000) : PartAt w v l := by
  obtain ⟨p, c, h1, h2, h3, h4⟩ := h
  refine ⟨p, c, h1, h2, hl, h3, fun hn => ?_⟩
  obtain ⟨b, o, h5, h6, h7⟩ := h4 hn
  exact ⟨b, o, h5, h6, fun i hi => ⟨h7 i hi, getD_lt h3 i⟩⟩
theorem cat_list : ∀ (ls : List (List Nat)) (n : Nat), n ≤ ls.length → cat (fun i => ls.getD i []) n = (ls.take n).flatten
  | ls, 0, _ => by simp [cat]
  | ls, n + 1, h => by
    show cat _ n ++ ls.getD n [] = _
    rw [cat_list ls n (by omega), List.take_succ_eq_append_getElem (show n < ls.length by omega), List.flatten_append]
    simp [List.getD_eq_getElem?_getD, List.getElem?_eq_getElem (show n < ls.length by omega)]
/-- The hash of parts that stand in a row of memory. -/
theorem sum_parts (bl : Nat) (ls : List (List Nat)) (w : World) (hn : ls.length < 1000000) (hlt : bl < w.heap.size) (h : ∀ i, i < ls.length → ∃ v, w.cell? ⟨bl, i, none⟩ = some v ∧ RdB w v (ls.getD i []) ∧ (ls.getD i []).length < 1000000) (c : Nat) :
    Calls Tryz.prog 51 #[.slice (some ⟨bl, 0, none⟩) ls.length c] w fun e w' => e = .returned (.agg (wf (hashN ls.flatten))) ∧ Tch [] w w' := by
  have := sum_any bl 0 ls.length c (fun i => ls.getD i []) w hn (fun _ => hlt) (fun i hi => by
    obtain ⟨v, h1, h2, h3⟩ := h i hi
    exact ⟨v, by rw [Nat.zero_add]; exact h1, h2.part h3⟩) (some ⟨bl, 0, none⟩) (fun _ => rfl)
  rw [cat_list ls ls.length (Nat.le_refl _), List.take_length] at this
  exact this
theorem sum_none (w : World) : Calls Tryz.prog 51 #[.slice none 0 0] w fun e w' => e = .returned (.agg (wf (hashN []))) ∧ Tch [] w w' :=
  sum_any 0 0 0 0 (fun _ => []) w (by decide) (by omega) (fun i hi => by omega) none (by omega)
/-- Of one part. -/
theorem sum_one (bl : Nat) (v : Value) (l : List Nat) (w : World) (hc : w.cell? ⟨bl, 0, none⟩ = some v) (hlt : bl < w.heap.size) (hv : RdB w v l) (hl : l.length < 1000000) :
    Calls Tryz.prog 51 #[.slice (some ⟨bl, 0, none⟩) 1 1] w fun e w' => e = .returned (.agg (wf (hashN l))) ∧ Tch [] w w' := by
  have := sum_parts bl [l] w (show 1 < 1000000 by decide) hlt (fun i hi => by
    obtain rfl : i = 0 := by simpa using hi
    exact ⟨v, hc, hv, hl⟩) 1
  simpa using this
theorem hash_rd {w : World} {b : Nat} {t : TypeId} (l : List Nat) (h : Blk w b t (wf (hashN l))) : RdB w (.slice (some ⟨b, 0, none⟩) 32 32) ((List.range 32).map (hashN l)) := by
  rw [← bc_wf] at h
  exact RdB.blk h (fun i _ => outN_lt _ i)
theorem slice_all {P : Program} {ty n e b : Nat} (hu : P.underlying ty = some (.array n e)) (he : (P.info? e).map (·.size) = some 1) (hn : n ≠ 0) (w : World) :
    (Instr.sliceAt ty (.pointer (some ⟨b, 0, none⟩)) none none none).run P w = .ok (.slice (some ⟨b, 0, none⟩) n n) w := by
  have hadd : (⟨b, 0, none⟩ : Addr).add (0 * 1) = ⟨b, 0, none⟩ := rfl
  have h1 : (sizeOf e).run P w = .ok 1 w := by
    cases hq : P.info? e with
    | none => simp [hq] at he
    | some i =>
      have hs : i.size = 1 := by simpa [hq] using he
      simp [sizeOf, typeInfo, hq, hs]
  simp only [Instr.sliceAt, Sem.run_bind, run_underlying hu w, Result.andThen_ok, Instr.sureAddr, Instr.sliceBounds, Sem.run_pure, h1, hadd, if_false, hn, Nat.sub_zero]
theorem slice_word (b : Nat) (w : World) : (Instr.sliceAt 35 (.pointer (some ⟨b, 0, none⟩)) none none none).run Tryz.prog w = .ok (.slice (some ⟨b, 0, none⟩) 32 32) w := slice_all word_type u8_size (by decide) w
theorem k_slw {o : Oper} {a : Act} {ops : Array Oper} {rest : List Oper} {C : World → Prop} {Q : Act → Prop} {b : Nat} (hw : Region.wanted o (yielded ops a.tmps) = true) (x : Operand) (ho : o.op = .slice 35 x none none none) (hx : a.eval x = .pointer (some ⟨b, 0, none⟩))
    (h : KQ ops C Q rest (a.put o.dst (.slice (some ⟨b, 0, none⟩) 32 32))) : KQ ops C Q (o :: rest) a :=
  k_pure hw (fun w => by unfold execOp; simp only [ho, hx, Option.map_none]; show Sem.run _ _ w = _; simp only [Sem.run_bind, slice_word b w, Result.andThen_ok]; rfl) h
end Go.Proofs.YthchmnhoombecaaGreat
