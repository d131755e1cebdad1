/- CompactFunc of nodes: the walk. -/
import Derived.Test.YtanmpcgackfpaaaGreatM01
import Derived.Test.YtanmpcgackfpaaaGreatM28
import Derived.Test.YtanmpcgackfpaaaGreatM32
import Derived.Test.YtanmpcgackfpaaaGreatM33
set_option linter.unusedVariables false
set_option linter.unusedSimpArgs false
namespace Go.Proofs.YtanmpcgackfpaaaGreat
section
open Go.RowKit Tr
set_option maxRecDepth 100000
theorem nd_size1 : (Tryz.prog.info? 43).map (·.size) = some 33 := by kernel_rfl
section
variable {a : Act} {w : World} {o : Oper} {ops : Array Oper} {rest : List Oper} {Q : Exit → Act → World → Prop}
end
end
section
open Go.RowKit Tr
set_option maxRecDepth 100000
section
variable {o : Oper} {a : Act} {ops : Array Oper} {rest : List Oper} {C : World → Prop} {Q : Act → Prop}
theorem k_idxNz {g n c i : Nat} (hw : Region.wanted o (yielded ops a.tmps) = true) (x y : Operand) (ho : o.op = .indexAddr 38 x y) (hx : a.eval x = .slice (some ⟨g, 0, none⟩) n c) (hy : a.eval y = .int .i64 (i : Int)) (hn : i < n)
    (h : KQ ops C Q rest (a.put o.dst (.pointer (some ⟨g, i * 33, none⟩)))) : KQ ops C Q (o :: rest) a := k_idxNj hw x y ho hx hy hn (by rw [Nat.zero_add]; exact h)
end
theorem nd_struct : ∃ d, Tryz.prog.underlying 43 = some (.struct d) := struct_of (by kernel_rfl)
end
section
open Go.RowKit Tr
set_option maxRecDepth 100000
theorem less_lt : ∀ l m : List Nat, (∀ x ∈ l, x < 256) → (∀ x ∈ m, x < 256) → Op.bytesLess (l.map UInt8.ofNat) (m.map UInt8.ofNat) = decide (lt l m)
  | [], [], _, _ => by rw [decide_eq_false (show ¬ lt [] [] from fun h => h)]; rfl
  | [], _ :: _, _, _ => by rw [decide_eq_true (show lt [] (_ :: _) from trivial)]; rfl
  | x :: l, [], _, _ => by rw [decide_eq_false (show ¬ lt (x :: l) [] from fun h => h)]; rfl
  | x :: l, y :: m, hl, hm => by
    have ih := less_lt l m (fun z hz => hl z (List.mem_cons_of_mem _ hz)) (fun z hz => hm z (List.mem_cons_of_mem _ hz))
    have hx := hl x List.mem_cons_self
    have hy := hm y List.mem_cons_self
    have e1 : (UInt8.ofNat x < UInt8.ofNat y) ↔ x < y := by
      rw [UInt8.lt_iff_toNat_lt]; simp [Nat.mod_eq_of_lt hx, Nat.mod_eq_of_lt hy]
    have e2 : (UInt8.ofNat x = UInt8.ofNat y) ↔ x = y := by
      rw [← UInt8.toNat_inj]; simp [Nat.mod_eq_of_lt hx, Nat.mod_eq_of_lt hy]
    show (decide (UInt8.ofNat x < UInt8.ofNat y) || (UInt8.ofNat x == UInt8.ofNat y && Op.bytesLess _ _)) = _
    rw [ih]
    by_cases h : x < y
    · rw [decide_eq_true (e1.2 h), Bool.true_or, decide_eq_true (show lt (x :: l) (y :: m) from .inl h)]
    · rw [decide_eq_false (fun q => h (e1.1 q)), Bool.false_or]
      by_cases h2 : x = y
      · subst h2
        rw [beq_self_eq_true, Bool.true_and]
        by_cases h3 : lt l m
        · rw [decide_eq_true h3, decide_eq_true (show lt (x :: l) (x :: m) from .inr ⟨rfl, h3⟩)]
        · rw [decide_eq_false h3, decide_eq_false (fun q : lt (x :: l) (x :: m) => q.elim (Nat.lt_irrefl _) (fun q => h3 q.2))]
      · rw [beq_eq_false_iff_ne.2 (fun q => h2 (e2.1 q)), Bool.false_and, decide_eq_false (fun q : lt (x :: l) (y :: m) => q.elim h (fun q => h2 q.1))]
def WL (f : Nat → Nat) : List Nat := (List.range 32).map f
theorem WL_lt {f : Nat → Nat} (h : ∀ i, i < 32 → f i < 256) : ∀ x ∈ WL f, x < 256 := fun x hx => by
  obtain ⟨i, hi, rfl⟩ := List.mem_map.1 hx
  exact h i (List.mem_range.1 hi)
theorem HL_WL (l : List Nat) : HL l = WL (hashN l) := rfl
theorem WL_rd {w : World} {b : Nat} {t : TypeId} {f : Nat → Nat} (h : Blk w b t (wf f)) (hf : ∀ i, i < 32 → f i < 256) : RdB w (.slice (some ⟨b, 0, none⟩) 32 32) (WL f) := by
  rw [← bc_wf] at h
  exact RdB.blk h hf
section
variable {o : Oper} {a : Act} {ops : Array Oper} {rest : List Oper} {C : World → Prop} {Q : Act → Prop}
theorem k_strLt {l m : List Nat} (hw : Region.wanted o (yielded ops a.tmps) = true) (x y : Operand) (yt : TypeId) (ho : o.op = .binOp .lss 9 x y yt) (hx : a.eval x = .string (strB l)) (hy : a.eval y = .string (strB m)) (hl : ∀ x ∈ l, x < 256) (hm : ∀ x ∈ m, x < 256)
    (h : KQ ops C Q rest (a.put o.dst (.bool (decide (lt l m))))) : KQ ops C Q (o :: rest) a :=
  qd6 hw (fun w => by
    have e : Op.bytesLess (strB l).toList (strB m).toList = decide (lt l m) := by rw [strB_list, strB_list]; exact less_lt l m hl hm
    unfold execOp; simp only [ho, hx, hy]; show Sem.run _ _ w = _; simp [eqGuard, binOp, Op.stringOp, e]) h
end
end
section
open Go.RowKit Tr
set_option maxRecDepth 100000
theorem Less_any (f g : Nat → Nat) (w : World) (hf : ∀ i, i < 32 → f i < 256) (hg : ∀ i, i < 32 → g i < 256) :
    Calls Tryz.prog 13 #[.agg (wf f), .agg (wf g)] w fun e w' => e = .returned (.bool (decide (lt (WL f) (WL g)))) ∧ Tch [] w w' := by
  have HFG := hQz (And.intro (WL_lt hf) (WL_lt hg))
  go_enter Tryz.func13, Tryz.ntmps13
  go_upto_region 1 with (fail)
  have hB1 : Blk ((w.alloc (.cells (wf f) 32)).alloc (.cells (wf g) 32)) w.heap.size 32 (wf f) := (Blk.new w _ _).alloc _
  have hB2 : Blk ((w.alloc (.cells (wf f) 32)).alloc (.cells (wf g) 32)) (w.heap.size + 1) 32 (wf g) := by
    have := Blk.new (w.alloc (.cells (wf f) 32)) 32 (wf g)
    rwa [show (w.alloc (.cells (wf f) 32)).heap.size = w.heap.size + 1 from by simp] at this
  have hT : Tch [] w ((w.alloc (.cells (wf f) 32)).alloc (.cells (wf g) 32)) := ((Tch.refl _ _).alloc _).alloc _
  generalize ((w.alloc (.cells (wf f) 32)).alloc (.cells (wf g) 32)) = W at hB1 hB2 hT ⊢
  have H1 := hQz (fun (w' : World) (h : Tch [] W w') => WL_rd (h.blk hB1 (by simp)) hf)
  have H2 := hQz (fun (w' : World) (h : Tch [] W w') => WL_rd (h.blk hB2 (by simp)) hg)
  refine qb7 (C := fun w' => Tch [] W w') (by kernel_rfl) (by kernel_rfl) ((Tch.refl _ _).drew) ?_
  refine k_slw rfl _ rfl rfl ?_; try simp only [Act.put, ppA, ppB, ppC]
  refine k_conv (l := WL f) rfl _ rfl rfl (fun w' h => H1.out w' h) ?_; try simp only [Act.put, ppA, ppB, ppC]
  refine k_slw rfl _ rfl rfl ?_; try simp only [Act.put, ppA, ppB, ppC]
  refine k_conv (l := WL g) rfl _ rfl rfl (fun w' h => H2.out w' h) ?_; try simp only [Act.put, ppA, ppB, ppC]
  refine k_strLt rfl _ _ _ rfl rfl rfl HFG.out.1 HFG.out.2 ?_; try simp only [Act.put, ppA, ppB, ppC]
  refine qk8 rfl _ rfl rfl ?_; try simp only [Act.put, ppA, ppB, ppC]
  refine qc8 ?_; try simp only [Act.put, ppA, ppB, ppC]
  intro w2 hT2
  go_wp2
  go_ret
  exact ⟨rfl, hT.trans hT2⟩
end
end Go.Proofs.YtanmpcgackfpaaaGreat
