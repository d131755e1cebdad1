/- States: a Nonce set behind a Mark. -/
import Derived.Test.YtklpcppdjcedpaaST10
namespace Go.Proofs.Ytklpcppdjcedpaa
open Go.RowKit Go.WideMaps Go.ChangeMaps Go.MapKept
set_option linter.unusedVariables false
set_option linter.unusedSimpArgs false
set_option maxRecDepth 100000
set_option maxHeartbeats 2000000
theorem len_recs1 (ty : TypeId) (g c : Nat) (w : World) : (Builtin.len_ #[46] ty #[.slice (some ⟨g, 0, none⟩) 1 c]).run Try.prog w = .ok (.int .i64 1) w := by
  simp [Builtin.len_, run_underlying recs_ty, goInt, Result.andThen, Builtin.lenOf]
theorem max5 (ty : TypeId) (w : World) : (Builtin.max_ #[3, 3] ty #[.int .i64 5, .int .i64 0]).run Try.prog w = .ok (.int .i64 5) w := by kernel_rfl
section
variable {o : Oper} {a : Act} {w w' : World}
theorem x_lenR1 {g c : Nat} (xo : Operand) (ho : o.op = .call { callee := .builtin .len, args := #[xo], argTypes := #[46] }) (hx : a.eval xo = .slice (some ⟨g, 0, none⟩) 1 c) : (execOp a.eval o).run Try.prog w = .ok (.value (.int .i64 1)) w := by
  unfold execOp
  simp [ho, resolve, invoke, builtin, hx, len_recs1]
theorem x_max5 (xo yo : Operand) (ho : o.op = .call { callee := .builtin .max, args := #[xo, yo], argTypes := #[3, 3] }) (hx : a.eval xo = .int .i64 5) (hy : a.eval yo = .int .i64 0) : (execOp a.eval o).run Try.prog w = .ok (.value (.int .i64 5)) w := by
  unfold execOp
  simp [ho, resolve, invoke, builtin, hx, hy, max5]
end
/-- What is left behind a Nonce that was set behind a Mark. -/
def NonP (B N : Nat) (bS : Nat) (g cap : Nat) (mv : Value) (F : List Nat → Option Nat) (E : List Nat → Nat × Nat) (w w' : World) : Prop :=
  ∃ mv' F' gp cp r, StP B N w' bS mv' (.slice (some ⟨g, 0, none⟩) 1 cap) 1 F' (upE E zA (5, 0)) ∧ RecB w' g 1 (.slice (some ⟨gp, 0, none⟩) 1 cp) (.map (some r)) ∧ w'.cell? ⟨gp, 0, none⟩ = some oldP ∧ w.heap.size ≤ gp ∧ gp < w'.heap.size ∧ ¬ foot bS mv' F' g ∧ ¬ foot bS mv' F' gp ∧ PT (fun j => foot bS mv F j ∨ j = g) w w'
theorem change_non1 (B N : Nat) (w : World) (bS g cap : Nat) (mv : Value) (F : List Nat → Option Nat) (E : List Nat → Nat × Nat) (h : StP B N w bS mv (.slice (some ⟨g, 0, none⟩) 1 cap) 1 F E) (hR : RecB w g 1 (.slice none 0 0) (.map none)) (hg : ¬ foot bS mv F g) (hE : E zA = (0, 0)) (hN : N < 1000000000) :
    Calls Try.prog 23 #[.pointer (some ⟨bS, 0, none⟩), .iface 76 (.agg (nonC zA 5))] w fun e w' => e = .returned (.tuple #[]) ∧ NonP B (N + 1) bS g cap mv F E w w' := by
  have hc := put_non B N w bS mv (.slice (some ⟨g, 0, none⟩) 1 cap) 1 F E zA 5 h zA_ok hN (by decide)
  rw [hE] at hc
  have HR := Lib.hid hR
  have HG := Lib.hid hg
  clear h hE hN hR hg
  go_enter Try.func23, Try.ntmps23
  go_upto_region 0 with (fail)
  try simp only [Act.put, List.setIfInBounds_toArray, List.set_cons_zero, List.set_cons_succ]
  refine wp_region_lit ?_
  refine st_x (v := .pointer (some ⟨bS, 0, none⟩)) rfl (x_val _ (.inl rfl) rfl) ?_; try simp only [Act.put, List.setIfInBounds_toArray, List.set_cons_zero, List.set_cons_succ]
  refine st_x (v := .iface 76 (.agg (nonC zA 5))) rfl (x_val _ (.inl rfl) rfl) ?_; try simp only [Act.put, List.setIfInBounds_toArray, List.set_cons_zero, List.set_cons_succ]
  refine st_callS (args := #[.pointer (some ⟨bS, 0, none⟩), .iface 76 (.agg (nonC zA 5))]) rfl rfl (by simp only [List.map_toArray, List.map_cons, List.map_nil]; rfl) Try.call37 (hc) ?_
  rintro e w1 ⟨rfl, hstep⟩
  refine ⟨_, rfl, ?_⟩
  try simp only [Act.put, List.setIfInBounds_toArray, List.set_cons_zero, List.set_cons_succ]
  refine st_x (v := oldP) rfl (x_val _ (.inr rfl) rfl) ?_; try simp only [Act.put, List.setIfInBounds_toArray, List.set_cons_zero, List.set_cons_succ]
  refine st_end14 ?_
  obtain ⟨mv', FF, h1, h2, h3⟩ := hstep
  have hB := h1.blk
  have hR1 := HR.out.far h2 HG.out
  have hg1 : ¬ foot bS mv' FF g := fun hf => (h3 g hf).elim HG.out (fun hh => by have := HR.out.lt; omega)
  have hfl : ∀ j, foot bS mv' FF j → j < w1.heap.size := fun j hj => (h1.lt hj).2
  have H1 := Lib.hid h1
  have H2 := Lib.hid h2
  clear h1 h2 h3 hc
  generalize hcv : (#[mv', .slice (some ⟨g, 0, none⟩) 1 cap, .int .i64 1] : Array Value) = cv at hB
  have hc1 : cv[1]? = some (.slice (some ⟨g, 0, none⟩) 1 cap) := by rw [← hcv]; rfl
  clear hcv
  go_upto_region 1 with (fail)
  try simp only [Act.put, List.setIfInBounds_toArray, List.set_cons_zero, List.set_cons_succ]
  refine wp_region_lit ?_
  refine st_x (v := .pointer (some ⟨bS, 0, none⟩)) rfl (x_val _ (.inl rfl) rfl) ?_; try simp only [Act.put, List.setIfInBounds_toArray, List.set_cons_zero, List.set_cons_succ]
  refine st_x (v := .pointer (some ⟨bS, 0, none⟩)) rfl (x_nilck _ rfl rfl) ?_; try simp only [Act.put, List.setIfInBounds_toArray, List.set_cons_zero, List.set_cons_succ]
  refine st_x (v := .pointer (some ⟨bS, 1, none⟩)) rfl (x_fa _ _ _ rfl rfl (fa_s1 _ _)) ?_; try simp only [Act.put, List.setIfInBounds_toArray, List.set_cons_zero, List.set_cons_succ]
  refine st_x (v := .slice (some ⟨g, 0, none⟩) 1 cap) rfl (x_cell _ _ rfl rfl (hB.cell hc1) recs_agg) ?_; try simp only [Act.put, List.setIfInBounds_toArray, List.set_cons_zero, List.set_cons_succ]
  refine st_x (v := .int .i64 1) rfl (x_lenR1 _ rfl rfl) ?_; try simp only [Act.put, List.setIfInBounds_toArray, List.set_cons_zero, List.set_cons_succ]
  refine st_x (v := .int .i64 1) rfl (x_val _ (.inr rfl) rfl) ?_; try simp only [Act.put, List.setIfInBounds_toArray, List.set_cons_zero, List.set_cons_succ]
  refine st_end14 ?_
  go_upto_region 2 with (fail)
  try simp only [Act.put, List.setIfInBounds_toArray, List.set_cons_zero, List.set_cons_succ]
  refine k_seq (C := fun w' => w' = w1) rfl ?_
  refine k_in (v := .int .i64 1) rfl (fun w' hw' => x_val _ (.inl rfl) rfl) ?_; try simp only [Act.put, List.setIfInBounds_toArray, List.set_cons_zero, List.set_cons_succ]
  refine k_in (v := .bool true) rfl (fun w' hw' => x_gtrI rfl _ _ _ _ rfl rfl rfl) ?_; try simp only [Act.put, List.setIfInBounds_toArray, List.set_cons_zero, List.set_cons_succ]
  refine k_in (v := .bool true) rfl (fun w' hw' => x_val _ (.inl rfl) rfl) ?_; try simp only [Act.put, List.setIfInBounds_toArray, List.set_cons_zero, List.set_cons_succ]
  refine k_in (v := oldP) rfl (fun w' hw' => x_val _ (.inl rfl) rfl) ?_; try simp only [Act.put, List.setIfInBounds_toArray, List.set_cons_zero, List.set_cons_succ]
  refine k_in (v := .iface 76 (.agg (nonC zA 5))) rfl (fun w' hw' => x_val _ (.inl rfl) rfl) ?_; try simp only [Act.put, List.setIfInBounds_toArray, List.set_cons_zero, List.set_cons_succ]
  refine k_in (v := .bool true) rfl (fun w' hw' => x_bin _ _ _ _ rfl rfl rfl rfl (neP_on _)) ?_; try simp only [Act.put, List.setIfInBounds_toArray, List.set_cons_zero, List.set_cons_succ]
  refine k_in (v := .bool true) rfl (fun w' hw' => x_pickS (c := true) rfl _ _ _ rfl rfl rfl rfl) ?_; try simp only [Act.put, List.setIfInBounds_toArray, List.set_cons_zero, List.set_cons_succ]
  refine k_end ?_
  intro w2 hw2
  subst hw2
  go_upto_region 3 with (fail)
  try simp only [Act.put, List.setIfInBounds_toArray, List.set_cons_zero, List.set_cons_succ]
  refine wp_region_lit ?_
  refine st_x (v := .pointer (some ⟨bS, 0, none⟩)) rfl (x_val _ (.inl rfl) rfl) ?_; try simp only [Act.put, List.setIfInBounds_toArray, List.set_cons_zero, List.set_cons_succ]
  refine st_x (v := .pointer (some ⟨bS, 0, none⟩)) rfl (x_nilck _ rfl rfl) ?_; try simp only [Act.put, List.setIfInBounds_toArray, List.set_cons_zero, List.set_cons_succ]
  refine st_x (v := .pointer (some ⟨bS, 1, none⟩)) rfl (x_fa _ _ _ rfl rfl (fa_s1 _ _)) ?_; try simp only [Act.put, List.setIfInBounds_toArray, List.set_cons_zero, List.set_cons_succ]
  refine st_x (v := .slice (some ⟨g, 0, none⟩) 1 cap) rfl (x_cell _ _ rfl rfl (hB.cell hc1) recs_agg) ?_; try simp only [Act.put, List.setIfInBounds_toArray, List.set_cons_zero, List.set_cons_succ]
  refine st_x (v := .int .i64 1) rfl (x_val _ (.inl rfl) rfl) ?_; try simp only [Act.put, List.setIfInBounds_toArray, List.set_cons_zero, List.set_cons_succ]
  refine st_x (v := .int .i64 0) rfl (x_subI _ _ _ _ rfl rfl rfl rfl) ?_; try simp only [Act.put, List.setIfInBounds_toArray, List.set_cons_zero, List.set_cons_succ]
  refine st_x (v := .pointer (some ⟨g, 0 + 0 * 3, none⟩)) rfl (x_idxS _ _ rfl rfl rfl recs_ty rec_size (by decide)) ?_; try simp only [Act.put, List.setIfInBounds_toArray, List.set_cons_zero, List.set_cons_succ]
  refine st_x (v := oldP) rfl (x_val _ (.inl rfl) rfl) ?_; try simp only [Act.put, List.setIfInBounds_toArray, List.set_cons_zero, List.set_cons_succ]
  refine st_callS (args := #[.pointer (some ⟨g, 0, none⟩), oldP]) rfl rfl (by simp only [List.map_toArray, List.map_cons, List.map_nil]; rfl) Try.call42 (note_any w2 g hR1) ?_
  rintro e w3 ⟨rfl, gp, cp, r, hR3, hcp, hgp, hgl, hP3⟩
  refine ⟨_, rfl, ?_⟩
  try simp only [Act.put, List.setIfInBounds_toArray, List.set_cons_zero, List.set_cons_succ]
  refine st_end14 ?_
  go_wp2
  go_end0
  refine ⟨rfl, mv', FF, gp, cp, r, H1.out.far hP3 (fun j hj e => hg1 (by rw [← e]; exact hj)), hR3, hcp, Nat.le_trans H2.out.size hgp, hgl, hg1, fun hj => by have := hfl gp hj; omega, ?_⟩
  exact (H2.out.mono (fun j _ hj => .inl hj)).trans (hP3.mono (fun j _ hj => .inr hj))
theorem setNonce5 (B N : Nat) (w : World) (bS g cap : Nat) (mv : Value) (F : List Nat → Option Nat) (E : List Nat → Nat × Nat) (h : StP B N w bS mv (.slice (some ⟨g, 0, none⟩) 1 cap) 1 F E) (hR : RecB w g 1 (.slice none 0 0) (.map none)) (hg : ¬ foot bS mv F g) (hE : E zA = (0, 0)) (hN : N < 1000000000) :
    Calls Try.prog 14 #[.pointer (some ⟨bS, 0, none⟩), .agg (av zA), .int .i64 5] w fun e w' => e = .returned (.tuple #[]) ∧ NonP B (N + 1) bS g cap mv F E w w' := by
  have hc := fun w' (hT : Tch [] w w') => change_non1 B N w' bS g cap mv F E (h.call hT) (hR.far (PT.nil (S := fun _ => False) hT) (fun h => h)) hg hE hN
  clear h hR hg hE hN
  have hS := St.start w
  go_enter Try.func14, Try.ntmps14
  go_upto_region 1 with (refine st_box hS rfl 23 _ rfl rfl ?_; clear hS; intro w1 b1 hS)
  try simp only [Act.put, List.setIfInBounds_toArray, List.set_cons_zero, List.set_cons_succ]
  refine wp_region_lit ?_
  refine st_x (v := .pointer (some ⟨bS, 0, none⟩)) rfl (x_val _ (.inl rfl) rfl) ?_; try simp only [Act.put, List.setIfInBounds_toArray, List.set_cons_zero, List.set_cons_succ]
  refine st_x (v := .agg (av zA)) rfl (x_ld _ rfl rfl (hS.get .head) addr_tyY rfl (by rw [arrV_size]; exact addr_sizeY)) ?_; try simp only [Act.put, List.setIfInBounds_toArray, List.set_cons_zero, List.set_cons_succ]
  refine st_x (v := .int .i64 5) rfl (x_val _ (.inl rfl) rfl) ?_; try simp only [Act.put, List.setIfInBounds_toArray, List.set_cons_zero, List.set_cons_succ]
  refine st_x (v := .int .i64 5) rfl (x_max5 _ _ rfl rfl rfl) ?_; try simp only [Act.put, List.setIfInBounds_toArray, List.set_cons_zero, List.set_cons_succ]
  refine st_x (v := .agg (nonC zA 5)) rfl (x_bld (vals := #[(0, .agg (av zA)), (1, .int .i64 5)]) rfl (by simp only [List.map_toArray, List.map_cons, List.map_nil]; rfl) (bld_non5 _ _)) ?_; try simp only [Act.put, List.setIfInBounds_toArray, List.set_cons_zero, List.set_cons_succ]
  refine st_x (v := .iface 76 (.agg (nonC zA 5))) rfl (x_mkI _ _ rfl rfl (mkN _ _)) ?_; try simp only [Act.put, List.setIfInBounds_toArray, List.set_cons_zero, List.set_cons_succ]
  refine st_callS (args := #[.pointer (some ⟨bS, 0, none⟩), .iface 76 (.agg (nonC zA 5))]) rfl rfl (by simp only [List.map_toArray, List.map_cons, List.map_nil]; rfl) Try.call23 (hc w1 hS.frame) ?_
  rintro e w3 ⟨rfl, mv', FF, gp, cp, r, k1, k2, k3, k4, k5, k6, k7, k8⟩
  refine ⟨_, rfl, ?_⟩
  try simp only [Act.put, List.setIfInBounds_toArray, List.set_cons_zero, List.set_cons_succ]
  refine st_end14 ?_
  go_wp2
  go_end0
  exact ⟨rfl, mv', FF, gp, cp, r, k1, k2, k3, Nat.le_trans hS.frame.size k4, k5, k6, k7, (PT.nil hS.frame).trans k8⟩
end Go.Proofs.Ytklpcppdjcedpaa
