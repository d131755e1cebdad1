/- States: change without records, SetBalance; at, Balance, Nonce; New of nothing. -/
import Derived.Test.YtklpcppdjcedpaaST5
namespace Go.Proofs.Ytklpcppdjcedpaa
open Go.RowKit Go.WideMaps Go.ChangeMaps Go.MapKept
set_option linter.unusedVariables false
set_option linter.unusedSimpArgs false
set_option maxRecDepth 100000
set_option maxHeartbeats 1000000
theorem bld_bal (A : List Nat) (x : Nat) (w : World) : (Instr.build 62 #[(0, .agg (av A)), (1, .agg (wcells x))]).run Try.prog w = .ok (.agg (balC A x)) w := by kernel_rfl
theorem bld_non (A : List Nat) (n : Int) (w : World) : (Instr.build 76 #[(0, .agg (av A)), (1, .int .i64 n)]).run Try.prog w = .ok (.agg ((av A).toList ++ [Value.int .i64 n]).toArray) w := by kernel_rfl
theorem fld_n (n x : Nat) (w : World) : (Instr.field 69 (.agg (acA n x)) 0).run Try.prog w = .ok (.int .i64 (n : Int)) w := by kernel_rfl
theorem fld_x (n x : Nat) (w : World) : (Instr.field 69 (.agg (acA n x)) 1).run Try.prog w = .ok (.agg (wcells x)) w := by kernel_rfl
theorem len_recs0 (ty : TypeId) (w : World) : (Builtin.len_ #[46] ty #[.slice none 0 0]).run Try.prog w = .ok (.int .i64 0) w := by kernel_rfl
section
variable {o : Oper} {a : Act} {w w' : World}
theorem x_bld {ty : TypeId} {parts : Array (Nat × Operand)} {vals : Array (Nat × Value)} {v : Value} (ho : o.op = .build ty parts) (hv : (parts.map fun (i, x) => (i, a.eval x)) = vals) (hr : (Instr.build ty vals).run Try.prog w = .ok v w) : (execOp a.eval o).run Try.prog w = .ok (.value v) w := by
  subst hv
  unfold execOp
  simp only [ho, Sem.run_bind, hr, Result.andThen_ok, Sem.run_pure]
theorem x_fld {ty : TypeId} {u v : Value} (x : Operand) (i : Nat) (ho : o.op = .field ty x i) (hx : a.eval x = u) (hr : (Instr.field ty u i).run Try.prog w = .ok v w) : (execOp a.eval o).run Try.prog w = .ok (.value v) w := by
  unfold execOp
  simp only [ho, hx, Sem.run_bind, hr, Result.andThen_ok, Sem.run_pure]
theorem x_lenR0 (xo : Operand) (ho : o.op = .call { callee := .builtin .len, args := #[xo], argTypes := #[46] }) (hx : a.eval xo = .slice none 0 0) : (execOp a.eval o).run Try.prog w = .ok (.value (.int .i64 0)) w := by
  unfold execOp
  simp [ho, resolve, invoke, builtin, hx, len_recs0]
theorem x_gtrI {m n : Int} {r : Bool} (hr : decide (n < m) = r) (ty yt : TypeId) (xo yo : Operand) (ho : o.op = .binOp .gtr ty xo yo yt) (hxe : a.eval xo = .int .i64 m) (hye : a.eval yo = .int .i64 n) : (execOp a.eval o).run Try.prog w = .ok (.value (.bool r)) w := by
  unfold execOp; simp only [ho, hxe, hye]; show Sem.run _ _ w = _; simp [eqGuard, binOp, Op.intCmp, ← hr]
theorem x_lssI {m n : Int} {r : Bool} (hr : decide (m < n) = r) (ty yt : TypeId) (xo yo : Operand) (ho : o.op = .binOp .lss ty xo yo yt) (hxe : a.eval xo = .int .i64 m) (hye : a.eval yo = .int .i64 n) : (execOp a.eval o).run Try.prog w = .ok (.value (.bool r)) w := by
  unfold execOp; simp only [ho, hxe, hye]; show Sem.run _ _ w = _; simp [eqGuard, binOp, Op.intCmp, ← hr]
end
theorem StepP.of {B M : Nat} {bS : Nat} {mv rv : Value} {F : List Nat → Option Nat} {k : Int} {E : List Nat → Nat × Nat} {w u w' u' : World} (hT : Tch [] w u) (h : StepP B M bS mv F rv k E u w') (hT' : Tch [] w' u') : StepP B M bS mv F rv k E w u' := by
  obtain ⟨mv', F', h1, h2, h3⟩ := h
  exact ⟨mv', F', h1.call hT', ((PT.nil hT).trans h2).trans (PT.nil hT'), fun j hj => (h3 j hj).imp id (fun g => Nat.le_trans hT.size g)⟩
/-- A Balance is changed where nothing is recorded. -/
theorem change_bal (B N : Nat) (w : World) (bS : Nat) (mv : Value) (k : Int) (F : List Nat → Option Nat) (E : List Nat → Nat × Nat) (A : List Nat) (y : Nat) (h : StP B N w bS mv (.slice none 0 0) k F E) (hA : Ad A) (hN : N < 1000000000) (hy : y < M256) :
    Calls Try.prog 23 #[.pointer (some ⟨bS, 0, none⟩), .iface 62 (.agg (balC A y))] w fun e w' => e = .returned (.tuple #[]) ∧ StepP B (N + 1) bS mv F (.slice none 0 0) k (upE E A ((E A).1, y)) w w' := by
  have hc := put_bal B N w bS mv (.slice none 0 0) k F E A y h hA hN hy
  clear h hA hN hy
  go_enter Try.func23, Try.ntmps23
  go_upto_region 0 with (fail)
  try simp only [Act.put, List.setIfInBounds_toArray, List.set_cons_zero, List.set_cons_succ]
  refine wp_region_lit ?_
  refine st_x (v := .pointer (some ⟨bS, 0, none⟩)) rfl (x_val _ (.inl rfl) rfl) ?_; try simp only [Act.put, List.setIfInBounds_toArray, List.set_cons_zero, List.set_cons_succ]
  refine st_x (v := .iface 62 (.agg (balC A y))) rfl (x_val _ (.inl rfl) rfl) ?_; try simp only [Act.put, List.setIfInBounds_toArray, List.set_cons_zero, List.set_cons_succ]
  refine st_callS (args := #[.pointer (some ⟨bS, 0, none⟩), .iface 62 (.agg (balC A y))]) rfl rfl (by simp only [List.map_toArray, List.map_cons, List.map_nil]; rfl) Try.call37 (hc) ?_
  rintro e w1 ⟨rfl, hstep⟩
  refine ⟨_, rfl, ?_⟩
  try simp only [Act.put, List.setIfInBounds_toArray, List.set_cons_zero, List.set_cons_succ]
  refine st_x (v := .iface 62 (.agg (balC A (E A).2))) rfl (x_val _ (.inr rfl) rfl) ?_; try simp only [Act.put, List.setIfInBounds_toArray, List.set_cons_zero, List.set_cons_succ]
  refine st_end14 ?_
  obtain ⟨mv', F', h1, h2, h3⟩ := hstep
  have hB := h1.blk
  have HS := Lib.hid (show StepP B (N + 1) bS mv F (.slice none 0 0) k (upE E A ((E A).1, y)) w w1 from ⟨mv', F', h1, h2, h3⟩)
  clear h1 h2 h3 hc
  generalize hcv : (#[mv', .slice none 0 0, .int .i64 k] : Array Value) = cv at hB
  have hc1 : cv[1]? = some (.slice none 0 0) := by rw [← hcv]; rfl
  clear hcv
  go_upto_region 1 with (fail)
  try simp only [Act.put, List.setIfInBounds_toArray, List.set_cons_zero, List.set_cons_succ]
  refine wp_region_lit ?_
  refine st_x (v := .pointer (some ⟨bS, 0, none⟩)) rfl (x_val _ (.inl rfl) rfl) ?_; try simp only [Act.put, List.setIfInBounds_toArray, List.set_cons_zero, List.set_cons_succ]
  refine st_x (v := .pointer (some ⟨bS, 0, none⟩)) rfl (x_nilck _ rfl rfl) ?_; try simp only [Act.put, List.setIfInBounds_toArray, List.set_cons_zero, List.set_cons_succ]
  refine st_x (v := .pointer (some ⟨bS, 1, none⟩)) rfl (x_fa _ _ _ rfl rfl (fa_s1 _ _)) ?_; try simp only [Act.put, List.setIfInBounds_toArray, List.set_cons_zero, List.set_cons_succ]
  refine st_x (v := .slice none 0 0) rfl (x_cell _ _ rfl rfl (hB.cell hc1) recs_agg) ?_; try simp only [Act.put, List.setIfInBounds_toArray, List.set_cons_zero, List.set_cons_succ]
  refine st_x (v := .int .i64 0) rfl (x_lenR0 _ rfl rfl) ?_; try simp only [Act.put, List.setIfInBounds_toArray, List.set_cons_zero, List.set_cons_succ]
  refine st_x (v := .int .i64 0) rfl (x_val _ (.inr rfl) rfl) ?_; try simp only [Act.put, List.setIfInBounds_toArray, List.set_cons_zero, List.set_cons_succ]
  refine st_end14 ?_
  go_upto_region 2 with (fail)
  try simp only [Act.put, List.setIfInBounds_toArray, List.set_cons_zero, List.set_cons_succ]
  refine k_seq (C := fun w' => w' = w1) rfl ?_
  refine k_in (v := .int .i64 0) rfl (fun w' hw' => x_val _ (.inl rfl) rfl) ?_; try simp only [Act.put, List.setIfInBounds_toArray, List.set_cons_zero, List.set_cons_succ]
  refine k_in (v := .bool false) rfl (fun w' hw' => x_gtrI rfl _ _ _ _ rfl rfl rfl) ?_; try simp only [Act.put, List.setIfInBounds_toArray, List.set_cons_zero, List.set_cons_succ]
  refine k_in (v := .bool false) rfl (fun w' hw' => x_val _ (.inl rfl) rfl) ?_; try simp only [Act.put, List.setIfInBounds_toArray, List.set_cons_zero, List.set_cons_succ]
  refine k_skip (j := 2) (b := false) rfl rfl rfl rfl rfl ?_; try simp only [Act.put, List.setIfInBounds_toArray, List.set_cons_zero, List.set_cons_succ]
  refine k_skip (j := 2) (b := false) rfl rfl rfl rfl rfl ?_; try simp only [Act.put, List.setIfInBounds_toArray, List.set_cons_zero, List.set_cons_succ]
  refine k_skip (j := 2) (b := false) rfl rfl rfl rfl rfl ?_; try simp only [Act.put, List.setIfInBounds_toArray, List.set_cons_zero, List.set_cons_succ]
  refine k_in (v := .bool false) rfl (fun w' hw' => x_pickS (c := false) rfl _ _ _ rfl rfl rfl rfl) ?_; try simp only [Act.put, List.setIfInBounds_toArray, List.set_cons_zero, List.set_cons_succ]
  refine k_end ?_
  intro w2 hw2
  subst hw2
  go_wp2
  go_end0
  exact ⟨rfl, HS.out⟩
theorem setBal_any (B N : Nat) (w : World) (bS : Nat) (mv : Value) (k : Int) (F : List Nat → Option Nat) (E : List Nat → Nat × Nat) (A : List Nat) (y : Nat) (h : StP B N w bS mv (.slice none 0 0) k F E) (hA : Ad A) (hN : N < 1000000000) (hy : y < M256) :
    Calls Try.prog 7 #[.pointer (some ⟨bS, 0, none⟩), .agg (av A), .agg (wcells y)] w fun e w' => e = .returned (.tuple #[]) ∧ StepP B (N + 1) bS mv F (.slice none 0 0) k (upE E A ((E A).1, y)) w w' := by
  have hc := fun w' (hT : Tch [] w w') => change_bal B N w' bS mv k F E A y (h.call hT) hA hN hy
  clear h hA hN hy
  have hS := St.start w
  go_enter Try.func7, Try.ntmps7
  go_upto_region 0 with (fail)
  try simp only [Act.put, List.setIfInBounds_toArray, List.set_cons_zero, List.set_cons_succ]
  refine wp_region_lit ?_
  refine st_box hS rfl 23 _ rfl rfl ?_; clear hS; intro w1 b1 hS; try simp only [Act.put, List.setIfInBounds_toArray, List.set_cons_zero, List.set_cons_succ]
  refine st_box hS rfl 25 _ rfl rfl ?_; clear hS; intro w2 b2 hS; try simp only [Act.put, List.setIfInBounds_toArray, List.set_cons_zero, List.set_cons_succ]
  refine st_end14 ?_
  go_upto_region 1 with (fail)
  try simp only [Act.put, List.setIfInBounds_toArray, List.set_cons_zero, List.set_cons_succ]
  refine wp_region_lit ?_
  refine st_x (v := .pointer (some ⟨bS, 0, none⟩)) rfl (x_val _ (.inl rfl) rfl) ?_; try simp only [Act.put, List.setIfInBounds_toArray, List.set_cons_zero, List.set_cons_succ]
  refine st_x (v := .agg (av A)) rfl (x_ld _ rfl rfl (hS.get (.tail .head)) addr_tyY rfl (by rw [arrV_size]; exact addr_sizeY)) ?_; try simp only [Act.put, List.setIfInBounds_toArray, List.set_cons_zero, List.set_cons_succ]
  refine st_x (v := .agg (wcells y)) rfl (x_ld _ rfl rfl (hS.get .head) wordN_type rfl (by rw [wc_size]; exact wordN_size)) ?_; try simp only [Act.put, List.setIfInBounds_toArray, List.set_cons_zero, List.set_cons_succ]
  refine st_x (v := .agg (balC A y)) rfl (x_bld (vals := #[(0, .agg (av A)), (1, .agg (wcells y))]) rfl (by simp only [List.map_toArray, List.map_cons, List.map_nil]; rfl) (bld_bal _ _ _)) ?_; try simp only [Act.put, List.setIfInBounds_toArray, List.set_cons_zero, List.set_cons_succ]
  refine st_x (v := .iface 62 (.agg (balC A y))) rfl (x_mkI _ _ rfl rfl (mkB _ _)) ?_; try simp only [Act.put, List.setIfInBounds_toArray, List.set_cons_zero, List.set_cons_succ]
  refine st_callS (args := #[.pointer (some ⟨bS, 0, none⟩), .iface 62 (.agg (balC A y))]) rfl rfl (by simp only [List.map_toArray, List.map_cons, List.map_nil]; rfl) Try.call23 (hc w2 hS.frame) ?_
  rintro e w3 ⟨rfl, hstep⟩
  refine ⟨_, rfl, ?_⟩
  try simp only [Act.put, List.setIfInBounds_toArray, List.set_cons_zero, List.set_cons_succ]
  refine st_end14 ?_
  go_wp2
  go_end0
  exact ⟨rfl, StepP.of hS.frame hstep (Tch.refl _ _)⟩
/-- What an address has. -/
theorem at_any (B N : Nat) (w : World) (bS : Nat) (mv rv : Value) (k : Int) (F : List Nat → Option Nat) (E : List Nat → Nat × Nat) (A : List Nat) (h : StP B N w bS mv rv k F E) (hA : Ad A) :
    Calls Try.prog 31 #[.pointer (some ⟨bS, 0, none⟩), .agg (av A)] w fun e w' => e = .returned (.agg (acA (E A).1 (E A).2)) ∧ Tch [] w w' := by
  have H := Lib.hid h
  have HA := Lib.hid hA
  clear h hA
  have hS := St.start w
  go_enter Try.func31, Try.ntmps31
  go_upto_region 0 with (fail)
  try simp only [Act.put, List.setIfInBounds_toArray, List.set_cons_zero, List.set_cons_succ]
  refine wp_region_lit ?_
  refine st_box hS rfl 23 _ rfl rfl ?_; clear hS; intro w1 b1 hS; try simp only [Act.put, List.setIfInBounds_toArray, List.set_cons_zero, List.set_cons_succ]
  refine st_new hS rfl 69 rfl acc_zero ?_; clear hS; intro w2 b4 hS; try simp only [Act.put, List.setIfInBounds_toArray, List.set_cons_zero, List.set_cons_succ]
  refine st_end14 ?_
  go_upto_region 1 with (fail)
  try simp only [Act.put, List.setIfInBounds_toArray, List.set_cons_zero, List.set_cons_succ]
  have H2 := Lib.hid (fun w' (hT : Tch [] w2 w') => H.out.call (hS.frame.trans hT))
  refine wp_region_held_drew (S := fun w' => St [] w w' [(b4, 69, acA 0 0), (b1, 23, av A)] ∧ Tch [] w2 w') (by kernel_rfl) ⟨hS.drew, (Tch.refl _ _).drew⟩ (fun hC => ?_)
  generalize World.drew w2 = u0 at hC ⊢
  refine held_in (v := .pointer (some ⟨bS, 0, none⟩)) 0 rfl (by kernel_rfl) (by kernel_rfl) (by kernel_rfl) (fun _ _ _ h => h) hC rfl (fun w' hw' => x_val _ (.inl rfl) rfl) ?_; try simp only [Act.put, List.setIfInBounds_toArray, List.set_cons_zero, List.set_cons_succ]
  refine held_in (v := .pointer (some ⟨bS, 0, none⟩)) 1 rfl (by kernel_rfl) (by kernel_rfl) (by kernel_rfl) (fun _ _ _ h => h) hC rfl (fun w' hw' => x_nilck _ rfl rfl) ?_; try simp only [Act.put, List.setIfInBounds_toArray, List.set_cons_zero, List.set_cons_succ]
  refine held_in (v := .pointer (some ⟨bS, 0, none⟩)) 2 rfl (by kernel_rfl) (by kernel_rfl) (by kernel_rfl) (fun _ _ _ h => h) hC rfl (fun w' hw' => x_fa _ _ _ rfl rfl (fa_s0 _ _)) ?_; try simp only [Act.put, List.setIfInBounds_toArray, List.set_cons_zero, List.set_cons_succ]
  refine held_in (v := mv) 3 rfl (by kernel_rfl) (by kernel_rfl) (by kernel_rfl) (fun _ _ _ h => h) hC rfl (fun w' hw' => x_cell _ _ rfl rfl ((H2.out w' hw'.2).blk.cell rfl) map_agg) ?_; try simp only [Act.put, List.setIfInBounds_toArray, List.set_cons_zero, List.set_cons_succ]
  refine held_in (v := .agg (av A)) 4 rfl (by kernel_rfl) (by kernel_rfl) (by kernel_rfl) (fun _ _ _ h => h) hC rfl (fun w' hw' => x_ld _ rfl rfl (hw'.1.get (.tail .head)) addr_tyY rfl (by rw [arrV_size]; exact addr_sizeY)) ?_; try simp only [Act.put, List.setIfInBounds_toArray, List.set_cons_zero, List.set_cons_succ]
  refine held_in (v := ptrV (F A)) 5 rfl (by kernel_rfl) (by kernel_rfl) (by kernel_rfl) (fun _ _ _ h => h) hC rfl (fun w' hw' => x_look (H2.out w' hw'.2).map HA.out _ _ rfl rfl rfl) ?_; try simp only [Act.put, List.setIfInBounds_toArray, List.set_cons_zero, List.set_cons_succ]
  refine held_in (v := ptrV (F A)) 6 rfl (by kernel_rfl) (by kernel_rfl) (by kernel_rfl) (fun _ _ _ h => h) hC rfl (fun w' hw' => x_val _ (.inr rfl) rfl) ?_; try simp only [Act.put, List.setIfInBounds_toArray, List.set_cons_zero, List.set_cons_succ]
  refine wpAnyH_done (by kernel_rfl) ?_ _
  clear hS
  have hS := hC.1
  have hSu := H2.out u0 hC.2
  clear hC
  cases hF : F A with
  | some b =>
    have hb := (hSu.acc A b HA.out hF).1
    have hne := Nat.lt_of_lt_of_le ((H.out.acc A b HA.out hF).1.lt) (hS.le .head)
    clear hF
    simp only [ptrV]
    go_upto_region 3 with (refine st_x (v := .bool true) rfl (x_bin _ _ _ _ rfl rfl rfl rfl (neA_some _ _)) ?_)
    try simp only [Act.put, List.setIfInBounds_toArray, List.set_cons_zero, List.set_cons_succ]
    refine wp_region_lit ?_
    refine st_x (v := .pointer (some ⟨b, 0, none⟩)) rfl (x_val _ (.inl rfl) rfl) ?_; try simp only [Act.put, List.setIfInBounds_toArray, List.set_cons_zero, List.set_cons_succ]
    refine st_x (v := .pointer (some ⟨b, 0, none⟩)) rfl (x_nilck _ rfl rfl) ?_; try simp only [Act.put, List.setIfInBounds_toArray, List.set_cons_zero, List.set_cons_succ]
    refine st_x (v := .agg (acA (E A).1 (E A).2)) rfl (x_ld _ rfl rfl hb acc_ty rfl (by rw [acA_size]; exact acc_size)) ?_; try simp only [Act.put, List.setIfInBounds_toArray, List.set_cons_zero, List.set_cons_succ]
    refine st_store (b := b4) (c' := acA (E A).1 (E A).2) hS rfl 69 _ _ rfl rfl rfl .head acc_size (acA_size _ _) (acA_size _ _) (acA_one _ _) ?_; clear hS; intro w3 hS; try simp only [Act.put, List.setIfInBounds_toArray, List.set_cons_zero, List.set_cons_succ]
    refine st_end14 ?_
    go_wp2
    exact st_post hS 4 69 rfl rfl rfl .head acc_ty rfl acc_size (acA_size _ _) (fun hT => ⟨rfl, hT⟩)
  | none =>
    have hE := hSu.non A HA.out hF
    clear hF
    simp only [ptrV]
    go_upto_region 4 with (refine st_x (v := .bool false) rfl (x_bin _ _ _ _ rfl rfl rfl rfl (neA_none _)) ?_)
    try simp only [Act.put, List.setIfInBounds_toArray, List.set_cons_zero, List.set_cons_succ]
    refine wp_region_lit ?_
    refine st_x (v := .agg (acA 0 0)) rfl (x_bldA rfl) ?_; try simp only [Act.put, List.setIfInBounds_toArray, List.set_cons_zero, List.set_cons_succ]
    refine st_store (b := b4) (c' := acA 0 0) hS rfl 69 _ _ rfl rfl rfl .head acc_size (acA_size _ _) (acA_size _ _) (acA_one _ _) ?_; clear hS; intro w3 hS; try simp only [Act.put, List.setIfInBounds_toArray, List.set_cons_zero, List.set_cons_succ]
    refine st_end14 ?_
    go_wp2
    exact st_post hS 4 69 rfl rfl rfl .head acc_ty rfl acc_size (acA_size _ _) (fun hT => ⟨by rw [hE], hT⟩)
theorem balance_any (B N : Nat) (w : World) (bS : Nat) (mv rv : Value) (k : Int) (F : List Nat → Option Nat) (E : List Nat → Nat × Nat) (A : List Nat) (h : StP B N w bS mv rv k F E) (hA : Ad A) :
    Calls Try.prog 11 #[.pointer (some ⟨bS, 0, none⟩), .agg (av A)] w fun e w' => e = .returned (.agg (wcells (E A).2)) ∧ Tch [] w w' := by
  have hc := fun w' (hT : Tch [] w w') => at_any B N w' bS mv rv k F E A (h.call hT) hA
  clear h hA
  have hS := St.start w
  go_enter Try.func11, Try.ntmps11
  go_upto_region 0 with (fail)
  try simp only [Act.put, List.setIfInBounds_toArray, List.set_cons_zero, List.set_cons_succ]
  refine wp_region_lit ?_
  refine st_box hS rfl 23 _ rfl rfl ?_; clear hS; intro w1 b1 hS; try simp only [Act.put, List.setIfInBounds_toArray, List.set_cons_zero, List.set_cons_succ]
  refine st_new hS rfl 25 rfl word_zeroS ?_; clear hS; intro w2 b4 hS; try simp only [Act.put, List.setIfInBounds_toArray, List.set_cons_zero, List.set_cons_succ]
  refine st_end14 ?_
  go_upto_region 1 with (fail)
  try simp only [Act.put, List.setIfInBounds_toArray, List.set_cons_zero, List.set_cons_succ]
  refine wp_region_lit ?_
  refine st_x (v := .pointer (some ⟨bS, 0, none⟩)) rfl (x_val _ (.inl rfl) rfl) ?_; try simp only [Act.put, List.setIfInBounds_toArray, List.set_cons_zero, List.set_cons_succ]
  refine st_x (v := .agg (av A)) rfl (x_ld _ rfl rfl (hS.get (.tail .head)) addr_tyY rfl (by rw [arrV_size]; exact addr_sizeY)) ?_; try simp only [Act.put, List.setIfInBounds_toArray, List.set_cons_zero, List.set_cons_succ]
  refine st_callS (args := #[.pointer (some ⟨bS, 0, none⟩), .agg (av A)]) rfl rfl (by simp only [List.map_toArray, List.map_cons, List.map_nil]; rfl) Try.call31 (hc w2 hS.frame) ?_
  rintro e w3 ⟨rfl, hT3⟩
  refine ⟨_, rfl, ?_⟩
  try simp only [Act.put, List.setIfInBounds_toArray, List.set_cons_zero, List.set_cons_succ]
  replace hS := hS.call hT3
  refine st_x (v := .agg (wcells (E A).2)) rfl (x_fld _ _ rfl rfl (fld_x _ _ _)) ?_; try simp only [Act.put, List.setIfInBounds_toArray, List.set_cons_zero, List.set_cons_succ]
  refine st_store (b := b4) (c' := wcells (E A).2) hS rfl 25 _ _ rfl rfl rfl .head wordN_size (wc_size _) (wc_size _) (wc_one _) ?_; clear hS; intro w4 hS; try simp only [Act.put, List.setIfInBounds_toArray, List.set_cons_zero, List.set_cons_succ]
  refine st_end14 ?_
  go_wp2
  exact st_post hS 4 25 rfl rfl rfl .head wordN_type rfl wordN_size (wc_size _) (fun hT => ⟨rfl, hT⟩)
theorem nonce_any (B N : Nat) (w : World) (bS : Nat) (mv rv : Value) (k : Int) (F : List Nat → Option Nat) (E : List Nat → Nat × Nat) (A : List Nat) (h : StP B N w bS mv rv k F E) (hA : Ad A) :
    Calls Try.prog 15 #[.pointer (some ⟨bS, 0, none⟩), .agg (av A)] w fun e w' => e = .returned (.int .i64 ((E A).1 : Int)) ∧ Tch [] w w' := by
  have hc := fun w' (hT : Tch [] w w') => at_any B N w' bS mv rv k F E A (h.call hT) hA
  clear h hA
  have hS := St.start w
  go_enter Try.func15, Try.ntmps15
  go_upto_region 1 with (refine st_box hS rfl 23 _ rfl rfl ?_; clear hS; intro w1 b1 hS)
  try simp only [Act.put, List.setIfInBounds_toArray, List.set_cons_zero, List.set_cons_succ]
  refine wp_region_lit ?_
  refine st_x (v := .pointer (some ⟨bS, 0, none⟩)) rfl (x_val _ (.inl rfl) rfl) ?_; try simp only [Act.put, List.setIfInBounds_toArray, List.set_cons_zero, List.set_cons_succ]
  refine st_x (v := .agg (av A)) rfl (x_ld _ rfl rfl (hS.get .head) addr_tyY rfl (by rw [arrV_size]; exact addr_sizeY)) ?_; try simp only [Act.put, List.setIfInBounds_toArray, List.set_cons_zero, List.set_cons_succ]
  refine st_callS (args := #[.pointer (some ⟨bS, 0, none⟩), .agg (av A)]) rfl rfl (by simp only [List.map_toArray, List.map_cons, List.map_nil]; rfl) Try.call31 (hc w1 hS.frame) ?_
  rintro e w3 ⟨rfl, hT3⟩
  refine ⟨_, rfl, ?_⟩
  try simp only [Act.put, List.setIfInBounds_toArray, List.set_cons_zero, List.set_cons_succ]
  refine st_x (v := .int .i64 ((E A).1 : Int)) rfl (x_fld _ _ rfl rfl (fld_n _ _ _)) ?_; try simp only [Act.put, List.setIfInBounds_toArray, List.set_cons_zero, List.set_cons_succ]
  refine st_x (v := .int .i64 ((E A).1 : Int)) rfl (x_val _ (.inr rfl) rfl) ?_; try simp only [Act.put, List.setIfInBounds_toArray, List.set_cons_zero, List.set_cons_succ]
  refine st_end14 ?_
  go_wp2
  go_ret
  exact ⟨rfl, hS.frame.trans hT3⟩
end Go.Proofs.Ytklpcppdjcedpaa
