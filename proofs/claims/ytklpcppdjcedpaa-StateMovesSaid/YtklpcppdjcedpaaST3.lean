/- States: empty, keep. -/
import Derived.Test.YtklpcppdjcedpaaST2
namespace Go.Proofs.Ytklpcppdjcedpaa
open Go.RowKit Go.WideMaps Go.ChangeMaps Go.MapKept
set_option linter.unusedVariables false
set_option linter.unusedSimpArgs false
set_option maxRecDepth 100000

theorem bldW_zero (w : World) : (Instr.build 25 #[]).run Try.prog w = .ok (.agg (wcells 0)) w := by kernel_rfl
theorem eqStr (w : World) : (binOp .eql 9 (.string ⟨#[]⟩) (.string ⟨#[]⟩)).run Try.prog w = .ok (.bool true) w := by kernel_rfl
theorem len_noSlots (ty : TypeId) (w : World) : (Builtin.len_ #[67] ty #[.map none]).run Try.prog w = .ok (.int .i64 0) w := by kernel_rfl
theorem run_eqWc {x y : Nat} (hx : x < M256) (hy : y < M256) (w : World) : (binOp .eql 25 (.agg (wcells x)) (.agg (wcells y))).run Try.prog w = .ok (.bool (decide (x = y))) w := by
  have h := run_eql_bytes (P := Try.prog) w 25 5 32 wordN_type byte_ty (fun w => sizeOf_u8 w) (bytesOfI 32 (byt x)) (bytesOfI 32 (byt y)) (by simp [bytesOfI]) (by simp [bytesOfI])
  rw [← bc_bytesI 32 _ (fun i _ => byt_lt x i), ← bc_bytesI 32 _ (fun i _ => byt_lt y i)] at h
  refine h.trans ?_
  congr 2
  rw [Bool.eq_iff_iff, beq_iff_eq, decide_eq_true_eq]
  exact ⟨fun e => wcells_inj hx hy (show bc 32 _ = bc 32 _ by rw [bc_bytesI 32 _ (fun i _ => byt_lt x i), bc_bytesI 32 _ (fun i _ => byt_lt y i), e]), fun e => by rw [e]⟩
section
variable {o : Oper} {a : Act} {w w' : World}
theorem x_bldW0 (ho : o.op = .build 25 #[]) : (execOp a.eval o).run Try.prog w = .ok (.value (.agg (wcells 0))) w := by
  unfold execOp
  simp only [ho, List.map_toArray, List.map_nil, bldW_zero, Sem.run_bind, Result.andThen_ok, Sem.run_pure]
theorem x_eqWc {x y : Nat} {r : Bool} (hx : x < M256) (hy : y < M256) (hr : decide (x = y) = r) (xo yo : Operand) (yt : TypeId) (ho : o.op = .binOp .eql 25 xo yo yt) (hxe : a.eval xo = .agg (wcells x)) (hye : a.eval yo = .agg (wcells y)) : (execOp a.eval o).run Try.prog w = .ok (.value (.bool r)) w := by
  have := run_eqWc hx hy w
  rw [hr] at this
  unfold execOp
  simp only [ho, hxe, hye]
  show Sem.run _ _ w = _
  simp [eqGuard, this]
theorem x_lenM (xo : Operand) (ho : o.op = .call { callee := .builtin .len, args := #[xo], argTypes := #[67] }) (hx : a.eval xo = .map none) : (execOp a.eval o).run Try.prog w = .ok (.value (.int .i64 0)) w := by
  unfold execOp
  simp [ho, resolve, invoke, builtin, hx, len_noSlots]
theorem x_eqI {m n : Int} {r : Bool} (hr : (m == n) = r) (yt : TypeId) (xo yo : Operand) (ho : o.op = .binOp .eql 3 xo yo yt) (hxe : a.eval xo = .int .i64 m) (hye : a.eval yo = .int .i64 n) : (execOp a.eval o).run Try.prog w = .ok (.value (.bool r)) w := by
  unfold execOp; simp only [ho, hxe, hye]; show Sem.run _ _ w = _; simp [eqGuard, binOp, Op.intCmp, hr]
theorem x_pickS {c : Bool} {s t v : Value} (hv : (if c then s else t) = v) (co xo yo : Operand) (ho : o.op = .pick co xo yo) (hc : a.eval co = .bool c) (hx : a.eval xo = s) (hy : a.eval yo = t) : (execOp a.eval o).run Try.prog w = .ok (.value v) w := by
  subst hv
  unfold execOp; simp only [ho, hc, hx, hy]; cases c <;> rfl
end
/-- Has an account neither Nonce nor Balance? -/
theorem empty_any (b n x : Nat) (w : World) (hB : Blk w b 69 (acA n x)) (hx : x < M256) :
    Calls Try.prog 39 #[.pointer (some ⟨b, 0, none⟩)] w fun e w' => e = .returned (.bool (decide (n = 0 ∧ x = 0))) ∧ w' = w := by
  have c0 := hB.cell (acA_n n x)
  have c2 := hB.cell (acA_c n x)
  have c3 := hB.cell (acA_s n x)
  have HB := Lib.hid hB
  have HX := Lib.hid hx
  have M0 : 0 < M256 := M256_pos
  clear hB hx
  by_cases h1 : n = 0
  · have hn : ((n : Int) == 0) = true := by simp [h1]
    by_cases h2 : x = 0
    · have hxd : decide (x = 0) = true := by simp [h2]
      have HD := Lib.hid (And.intro h1 h2)
      clear h1 h2
      go_enter Try.func39, Try.ntmps39
      go_upto_region 1 with (fail)
      try simp only [Act.put, List.setIfInBounds_toArray, List.set_cons_zero, List.set_cons_succ]
      refine k_seq (C := fun w' => w' = w) rfl ?_
      refine k_in (v := .pointer (some ⟨b, 0, none⟩)) rfl (fun w' hw' => x_val _ (.inl rfl) rfl) ?_; try simp only [Act.put, List.setIfInBounds_toArray, List.set_cons_zero, List.set_cons_succ]
      refine k_in (v := .pointer (some ⟨b, 0, none⟩)) rfl (fun w' hw' => x_nilck _ rfl rfl) ?_; try simp only [Act.put, List.setIfInBounds_toArray, List.set_cons_zero, List.set_cons_succ]
      refine k_in (v := .pointer (some ⟨b, 0, none⟩)) rfl (fun w' hw' => x_fa _ _ _ rfl rfl (fa_a0 _ _)) ?_; try simp only [Act.put, List.setIfInBounds_toArray, List.set_cons_zero, List.set_cons_succ]
      refine k_in (v := .int .i64 (n : Int)) rfl (fun w' hw' => by subst hw'; exact x_cell _ _ rfl rfl c0 int_aggS) ?_; try simp only [Act.put, List.setIfInBounds_toArray, List.set_cons_zero, List.set_cons_succ]
      refine k_in (v := .bool true) rfl (fun w' hw' => x_eqI hn _ _ _ rfl rfl rfl) ?_; try simp only [Act.put, List.setIfInBounds_toArray, List.set_cons_zero, List.set_cons_succ]
      refine k_in (v := .bool true) rfl (fun w' hw' => x_val _ (.inl rfl) rfl) ?_; try simp only [Act.put, List.setIfInBounds_toArray, List.set_cons_zero, List.set_cons_succ]
      refine k_in (v := .pointer (some ⟨b, 0, none⟩)) rfl (fun w' hw' => x_val _ (.inl rfl) rfl) ?_; try simp only [Act.put, List.setIfInBounds_toArray, List.set_cons_zero, List.set_cons_succ]
      refine k_in (v := .pointer (some ⟨b, 0, none⟩)) rfl (fun w' hw' => x_nilck _ rfl rfl) ?_; try simp only [Act.put, List.setIfInBounds_toArray, List.set_cons_zero, List.set_cons_succ]
      refine k_in (v := .pointer (some ⟨b, 1, none⟩)) rfl (fun w' hw' => x_fa _ _ _ rfl rfl (fa_a1 _ _)) ?_; try simp only [Act.put, List.setIfInBounds_toArray, List.set_cons_zero, List.set_cons_succ]
      refine k_in (v := .agg (wcells x)) rfl (fun w' hw' => by subst hw'; exact x_ldIn (n := 32) _ rfl rfl HB.out (wc_size x) (fun j hj => acA_x n x j hj) wordN_type rfl wordN_size) ?_; try simp only [Act.put, List.setIfInBounds_toArray, List.set_cons_zero, List.set_cons_succ]
      refine k_in (v := .agg (wcells 0)) rfl (fun w' hw' => x_bldW0 rfl) ?_; try simp only [Act.put, List.setIfInBounds_toArray, List.set_cons_zero, List.set_cons_succ]
      refine k_in (v := .bool true) rfl (fun w' hw' => x_eqWc HX.out M0 hxd _ _ _ rfl rfl rfl) ?_; try simp only [Act.put, List.setIfInBounds_toArray, List.set_cons_zero, List.set_cons_succ]
      refine k_in (v := .bool true) rfl (fun w' hw' => x_pickS (c := true) rfl _ _ _ rfl rfl rfl rfl) ?_; try simp only [Act.put, List.setIfInBounds_toArray, List.set_cons_zero, List.set_cons_succ]
      refine k_in (v := .bool true) rfl (fun w' hw' => x_val _ (.inl rfl) rfl) ?_; try simp only [Act.put, List.setIfInBounds_toArray, List.set_cons_zero, List.set_cons_succ]
      refine k_in (v := .pointer (some ⟨b, 0, none⟩)) rfl (fun w' hw' => x_val _ (.inl rfl) rfl) ?_; try simp only [Act.put, List.setIfInBounds_toArray, List.set_cons_zero, List.set_cons_succ]
      refine k_in (v := .pointer (some ⟨b, 0, none⟩)) rfl (fun w' hw' => x_nilck _ rfl rfl) ?_; try simp only [Act.put, List.setIfInBounds_toArray, List.set_cons_zero, List.set_cons_succ]
      refine k_in (v := .pointer (some ⟨b, 33, none⟩)) rfl (fun w' hw' => x_fa _ _ _ rfl rfl (fa_a2 _ _)) ?_; try simp only [Act.put, List.setIfInBounds_toArray, List.set_cons_zero, List.set_cons_succ]
      refine k_in (v := .string ⟨#[]⟩) rfl (fun w' hw' => by subst hw'; exact x_cell _ _ rfl rfl c2 str_aggS) ?_; try simp only [Act.put, List.setIfInBounds_toArray, List.set_cons_zero, List.set_cons_succ]
      refine k_in (v := .bool true) rfl (fun w' hw' => x_bin _ _ _ _ rfl rfl rfl rfl (eqStr _)) ?_; try simp only [Act.put, List.setIfInBounds_toArray, List.set_cons_zero, List.set_cons_succ]
      refine k_in (v := .bool true) rfl (fun w' hw' => x_pickS (c := true) rfl _ _ _ rfl rfl rfl rfl) ?_; try simp only [Act.put, List.setIfInBounds_toArray, List.set_cons_zero, List.set_cons_succ]
      refine k_in (v := .bool true) rfl (fun w' hw' => x_val _ (.inl rfl) rfl) ?_; try simp only [Act.put, List.setIfInBounds_toArray, List.set_cons_zero, List.set_cons_succ]
      refine k_in (v := .pointer (some ⟨b, 0, none⟩)) rfl (fun w' hw' => x_val _ (.inl rfl) rfl) ?_; try simp only [Act.put, List.setIfInBounds_toArray, List.set_cons_zero, List.set_cons_succ]
      refine k_in (v := .pointer (some ⟨b, 0, none⟩)) rfl (fun w' hw' => x_nilck _ rfl rfl) ?_; try simp only [Act.put, List.setIfInBounds_toArray, List.set_cons_zero, List.set_cons_succ]
      refine k_in (v := .pointer (some ⟨b, 34, none⟩)) rfl (fun w' hw' => x_fa _ _ _ rfl rfl (fa_a3 _ _)) ?_; try simp only [Act.put, List.setIfInBounds_toArray, List.set_cons_zero, List.set_cons_succ]
      refine k_in (v := .map none) rfl (fun w' hw' => by subst hw'; exact x_cell _ _ rfl rfl c3 slm_aggS) ?_; try simp only [Act.put, List.setIfInBounds_toArray, List.set_cons_zero, List.set_cons_succ]
      refine k_in (v := .int .i64 0) rfl (fun w' hw' => x_lenM _ rfl rfl) ?_; try simp only [Act.put, List.setIfInBounds_toArray, List.set_cons_zero, List.set_cons_succ]
      refine k_in (v := .bool true) rfl (fun w' hw' => x_eqI rfl _ _ _ rfl rfl rfl) ?_; try simp only [Act.put, List.setIfInBounds_toArray, List.set_cons_zero, List.set_cons_succ]
      refine k_in (v := .bool true) rfl (fun w' hw' => x_pickS (c := true) rfl _ _ _ rfl rfl rfl rfl) ?_; try simp only [Act.put, List.setIfInBounds_toArray, List.set_cons_zero, List.set_cons_succ]
      refine k_in (v := .bool true) rfl (fun w' hw' => x_val _ (.inr rfl) rfl) ?_; try simp only [Act.put, List.setIfInBounds_toArray, List.set_cons_zero, List.set_cons_succ]
      refine k_end ?_
      intro w2 hw2
      go_wp2
      go_ret
      exact ⟨ret_bool (by simp [HD.out]), hw2⟩
    · have hxd : decide (x = 0) = false := by simp [h2]
      have HD := Lib.hid h2
      clear h1 h2
      go_enter Try.func39, Try.ntmps39
      go_upto_region 1 with (fail)
      try simp only [Act.put, List.setIfInBounds_toArray, List.set_cons_zero, List.set_cons_succ]
      refine k_seq (C := fun w' => w' = w) rfl ?_
      refine k_in (v := .pointer (some ⟨b, 0, none⟩)) rfl (fun w' hw' => x_val _ (.inl rfl) rfl) ?_; try simp only [Act.put, List.setIfInBounds_toArray, List.set_cons_zero, List.set_cons_succ]
      refine k_in (v := .pointer (some ⟨b, 0, none⟩)) rfl (fun w' hw' => x_nilck _ rfl rfl) ?_; try simp only [Act.put, List.setIfInBounds_toArray, List.set_cons_zero, List.set_cons_succ]
      refine k_in (v := .pointer (some ⟨b, 0, none⟩)) rfl (fun w' hw' => x_fa _ _ _ rfl rfl (fa_a0 _ _)) ?_; try simp only [Act.put, List.setIfInBounds_toArray, List.set_cons_zero, List.set_cons_succ]
      refine k_in (v := .int .i64 (n : Int)) rfl (fun w' hw' => by subst hw'; exact x_cell _ _ rfl rfl c0 int_aggS) ?_; try simp only [Act.put, List.setIfInBounds_toArray, List.set_cons_zero, List.set_cons_succ]
      refine k_in (v := .bool true) rfl (fun w' hw' => x_eqI hn _ _ _ rfl rfl rfl) ?_; try simp only [Act.put, List.setIfInBounds_toArray, List.set_cons_zero, List.set_cons_succ]
      refine k_in (v := .bool true) rfl (fun w' hw' => x_val _ (.inl rfl) rfl) ?_; try simp only [Act.put, List.setIfInBounds_toArray, List.set_cons_zero, List.set_cons_succ]
      refine k_in (v := .pointer (some ⟨b, 0, none⟩)) rfl (fun w' hw' => x_val _ (.inl rfl) rfl) ?_; try simp only [Act.put, List.setIfInBounds_toArray, List.set_cons_zero, List.set_cons_succ]
      refine k_in (v := .pointer (some ⟨b, 0, none⟩)) rfl (fun w' hw' => x_nilck _ rfl rfl) ?_; try simp only [Act.put, List.setIfInBounds_toArray, List.set_cons_zero, List.set_cons_succ]
      refine k_in (v := .pointer (some ⟨b, 1, none⟩)) rfl (fun w' hw' => x_fa _ _ _ rfl rfl (fa_a1 _ _)) ?_; try simp only [Act.put, List.setIfInBounds_toArray, List.set_cons_zero, List.set_cons_succ]
      refine k_in (v := .agg (wcells x)) rfl (fun w' hw' => by subst hw'; exact x_ldIn (n := 32) _ rfl rfl HB.out (wc_size x) (fun j hj => acA_x n x j hj) wordN_type rfl wordN_size) ?_; try simp only [Act.put, List.setIfInBounds_toArray, List.set_cons_zero, List.set_cons_succ]
      refine k_in (v := .agg (wcells 0)) rfl (fun w' hw' => x_bldW0 rfl) ?_; try simp only [Act.put, List.setIfInBounds_toArray, List.set_cons_zero, List.set_cons_succ]
      refine k_in (v := .bool false) rfl (fun w' hw' => x_eqWc HX.out M0 hxd _ _ _ rfl rfl rfl) ?_; try simp only [Act.put, List.setIfInBounds_toArray, List.set_cons_zero, List.set_cons_succ]
      refine k_in (v := .bool false) rfl (fun w' hw' => x_pickS (c := true) rfl _ _ _ rfl rfl rfl rfl) ?_; try simp only [Act.put, List.setIfInBounds_toArray, List.set_cons_zero, List.set_cons_succ]
      refine k_in (v := .bool false) rfl (fun w' hw' => x_val _ (.inl rfl) rfl) ?_; try simp only [Act.put, List.setIfInBounds_toArray, List.set_cons_zero, List.set_cons_succ]
      refine k_skip (j := 13) (b := false) rfl rfl rfl rfl rfl ?_; try simp only [Act.put, List.setIfInBounds_toArray, List.set_cons_zero, List.set_cons_succ]
      refine k_skip (j := 13) (b := false) rfl rfl rfl rfl rfl ?_; try simp only [Act.put, List.setIfInBounds_toArray, List.set_cons_zero, List.set_cons_succ]
      refine k_skip (j := 13) (b := false) rfl rfl rfl rfl rfl ?_; try simp only [Act.put, List.setIfInBounds_toArray, List.set_cons_zero, List.set_cons_succ]
      refine k_skip (j := 13) (b := false) rfl rfl rfl rfl rfl ?_; try simp only [Act.put, List.setIfInBounds_toArray, List.set_cons_zero, List.set_cons_succ]
      refine k_skip (j := 13) (b := false) rfl rfl rfl rfl rfl ?_; try simp only [Act.put, List.setIfInBounds_toArray, List.set_cons_zero, List.set_cons_succ]
      refine k_in (v := .bool false) rfl (fun w' hw' => x_pickS (c := false) rfl _ _ _ rfl rfl rfl rfl) ?_; try simp only [Act.put, List.setIfInBounds_toArray, List.set_cons_zero, List.set_cons_succ]
      refine k_in (v := .bool false) rfl (fun w' hw' => x_val _ (.inl rfl) rfl) ?_; try simp only [Act.put, List.setIfInBounds_toArray, List.set_cons_zero, List.set_cons_succ]
      refine k_skip (j := 20) (b := false) rfl rfl rfl rfl rfl ?_; try simp only [Act.put, List.setIfInBounds_toArray, List.set_cons_zero, List.set_cons_succ]
      refine k_skip (j := 20) (b := false) rfl rfl rfl rfl rfl ?_; try simp only [Act.put, List.setIfInBounds_toArray, List.set_cons_zero, List.set_cons_succ]
      refine k_skip (j := 20) (b := false) rfl rfl rfl rfl rfl ?_; try simp only [Act.put, List.setIfInBounds_toArray, List.set_cons_zero, List.set_cons_succ]
      refine k_skip (j := 20) (b := false) rfl rfl rfl rfl rfl ?_; try simp only [Act.put, List.setIfInBounds_toArray, List.set_cons_zero, List.set_cons_succ]
      refine k_skip (j := 20) (b := false) rfl rfl rfl rfl rfl ?_; try simp only [Act.put, List.setIfInBounds_toArray, List.set_cons_zero, List.set_cons_succ]
      refine k_skip (j := 20) (b := false) rfl rfl rfl rfl rfl ?_; try simp only [Act.put, List.setIfInBounds_toArray, List.set_cons_zero, List.set_cons_succ]
      refine k_in (v := .bool false) rfl (fun w' hw' => x_pickS (c := false) rfl _ _ _ rfl rfl rfl rfl) ?_; try simp only [Act.put, List.setIfInBounds_toArray, List.set_cons_zero, List.set_cons_succ]
      refine k_in (v := .bool false) rfl (fun w' hw' => x_val _ (.inr rfl) rfl) ?_; try simp only [Act.put, List.setIfInBounds_toArray, List.set_cons_zero, List.set_cons_succ]
      refine k_end ?_
      intro w2 hw2
      go_wp2
      go_ret
      exact ⟨ret_bool (by simp [HD.out]), hw2⟩
  · have hn : ((n : Int) == 0) = false := by simp [h1]
    have HD := Lib.hid h1
    clear h1
    go_enter Try.func39, Try.ntmps39
    go_upto_region 1 with (fail)
    try simp only [Act.put, List.setIfInBounds_toArray, List.set_cons_zero, List.set_cons_succ]
    refine k_seq (C := fun w' => w' = w) rfl ?_
    refine k_in (v := .pointer (some ⟨b, 0, none⟩)) rfl (fun w' hw' => x_val _ (.inl rfl) rfl) ?_; try simp only [Act.put, List.setIfInBounds_toArray, List.set_cons_zero, List.set_cons_succ]
    refine k_in (v := .pointer (some ⟨b, 0, none⟩)) rfl (fun w' hw' => x_nilck _ rfl rfl) ?_; try simp only [Act.put, List.setIfInBounds_toArray, List.set_cons_zero, List.set_cons_succ]
    refine k_in (v := .pointer (some ⟨b, 0, none⟩)) rfl (fun w' hw' => x_fa _ _ _ rfl rfl (fa_a0 _ _)) ?_; try simp only [Act.put, List.setIfInBounds_toArray, List.set_cons_zero, List.set_cons_succ]
    refine k_in (v := .int .i64 (n : Int)) rfl (fun w' hw' => by subst hw'; exact x_cell _ _ rfl rfl c0 int_aggS) ?_; try simp only [Act.put, List.setIfInBounds_toArray, List.set_cons_zero, List.set_cons_succ]
    refine k_in (v := .bool false) rfl (fun w' hw' => x_eqI hn _ _ _ rfl rfl rfl) ?_; try simp only [Act.put, List.setIfInBounds_toArray, List.set_cons_zero, List.set_cons_succ]
    refine k_in (v := .bool false) rfl (fun w' hw' => x_val _ (.inl rfl) rfl) ?_; try simp only [Act.put, List.setIfInBounds_toArray, List.set_cons_zero, List.set_cons_succ]
    refine k_skip (j := 5) (b := false) rfl rfl rfl rfl rfl ?_; try simp only [Act.put, List.setIfInBounds_toArray, List.set_cons_zero, List.set_cons_succ]
    refine k_skip (j := 5) (b := false) rfl rfl rfl rfl rfl ?_; try simp only [Act.put, List.setIfInBounds_toArray, List.set_cons_zero, List.set_cons_succ]
    refine k_skip (j := 5) (b := false) rfl rfl rfl rfl rfl ?_; try simp only [Act.put, List.setIfInBounds_toArray, List.set_cons_zero, List.set_cons_succ]
    refine k_skip (j := 5) (b := false) rfl rfl rfl rfl rfl ?_; try simp only [Act.put, List.setIfInBounds_toArray, List.set_cons_zero, List.set_cons_succ]
    refine k_skip (j := 5) (b := false) rfl rfl rfl rfl rfl ?_; try simp only [Act.put, List.setIfInBounds_toArray, List.set_cons_zero, List.set_cons_succ]
    refine k_skip (j := 5) (b := false) rfl rfl rfl rfl rfl ?_; try simp only [Act.put, List.setIfInBounds_toArray, List.set_cons_zero, List.set_cons_succ]
    refine k_in (v := .bool false) rfl (fun w' hw' => x_pickS (c := false) rfl _ _ _ rfl rfl rfl rfl) ?_; try simp only [Act.put, List.setIfInBounds_toArray, List.set_cons_zero, List.set_cons_succ]
    refine k_in (v := .bool false) rfl (fun w' hw' => x_val _ (.inl rfl) rfl) ?_; try simp only [Act.put, List.setIfInBounds_toArray, List.set_cons_zero, List.set_cons_succ]
    refine k_skip (j := 13) (b := false) rfl rfl rfl rfl rfl ?_; try simp only [Act.put, List.setIfInBounds_toArray, List.set_cons_zero, List.set_cons_succ]
    refine k_skip (j := 13) (b := false) rfl rfl rfl rfl rfl ?_; try simp only [Act.put, List.setIfInBounds_toArray, List.set_cons_zero, List.set_cons_succ]
    refine k_skip (j := 13) (b := false) rfl rfl rfl rfl rfl ?_; try simp only [Act.put, List.setIfInBounds_toArray, List.set_cons_zero, List.set_cons_succ]
    refine k_skip (j := 13) (b := false) rfl rfl rfl rfl rfl ?_; try simp only [Act.put, List.setIfInBounds_toArray, List.set_cons_zero, List.set_cons_succ]
    refine k_skip (j := 13) (b := false) rfl rfl rfl rfl rfl ?_; try simp only [Act.put, List.setIfInBounds_toArray, List.set_cons_zero, List.set_cons_succ]
    refine k_in (v := .bool false) rfl (fun w' hw' => x_pickS (c := false) rfl _ _ _ rfl rfl rfl rfl) ?_; try simp only [Act.put, List.setIfInBounds_toArray, List.set_cons_zero, List.set_cons_succ]
    refine k_in (v := .bool false) rfl (fun w' hw' => x_val _ (.inl rfl) rfl) ?_; try simp only [Act.put, List.setIfInBounds_toArray, List.set_cons_zero, List.set_cons_succ]
    refine k_skip (j := 20) (b := false) rfl rfl rfl rfl rfl ?_; try simp only [Act.put, List.setIfInBounds_toArray, List.set_cons_zero, List.set_cons_succ]
    refine k_skip (j := 20) (b := false) rfl rfl rfl rfl rfl ?_; try simp only [Act.put, List.setIfInBounds_toArray, List.set_cons_zero, List.set_cons_succ]
    refine k_skip (j := 20) (b := false) rfl rfl rfl rfl rfl ?_; try simp only [Act.put, List.setIfInBounds_toArray, List.set_cons_zero, List.set_cons_succ]
    refine k_skip (j := 20) (b := false) rfl rfl rfl rfl rfl ?_; try simp only [Act.put, List.setIfInBounds_toArray, List.set_cons_zero, List.set_cons_succ]
    refine k_skip (j := 20) (b := false) rfl rfl rfl rfl rfl ?_; try simp only [Act.put, List.setIfInBounds_toArray, List.set_cons_zero, List.set_cons_succ]
    refine k_skip (j := 20) (b := false) rfl rfl rfl rfl rfl ?_; try simp only [Act.put, List.setIfInBounds_toArray, List.set_cons_zero, List.set_cons_succ]
    refine k_in (v := .bool false) rfl (fun w' hw' => x_pickS (c := false) rfl _ _ _ rfl rfl rfl rfl) ?_; try simp only [Act.put, List.setIfInBounds_toArray, List.set_cons_zero, List.set_cons_succ]
    refine k_in (v := .bool false) rfl (fun w' hw' => x_val _ (.inr rfl) rfl) ?_; try simp only [Act.put, List.setIfInBounds_toArray, List.set_cons_zero, List.set_cons_succ]
    refine k_end ?_
    intro w2 hw2
    go_wp2
    go_ret
    exact ⟨ret_bool (by simp [HD.out]), hw2⟩
end Go.Proofs.Ytklpcppdjcedpaa
