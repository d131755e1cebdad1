/- States: empty, keep. -/
import Derived.Test.YtopfmaoeebgjmaaGreatDoorM01
import Derived.Test.YtopfmaoeebgjmaaGreatDoorM22
set_option linter.unusedVariables false
set_option linter.unusedSimpArgs false
namespace Go.Proofs.YtopfmaoeebgjmaaGreatDoor
section
open Go.RowKit Go.WideMaps Go.ChangeMaps Go.MapKept
set_option maxRecDepth 100000
theorem bldW_zero (w : World) : (Instr.build 25 #[]).run Tryz.prog w = .ok (.agg (wcells 0)) w := by kernel_rfl
theorem eqStr (w : World) : (binOp .eql 9 (.string ⟨#[]⟩) (.string ⟨#[]⟩)).run Tryz.prog w = .ok (.bool true) w := by kernel_rfl
theorem len_noSlots (ty : TypeId) (w : World) : (Builtin.len_ #[77] ty #[.map none]).run Tryz.prog w = .ok (.int .i64 0) w := by kernel_rfl
theorem run_eqWc {x y : Nat} (hx : x < M256) (hy : y < M256) (w : World) : (binOp .eql 25 (.agg (wcells x)) (.agg (wcells y))).run Tryz.prog w = .ok (.bool (decide (x = y))) w := by
  have h := run_eql_bytes (P := Tryz.prog) w 25 5 32 wordN_type byte_ty (fun w => sizeOf_u8 w) (bytesOfI 32 (byt x)) (bytesOfI 32 (byt y)) (by simp [bytesOfI]) (by simp [bytesOfI])
  rw [← bc_bytesI 32 _ (fun i _ => byt_lt x i), ← bc_bytesI 32 _ (fun i _ => byt_lt y i)] at h
  refine h.trans ?_
  congr 2
  rw [Bool.eq_iff_iff, beq_iff_eq, decide_eq_true_eq]
  exact ⟨fun e => wcells_inj hx hy (show bc 32 _ = bc 32 _ by rw [bc_bytesI 32 _ (fun i _ => byt_lt x i), bc_bytesI 32 _ (fun i _ => byt_lt y i), e]), fun e => by rw [e]⟩
section
variable {o : Oper} {a : Act} {w w' : World}
theorem x_bldW0 (ho : o.op = .build 25 #[]) : (execOp a.eval o).run Tryz.prog w = .ok (.value (.agg (wcells 0))) w := by
  unfold execOp
  simp only [ho, List.map_toArray, List.map_nil, bldW_zero, Sem.run_bind, Result.andThen_ok, Sem.run_pure]
theorem x_eqWc {x y : Nat} {r : Bool} (hx : x < M256) (hy : y < M256) (hr : decide (x = y) = r) (xo yo : Operand) (yt : TypeId) (ho : o.op = .binOp .eql 25 xo yo yt) (hxe : a.eval xo = .agg (wcells x)) (hye : a.eval yo = .agg (wcells y)) : (execOp a.eval o).run Tryz.prog w = .ok (.value (.bool r)) w := by
  have := run_eqWc hx hy w
  rw [hr] at this
  unfold execOp
  simp only [ho, hxe, hye]
  show Sem.run _ _ w = _
  simp [eqGuard, this]
theorem x_lenM (xo : Operand) (ho : o.op = .call { callee := .builtin .len, args := #[xo], argTypes := #[77] }) (hx : a.eval xo = .map none) : (execOp a.eval o).run Tryz.prog w = .ok (.value (.int .i64 0)) w := by
  unfold execOp
  simp [ho, resolve, invoke, builtin, hx, len_noSlots]
theorem x_eqI {m n : Int} {r : Bool} (hr : (m == n) = r) (yt : TypeId) (xo yo : Operand) (ho : o.op = .binOp .eql 3 xo yo yt) (hxe : a.eval xo = .int .i64 m) (hye : a.eval yo = .int .i64 n) : (execOp a.eval o).run Tryz.prog w = .ok (.value (.bool r)) w := by
  unfold execOp; simp only [ho, hxe, hye]; show Sem.run _ _ w = _; simp [eqGuard, binOp, Op.intCmp, hr]
theorem x_pickS {c : Bool} {s t v : Value} (hv : (if c then s else t) = v) (co xo yo : Operand) (ho : o.op = .pick co xo yo) (hc : a.eval co = .bool c) (hx : a.eval xo = s) (hy : a.eval yo = t) : (execOp a.eval o).run Tryz.prog w = .ok (.value v) w := by
  subst hv
  unfold execOp; simp only [ho, hc, hx, hy]; cases c <;> rfl
end
theorem empty_any (b n x : Nat) (w : World) (hB : Blk w b 79 (acA n x)) (hx : x < M256) :
    Calls Tryz.prog 35 #[.pointer (some ⟨b, 0, none⟩)] w fun e w' => e = .returned (.bool (decide (n = 0 ∧ x = 0))) ∧ w' = w := by
  have c0 := hB.cell (acA_n n x)
  have c2 := hB.cell (acA_c n x)
  have c3 := hB.cell (acA_s n x)
  have HB := hQz hB
  have HX := hQz hx
  have M0 : 0 < M256 := M256_pos
  clear hB hx
  by_cases h1 : n = 0
  · have hn : ((n : Int) == 0) = true := by simp [h1]
    by_cases h2 : x = 0
    · have hxd : decide (x = 0) = true := by simp [h2]
      have HD := hQz (And.intro h1 h2)
      clear h1 h2
      go_enter Tryz.func35, Tryz.ntmps35
      go_upto_region 1 with (fail)
      try simp only [Act.put, ppA, ppB, ppC]
      refine k_seq (C := fun w' => w' = w) rfl ?_
      refine k_in (v := .pointer (some ⟨b, 0, none⟩)) rfl (fun w' hw' => x_val _ (.inl rfl) rfl) ?_; try simp only [Act.put, ppA, ppB, ppC]
      refine k_in (v := .pointer (some ⟨b, 0, none⟩)) rfl (fun w' hw' => x_nilck _ rfl rfl) ?_; try simp only [Act.put, ppA, ppB, ppC]
      refine k_in (v := .pointer (some ⟨b, 0, none⟩)) rfl (fun w' hw' => x_fa _ _ _ rfl rfl (fa_a0 _ _)) ?_; try simp only [Act.put, ppA, ppB, ppC]
      refine k_in (v := .int .i64 (n : Int)) rfl (fun w' hw' => by subst hw'; exact x_cell _ _ rfl rfl c0 int_aggS) ?_; try simp only [Act.put, ppA, ppB, ppC]
      refine k_in (v := .bool true) rfl (fun w' hw' => x_eqI hn _ _ _ rfl rfl rfl) ?_; try simp only [Act.put, ppA, ppB, ppC]
      refine k_in (v := .bool true) rfl (fun w' hw' => x_val _ (.inl rfl) rfl) ?_; try simp only [Act.put, ppA, ppB, ppC]
      refine k_in (v := .pointer (some ⟨b, 0, none⟩)) rfl (fun w' hw' => x_val _ (.inl rfl) rfl) ?_; try simp only [Act.put, ppA, ppB, ppC]
      refine k_in (v := .pointer (some ⟨b, 0, none⟩)) rfl (fun w' hw' => x_nilck _ rfl rfl) ?_; try simp only [Act.put, ppA, ppB, ppC]
      refine k_in (v := .pointer (some ⟨b, 1, none⟩)) rfl (fun w' hw' => x_fa _ _ _ rfl rfl (fa_a1 _ _)) ?_; try simp only [Act.put, ppA, ppB, ppC]
      refine k_in (v := .agg (wcells x)) rfl (fun w' hw' => by subst hw'; exact x_ldIn (n := 32) _ rfl rfl HB.out (wc_size x) (fun j hj => acA_x n x j hj) wordN_type rfl wordN_size) ?_; try simp only [Act.put, ppA, ppB, ppC]
      refine k_in (v := .agg (wcells 0)) rfl (fun w' hw' => x_bldW0 rfl) ?_; try simp only [Act.put, ppA, ppB, ppC]
      refine k_in (v := .bool true) rfl (fun w' hw' => x_eqWc HX.out M0 hxd _ _ _ rfl rfl rfl) ?_; try simp only [Act.put, ppA, ppB, ppC]
      refine k_in (v := .bool true) rfl (fun w' hw' => x_pickS (c := true) rfl _ _ _ rfl rfl rfl rfl) ?_; try simp only [Act.put, ppA, ppB, ppC]
      refine k_in (v := .bool true) rfl (fun w' hw' => x_val _ (.inl rfl) rfl) ?_; try simp only [Act.put, ppA, ppB, ppC]
      refine k_in (v := .pointer (some ⟨b, 0, none⟩)) rfl (fun w' hw' => x_val _ (.inl rfl) rfl) ?_; try simp only [Act.put, ppA, ppB, ppC]
      refine k_in (v := .pointer (some ⟨b, 0, none⟩)) rfl (fun w' hw' => x_nilck _ rfl rfl) ?_; try simp only [Act.put, ppA, ppB, ppC]
      refine k_in (v := .pointer (some ⟨b, 33, none⟩)) rfl (fun w' hw' => x_fa _ _ _ rfl rfl (fa_a2 _ _)) ?_; try simp only [Act.put, ppA, ppB, ppC]
      refine k_in (v := .string ⟨#[]⟩) rfl (fun w' hw' => by subst hw'; exact x_cell _ _ rfl rfl c2 str_aggS) ?_; try simp only [Act.put, ppA, ppB, ppC]
      refine k_in (v := .bool true) rfl (fun w' hw' => x_bin _ _ _ _ rfl rfl rfl rfl (eqStr _)) ?_; try simp only [Act.put, ppA, ppB, ppC]
      refine k_in (v := .bool true) rfl (fun w' hw' => x_pickS (c := true) rfl _ _ _ rfl rfl rfl rfl) ?_; try simp only [Act.put, ppA, ppB, ppC]
      refine k_in (v := .bool true) rfl (fun w' hw' => x_val _ (.inl rfl) rfl) ?_; try simp only [Act.put, ppA, ppB, ppC]
      refine k_in (v := .pointer (some ⟨b, 0, none⟩)) rfl (fun w' hw' => x_val _ (.inl rfl) rfl) ?_; try simp only [Act.put, ppA, ppB, ppC]
      refine k_in (v := .pointer (some ⟨b, 0, none⟩)) rfl (fun w' hw' => x_nilck _ rfl rfl) ?_; try simp only [Act.put, ppA, ppB, ppC]
      refine k_in (v := .pointer (some ⟨b, 34, none⟩)) rfl (fun w' hw' => x_fa _ _ _ rfl rfl (fa_a3 _ _)) ?_; try simp only [Act.put, ppA, ppB, ppC]
      refine k_in (v := .map none) rfl (fun w' hw' => by subst hw'; exact x_cell _ _ rfl rfl c3 slm_aggS) ?_; try simp only [Act.put, ppA, ppB, ppC]
      refine k_in (v := .int .i64 0) rfl (fun w' hw' => x_lenM _ rfl rfl) ?_; try simp only [Act.put, ppA, ppB, ppC]
      refine k_in (v := .bool true) rfl (fun w' hw' => x_eqI rfl _ _ _ rfl rfl rfl) ?_; try simp only [Act.put, ppA, ppB, ppC]
      refine k_in (v := .bool true) rfl (fun w' hw' => x_pickS (c := true) rfl _ _ _ rfl rfl rfl rfl) ?_; try simp only [Act.put, ppA, ppB, ppC]
      refine k_in (v := .bool true) rfl (fun w' hw' => x_val _ (.inr rfl) rfl) ?_; try simp only [Act.put, ppA, ppB, ppC]
      refine k_end ?_
      intro w2 hw2
      go_wp2
      go_ret
      exact ⟨ret_bool (by simp [HD.out]), hw2⟩
    · have hxd : decide (x = 0) = false := by simp [h2]
      have HD := hQz h2
      clear h1 h2
      go_enter Tryz.func35, Tryz.ntmps35
      go_upto_region 1 with (fail)
      try simp only [Act.put, ppA, ppB, ppC]
      refine k_seq (C := fun w' => w' = w) rfl ?_
      refine k_in (v := .pointer (some ⟨b, 0, none⟩)) rfl (fun w' hw' => x_val _ (.inl rfl) rfl) ?_; try simp only [Act.put, ppA, ppB, ppC]
      refine k_in (v := .pointer (some ⟨b, 0, none⟩)) rfl (fun w' hw' => x_nilck _ rfl rfl) ?_; try simp only [Act.put, ppA, ppB, ppC]
      refine k_in (v := .pointer (some ⟨b, 0, none⟩)) rfl (fun w' hw' => x_fa _ _ _ rfl rfl (fa_a0 _ _)) ?_; try simp only [Act.put, ppA, ppB, ppC]
      refine k_in (v := .int .i64 (n : Int)) rfl (fun w' hw' => by subst hw'; exact x_cell _ _ rfl rfl c0 int_aggS) ?_; try simp only [Act.put, ppA, ppB, ppC]
      refine k_in (v := .bool true) rfl (fun w' hw' => x_eqI hn _ _ _ rfl rfl rfl) ?_; try simp only [Act.put, ppA, ppB, ppC]
      refine k_in (v := .bool true) rfl (fun w' hw' => x_val _ (.inl rfl) rfl) ?_; try simp only [Act.put, ppA, ppB, ppC]
      refine k_in (v := .pointer (some ⟨b, 0, none⟩)) rfl (fun w' hw' => x_val _ (.inl rfl) rfl) ?_; try simp only [Act.put, ppA, ppB, ppC]
      refine k_in (v := .pointer (some ⟨b, 0, none⟩)) rfl (fun w' hw' => x_nilck _ rfl rfl) ?_; try simp only [Act.put, ppA, ppB, ppC]
      refine k_in (v := .pointer (some ⟨b, 1, none⟩)) rfl (fun w' hw' => x_fa _ _ _ rfl rfl (fa_a1 _ _)) ?_; try simp only [Act.put, ppA, ppB, ppC]
      refine k_in (v := .agg (wcells x)) rfl (fun w' hw' => by subst hw'; exact x_ldIn (n := 32) _ rfl rfl HB.out (wc_size x) (fun j hj => acA_x n x j hj) wordN_type rfl wordN_size) ?_; try simp only [Act.put, ppA, ppB, ppC]
      refine k_in (v := .agg (wcells 0)) rfl (fun w' hw' => x_bldW0 rfl) ?_; try simp only [Act.put, ppA, ppB, ppC]
      refine k_in (v := .bool false) rfl (fun w' hw' => x_eqWc HX.out M0 hxd _ _ _ rfl rfl rfl) ?_; try simp only [Act.put, ppA, ppB, ppC]
      refine k_in (v := .bool false) rfl (fun w' hw' => x_pickS (c := true) rfl _ _ _ rfl rfl rfl rfl) ?_; try simp only [Act.put, ppA, ppB, ppC]
      refine k_in (v := .bool false) rfl (fun w' hw' => x_val _ (.inl rfl) rfl) ?_; try simp only [Act.put, ppA, ppB, ppC]
      refine k_skip (j := 13) (b := false) rfl rfl rfl rfl rfl ?_; try simp only [Act.put, ppA, ppB, ppC]
      refine k_skip (j := 13) (b := false) rfl rfl rfl rfl rfl ?_; try simp only [Act.put, ppA, ppB, ppC]
      refine k_skip (j := 13) (b := false) rfl rfl rfl rfl rfl ?_; try simp only [Act.put, ppA, ppB, ppC]
      refine k_skip (j := 13) (b := false) rfl rfl rfl rfl rfl ?_; try simp only [Act.put, ppA, ppB, ppC]
      refine k_skip (j := 13) (b := false) rfl rfl rfl rfl rfl ?_; try simp only [Act.put, ppA, ppB, ppC]
      refine k_in (v := .bool false) rfl (fun w' hw' => x_pickS (c := false) rfl _ _ _ rfl rfl rfl rfl) ?_; try simp only [Act.put, ppA, ppB, ppC]
      refine k_in (v := .bool false) rfl (fun w' hw' => x_val _ (.inl rfl) rfl) ?_; try simp only [Act.put, ppA, ppB, ppC]
      refine k_skip (j := 20) (b := false) rfl rfl rfl rfl rfl ?_; try simp only [Act.put, ppA, ppB, ppC]
      refine k_skip (j := 20) (b := false) rfl rfl rfl rfl rfl ?_; try simp only [Act.put, ppA, ppB, ppC]
      refine k_skip (j := 20) (b := false) rfl rfl rfl rfl rfl ?_; try simp only [Act.put, ppA, ppB, ppC]
      refine k_skip (j := 20) (b := false) rfl rfl rfl rfl rfl ?_; try simp only [Act.put, ppA, ppB, ppC]
      refine k_skip (j := 20) (b := false) rfl rfl rfl rfl rfl ?_; try simp only [Act.put, ppA, ppB, ppC]
      refine k_skip (j := 20) (b := false) rfl rfl rfl rfl rfl ?_; try simp only [Act.put, ppA, ppB, ppC]
      refine k_in (v := .bool false) rfl (fun w' hw' => x_pickS (c := false) rfl _ _ _ rfl rfl rfl rfl) ?_; try simp only [Act.put, ppA, ppB, ppC]
      refine k_in (v := .bool false) rfl (fun w' hw' => x_val _ (.inr rfl) rfl) ?_; try simp only [Act.put, ppA, ppB, ppC]
      refine k_end ?_
      intro w2 hw2
      go_wp2
      go_ret
      exact ⟨ret_bool (by simp [HD.out]), hw2⟩
  · have hn : ((n : Int) == 0) = false := by simp [h1]
    have HD := hQz h1
    clear h1
    go_enter Tryz.func35, Tryz.ntmps35
    go_upto_region 1 with (fail)
    try simp only [Act.put, ppA, ppB, ppC]
    refine k_seq (C := fun w' => w' = w) rfl ?_
    refine k_in (v := .pointer (some ⟨b, 0, none⟩)) rfl (fun w' hw' => x_val _ (.inl rfl) rfl) ?_; try simp only [Act.put, ppA, ppB, ppC]
    refine k_in (v := .pointer (some ⟨b, 0, none⟩)) rfl (fun w' hw' => x_nilck _ rfl rfl) ?_; try simp only [Act.put, ppA, ppB, ppC]
    refine k_in (v := .pointer (some ⟨b, 0, none⟩)) rfl (fun w' hw' => x_fa _ _ _ rfl rfl (fa_a0 _ _)) ?_; try simp only [Act.put, ppA, ppB, ppC]
    refine k_in (v := .int .i64 (n : Int)) rfl (fun w' hw' => by subst hw'; exact x_cell _ _ rfl rfl c0 int_aggS) ?_; try simp only [Act.put, ppA, ppB, ppC]
    refine k_in (v := .bool false) rfl (fun w' hw' => x_eqI hn _ _ _ rfl rfl rfl) ?_; try simp only [Act.put, ppA, ppB, ppC]
    refine k_in (v := .bool false) rfl (fun w' hw' => x_val _ (.inl rfl) rfl) ?_; try simp only [Act.put, ppA, ppB, ppC]
    refine k_skip (j := 5) (b := false) rfl rfl rfl rfl rfl ?_; try simp only [Act.put, ppA, ppB, ppC]
    refine k_skip (j := 5) (b := false) rfl rfl rfl rfl rfl ?_; try simp only [Act.put, ppA, ppB, ppC]
    refine k_skip (j := 5) (b := false) rfl rfl rfl rfl rfl ?_; try simp only [Act.put, ppA, ppB, ppC]
    refine k_skip (j := 5) (b := false) rfl rfl rfl rfl rfl ?_; try simp only [Act.put, ppA, ppB, ppC]
    refine k_skip (j := 5) (b := false) rfl rfl rfl rfl rfl ?_; try simp only [Act.put, ppA, ppB, ppC]
    refine k_skip (j := 5) (b := false) rfl rfl rfl rfl rfl ?_; try simp only [Act.put, ppA, ppB, ppC]
    refine k_in (v := .bool false) rfl (fun w' hw' => x_pickS (c := false) rfl _ _ _ rfl rfl rfl rfl) ?_; try simp only [Act.put, ppA, ppB, ppC]
    refine k_in (v := .bool false) rfl (fun w' hw' => x_val _ (.inl rfl) rfl) ?_; try simp only [Act.put, ppA, ppB, ppC]
    refine k_skip (j := 13) (b := false) rfl rfl rfl rfl rfl ?_; try simp only [Act.put, ppA, ppB, ppC]
    refine k_skip (j := 13) (b := false) rfl rfl rfl rfl rfl ?_; try simp only [Act.put, ppA, ppB, ppC]
    refine k_skip (j := 13) (b := false) rfl rfl rfl rfl rfl ?_; try simp only [Act.put, ppA, ppB, ppC]
    refine k_skip (j := 13) (b := false) rfl rfl rfl rfl rfl ?_; try simp only [Act.put, ppA, ppB, ppC]
    refine k_skip (j := 13) (b := false) rfl rfl rfl rfl rfl ?_; try simp only [Act.put, ppA, ppB, ppC]
    refine k_in (v := .bool false) rfl (fun w' hw' => x_pickS (c := false) rfl _ _ _ rfl rfl rfl rfl) ?_; try simp only [Act.put, ppA, ppB, ppC]
    refine k_in (v := .bool false) rfl (fun w' hw' => x_val _ (.inl rfl) rfl) ?_; try simp only [Act.put, ppA, ppB, ppC]
    refine k_skip (j := 20) (b := false) rfl rfl rfl rfl rfl ?_; try simp only [Act.put, ppA, ppB, ppC]
    refine k_skip (j := 20) (b := false) rfl rfl rfl rfl rfl ?_; try simp only [Act.put, ppA, ppB, ppC]
    refine k_skip (j := 20) (b := false) rfl rfl rfl rfl rfl ?_; try simp only [Act.put, ppA, ppB, ppC]
    refine k_skip (j := 20) (b := false) rfl rfl rfl rfl rfl ?_; try simp only [Act.put, ppA, ppB, ppC]
    refine k_skip (j := 20) (b := false) rfl rfl rfl rfl rfl ?_; try simp only [Act.put, ppA, ppB, ppC]
    refine k_skip (j := 20) (b := false) rfl rfl rfl rfl rfl ?_; try simp only [Act.put, ppA, ppB, ppC]
    refine k_in (v := .bool false) rfl (fun w' hw' => x_pickS (c := false) rfl _ _ _ rfl rfl rfl rfl) ?_; try simp only [Act.put, ppA, ppB, ppC]
    refine k_in (v := .bool false) rfl (fun w' hw' => x_val _ (.inr rfl) rfl) ?_; try simp only [Act.put, ppA, ppB, ppC]
    refine k_end ?_
    intro w2 hw2
    go_wp2
    go_ret
    exact ⟨ret_bool (by simp [HD.out]), hw2⟩
end
section
open Go.RowKit Go.WideMaps Go.ChangeMaps Go.MapKept
set_option maxRecDepth 100000
def acG (n x : Nat) (c : List Nat) (mo : Value) : Array Value := (Value.int .i64 (n : Int) :: ((wcells x).toList ++ [.string (strB c), mo])).toArray
theorem acG_size (n x : Nat) (c : List Nat) (mo : Value) : (acG n x c mo).size = 35 := by simp [acG, wc_size]
theorem acG_n (n x : Nat) (c : List Nat) (mo : Value) : (acG n x c mo)[0]? = some (.int .i64 (n : Int)) := rfl
theorem acG_x (n x j : Nat) (c : List Nat) (mo : Value) (h : j < 32) : (acG n x c mo)[1 + j]? = (wcells x)[j]? := by
  simp only [acG, List.getElem?_toArray]
  rw [show 1 + j = j + 1 by omega, List.getElem?_cons_succ, List.getElem?_append_left (by rw [wcL]; exact h), Array.getElem?_toList]
theorem acG_c (n x : Nat) (c : List Nat) (mo : Value) : (acG n x c mo)[33]? = some (.string (strB c)) := by
  simp only [acG, List.getElem?_toArray]
  rw [List.getElem?_cons_succ, List.getElem?_append_right (by rw [wcL]; exact Nat.le_refl _), wcL]; rfl
theorem acG_s (n x : Nat) (c : List Nat) (mo : Value) : (acG n x c mo)[34]? = some mo := by
  simp only [acG, List.getElem?_toArray]
  rw [List.getElem?_cons_succ, List.getElem?_append_right (by rw [wcL]; decide), wcL]; rfl
theorem acG_setn (n m x : Nat) (c : List Nat) (mo : Value) : (acG n x c mo).setIfInBounds 0 (.int .i64 (m : Int)) = acG m x c mo := by
  simp [acG]
theorem acG_setx (n x y : Nat) (c : List Nat) (mo : Value) : splS (acG n x c mo) 1 (wcells y) = acG n y c mo := by
  unfold splS
  rw [wcL]
  show ((Value.int .i64 (n : Int) :: ((wcells x).toList ++ [.string (strB c), mo])).take 1 ++ (wcells y).toList ++ (Value.int .i64 (n : Int) :: ((wcells x).toList ++ [.string (strB c), mo])).drop 33).toArray = _
  rw [List.take_succ_cons, List.take_zero, List.drop_succ_cons, List.drop_left' (wcL x)]
  rfl
theorem acG_setc (n x : Nat) (c d : List Nat) (mo : Value) : (acG n x c mo).setIfInBounds 33 (.string (strB d)) = acG n x d mo := by
  simp [acG, List.set_append, wc_size]
theorem acG_sets (n x : Nat) (c : List Nat) (mo mo' : Value) : (acG n x c mo).setIfInBounds 34 mo' = acG n x c mo' := by
  simp [acG, List.set_append, wc_size]
structure Ac where
  n : Nat
  x : Nat
  c : List Nat
  S : Nat → Nat
def Ac.nil : Ac := ⟨0, 0, [], fun _ => 0⟩
def Ac.ok (q : Ac) : Prop := q.n < 9223372036854775808 ∧ q.x < M256 ∧ (∀ y ∈ q.c, y < 256) ∧ (∀ k, M256 ≤ k → q.S k = 0) ∧ ∀ k, k < M256 → q.S k < M256
theorem Ac.ok_nil : Ac.nil.ok := ⟨by decide, by decide, fun y h => (by cases h), fun _ _ => rfl, fun _ _ => (by decide : (0 : Nat) < M256)⟩
theorem Ac.nil_iff {q : Ac} (h : q.ok) : q = Ac.nil ↔ q.n = 0 ∧ q.x = 0 ∧ q.c = [] ∧ ∀ k, k < M256 → q.S k = 0 := by
  constructor
  · rintro rfl
    exact ⟨rfl, rfl, rfl, fun _ _ => rfl⟩
  · rintro ⟨h1, h2, h3, h4⟩
    obtain ⟨n, x, c, S⟩ := q
    simp only at h1 h2 h3 h4
    subst h1 h2 h3
    have : S = fun _ => 0 := funext fun k => by
      by_cases hk : k < M256
      · exact h4 k hk
      · exact h.2.2.2.1 k (by omega)
    subst this
    rfl
theorem eqStr0 {c : List Nat} {r : Bool} (hc : ∀ y ∈ c, y < 256) (hr : decide (c = []) = r) (w : World) : (binOp .eql 9 (.string (strB c)) (.string ⟨#[]⟩)).run Tryz.prog w = .ok (.bool r) w := by
  have h : (binOp .eql 9 (.string (strB c)) (.string ⟨#[]⟩)).run Tryz.prog w = .ok (.bool ((strB c).toList == (strB []).toList)) w := rfl
  rw [h, strB_eq hc (by simp), ← hr]
  congr 2
  cases c <;> rfl
end
section
open Go.RowKit Go.WideMaps Go.ChangeMaps Go.MapKept
set_option maxRecDepth 100000
set_option maxHeartbeats 2000000
def EmptyP (q : Ac) (w : World) (e : Ending) (w' : World) : Prop := ∃ r : Bool, e = .returned (.bool r) ∧ (r = true ↔ q = Ac.nil) ∧ w' = w
theorem EmptyP.mk {q : Ac} {w : World} {r : Bool} (h : r = true ↔ q = Ac.nil) : EmptyP q w (.returned (.bool r)) w := ⟨r, rfl, h, rfl⟩
theorem emptyG (B N b : Nat) (q : Ac) (mo : Value) (w : World) (hB : Blk w b 79 (acG q.n q.x q.c mo)) (hS : SlP B N w mo q.S) (hq : q.ok) :
    Calls Tryz.prog 35 #[.pointer (some ⟨b, 0, none⟩)] w (EmptyP q w) := by
  have hnil := Ac.nil_iff hq
  obtain ⟨m, hm0, hlen⟩ := hS.len
  obtain ⟨n, x, c, S⟩ := q
  have hx : x < M256 := hq.2.1
  have hcb : ∀ y ∈ c, y < 256 := hq.2.2.1
  simp only at hB hnil hm0
  have c0 := hB.cell (acG_n n x c mo)
  have c2 := hB.cell (acG_c n x c mo)
  have c3 := hB.cell (acG_s n x c mo)
  rw [← hm0] at hnil
  have HB := hQz hB
  have HX := hQz hx
  have HC := hQz hcb
  have HQ := hQz hnil
  have M0 : 0 < M256 := M256_pos
  clear hB hx hcb hnil hS hq hm0
  by_cases h1 : n = 0
  · have hn : ((n : Int) == 0) = true := by simp [h1]
    by_cases h2 : x = 0
    · have hxd : decide (x = 0) = true := by simp [h2]
      by_cases h3 : c = []
      · have hcd : decide (c = []) = true := by simp [h3]
        by_cases h4 : m = 0
        · have hl : ((m : Int) == 0) = true := by simp [h4]
          have HD := hQz (And.intro h1 (And.intro h2 (And.intro h3 h4)))
          clear h1 h2 h3 h4
          go_enter Tryz.func35, Tryz.ntmps35
          go_upto_region 1 with (fail)
          try simp only [Act.put, ppA, ppB, ppC]
          refine k_seq (C := fun w' => w' = w) rfl ?_
          refine k_in (v := .pointer (some ⟨b, 0, none⟩)) rfl (fun w' hw' => x_val _ (.inl rfl) rfl) ?_; try simp only [Act.put, ppA, ppB, ppC]
          refine k_in (v := .pointer (some ⟨b, 0, none⟩)) rfl (fun w' hw' => x_nilck _ rfl rfl) ?_; try simp only [Act.put, ppA, ppB, ppC]
          refine k_in (v := .pointer (some ⟨b, 0, none⟩)) rfl (fun w' hw' => x_fa _ _ _ rfl rfl (fa_a0 _ _)) ?_; try simp only [Act.put, ppA, ppB, ppC]
          refine k_in (v := .int .i64 (n : Int)) rfl (fun w' hw' => by subst hw'; exact x_cell _ _ rfl rfl c0 int_aggS) ?_; try simp only [Act.put, ppA, ppB, ppC]
          refine k_in (v := .bool true) rfl (fun w' hw' => x_eqI hn _ _ _ rfl rfl rfl) ?_; try simp only [Act.put, ppA, ppB, ppC]
          refine k_in (v := .bool true) rfl (fun w' hw' => x_val _ (.inl rfl) rfl) ?_; try simp only [Act.put, ppA, ppB, ppC]
          refine k_in (v := .pointer (some ⟨b, 0, none⟩)) rfl (fun w' hw' => x_val _ (.inl rfl) rfl) ?_; try simp only [Act.put, ppA, ppB, ppC]
          refine k_in (v := .pointer (some ⟨b, 0, none⟩)) rfl (fun w' hw' => x_nilck _ rfl rfl) ?_; try simp only [Act.put, ppA, ppB, ppC]
          refine k_in (v := .pointer (some ⟨b, 1, none⟩)) rfl (fun w' hw' => x_fa _ _ _ rfl rfl (fa_a1 _ _)) ?_; try simp only [Act.put, ppA, ppB, ppC]
          refine k_in (v := .agg (wcells x)) rfl (fun w' hw' => by subst hw'; exact x_ldIn (n := 32) _ rfl rfl HB.out (wc_size x) (fun j hj => acG_x n x j c mo hj) wordN_type rfl wordN_size) ?_; try simp only [Act.put, ppA, ppB, ppC]
          refine k_in (v := .agg (wcells 0)) rfl (fun w' hw' => x_bldW0 rfl) ?_; try simp only [Act.put, ppA, ppB, ppC]
          refine k_in (v := .bool true) rfl (fun w' hw' => x_eqWc HX.out M0 hxd _ _ _ rfl rfl rfl) ?_; try simp only [Act.put, ppA, ppB, ppC]
          refine k_in (v := .bool true) rfl (fun w' hw' => x_pickS (c := true) rfl _ _ _ rfl rfl rfl rfl) ?_; try simp only [Act.put, ppA, ppB, ppC]
          refine k_in (v := .bool true) rfl (fun w' hw' => x_val _ (.inl rfl) rfl) ?_; try simp only [Act.put, ppA, ppB, ppC]
          refine k_in (v := .pointer (some ⟨b, 0, none⟩)) rfl (fun w' hw' => x_val _ (.inl rfl) rfl) ?_; try simp only [Act.put, ppA, ppB, ppC]
          refine k_in (v := .pointer (some ⟨b, 0, none⟩)) rfl (fun w' hw' => x_nilck _ rfl rfl) ?_; try simp only [Act.put, ppA, ppB, ppC]
          refine k_in (v := .pointer (some ⟨b, 33, none⟩)) rfl (fun w' hw' => x_fa _ _ _ rfl rfl (fa_a2 _ _)) ?_; try simp only [Act.put, ppA, ppB, ppC]
          refine k_in (v := .string (strB c)) rfl (fun w' hw' => by subst hw'; exact x_cell _ _ rfl rfl c2 str_aggS) ?_; try simp only [Act.put, ppA, ppB, ppC]
          refine k_in (v := .bool true) rfl (fun w' hw' => x_bin _ _ _ _ rfl rfl rfl rfl (eqStr0 HC.out hcd _)) ?_; try simp only [Act.put, ppA, ppB, ppC]
          refine k_in (v := .bool true) rfl (fun w' hw' => x_pickS (c := true) rfl _ _ _ rfl rfl rfl rfl) ?_; try simp only [Act.put, ppA, ppB, ppC]
          refine k_in (v := .bool true) rfl (fun w' hw' => x_val _ (.inl rfl) rfl) ?_; try simp only [Act.put, ppA, ppB, ppC]
          refine k_in (v := .pointer (some ⟨b, 0, none⟩)) rfl (fun w' hw' => x_val _ (.inl rfl) rfl) ?_; try simp only [Act.put, ppA, ppB, ppC]
          refine k_in (v := .pointer (some ⟨b, 0, none⟩)) rfl (fun w' hw' => x_nilck _ rfl rfl) ?_; try simp only [Act.put, ppA, ppB, ppC]
          refine k_in (v := .pointer (some ⟨b, 34, none⟩)) rfl (fun w' hw' => x_fa _ _ _ rfl rfl (fa_a3 _ _)) ?_; try simp only [Act.put, ppA, ppB, ppC]
          refine k_in (v := mo) rfl (fun w' hw' => by subst hw'; exact x_cell _ _ rfl rfl c3 slm_aggS) ?_; try simp only [Act.put, ppA, ppB, ppC]
          refine k_in (v := .int .i64 (m : Int)) rfl (fun w' hw' => by subst hw'; exact hlen _ rfl rfl) ?_; try simp only [Act.put, ppA, ppB, ppC]
          refine k_in (v := .bool true) rfl (fun w' hw' => x_eqI hl _ _ _ rfl rfl rfl) ?_; try simp only [Act.put, ppA, ppB, ppC]
          refine k_in (v := .bool true) rfl (fun w' hw' => x_pickS (c := true) rfl _ _ _ rfl rfl rfl rfl) ?_; try simp only [Act.put, ppA, ppB, ppC]
          refine k_in (v := .bool true) rfl (fun w' hw' => x_val _ (.inr rfl) rfl) ?_; try simp only [Act.put, ppA, ppB, ppC]
          refine k_end ?_
          intro w2 hw2
          subst hw2
          go_wp2
          go_ret
          exact EmptyP.mk ⟨fun _ => HQ.out.2 HD.out, fun _ => rfl⟩
        · have hl : ((m : Int) == 0) = false := by simp [h4]
          have HD := hQz h4
          clear h1 h2 h3 h4
          go_enter Tryz.func35, Tryz.ntmps35
          go_upto_region 1 with (fail)
          try simp only [Act.put, ppA, ppB, ppC]
          refine k_seq (C := fun w' => w' = w) rfl ?_
          refine k_in (v := .pointer (some ⟨b, 0, none⟩)) rfl (fun w' hw' => x_val _ (.inl rfl) rfl) ?_; try simp only [Act.put, ppA, ppB, ppC]
          refine k_in (v := .pointer (some ⟨b, 0, none⟩)) rfl (fun w' hw' => x_nilck _ rfl rfl) ?_; try simp only [Act.put, ppA, ppB, ppC]
          refine k_in (v := .pointer (some ⟨b, 0, none⟩)) rfl (fun w' hw' => x_fa _ _ _ rfl rfl (fa_a0 _ _)) ?_; try simp only [Act.put, ppA, ppB, ppC]
          refine k_in (v := .int .i64 (n : Int)) rfl (fun w' hw' => by subst hw'; exact x_cell _ _ rfl rfl c0 int_aggS) ?_; try simp only [Act.put, ppA, ppB, ppC]
          refine k_in (v := .bool true) rfl (fun w' hw' => x_eqI hn _ _ _ rfl rfl rfl) ?_; try simp only [Act.put, ppA, ppB, ppC]
          refine k_in (v := .bool true) rfl (fun w' hw' => x_val _ (.inl rfl) rfl) ?_; try simp only [Act.put, ppA, ppB, ppC]
          refine k_in (v := .pointer (some ⟨b, 0, none⟩)) rfl (fun w' hw' => x_val _ (.inl rfl) rfl) ?_; try simp only [Act.put, ppA, ppB, ppC]
          refine k_in (v := .pointer (some ⟨b, 0, none⟩)) rfl (fun w' hw' => x_nilck _ rfl rfl) ?_; try simp only [Act.put, ppA, ppB, ppC]
          refine k_in (v := .pointer (some ⟨b, 1, none⟩)) rfl (fun w' hw' => x_fa _ _ _ rfl rfl (fa_a1 _ _)) ?_; try simp only [Act.put, ppA, ppB, ppC]
          refine k_in (v := .agg (wcells x)) rfl (fun w' hw' => by subst hw'; exact x_ldIn (n := 32) _ rfl rfl HB.out (wc_size x) (fun j hj => acG_x n x j c mo hj) wordN_type rfl wordN_size) ?_; try simp only [Act.put, ppA, ppB, ppC]
          refine k_in (v := .agg (wcells 0)) rfl (fun w' hw' => x_bldW0 rfl) ?_; try simp only [Act.put, ppA, ppB, ppC]
          refine k_in (v := .bool true) rfl (fun w' hw' => x_eqWc HX.out M0 hxd _ _ _ rfl rfl rfl) ?_; try simp only [Act.put, ppA, ppB, ppC]
          refine k_in (v := .bool true) rfl (fun w' hw' => x_pickS (c := true) rfl _ _ _ rfl rfl rfl rfl) ?_; try simp only [Act.put, ppA, ppB, ppC]
          refine k_in (v := .bool true) rfl (fun w' hw' => x_val _ (.inl rfl) rfl) ?_; try simp only [Act.put, ppA, ppB, ppC]
          refine k_in (v := .pointer (some ⟨b, 0, none⟩)) rfl (fun w' hw' => x_val _ (.inl rfl) rfl) ?_; try simp only [Act.put, ppA, ppB, ppC]
          refine k_in (v := .pointer (some ⟨b, 0, none⟩)) rfl (fun w' hw' => x_nilck _ rfl rfl) ?_; try simp only [Act.put, ppA, ppB, ppC]
          refine k_in (v := .pointer (some ⟨b, 33, none⟩)) rfl (fun w' hw' => x_fa _ _ _ rfl rfl (fa_a2 _ _)) ?_; try simp only [Act.put, ppA, ppB, ppC]
          refine k_in (v := .string (strB c)) rfl (fun w' hw' => by subst hw'; exact x_cell _ _ rfl rfl c2 str_aggS) ?_; try simp only [Act.put, ppA, ppB, ppC]
          refine k_in (v := .bool true) rfl (fun w' hw' => x_bin _ _ _ _ rfl rfl rfl rfl (eqStr0 HC.out hcd _)) ?_; try simp only [Act.put, ppA, ppB, ppC]
          refine k_in (v := .bool true) rfl (fun w' hw' => x_pickS (c := true) rfl _ _ _ rfl rfl rfl rfl) ?_; try simp only [Act.put, ppA, ppB, ppC]
          refine k_in (v := .bool true) rfl (fun w' hw' => x_val _ (.inl rfl) rfl) ?_; try simp only [Act.put, ppA, ppB, ppC]
          refine k_in (v := .pointer (some ⟨b, 0, none⟩)) rfl (fun w' hw' => x_val _ (.inl rfl) rfl) ?_; try simp only [Act.put, ppA, ppB, ppC]
          refine k_in (v := .pointer (some ⟨b, 0, none⟩)) rfl (fun w' hw' => x_nilck _ rfl rfl) ?_; try simp only [Act.put, ppA, ppB, ppC]
          refine k_in (v := .pointer (some ⟨b, 34, none⟩)) rfl (fun w' hw' => x_fa _ _ _ rfl rfl (fa_a3 _ _)) ?_; try simp only [Act.put, ppA, ppB, ppC]
          refine k_in (v := mo) rfl (fun w' hw' => by subst hw'; exact x_cell _ _ rfl rfl c3 slm_aggS) ?_; try simp only [Act.put, ppA, ppB, ppC]
          refine k_in (v := .int .i64 (m : Int)) rfl (fun w' hw' => by subst hw'; exact hlen _ rfl rfl) ?_; try simp only [Act.put, ppA, ppB, ppC]
          refine k_in (v := .bool false) rfl (fun w' hw' => x_eqI hl _ _ _ rfl rfl rfl) ?_; try simp only [Act.put, ppA, ppB, ppC]
          refine k_in (v := .bool false) rfl (fun w' hw' => x_pickS (c := true) rfl _ _ _ rfl rfl rfl rfl) ?_; try simp only [Act.put, ppA, ppB, ppC]
          refine k_in (v := .bool false) rfl (fun w' hw' => x_val _ (.inr rfl) rfl) ?_; try simp only [Act.put, ppA, ppB, ppC]
          refine k_end ?_
          intro w2 hw2
          subst hw2
          go_wp2
          go_ret
          exact EmptyP.mk ⟨fun h => absurd h (by simp), fun h => absurd (HQ.out.1 h).2.2.2 HD.out⟩
      · have hcd : decide (c = []) = false := by simp [h3]
        have HD := hQz h3
        clear h1 h2 h3
        go_enter Tryz.func35, Tryz.ntmps35
        go_upto_region 1 with (fail)
        try simp only [Act.put, ppA, ppB, ppC]
        refine k_seq (C := fun w' => w' = w) rfl ?_
        refine k_in (v := .pointer (some ⟨b, 0, none⟩)) rfl (fun w' hw' => x_val _ (.inl rfl) rfl) ?_; try simp only [Act.put, ppA, ppB, ppC]
        refine k_in (v := .pointer (some ⟨b, 0, none⟩)) rfl (fun w' hw' => x_nilck _ rfl rfl) ?_; try simp only [Act.put, ppA, ppB, ppC]
        refine k_in (v := .pointer (some ⟨b, 0, none⟩)) rfl (fun w' hw' => x_fa _ _ _ rfl rfl (fa_a0 _ _)) ?_; try simp only [Act.put, ppA, ppB, ppC]
        refine k_in (v := .int .i64 (n : Int)) rfl (fun w' hw' => by subst hw'; exact x_cell _ _ rfl rfl c0 int_aggS) ?_; try simp only [Act.put, ppA, ppB, ppC]
        refine k_in (v := .bool true) rfl (fun w' hw' => x_eqI hn _ _ _ rfl rfl rfl) ?_; try simp only [Act.put, ppA, ppB, ppC]
        refine k_in (v := .bool true) rfl (fun w' hw' => x_val _ (.inl rfl) rfl) ?_; try simp only [Act.put, ppA, ppB, ppC]
        refine k_in (v := .pointer (some ⟨b, 0, none⟩)) rfl (fun w' hw' => x_val _ (.inl rfl) rfl) ?_; try simp only [Act.put, ppA, ppB, ppC]
        refine k_in (v := .pointer (some ⟨b, 0, none⟩)) rfl (fun w' hw' => x_nilck _ rfl rfl) ?_; try simp only [Act.put, ppA, ppB, ppC]
        refine k_in (v := .pointer (some ⟨b, 1, none⟩)) rfl (fun w' hw' => x_fa _ _ _ rfl rfl (fa_a1 _ _)) ?_; try simp only [Act.put, ppA, ppB, ppC]
        refine k_in (v := .agg (wcells x)) rfl (fun w' hw' => by subst hw'; exact x_ldIn (n := 32) _ rfl rfl HB.out (wc_size x) (fun j hj => acG_x n x j c mo hj) wordN_type rfl wordN_size) ?_; try simp only [Act.put, ppA, ppB, ppC]
        refine k_in (v := .agg (wcells 0)) rfl (fun w' hw' => x_bldW0 rfl) ?_; try simp only [Act.put, ppA, ppB, ppC]
        refine k_in (v := .bool true) rfl (fun w' hw' => x_eqWc HX.out M0 hxd _ _ _ rfl rfl rfl) ?_; try simp only [Act.put, ppA, ppB, ppC]
        refine k_in (v := .bool true) rfl (fun w' hw' => x_pickS (c := true) rfl _ _ _ rfl rfl rfl rfl) ?_; try simp only [Act.put, ppA, ppB, ppC]
        refine k_in (v := .bool true) rfl (fun w' hw' => x_val _ (.inl rfl) rfl) ?_; try simp only [Act.put, ppA, ppB, ppC]
        refine k_in (v := .pointer (some ⟨b, 0, none⟩)) rfl (fun w' hw' => x_val _ (.inl rfl) rfl) ?_; try simp only [Act.put, ppA, ppB, ppC]
        refine k_in (v := .pointer (some ⟨b, 0, none⟩)) rfl (fun w' hw' => x_nilck _ rfl rfl) ?_; try simp only [Act.put, ppA, ppB, ppC]
        refine k_in (v := .pointer (some ⟨b, 33, none⟩)) rfl (fun w' hw' => x_fa _ _ _ rfl rfl (fa_a2 _ _)) ?_; try simp only [Act.put, ppA, ppB, ppC]
        refine k_in (v := .string (strB c)) rfl (fun w' hw' => by subst hw'; exact x_cell _ _ rfl rfl c2 str_aggS) ?_; try simp only [Act.put, ppA, ppB, ppC]
        refine k_in (v := .bool false) rfl (fun w' hw' => x_bin _ _ _ _ rfl rfl rfl rfl (eqStr0 HC.out hcd _)) ?_; try simp only [Act.put, ppA, ppB, ppC]
        refine k_in (v := .bool false) rfl (fun w' hw' => x_pickS (c := true) rfl _ _ _ rfl rfl rfl rfl) ?_; try simp only [Act.put, ppA, ppB, ppC]
        refine k_in (v := .bool false) rfl (fun w' hw' => x_val _ (.inl rfl) rfl) ?_; try simp only [Act.put, ppA, ppB, ppC]
        refine k_skip (j := 20) (b := false) rfl rfl rfl rfl rfl ?_; try simp only [Act.put, ppA, ppB, ppC]
        refine k_skip (j := 20) (b := false) rfl rfl rfl rfl rfl ?_; try simp only [Act.put, ppA, ppB, ppC]
        refine k_skip (j := 20) (b := false) rfl rfl rfl rfl rfl ?_; try simp only [Act.put, ppA, ppB, ppC]
        refine k_skip (j := 20) (b := false) rfl rfl rfl rfl rfl ?_; try simp only [Act.put, ppA, ppB, ppC]
        refine k_skip (j := 20) (b := false) rfl rfl rfl rfl rfl ?_; try simp only [Act.put, ppA, ppB, ppC]
        refine k_skip (j := 20) (b := false) rfl rfl rfl rfl rfl ?_; try simp only [Act.put, ppA, ppB, ppC]
        refine k_in (v := .bool false) rfl (fun w' hw' => x_pickS (c := false) rfl _ _ _ rfl rfl rfl rfl) ?_; try simp only [Act.put, ppA, ppB, ppC]
        refine k_in (v := .bool false) rfl (fun w' hw' => x_val _ (.inr rfl) rfl) ?_; try simp only [Act.put, ppA, ppB, ppC]
        refine k_end ?_
        intro w2 hw2
        subst hw2
        go_wp2
        go_ret
        exact EmptyP.mk ⟨fun h => absurd h (by simp), fun h => absurd (HQ.out.1 h).2.2.1 HD.out⟩
    · have hxd : decide (x = 0) = false := by simp [h2]
      have HD := hQz h2
      clear h1 h2
      go_enter Tryz.func35, Tryz.ntmps35
      go_upto_region 1 with (fail)
      try simp only [Act.put, ppA, ppB, ppC]
      refine k_seq (C := fun w' => w' = w) rfl ?_
      refine k_in (v := .pointer (some ⟨b, 0, none⟩)) rfl (fun w' hw' => x_val _ (.inl rfl) rfl) ?_; try simp only [Act.put, ppA, ppB, ppC]
      refine k_in (v := .pointer (some ⟨b, 0, none⟩)) rfl (fun w' hw' => x_nilck _ rfl rfl) ?_; try simp only [Act.put, ppA, ppB, ppC]
      refine k_in (v := .pointer (some ⟨b, 0, none⟩)) rfl (fun w' hw' => x_fa _ _ _ rfl rfl (fa_a0 _ _)) ?_; try simp only [Act.put, ppA, ppB, ppC]
      refine k_in (v := .int .i64 (n : Int)) rfl (fun w' hw' => by subst hw'; exact x_cell _ _ rfl rfl c0 int_aggS) ?_; try simp only [Act.put, ppA, ppB, ppC]
      refine k_in (v := .bool true) rfl (fun w' hw' => x_eqI hn _ _ _ rfl rfl rfl) ?_; try simp only [Act.put, ppA, ppB, ppC]
      refine k_in (v := .bool true) rfl (fun w' hw' => x_val _ (.inl rfl) rfl) ?_; try simp only [Act.put, ppA, ppB, ppC]
      refine k_in (v := .pointer (some ⟨b, 0, none⟩)) rfl (fun w' hw' => x_val _ (.inl rfl) rfl) ?_; try simp only [Act.put, ppA, ppB, ppC]
      refine k_in (v := .pointer (some ⟨b, 0, none⟩)) rfl (fun w' hw' => x_nilck _ rfl rfl) ?_; try simp only [Act.put, ppA, ppB, ppC]
      refine k_in (v := .pointer (some ⟨b, 1, none⟩)) rfl (fun w' hw' => x_fa _ _ _ rfl rfl (fa_a1 _ _)) ?_; try simp only [Act.put, ppA, ppB, ppC]
      refine k_in (v := .agg (wcells x)) rfl (fun w' hw' => by subst hw'; exact x_ldIn (n := 32) _ rfl rfl HB.out (wc_size x) (fun j hj => acG_x n x j c mo hj) wordN_type rfl wordN_size) ?_; try simp only [Act.put, ppA, ppB, ppC]
      refine k_in (v := .agg (wcells 0)) rfl (fun w' hw' => x_bldW0 rfl) ?_; try simp only [Act.put, ppA, ppB, ppC]
      refine k_in (v := .bool false) rfl (fun w' hw' => x_eqWc HX.out M0 hxd _ _ _ rfl rfl rfl) ?_; try simp only [Act.put, ppA, ppB, ppC]
      refine k_in (v := .bool false) rfl (fun w' hw' => x_pickS (c := true) rfl _ _ _ rfl rfl rfl rfl) ?_; try simp only [Act.put, ppA, ppB, ppC]
      refine k_in (v := .bool false) rfl (fun w' hw' => x_val _ (.inl rfl) rfl) ?_; try simp only [Act.put, ppA, ppB, ppC]
      refine k_skip (j := 13) (b := false) rfl rfl rfl rfl rfl ?_; try simp only [Act.put, ppA, ppB, ppC]
      refine k_skip (j := 13) (b := false) rfl rfl rfl rfl rfl ?_; try simp only [Act.put, ppA, ppB, ppC]
      refine k_skip (j := 13) (b := false) rfl rfl rfl rfl rfl ?_; try simp only [Act.put, ppA, ppB, ppC]
      refine k_skip (j := 13) (b := false) rfl rfl rfl rfl rfl ?_; try simp only [Act.put, ppA, ppB, ppC]
      refine k_skip (j := 13) (b := false) rfl rfl rfl rfl rfl ?_; try simp only [Act.put, ppA, ppB, ppC]
      refine k_in (v := .bool false) rfl (fun w' hw' => x_pickS (c := false) rfl _ _ _ rfl rfl rfl rfl) ?_; try simp only [Act.put, ppA, ppB, ppC]
      refine k_in (v := .bool false) rfl (fun w' hw' => x_val _ (.inl rfl) rfl) ?_; try simp only [Act.put, ppA, ppB, ppC]
      refine k_skip (j := 20) (b := false) rfl rfl rfl rfl rfl ?_; try simp only [Act.put, ppA, ppB, ppC]
      refine k_skip (j := 20) (b := false) rfl rfl rfl rfl rfl ?_; try simp only [Act.put, ppA, ppB, ppC]
      refine k_skip (j := 20) (b := false) rfl rfl rfl rfl rfl ?_; try simp only [Act.put, ppA, ppB, ppC]
      refine k_skip (j := 20) (b := false) rfl rfl rfl rfl rfl ?_; try simp only [Act.put, ppA, ppB, ppC]
      refine k_skip (j := 20) (b := false) rfl rfl rfl rfl rfl ?_; try simp only [Act.put, ppA, ppB, ppC]
      refine k_skip (j := 20) (b := false) rfl rfl rfl rfl rfl ?_; try simp only [Act.put, ppA, ppB, ppC]
      refine k_in (v := .bool false) rfl (fun w' hw' => x_pickS (c := false) rfl _ _ _ rfl rfl rfl rfl) ?_; try simp only [Act.put, ppA, ppB, ppC]
      refine k_in (v := .bool false) rfl (fun w' hw' => x_val _ (.inr rfl) rfl) ?_; try simp only [Act.put, ppA, ppB, ppC]
      refine k_end ?_
      intro w2 hw2
      subst hw2
      go_wp2
      go_ret
      exact EmptyP.mk ⟨fun h => absurd h (by simp), fun h => absurd (HQ.out.1 h).2.1 HD.out⟩
  · have hn : ((n : Int) == 0) = false := by simp [h1]
    have HD := hQz h1
    clear h1
    go_enter Tryz.func35, Tryz.ntmps35
    go_upto_region 1 with (fail)
    try simp only [Act.put, ppA, ppB, ppC]
    refine k_seq (C := fun w' => w' = w) rfl ?_
    refine k_in (v := .pointer (some ⟨b, 0, none⟩)) rfl (fun w' hw' => x_val _ (.inl rfl) rfl) ?_; try simp only [Act.put, ppA, ppB, ppC]
    refine k_in (v := .pointer (some ⟨b, 0, none⟩)) rfl (fun w' hw' => x_nilck _ rfl rfl) ?_; try simp only [Act.put, ppA, ppB, ppC]
    refine k_in (v := .pointer (some ⟨b, 0, none⟩)) rfl (fun w' hw' => x_fa _ _ _ rfl rfl (fa_a0 _ _)) ?_; try simp only [Act.put, ppA, ppB, ppC]
    refine k_in (v := .int .i64 (n : Int)) rfl (fun w' hw' => by subst hw'; exact x_cell _ _ rfl rfl c0 int_aggS) ?_; try simp only [Act.put, ppA, ppB, ppC]
    refine k_in (v := .bool false) rfl (fun w' hw' => x_eqI hn _ _ _ rfl rfl rfl) ?_; try simp only [Act.put, ppA, ppB, ppC]
    refine k_in (v := .bool false) rfl (fun w' hw' => x_val _ (.inl rfl) rfl) ?_; try simp only [Act.put, ppA, ppB, ppC]
    refine k_skip (j := 5) (b := false) rfl rfl rfl rfl rfl ?_; try simp only [Act.put, ppA, ppB, ppC]
    refine k_skip (j := 5) (b := false) rfl rfl rfl rfl rfl ?_; try simp only [Act.put, ppA, ppB, ppC]
    refine k_skip (j := 5) (b := false) rfl rfl rfl rfl rfl ?_; try simp only [Act.put, ppA, ppB, ppC]
    refine k_skip (j := 5) (b := false) rfl rfl rfl rfl rfl ?_; try simp only [Act.put, ppA, ppB, ppC]
    refine k_skip (j := 5) (b := false) rfl rfl rfl rfl rfl ?_; try simp only [Act.put, ppA, ppB, ppC]
    refine k_skip (j := 5) (b := false) rfl rfl rfl rfl rfl ?_; try simp only [Act.put, ppA, ppB, ppC]
    refine k_in (v := .bool false) rfl (fun w' hw' => x_pickS (c := false) rfl _ _ _ rfl rfl rfl rfl) ?_; try simp only [Act.put, ppA, ppB, ppC]
    refine k_in (v := .bool false) rfl (fun w' hw' => x_val _ (.inl rfl) rfl) ?_; try simp only [Act.put, ppA, ppB, ppC]
    refine k_skip (j := 13) (b := false) rfl rfl rfl rfl rfl ?_; try simp only [Act.put, ppA, ppB, ppC]
    refine k_skip (j := 13) (b := false) rfl rfl rfl rfl rfl ?_; try simp only [Act.put, ppA, ppB, ppC]
    refine k_skip (j := 13) (b := false) rfl rfl rfl rfl rfl ?_; try simp only [Act.put, ppA, ppB, ppC]
    refine k_skip (j := 13) (b := false) rfl rfl rfl rfl rfl ?_; try simp only [Act.put, ppA, ppB, ppC]
    refine k_skip (j := 13) (b := false) rfl rfl rfl rfl rfl ?_; try simp only [Act.put, ppA, ppB, ppC]
    refine k_in (v := .bool false) rfl (fun w' hw' => x_pickS (c := false) rfl _ _ _ rfl rfl rfl rfl) ?_; try simp only [Act.put, ppA, ppB, ppC]
    refine k_in (v := .bool false) rfl (fun w' hw' => x_val _ (.inl rfl) rfl) ?_; try simp only [Act.put, ppA, ppB, ppC]
    refine k_skip (j := 20) (b := false) rfl rfl rfl rfl rfl ?_; try simp only [Act.put, ppA, ppB, ppC]
    refine k_skip (j := 20) (b := false) rfl rfl rfl rfl rfl ?_; try simp only [Act.put, ppA, ppB, ppC]
    refine k_skip (j := 20) (b := false) rfl rfl rfl rfl rfl ?_; try simp only [Act.put, ppA, ppB, ppC]
    refine k_skip (j := 20) (b := false) rfl rfl rfl rfl rfl ?_; try simp only [Act.put, ppA, ppB, ppC]
    refine k_skip (j := 20) (b := false) rfl rfl rfl rfl rfl ?_; try simp only [Act.put, ppA, ppB, ppC]
    refine k_skip (j := 20) (b := false) rfl rfl rfl rfl rfl ?_; try simp only [Act.put, ppA, ppB, ppC]
    refine k_in (v := .bool false) rfl (fun w' hw' => x_pickS (c := false) rfl _ _ _ rfl rfl rfl rfl) ?_; try simp only [Act.put, ppA, ppB, ppC]
    refine k_in (v := .bool false) rfl (fun w' hw' => x_val _ (.inr rfl) rfl) ?_; try simp only [Act.put, ppA, ppB, ppC]
    refine k_end ?_
    intro w2 hw2
    subst hw2
    go_wp2
    go_ret
    exact EmptyP.mk ⟨fun h => absurd h (by simp), fun h => absurd (HQ.out.1 h).1 HD.out⟩
end
end Go.Proofs.YtopfmaoeebgjmaaGreatDoor
