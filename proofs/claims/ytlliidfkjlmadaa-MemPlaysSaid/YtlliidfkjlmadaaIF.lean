/- MemKeeps: what is put into memory is there, and nothing beside it is touched. -/
import Derived.Test.YtlliidfkjlmadaaIE
set_option linter.unusedVariables false
set_option linter.unusedSimpArgs false
namespace Go.Proofs.Ytlliidfkjlmadaa
open Go.RowKit
set_option maxRecDepth 100000
set_option maxHeartbeats 20000000

theorem cutL_full (L : List Nat) : cutL L 0 L.length = L := by
  apply List.ext_getElem?
  intro i
  unfold cutL
  by_cases hi : i < L.length
  · rw [List.getElem?_map, List.getElem?_range hi, List.getElem?_eq_getElem hi]
    simp [List.getD_eq_getElem?_getD, hi]
  · rw [List.getElem?_eq_none (by simp; omega), List.getElem?_eq_none (by omega)]
theorem put_get {L M : List Nat} {k i : Nat} (hfit : k + M.length ≤ L.length) : (putL L k M).getD i 0 = if k ≤ i ∧ i - k < M.length then M.getD (i - k) 0 else L.getD i 0 := by
  unfold putL
  simp only [List.getD_eq_getElem?_getD]
  by_cases h1 : i < k
  · rw [if_neg (by omega), List.append_assoc, List.getElem?_append_left (by rw [List.length_take]; omega), List.getElem?_take_of_lt h1]
  · by_cases h2 : i - k < M.length
    · rw [if_pos ⟨by omega, h2⟩, List.append_assoc, List.getElem?_append_right (by rw [List.length_take]; omega), List.length_take, Nat.min_eq_left (by omega), List.getElem?_append_left h2]
    · rw [if_neg (by omega), List.getElem?_append_right (by rw [List.length_append, List.length_take]; omega), List.length_append, List.length_take, Nat.min_eq_left (by omega), List.getElem?_drop]
      congr 2; omega
theorem cut_put {L M : List Nat} {k : Nat} (hfit : k + M.length ≤ L.length) : cutL (putL L k M) k M.length = M := by
  apply List.ext_getElem?
  intro i
  unfold cutL
  by_cases hi : i < M.length
  · rw [List.getElem?_map, List.getElem?_range hi, List.getElem?_eq_getElem hi]
    show some ((putL L k M).getD (k + i) 0) = _
    rw [put_get hfit, if_pos (by omega), Nat.add_sub_cancel_left, List.getD_eq_getElem?_getD, List.getElem?_eq_getElem hi]; rfl
  · rw [List.getElem?_eq_none (by simp; omega), List.getElem?_eq_none (by omega)]
theorem putR_len (L : List Nat) (k : Int) (M : List Nat) : (putR L k M).length = L.length := by
  unfold putR
  split
  · rename_i h; exact putL_len h.2.2
  · rfl
theorem putL_lt {L M : List Nat} {k : Nat} (hL : ∀ x ∈ L, x < 256) (hM : ∀ x ∈ M, x < 256) : ∀ x ∈ putL L k M, x < 256 := by
  intro x hx
  unfold putL at hx
  rcases List.mem_append.1 hx with hx | hx
  · rcases List.mem_append.1 hx with hx | hx
    · exact hL x (List.mem_of_mem_take hx)
    · exact hM x hx
  · exact hL x (List.mem_of_mem_drop hx)
theorem putR_lt {L M : List Nat} {k : Int} (hL : ∀ x ∈ L, x < 256) (hM : ∀ x ∈ M, x < 256) : ∀ x ∈ putR L k M, x < 256 := by
  unfold putR
  split
  · exact putL_lt hL hM
  · exact hL
section
variable {o : Oper} {a : Act} {w : World}
theorem x_idxB {b off n c k : Nat} (x y : Operand) (ho : o.op = .indexAddr 24 x y) (hx : a.eval x = .slice (some ⟨b, off, none⟩) n c) (hy : a.eval y = .int .i64 (k : Int)) (hj : k < n) : (execOp a.eval o).run Try.prog w = .ok (.value (.pointer (some ⟨b, off + k, none⟩))) w := by
  have hadd : (⟨b, off, none⟩ : Addr).add k = ⟨b, off + k, none⟩ := by unfold Addr.add; split <;> simp_all
  unfold execOp
  simp [ho, hx, hy, Instr.indexAt, run_underlying bytes_ty, Instr.sureAddr, asIntOf, sizeOf_one u8_size, hj, hadd]
theorem x_convB {v : Value} {l : List Nat} (x : Operand) (ho : o.op = .convert 24 9 x) (hx : a.eval x = v) (hv : RdB w v l) : (execOp a.eval o).run Try.prog w = .ok (.value (.string (strB l))) w := by
  unfold execOp
  simp only [ho, hx, Sem.run_bind, conv_rd hv, Result.andThen_ok, Sem.run_pure]
theorem x_notB {s t : Bool} (ty : TypeId) (xo : Operand) (ho : o.op = .unOp .not ty xo) (hx : a.eval xo = .bool s) (ht : (!s) = t) : (execOp a.eval o).run Try.prog w = .ok (.value (.bool t)) w := by
  unfold execOp; simp only [ho, hx]; show Sem.run _ _ w = _; simp [Op.unary, ht]
theorem x_lenB {p : Option Addr} {n c : Nat} (x : Operand) (ho : o.op = .call { callee := .builtin .len, args := #[x], argTypes := #[24] }) (hx : a.eval x = .slice p n c) : (execOp a.eval o).run Try.prog w = .ok (.value (.int .i64 (n : Int))) w := by
  unfold execOp; simp [ho, resolve, invoke, builtin, hx, Builtin.len_, run_underlying bytes_ty, goInt]
theorem x_strS {s : ByteArray} (x y : Operand) (yt : TypeId) (ho : o.op = .binOp .eql 9 x y yt) (hx : a.eval x = .string s) (hy : a.eval y = .string s) : (execOp a.eval o).run Try.prog w = .ok (.value (.bool true)) w := by
  unfold execOp; simp only [ho, hx, hy]; show Sem.run _ _ w = _; simp [eqGuard, binOp, Op.stringOp]
theorem x_pickF {t : Bool} (co xo yo : Operand) (ho : o.op = .pick co xo yo) (hc : a.eval co = .bool false) (hx : a.eval yo = .bool t) : (execOp a.eval o).run Try.prog w = .ok (.value (.bool t)) w := by
  unfold execOp; simp only [ho, hc, hx, asBool]; rfl
theorem own_cellB {B g n m c k : Nat} {L : List Nat} (h : w.ownsRow B 5 1 (.slice (some ⟨g, 0, none⟩) n c) m (nb L)) (hk : k < L.length) : w.cell? ⟨g, k, none⟩ = some (.int .u8 ((L.getD k 0 : Nat) : Int)) := by
  have := h.cells (g := g) rfl k _ (nb_get hk)
  have hadd : (⟨g, 0, none⟩ : Addr).add k = ⟨g, k, none⟩ := by unfold Addr.add; split <;> simp_all
  rwa [hadd] at this
end
theorem own_sliceB {w : World} {B n : Nat} {v : Value} {L : List Nat} (h : w.ownsRow B 5 1 v n (nb L)) : ∃ p c, v = .slice p n c ∧ n = L.length ∧ (0 < n → ∃ g, p = some ⟨g, 0, none⟩) := by
  have hl := h.1
  rw [nb_length, Nat.mul_one] at hl
  rcases h.2 with ⟨rfl, rfl⟩ | ⟨g, cap, cur, rfl, _⟩
  · exact ⟨none, 0, rfl, by omega, fun h => absurd h (Nat.lt_irrefl 0)⟩
  · exact ⟨_, cap, rfl, by omega, fun _ => ⟨g, rfl⟩⟩
/-- A callee that answers new bytes, called in a region that draws its order. -/
theorem held_call3 {P : Program} {l0 : List Oper} {Q : Exit → Act → World → Prop} {a : Act} {w : World} {o : Oper} {n : Nat} {K : Act → World → Prop} {f : FuncId} {ts : Array TypeId} {x1 x2 x3 : Operand} {v1 v2 v3 : Value} {R : Ending → World → Prop} (ho : l0[n]? = some o) (hw : Region.wanted o (yielded l0.toArray a.tmps) = true)
    (hop : o.op = .call { callee := .value (.func f), args := #[x1, x2, x3], argTypes := ts }) (h1 : a.eval x1 = v1) (h2 : a.eval x2 = v2) (h3 : a.eval x3 = v3) (hf : ∀ args w, (callFunc f args).run P w = .ok (.enter f args) w)
    (hc : Calls P f #[v1, v2, v3] w R) (h : ∀ e w', R e w' → ∃ v, e = .returned v ∧ K (a.put o.dst v) w') : wpOp P l0.toArray Q n K a w :=
  o_callR (by rw [List.getElem?_toArray]; exact ho) hw (by unfold execOp; simp [hop, resolve, invoke, h1, h2, h3, hf, show a.eval (.func f) = .func (.func f) #[] #[] from rfl, Deferred.ofValue]) hc h
theorem keeps_walk (n k : Int) (v : Value) (M : List Nat) (w : World) (hk : -9223372036854775808 ≤ k ∧ k ≤ 9223372036854775807) (hv : RdB w v M) (hMr : M.length ≤ 140737488355328) :
    Calls Try.prog 6 #[.int .i64 n, .int .i64 k, v] w fun e w' => e = .returned (.bool true) ∧ Tch [] w w' := by
  have HV := Lib.hid hv
  obtain ⟨p, c, rfl, hc, hMlt, hr⟩ := hv
  have HK := Lib.hid hk
  have HML := Lib.hid hMlt
  clear hr hk hMlt
  by_cases h1 : n < 0
  · skip
    go_enter Try.func6, Try.ntmps6
    go_upto_region 2 with (go_at_call 8; refine (alive13 _).mono ?_; rintro e w1 ⟨rfl, hT1⟩)
    try simp only [Act.put, List.setIfInBounds_toArray, List.set_cons_zero, List.set_cons_succ]
    refine k_seq (C := fun w' => Tch [] w w') hT1 ?_
    refine k_val (v := .bool true) rfl _ (.inl rfl) rfl ?_; try simp only [Act.put, List.setIfInBounds_toArray, List.set_cons_zero, List.set_cons_succ]
    refine k_notV (s := true) (t := false) rfl _ _ rfl rfl rfl ?_; try simp only [Act.put, List.setIfInBounds_toArray, List.set_cons_zero, List.set_cons_succ]
    refine k_val (v := .bool false) rfl _ (.inl rfl) rfl ?_; try simp only [Act.put, List.setIfInBounds_toArray, List.set_cons_zero, List.set_cons_succ]
    refine k_val (v := .int .i64 n) rfl _ (.inl rfl) rfl ?_; try simp only [Act.put, List.setIfInBounds_toArray, List.set_cons_zero, List.set_cons_succ]
    refine k_lss (m := n) (n := 0) (t := true) rfl _ _ _ rfl rfl rfl (decide_eq_true (by omega)) ?_; try simp only [Act.put, List.setIfInBounds_toArray, List.set_cons_zero, List.set_cons_succ]
    refine k_pickF (t := true) rfl _ _ _ rfl rfl rfl ?_; try simp only [Act.put, List.setIfInBounds_toArray, List.set_cons_zero, List.set_cons_succ]
    refine k_val (v := .bool true) rfl _ (.inl rfl) rfl ?_; try simp only [Act.put, List.setIfInBounds_toArray, List.set_cons_zero, List.set_cons_succ]
    refine k_skip rfl rfl rfl rfl rfl ?_; try simp only [Act.put, List.setIfInBounds_toArray, List.set_cons_zero, List.set_cons_succ]
    refine k_skip rfl rfl rfl rfl rfl ?_; try simp only [Act.put, List.setIfInBounds_toArray, List.set_cons_zero, List.set_cons_succ]
    refine k_pickT (t := true) rfl _ _ _ rfl rfl rfl ?_; try simp only [Act.put, List.setIfInBounds_toArray, List.set_cons_zero, List.set_cons_succ]
    refine k_val (v := .bool true) rfl _ (.inl rfl) rfl ?_; try simp only [Act.put, List.setIfInBounds_toArray, List.set_cons_zero, List.set_cons_succ]
    refine k_skip rfl rfl rfl rfl rfl ?_; try simp only [Act.put, List.setIfInBounds_toArray, List.set_cons_zero, List.set_cons_succ]
    refine k_skip rfl rfl rfl rfl rfl ?_; try simp only [Act.put, List.setIfInBounds_toArray, List.set_cons_zero, List.set_cons_succ]
    refine k_skip rfl rfl rfl rfl rfl ?_; try simp only [Act.put, List.setIfInBounds_toArray, List.set_cons_zero, List.set_cons_succ]
    refine k_pickT (t := true) rfl _ _ _ rfl rfl rfl ?_; try simp only [Act.put, List.setIfInBounds_toArray, List.set_cons_zero, List.set_cons_succ]
    refine k_end ?_
    intro w2 hT2
    go_wp2
    go_ret
    exact ⟨rfl, hT2⟩
  by_cases h2 : 3000 < n
  · skip
    go_enter Try.func6, Try.ntmps6
    go_upto_region 2 with (go_at_call 8; refine (alive13 _).mono ?_; rintro e w1 ⟨rfl, hT1⟩)
    try simp only [Act.put, List.setIfInBounds_toArray, List.set_cons_zero, List.set_cons_succ]
    refine k_seq (C := fun w' => Tch [] w w') hT1 ?_
    refine k_val (v := .bool true) rfl _ (.inl rfl) rfl ?_; try simp only [Act.put, List.setIfInBounds_toArray, List.set_cons_zero, List.set_cons_succ]
    refine k_notV (s := true) (t := false) rfl _ _ rfl rfl rfl ?_; try simp only [Act.put, List.setIfInBounds_toArray, List.set_cons_zero, List.set_cons_succ]
    refine k_val (v := .bool false) rfl _ (.inl rfl) rfl ?_; try simp only [Act.put, List.setIfInBounds_toArray, List.set_cons_zero, List.set_cons_succ]
    refine k_val (v := .int .i64 n) rfl _ (.inl rfl) rfl ?_; try simp only [Act.put, List.setIfInBounds_toArray, List.set_cons_zero, List.set_cons_succ]
    refine k_lss (m := n) (n := 0) (t := false) rfl _ _ _ rfl rfl rfl (decide_eq_false (by omega)) ?_; try simp only [Act.put, List.setIfInBounds_toArray, List.set_cons_zero, List.set_cons_succ]
    refine k_pickF (t := false) rfl _ _ _ rfl rfl rfl ?_; try simp only [Act.put, List.setIfInBounds_toArray, List.set_cons_zero, List.set_cons_succ]
    refine k_val (v := .bool false) rfl _ (.inl rfl) rfl ?_; try simp only [Act.put, List.setIfInBounds_toArray, List.set_cons_zero, List.set_cons_succ]
    refine k_val (v := .int .i64 n) rfl _ (.inl rfl) rfl ?_; try simp only [Act.put, List.setIfInBounds_toArray, List.set_cons_zero, List.set_cons_succ]
    refine k_gtr (m := n) (n := 3000) (t := true) rfl _ _ _ rfl rfl rfl (decide_eq_true (by omega)) ?_; try simp only [Act.put, List.setIfInBounds_toArray, List.set_cons_zero, List.set_cons_succ]
    refine k_pickF (t := true) rfl _ _ _ rfl rfl rfl ?_; try simp only [Act.put, List.setIfInBounds_toArray, List.set_cons_zero, List.set_cons_succ]
    refine k_val (v := .bool true) rfl _ (.inl rfl) rfl ?_; try simp only [Act.put, List.setIfInBounds_toArray, List.set_cons_zero, List.set_cons_succ]
    refine k_skip rfl rfl rfl rfl rfl ?_; try simp only [Act.put, List.setIfInBounds_toArray, List.set_cons_zero, List.set_cons_succ]
    refine k_skip rfl rfl rfl rfl rfl ?_; try simp only [Act.put, List.setIfInBounds_toArray, List.set_cons_zero, List.set_cons_succ]
    refine k_skip rfl rfl rfl rfl rfl ?_; try simp only [Act.put, List.setIfInBounds_toArray, List.set_cons_zero, List.set_cons_succ]
    refine k_pickT (t := true) rfl _ _ _ rfl rfl rfl ?_; try simp only [Act.put, List.setIfInBounds_toArray, List.set_cons_zero, List.set_cons_succ]
    refine k_end ?_
    intro w2 hT2
    go_wp2
    go_ret
    exact ⟨rfl, hT2⟩
  by_cases h3 : 1000 < M.length
  · skip
    go_enter Try.func6, Try.ntmps6
    go_upto_region 2 with (go_at_call 8; refine (alive13 _).mono ?_; rintro e w1 ⟨rfl, hT1⟩)
    try simp only [Act.put, List.setIfInBounds_toArray, List.set_cons_zero, List.set_cons_succ]
    refine k_seq (C := fun w' => Tch [] w w') hT1 ?_
    refine k_val (v := .bool true) rfl _ (.inl rfl) rfl ?_; try simp only [Act.put, List.setIfInBounds_toArray, List.set_cons_zero, List.set_cons_succ]
    refine k_notV (s := true) (t := false) rfl _ _ rfl rfl rfl ?_; try simp only [Act.put, List.setIfInBounds_toArray, List.set_cons_zero, List.set_cons_succ]
    refine k_val (v := .bool false) rfl _ (.inl rfl) rfl ?_; try simp only [Act.put, List.setIfInBounds_toArray, List.set_cons_zero, List.set_cons_succ]
    refine k_val (v := .int .i64 n) rfl _ (.inl rfl) rfl ?_; try simp only [Act.put, List.setIfInBounds_toArray, List.set_cons_zero, List.set_cons_succ]
    refine k_lss (m := n) (n := 0) (t := false) rfl _ _ _ rfl rfl rfl (decide_eq_false (by omega)) ?_; try simp only [Act.put, List.setIfInBounds_toArray, List.set_cons_zero, List.set_cons_succ]
    refine k_pickF (t := false) rfl _ _ _ rfl rfl rfl ?_; try simp only [Act.put, List.setIfInBounds_toArray, List.set_cons_zero, List.set_cons_succ]
    refine k_val (v := .bool false) rfl _ (.inl rfl) rfl ?_; try simp only [Act.put, List.setIfInBounds_toArray, List.set_cons_zero, List.set_cons_succ]
    refine k_val (v := .int .i64 n) rfl _ (.inl rfl) rfl ?_; try simp only [Act.put, List.setIfInBounds_toArray, List.set_cons_zero, List.set_cons_succ]
    refine k_gtr (m := n) (n := 3000) (t := false) rfl _ _ _ rfl rfl rfl (decide_eq_false (by omega)) ?_; try simp only [Act.put, List.setIfInBounds_toArray, List.set_cons_zero, List.set_cons_succ]
    refine k_pickF (t := false) rfl _ _ _ rfl rfl rfl ?_; try simp only [Act.put, List.setIfInBounds_toArray, List.set_cons_zero, List.set_cons_succ]
    refine k_val (v := .bool false) rfl _ (.inl rfl) rfl ?_; try simp only [Act.put, List.setIfInBounds_toArray, List.set_cons_zero, List.set_cons_succ]
    refine k_val (v := .slice p M.length c) rfl _ (.inl rfl) rfl ?_; try simp only [Act.put, List.setIfInBounds_toArray, List.set_cons_zero, List.set_cons_succ]
    refine k_lenSl (p := p) (n := M.length) (c := c) rfl _ rfl rfl ?_; try simp only [Act.put, List.setIfInBounds_toArray, List.set_cons_zero, List.set_cons_succ]
    refine k_gtr (m := (M.length : Int)) (n := 1000) (t := true) rfl _ _ _ rfl rfl rfl (decide_eq_true (by omega)) ?_; try simp only [Act.put, List.setIfInBounds_toArray, List.set_cons_zero, List.set_cons_succ]
    refine k_pickF (t := true) rfl _ _ _ rfl rfl rfl ?_; try simp only [Act.put, List.setIfInBounds_toArray, List.set_cons_zero, List.set_cons_succ]
    refine k_end ?_
    intro w2 hT2
    go_wp2
    go_ret
    exact ⟨rfl, hT2⟩
  obtain ⟨n, rfl⟩ : ∃ m : Nat, n = m := ⟨n.toNat, by omega⟩
  have hn : n ≤ 3000 := by omega
  go_enter Try.func6, Try.ntmps6
  go_upto_region 2 with (go_at_call 8; refine (alive13 _).mono ?_; rintro e w1 ⟨rfl, hT1⟩)
  try simp only [Act.put, List.setIfInBounds_toArray, List.set_cons_zero, List.set_cons_succ]
  refine k_seq (C := fun w' => Tch [] w w') hT1 ?_
  refine k_val (v := .bool true) rfl _ (.inl rfl) rfl ?_; try simp only [Act.put, List.setIfInBounds_toArray, List.set_cons_zero, List.set_cons_succ]
  refine k_notV (s := true) (t := false) rfl _ _ rfl rfl rfl ?_; try simp only [Act.put, List.setIfInBounds_toArray, List.set_cons_zero, List.set_cons_succ]
  refine k_val (v := .bool false) rfl _ (.inl rfl) rfl ?_; try simp only [Act.put, List.setIfInBounds_toArray, List.set_cons_zero, List.set_cons_succ]
  refine k_val (v := .int .i64 (n : Int)) rfl _ (.inl rfl) rfl ?_; try simp only [Act.put, List.setIfInBounds_toArray, List.set_cons_zero, List.set_cons_succ]
  refine k_lss (m := (n : Int)) (n := 0) (t := false) rfl _ _ _ rfl rfl rfl (decide_eq_false (by omega)) ?_; try simp only [Act.put, List.setIfInBounds_toArray, List.set_cons_zero, List.set_cons_succ]
  refine k_pickF (t := false) rfl _ _ _ rfl rfl rfl ?_; try simp only [Act.put, List.setIfInBounds_toArray, List.set_cons_zero, List.set_cons_succ]
  refine k_val (v := .bool false) rfl _ (.inl rfl) rfl ?_; try simp only [Act.put, List.setIfInBounds_toArray, List.set_cons_zero, List.set_cons_succ]
  refine k_val (v := .int .i64 (n : Int)) rfl _ (.inl rfl) rfl ?_; try simp only [Act.put, List.setIfInBounds_toArray, List.set_cons_zero, List.set_cons_succ]
  refine k_gtr (m := (n : Int)) (n := 3000) (t := false) rfl _ _ _ rfl rfl rfl (decide_eq_false (by omega)) ?_; try simp only [Act.put, List.setIfInBounds_toArray, List.set_cons_zero, List.set_cons_succ]
  refine k_pickF (t := false) rfl _ _ _ rfl rfl rfl ?_; try simp only [Act.put, List.setIfInBounds_toArray, List.set_cons_zero, List.set_cons_succ]
  refine k_val (v := .bool false) rfl _ (.inl rfl) rfl ?_; try simp only [Act.put, List.setIfInBounds_toArray, List.set_cons_zero, List.set_cons_succ]
  refine k_val (v := .slice p M.length c) rfl _ (.inl rfl) rfl ?_; try simp only [Act.put, List.setIfInBounds_toArray, List.set_cons_zero, List.set_cons_succ]
  refine k_lenSl (p := p) (n := M.length) (c := c) rfl _ rfl rfl ?_; try simp only [Act.put, List.setIfInBounds_toArray, List.set_cons_zero, List.set_cons_succ]
  refine k_gtr (m := (M.length : Int)) (n := 1000) (t := false) rfl _ _ _ rfl rfl rfl (decide_eq_false (by omega)) ?_; try simp only [Act.put, List.setIfInBounds_toArray, List.set_cons_zero, List.set_cons_succ]
  refine k_pickF (t := false) rfl _ _ _ rfl rfl rfl ?_; try simp only [Act.put, List.setIfInBounds_toArray, List.set_cons_zero, List.set_cons_succ]
  refine k_end ?_
  clear hT1
  intro w2 hT2
  have hS := (St.start w).call hT2
  clear h1 h2 hT2
  have HO0 := Lib.hid (fun w' => rOfW_any 0 (by omega) w')
  have HOn := Lib.hid (fun w' => rOfW_any (n : Int) (by omega) w')
  have HG := fun b w' (h : MemIn w.heap.size 26 w' b (.slice none 0 0) (zmem 0)) => grow_any w.heap.size b (.slice none 0 0) (zmem 0) (wof 0) (wof (n : Int)) w' h (by decide) (wof_ok _) (wof_ok _)
  rw [(grow_zmem 0 n (by omega)).1, Nat.max_eq_left (Nat.zero_le _)] at HG
  obtain ⟨N, hN⟩ : ∃ N, N = wds n * 32 := ⟨_, rfl⟩
  have hN2 : N ≤ 3008 := by rw [hN]; unfold wds; omega
  rw [show zmem n = List.replicate N 0 by unfold zmem; rw [hN]] at HG
  have HGG := Lib.hid HG
  clear HG hN
  generalize wv (wof 0) = c0 at *
  generalize wv (wof (n : Int)) = cn at *
  go_upto_region 6 with (first
    | (refine st_new hS rfl 26 rfl memP_zero ?_; clear hS; intro w3 b hS)
    | (have _t := w4; clear _t; go_at_call 17; go_must (refine (HOn.out _).mono ?_; rintro e w5 ⟨rfl, hT5⟩; replace hS := hS.call hT5; clear hT5))
    | (go_at_call 17; go_must (refine (HO0.out _).mono ?_; rintro e w4 ⟨rfl, hT4⟩; replace hS := hS.call hT4; clear hT4))
    | (go_at_call 16; go_must (refine (HGG.out _ _ (RowIn.new (L := []) (hS.get .head) ((hS.own .head).elim id (fun h => by simp at h)))).mono ?_; rintro e w6 ⟨v6, rfl, hM6, hT6⟩; have H6 := Lib.hid (And.intro hM6 hT6); clear hM6 hT6)))
  have hT6 := Tch.fresh hS.frame H6.out.2.tch (fun x hx => by
    rcases mem_fpr.1 hx with rfl | hx
    · exact (hS.own .head).elim id (fun h => by simp at h)
    · cases hx)
  have HM6 := Lib.hid H6.out.1
  clear H6 HGG HO0 HOn hS
  have hzl : (List.replicate N 0 : List Nat).length = N := List.length_replicate
  have hzlt : ∀ x ∈ (List.replicate N 0 : List Nat), x < 256 := fun x hx => by rw [List.eq_of_mem_replicate hx]; decide
  have hz0 : ∀ i, (List.replicate N 0 : List Nat).getD i 0 = 0 := fun i => by
    rw [List.getD_eq_getElem?_getD, List.getElem?_replicate]; split <;> rfl
  obtain ⟨L0, hL0⟩ : ∃ L, L = (List.replicate N 0 : List Nat) := ⟨_, rfl⟩
  rw [← hL0] at HM6 hzl hzlt hz0
  clear hL0
  have hsz := fun w' (h : Tch [] w6 w') => (size_any _ _ _ _ w' (HM6.out.call h)).mono (fun e w'' q => And.intro q.1 (q.2 ▸ h : Tch [] w6 w''))
  have hgt := fun w' (h : Tch [] w6 w') => get_any w.heap.size b v6 L0 0 (N : Int) w' (HM6.out.call h) hzlt (by omega)
  rw [show getL L0 0 (N : Int) = L0 by unfold getL; rw [if_neg (by omega), Int.toNat_natCast]; show cutL L0 0 N = L0; rw [← hzl]; exact cutL_full L0] at hgt
  have hput := fun w' (h : Tch [] w6 w') => put_any w.heap.size b v6 (.slice p M.length c) L0 M k w' (HM6.out.call h) (HV.out.tch (hT6.trans h) (by simp)) HK.out
  rw [hzl] at hsz
  have HSZ := Lib.hid hsz
  have HGT := Lib.hid hgt
  have HPU := Lib.hid hput
  have HZ := Lib.hid (And.intro hzl (And.intro hzlt hz0))
  clear hsz hgt hput hzl hzlt hz0
  go_upto_region 8 with (first
    | (go_at_call 10; go_must (refine (HSZ.out _ (Tch.refl _ _)).mono ?_; rintro e w7 ⟨rfl, hT7⟩))
    | (go_at_call 15; go_must (refine (HGT.out _ hT7).mono ?_; rintro e w8 ⟨vw, rfl, hown8, hT8⟩; have H8 := Lib.hid hown8; clear hown8)))
  by_cases a1 : k < 0
  · skip
    obtain ⟨hok, hR⟩ := put_no (L := L0) (M := M) (k := k) (by omega)
    have HP2 := HPU
    have hpl := putR_len L0 k M
    have hplt := putR_lt (k := k) HZ.out.2.1 HML.out
    have hp2 := HPU.out
    rw [hok] at hp2
    obtain ⟨L1, hL1⟩ : ∃ L, L = putR L0 k M := ⟨_, rfl⟩
    rw [← hL1] at hp2 hpl hplt
    rw [HZ.out.1] at hpl
    have HP3 := Lib.hid hp2
    have HL1 := Lib.hid (And.intro hL1 (And.intro hpl hplt))
    clear hp2 hok hL1 hpl hplt HP2
    go_upto_region 9 with (go_at_call 22; go_must (refine (HP3.out _ (hT7.trans hT8)).mono ?_; rintro e w9 ⟨v9, rfl, hM9, hT9⟩; have H9 := Lib.hid (And.intro hM9 hT9); clear hM9 hT9))
    have hT9w := Turned.fresh_tch (hT6.trans (hT7.trans hT8)) H9.out.2 (fun x hx => (HM6.out.lt hx).1)
    have hW9 := own_far H8.out H9.out.2.tch (fun j hj hm => by
      have h1 := (H8.out.lt j hj).1
      have h2 := ((HM6.out.call hT7).lt hm).2
      omega)
    have HM9 := Lib.hid H9.out.1
    have HW9 := Lib.hid hW9
    clear hW9 H9 H8 HP3 HPU HGT HSZ hT7 hT8 HM6 hT6
    try simp only [Act.put, List.setIfInBounds_toArray, List.set_cons_zero, List.set_cons_succ]
    refine k_seq (C := fun w' => Tch [] w9 w') (Tch.refl _ _) ?_
    refine k_val (v := .int .i64 k) rfl _ (.inl rfl) rfl ?_; try simp only [Act.put, List.setIfInBounds_toArray, List.set_cons_zero, List.set_cons_succ]
    refine k_geqI (m := k) (n := 0) (t := false) rfl _ _ _ rfl rfl rfl (decide_eq_false (by omega)) ?_; try simp only [Act.put, List.setIfInBounds_toArray, List.set_cons_zero, List.set_cons_succ]
    refine k_val (v := .bool false) rfl _ (.inl rfl) rfl ?_; try simp only [Act.put, List.setIfInBounds_toArray, List.set_cons_zero, List.set_cons_succ]
    refine k_skip rfl rfl rfl rfl rfl ?_; try simp only [Act.put, List.setIfInBounds_toArray, List.set_cons_zero, List.set_cons_succ]
    refine k_skip rfl rfl rfl rfl rfl ?_; try simp only [Act.put, List.setIfInBounds_toArray, List.set_cons_zero, List.set_cons_succ]
    refine k_skip rfl rfl rfl rfl rfl ?_; try simp only [Act.put, List.setIfInBounds_toArray, List.set_cons_zero, List.set_cons_succ]
    refine k_skip rfl rfl rfl rfl rfl ?_; try simp only [Act.put, List.setIfInBounds_toArray, List.set_cons_zero, List.set_cons_succ]
    refine k_skipN rfl ?_; try simp only [Act.put, List.setIfInBounds_toArray, List.set_cons_zero, List.set_cons_succ]
    refine k_skipN rfl ?_; try simp only [Act.put, List.setIfInBounds_toArray, List.set_cons_zero, List.set_cons_succ]
    refine k_skipN rfl ?_; try simp only [Act.put, List.setIfInBounds_toArray, List.set_cons_zero, List.set_cons_succ]
    refine k_skipN rfl ?_; try simp only [Act.put, List.setIfInBounds_toArray, List.set_cons_zero, List.set_cons_succ]
    refine k_skipN rfl ?_; try simp only [Act.put, List.setIfInBounds_toArray, List.set_cons_zero, List.set_cons_succ]
    refine k_skipN rfl ?_; try simp only [Act.put, List.setIfInBounds_toArray, List.set_cons_zero, List.set_cons_succ]
    refine k_skipN rfl ?_; try simp only [Act.put, List.setIfInBounds_toArray, List.set_cons_zero, List.set_cons_succ]
    refine k_skipN rfl ?_; try simp only [Act.put, List.setIfInBounds_toArray, List.set_cons_zero, List.set_cons_succ]
    refine k_skipN rfl ?_; try simp only [Act.put, List.setIfInBounds_toArray, List.set_cons_zero, List.set_cons_succ]
    refine k_skipN rfl ?_; try simp only [Act.put, List.setIfInBounds_toArray, List.set_cons_zero, List.set_cons_succ]
    refine k_skipN rfl ?_; try simp only [Act.put, List.setIfInBounds_toArray, List.set_cons_zero, List.set_cons_succ]
    refine k_skip rfl rfl rfl rfl rfl ?_; try simp only [Act.put, List.setIfInBounds_toArray, List.set_cons_zero, List.set_cons_succ]
    refine k_pickF (t := false) rfl _ _ _ rfl rfl rfl ?_; try simp only [Act.put, List.setIfInBounds_toArray, List.set_cons_zero, List.set_cons_succ]
    refine k_val (v := .bool false) rfl _ (.inr rfl) rfl ?_; try simp only [Act.put, List.setIfInBounds_toArray, List.set_cons_zero, List.set_cons_succ]
    refine k_end ?_
    intro wA hTA
    have hgt := fun w' (h : Tch [] wA w') => get_any w.heap.size b v9 L1 0 (N : Int) w' (HM9.out.call (hTA.trans h)) HL1.out.2.2 (by omega)
    rw [show getL L1 0 (N : Int) = L1 by unfold getL; rw [if_neg (by omega), Int.toNat_natCast]; show cutL L1 0 N = L1; rw [← HL1.out.2.1]; exact cutL_full L1] at hgt
    have HGT := Lib.hid hgt
    clear hgt
    go_upto_region 11 with (go_at_call 15; go_must (refine (HGT.out _ (Tch.refl _ _)).mono ?_; rintro e wB ⟨vi, rfl, hownB, hTB⟩; have HIB := Lib.hid hownB; clear hownB))
    have hTC := hTA.trans hTB
    have hsz := fun w' (h : Tch [] wB w') => (size_any _ _ _ _ w' (HM9.out.call (hTC.trans h))).mono (fun e w'' q => And.intro q.1 (q.2 ▸ h : Tch [] wB w''))
    rw [HL1.out.2.1] at hsz
    have HSZ := Lib.hid hsz
    have HWB := Lib.hid (own_far HW9.out hTC (by simp))
    have HMB := Lib.hid (HM9.out.call hTC)
    have hTwB := hT9w.trans hTC
    clear hsz HGT HW9 HM9 hTA hTB hTC hT9w
    have hsW := own_sliceB HWB.out
    rw [HZ.out.1] at hsW
    obtain ⟨pw, cw, rfl, _, hpw⟩ := hsW
    have hsI := own_sliceB HIB.out
    rw [HL1.out.2.1] at hsI
    obtain ⟨pi, ci, rfl, _, hpi⟩ := hsI
    try simp only [Act.put, List.setIfInBounds_toArray, List.set_cons_zero, List.set_cons_succ]
    refine k_seq (C := fun w' => Tch [] wB w') (Tch.refl _ _) ?_
    refine k_val (v := .bool false) rfl _ (.inl rfl) rfl ?_; try simp only [Act.put, List.setIfInBounds_toArray, List.set_cons_zero, List.set_cons_succ]
    refine k_val (v := .bool false) rfl _ (.inl rfl) rfl ?_; try simp only [Act.put, List.setIfInBounds_toArray, List.set_cons_zero, List.set_cons_succ]
    refine k_neqB (s := false) (r := false) (t := false) rfl _ _ _ rfl rfl rfl rfl ?_; try simp only [Act.put, List.setIfInBounds_toArray, List.set_cons_zero, List.set_cons_succ]
    refine k_val (v := .bool false) rfl _ (.inl rfl) rfl ?_; try simp only [Act.put, List.setIfInBounds_toArray, List.set_cons_zero, List.set_cons_succ]
    refine k_val (v := .slice pi N ci) rfl _ (.inl rfl) rfl ?_; try simp only [Act.put, List.setIfInBounds_toArray, List.set_cons_zero, List.set_cons_succ]
    refine k_lenSl (p := pi) (n := N) (c := ci) rfl _ rfl rfl ?_; try simp only [Act.put, List.setIfInBounds_toArray, List.set_cons_zero, List.set_cons_succ]
    refine k_val (v := .int .i64 (N : Int)) rfl _ (.inl rfl) rfl ?_; try simp only [Act.put, List.setIfInBounds_toArray, List.set_cons_zero, List.set_cons_succ]
    refine k_neqI (m := (N : Int)) (n := (N : Int)) (t := false) rfl _ _ _ rfl rfl rfl (decide_eq_false (by omega)) ?_; try simp only [Act.put, List.setIfInBounds_toArray, List.set_cons_zero, List.set_cons_succ]
    refine k_pickF (t := false) rfl _ _ _ rfl rfl rfl ?_; try simp only [Act.put, List.setIfInBounds_toArray, List.set_cons_zero, List.set_cons_succ]
    refine k_val (v := .bool false) rfl _ (.inl rfl) rfl ?_; try simp only [Act.put, List.setIfInBounds_toArray, List.set_cons_zero, List.set_cons_succ]
    refine k_callC1 (v := .int .i64 (N : Int)) rfl rfl rfl Try.call10 (fun w' h => HSZ.out w' h) ?_; try simp only [Act.put, List.setIfInBounds_toArray, List.set_cons_zero, List.set_cons_succ]
    refine k_val (v := .int .i64 (N : Int)) rfl _ (.inl rfl) rfl ?_; try simp only [Act.put, List.setIfInBounds_toArray, List.set_cons_zero, List.set_cons_succ]
    refine k_neqI (m := (N : Int)) (n := (N : Int)) (t := false) rfl _ _ _ rfl rfl rfl (decide_eq_false (by omega)) ?_; try simp only [Act.put, List.setIfInBounds_toArray, List.set_cons_zero, List.set_cons_succ]
    refine k_pickF (t := false) rfl _ _ _ rfl rfl rfl ?_; try simp only [Act.put, List.setIfInBounds_toArray, List.set_cons_zero, List.set_cons_succ]
    refine k_end ?_
    intro wC hTC
    have HWC := Lib.hid (own_far HWB.out hTC (by simp))
    have HIC := Lib.hid (own_far HIB.out hTC (by simp))
    have HMC := Lib.hid (HMB.out.call hTC)
    have hTwC := hTwB.trans hTC
    clear HWB HIB HMB hTwB HSZ hTC
    go_upto_region 14 with (fail)
    go_loopw [14] (fun i wr => ∃ j : Nat, i = .int .i64 (j : Int) ∧ j ≤ N ∧ Tch [] wC wr) (fun i _ => N - (intOf i).toNat)
    case atStart => exact ⟨0, rfl, Nat.zero_le _, Tch.refl _ _⟩
    case round =>
      obtain ⟨j, rfl, hj, hTr⟩ := hrel
      by_cases hlt : j < N
      · have hlt' : (j : Int) < (N : Int) := by omega
        obtain ⟨gw, rfl⟩ := hpw (by omega)
        obtain ⟨gi, rfl⟩ := hpi (by omega)
        have hcw := own_cellB (own_far HWC.out hTr (by simp)) (k := j) (by rw [HZ.out.1]; exact hlt)
        rw [HZ.out.2.2 j] at hcw
        go_upto_region 17 with (first
          | (refine st_x (v := .pointer (some ⟨gw, j, none⟩)) rfl (by have h := x_idxB (w := wr) (.tmp 84) (.tmp 85) rfl rfl rfl hlt; rwa [Nat.zero_add] at h) ?_)
          | (refine st_x (v := .int .u8 ((0 : Nat) : Int)) rfl (x_cell 5 (.tmp 86) rfl rfl hcw u8_agg) ?_))
        have HG : L1.getD j 0 = 0 := by rw [HL1.out.1, hR]; exact HZ.out.2.2 j
        try simp only [Act.put, List.setIfInBounds_toArray, List.set_cons_zero, List.set_cons_succ]
        refine k_seq (C := fun w' => Tch [] wr w') (Tch.refl _ _) ?_
        refine k_val (v := .bool false) rfl _ (.inl rfl) rfl ?_; try simp only [Act.put, List.setIfInBounds_toArray, List.set_cons_zero, List.set_cons_succ]
        refine k_val (v := .bool false) rfl _ (.inl rfl) rfl ?_; try simp only [Act.put, List.setIfInBounds_toArray, List.set_cons_zero, List.set_cons_succ]
        refine k_skip rfl rfl rfl rfl rfl ?_; try simp only [Act.put, List.setIfInBounds_toArray, List.set_cons_zero, List.set_cons_succ]
        refine k_skip rfl rfl rfl rfl rfl ?_; try simp only [Act.put, List.setIfInBounds_toArray, List.set_cons_zero, List.set_cons_succ]
        refine k_skip rfl rfl rfl rfl rfl ?_; try simp only [Act.put, List.setIfInBounds_toArray, List.set_cons_zero, List.set_cons_succ]
        refine k_pickF (t := false) rfl _ _ _ rfl rfl rfl ?_; try simp only [Act.put, List.setIfInBounds_toArray, List.set_cons_zero, List.set_cons_succ]
        refine k_val (v := .bool false) rfl _ (.inl rfl) rfl ?_; try simp only [Act.put, List.setIfInBounds_toArray, List.set_cons_zero, List.set_cons_succ]
        refine k_skip rfl rfl rfl rfl rfl ?_; try simp only [Act.put, List.setIfInBounds_toArray, List.set_cons_zero, List.set_cons_succ]
        refine k_skip rfl rfl rfl rfl rfl ?_; try simp only [Act.put, List.setIfInBounds_toArray, List.set_cons_zero, List.set_cons_succ]
        refine k_skip rfl rfl rfl rfl rfl ?_; try simp only [Act.put, List.setIfInBounds_toArray, List.set_cons_zero, List.set_cons_succ]
        refine k_skip rfl rfl rfl rfl rfl ?_; try simp only [Act.put, List.setIfInBounds_toArray, List.set_cons_zero, List.set_cons_succ]
        refine k_skip rfl rfl rfl rfl rfl ?_; try simp only [Act.put, List.setIfInBounds_toArray, List.set_cons_zero, List.set_cons_succ]
        refine k_skip rfl rfl rfl rfl rfl ?_; try simp only [Act.put, List.setIfInBounds_toArray, List.set_cons_zero, List.set_cons_succ]
        refine k_pickF (t := false) rfl _ _ _ rfl rfl rfl ?_; try simp only [Act.put, List.setIfInBounds_toArray, List.set_cons_zero, List.set_cons_succ]
        refine k_end ?_
        intro wD hTD
        have hci := own_cellB (own_far HIC.out (hTr.trans hTD) (by simp)) (k := j) (by rw [HL1.out.2.1]; exact hlt)
        rw [HG] at hci
        have HCI := Lib.hid hci
        clear hci
        go_wp2_with (first
          | (refine st_x (v := .pointer (some ⟨gi, j, none⟩)) rfl (by have h := x_idxB (w := wD) (.tmp 108) (.tmp 109) rfl rfl rfl hlt; rwa [Nat.zero_add] at h) ?_)
          | (refine st_x (v := .int .u8 ((0 : Nat) : Int)) rfl (x_cell 5 (.tmp 110) rfl rfl HCI.out u8_agg) ?_)
          )
        go_roundw
        case rel => exact ⟨j + 1, by go_num, hlt, hTr.trans hTD⟩
        case measure => simp [intOf]; omega
      · obtain rfl : j = N := by omega
        go_upto_region 21 with (fail)
        try simp only [Act.put, List.setIfInBounds_toArray, List.set_cons_zero, List.set_cons_succ]
        refine k_region (C := fun w' => Tch [] wr w') (by kernel_rfl) (by kernel_rfl) ((Tch.refl _ _).drew) ?_
        refine k_val (v := .bool false) rfl _ (.inl rfl) rfl ?_; try simp only [Act.put, List.setIfInBounds_toArray, List.set_cons_zero, List.set_cons_succ]
        refine k_notV (s := false) (t := true) rfl _ _ rfl rfl rfl ?_; try simp only [Act.put, List.setIfInBounds_toArray, List.set_cons_zero, List.set_cons_succ]
        refine k_val (v := .bool true) rfl _ (.inl rfl) rfl ?_; try simp only [Act.put, List.setIfInBounds_toArray, List.set_cons_zero, List.set_cons_succ]
        refine k_skip rfl rfl rfl rfl rfl ?_; try simp only [Act.put, List.setIfInBounds_toArray, List.set_cons_zero, List.set_cons_succ]
        refine k_skip rfl rfl rfl rfl rfl ?_; try simp only [Act.put, List.setIfInBounds_toArray, List.set_cons_zero, List.set_cons_succ]
        refine k_skip rfl rfl rfl rfl rfl ?_; try simp only [Act.put, List.setIfInBounds_toArray, List.set_cons_zero, List.set_cons_succ]
        refine k_skip rfl rfl rfl rfl rfl ?_; try simp only [Act.put, List.setIfInBounds_toArray, List.set_cons_zero, List.set_cons_succ]
        refine k_skip rfl rfl rfl rfl rfl ?_; try simp only [Act.put, List.setIfInBounds_toArray, List.set_cons_zero, List.set_cons_succ]
        refine k_skip rfl rfl rfl rfl rfl ?_; try simp only [Act.put, List.setIfInBounds_toArray, List.set_cons_zero, List.set_cons_succ]
        refine k_skip rfl rfl rfl rfl rfl ?_; try simp only [Act.put, List.setIfInBounds_toArray, List.set_cons_zero, List.set_cons_succ]
        refine k_skip rfl rfl rfl rfl rfl ?_; try simp only [Act.put, List.setIfInBounds_toArray, List.set_cons_zero, List.set_cons_succ]
        refine k_pickT (t := true) rfl _ _ _ rfl rfl rfl ?_; try simp only [Act.put, List.setIfInBounds_toArray, List.set_cons_zero, List.set_cons_succ]
        refine k_val (v := .bool true) rfl _ (.inr rfl) rfl ?_; try simp only [Act.put, List.setIfInBounds_toArray, List.set_cons_zero, List.set_cons_succ]
        refine k_end ?_
        intro wE hTE
        go_wp2
        go_ret
        exact ⟨rfl, hTwC.trans (hTr.trans hTE)⟩
  by_cases a2 : M = []
  · skip
    have hpn : putOk L0 k M = true ∧ putR L0 k M = L0 := by rw [a2]; exact put_nil (by omega)
    obtain ⟨hok, hR⟩ := hpn
    have hgetM : getL (putR L0 k M) k (M.length : Int) = M := by rw [a2]; unfold getL; rw [if_neg (by simp; omega)]; rfl
    have hz : M.length ≤ 0 := by rw [a2]; exact Nat.le_refl _
    clear a2
    have HP2 := HPU
    have hpl := putR_len L0 k M
    have hplt := putR_lt (k := k) HZ.out.2.1 HML.out
    have hp2 := HPU.out
    rw [hok] at hp2
    obtain ⟨L1, hL1⟩ : ∃ L, L = putR L0 k M := ⟨_, rfl⟩
    rw [← hL1] at hp2 hpl hplt
    rw [HZ.out.1] at hpl
    have HP3 := Lib.hid hp2
    have HL1 := Lib.hid (And.intro hL1 (And.intro hpl hplt))
    clear hp2 hok hL1 hpl hplt HP2
    go_upto_region 9 with (go_at_call 22; go_must (refine (HP3.out _ (hT7.trans hT8)).mono ?_; rintro e w9 ⟨v9, rfl, hM9, hT9⟩; have H9 := Lib.hid (And.intro hM9 hT9); clear hM9 hT9))
    have hT9w := Turned.fresh_tch (hT6.trans (hT7.trans hT8)) H9.out.2 (fun x hx => (HM6.out.lt hx).1)
    have hW9 := own_far H8.out H9.out.2.tch (fun j hj hm => by
      have h1 := (H8.out.lt j hj).1
      have h2 := ((HM6.out.call hT7).lt hm).2
      omega)
    have HM9 := Lib.hid H9.out.1
    have HW9 := Lib.hid hW9
    clear hW9 H9 H8 HP3 HPU HGT HSZ hT7 hT8 HM6 hT6
    try simp only [Act.put, List.setIfInBounds_toArray, List.set_cons_zero, List.set_cons_succ]
    refine k_seq (C := fun w' => Tch [] w9 w') (Tch.refl _ _) ?_
    refine k_val (v := .int .i64 k) rfl _ (.inl rfl) rfl ?_; try simp only [Act.put, List.setIfInBounds_toArray, List.set_cons_zero, List.set_cons_succ]
    refine k_geqI (m := k) (n := 0) (t := true) rfl _ _ _ rfl rfl rfl (decide_eq_true (by omega)) ?_; try simp only [Act.put, List.setIfInBounds_toArray, List.set_cons_zero, List.set_cons_succ]
    refine k_val (v := .bool true) rfl _ (.inl rfl) rfl ?_; try simp only [Act.put, List.setIfInBounds_toArray, List.set_cons_zero, List.set_cons_succ]
    refine k_val (v := .slice p M.length c) rfl _ (.inl rfl) rfl ?_; try simp only [Act.put, List.setIfInBounds_toArray, List.set_cons_zero, List.set_cons_succ]
    refine k_lenSl (p := p) (n := M.length) (c := c) rfl _ rfl rfl ?_; try simp only [Act.put, List.setIfInBounds_toArray, List.set_cons_zero, List.set_cons_succ]
    refine k_eqlI (m := (M.length : Int)) (n := 0) (t := true) rfl _ _ _ rfl rfl rfl (decide_eq_true (by omega)) ?_; try simp only [Act.put, List.setIfInBounds_toArray, List.set_cons_zero, List.set_cons_succ]
    refine k_val (v := .bool true) rfl _ (.inl rfl) rfl ?_; try simp only [Act.put, List.setIfInBounds_toArray, List.set_cons_zero, List.set_cons_succ]
    refine k_skip rfl rfl rfl rfl rfl ?_; try simp only [Act.put, List.setIfInBounds_toArray, List.set_cons_zero, List.set_cons_succ]
    refine k_skip rfl rfl rfl rfl rfl ?_; try simp only [Act.put, List.setIfInBounds_toArray, List.set_cons_zero, List.set_cons_succ]
    refine k_skip rfl rfl rfl rfl rfl ?_; try simp only [Act.put, List.setIfInBounds_toArray, List.set_cons_zero, List.set_cons_succ]
    refine k_skip rfl rfl rfl rfl rfl ?_; try simp only [Act.put, List.setIfInBounds_toArray, List.set_cons_zero, List.set_cons_succ]
    refine k_skipN rfl ?_; try simp only [Act.put, List.setIfInBounds_toArray, List.set_cons_zero, List.set_cons_succ]
    refine k_skipN rfl ?_; try simp only [Act.put, List.setIfInBounds_toArray, List.set_cons_zero, List.set_cons_succ]
    refine k_skipN rfl ?_; try simp only [Act.put, List.setIfInBounds_toArray, List.set_cons_zero, List.set_cons_succ]
    refine k_skipN rfl ?_; try simp only [Act.put, List.setIfInBounds_toArray, List.set_cons_zero, List.set_cons_succ]
    refine k_skipN rfl ?_; try simp only [Act.put, List.setIfInBounds_toArray, List.set_cons_zero, List.set_cons_succ]
    refine k_skipN rfl ?_; try simp only [Act.put, List.setIfInBounds_toArray, List.set_cons_zero, List.set_cons_succ]
    refine k_skip rfl rfl rfl rfl rfl ?_; try simp only [Act.put, List.setIfInBounds_toArray, List.set_cons_zero, List.set_cons_succ]
    refine k_pickT (t := true) rfl _ _ _ rfl rfl rfl ?_; try simp only [Act.put, List.setIfInBounds_toArray, List.set_cons_zero, List.set_cons_succ]
    refine k_pickT (t := true) rfl _ _ _ rfl rfl rfl ?_; try simp only [Act.put, List.setIfInBounds_toArray, List.set_cons_zero, List.set_cons_succ]
    refine k_val (v := .bool true) rfl _ (.inr rfl) rfl ?_; try simp only [Act.put, List.setIfInBounds_toArray, List.set_cons_zero, List.set_cons_succ]
    refine k_end ?_
    intro wA hTA
    have hgt := fun w' (h : Tch [] wA w') => get_any w.heap.size b v9 L1 0 (N : Int) w' (HM9.out.call (hTA.trans h)) HL1.out.2.2 (by omega)
    rw [show getL L1 0 (N : Int) = L1 by unfold getL; rw [if_neg (by omega), Int.toNat_natCast]; show cutL L1 0 N = L1; rw [← HL1.out.2.1]; exact cutL_full L1] at hgt
    have HGT := Lib.hid hgt
    clear hgt
    go_upto_region 11 with (go_at_call 15; go_must (refine (HGT.out _ (Tch.refl _ _)).mono ?_; rintro e wB ⟨vi, rfl, hownB, hTB⟩; have HIB := Lib.hid hownB; clear hownB))
    have hTC := hTA.trans hTB
    have hsz := fun w' (h : Tch [] wB w') => (size_any _ _ _ _ w' (HM9.out.call (hTC.trans h))).mono (fun e w'' q => And.intro q.1 (q.2 ▸ h : Tch [] wB w''))
    rw [HL1.out.2.1] at hsz
    have HSZ := Lib.hid hsz
    have HWB := Lib.hid (own_far HW9.out hTC (by simp))
    have HMB := Lib.hid (HM9.out.call hTC)
    have hTwB := hT9w.trans hTC
    clear hsz HGT HW9 HM9 hTA hTB hTC hT9w
    have hsW := own_sliceB HWB.out
    rw [HZ.out.1] at hsW
    obtain ⟨pw, cw, rfl, _, hpw⟩ := hsW
    have hsI := own_sliceB HIB.out
    rw [HL1.out.2.1] at hsI
    obtain ⟨pi, ci, rfl, _, hpi⟩ := hsI
    try simp only [Act.put, List.setIfInBounds_toArray, List.set_cons_zero, List.set_cons_succ]
    refine k_seq (C := fun w' => Tch [] wB w') (Tch.refl _ _) ?_
    refine k_val (v := .bool true) rfl _ (.inl rfl) rfl ?_; try simp only [Act.put, List.setIfInBounds_toArray, List.set_cons_zero, List.set_cons_succ]
    refine k_val (v := .bool true) rfl _ (.inl rfl) rfl ?_; try simp only [Act.put, List.setIfInBounds_toArray, List.set_cons_zero, List.set_cons_succ]
    refine k_neqB (s := true) (r := true) (t := false) rfl _ _ _ rfl rfl rfl rfl ?_; try simp only [Act.put, List.setIfInBounds_toArray, List.set_cons_zero, List.set_cons_succ]
    refine k_val (v := .bool false) rfl _ (.inl rfl) rfl ?_; try simp only [Act.put, List.setIfInBounds_toArray, List.set_cons_zero, List.set_cons_succ]
    refine k_val (v := .slice pi N ci) rfl _ (.inl rfl) rfl ?_; try simp only [Act.put, List.setIfInBounds_toArray, List.set_cons_zero, List.set_cons_succ]
    refine k_lenSl (p := pi) (n := N) (c := ci) rfl _ rfl rfl ?_; try simp only [Act.put, List.setIfInBounds_toArray, List.set_cons_zero, List.set_cons_succ]
    refine k_val (v := .int .i64 (N : Int)) rfl _ (.inl rfl) rfl ?_; try simp only [Act.put, List.setIfInBounds_toArray, List.set_cons_zero, List.set_cons_succ]
    refine k_neqI (m := (N : Int)) (n := (N : Int)) (t := false) rfl _ _ _ rfl rfl rfl (decide_eq_false (by omega)) ?_; try simp only [Act.put, List.setIfInBounds_toArray, List.set_cons_zero, List.set_cons_succ]
    refine k_pickF (t := false) rfl _ _ _ rfl rfl rfl ?_; try simp only [Act.put, List.setIfInBounds_toArray, List.set_cons_zero, List.set_cons_succ]
    refine k_val (v := .bool false) rfl _ (.inl rfl) rfl ?_; try simp only [Act.put, List.setIfInBounds_toArray, List.set_cons_zero, List.set_cons_succ]
    refine k_callC1 (v := .int .i64 (N : Int)) rfl rfl rfl Try.call10 (fun w' h => HSZ.out w' h) ?_; try simp only [Act.put, List.setIfInBounds_toArray, List.set_cons_zero, List.set_cons_succ]
    refine k_val (v := .int .i64 (N : Int)) rfl _ (.inl rfl) rfl ?_; try simp only [Act.put, List.setIfInBounds_toArray, List.set_cons_zero, List.set_cons_succ]
    refine k_neqI (m := (N : Int)) (n := (N : Int)) (t := false) rfl _ _ _ rfl rfl rfl (decide_eq_false (by omega)) ?_; try simp only [Act.put, List.setIfInBounds_toArray, List.set_cons_zero, List.set_cons_succ]
    refine k_pickF (t := false) rfl _ _ _ rfl rfl rfl ?_; try simp only [Act.put, List.setIfInBounds_toArray, List.set_cons_zero, List.set_cons_succ]
    refine k_end ?_
    intro wC hTC
    have HWC := Lib.hid (own_far HWB.out hTC (by simp))
    have HIC := Lib.hid (own_far HIB.out hTC (by simp))
    have HMC := Lib.hid (HMB.out.call hTC)
    have hTwC := hTwB.trans hTC
    clear HWB HIB HMB hTwB HSZ hTC
    go_upto_region 14 with (fail)
    go_loopw [14] (fun i wr => ∃ j : Nat, i = .int .i64 (j : Int) ∧ j ≤ N ∧ Tch [] wC wr) (fun i _ => N - (intOf i).toNat)
    case atStart => exact ⟨0, rfl, Nat.zero_le _, Tch.refl _ _⟩
    case round =>
      obtain ⟨j, rfl, hj, hTr⟩ := hrel
      by_cases hlt : j < N
      · have hlt' : (j : Int) < (N : Int) := by omega
        obtain ⟨gw, rfl⟩ := hpw (by omega)
        obtain ⟨gi, rfl⟩ := hpi (by omega)
        have hcw := own_cellB (own_far HWC.out hTr (by simp)) (k := j) (by rw [HZ.out.1]; exact hlt)
        rw [HZ.out.2.2 j] at hcw
        go_upto_region 17 with (first
          | (refine st_x (v := .pointer (some ⟨gw, j, none⟩)) rfl (by have h := x_idxB (w := wr) (.tmp 84) (.tmp 85) rfl rfl rfl hlt; rwa [Nat.zero_add] at h) ?_)
          | (refine st_x (v := .int .u8 ((0 : Nat) : Int)) rfl (x_cell 5 (.tmp 86) rfl rfl hcw u8_agg) ?_))
        have HG : L1.getD j 0 = 0 := by rw [HL1.out.1, hR]; exact HZ.out.2.2 j
        by_cases q1 : k ≤ (j : Int)
        · skip
          try simp only [Act.put, List.setIfInBounds_toArray, List.set_cons_zero, List.set_cons_succ]
          refine k_seq (C := fun w' => Tch [] wr w') (Tch.refl _ _) ?_
          refine k_val (v := .bool true) rfl _ (.inl rfl) rfl ?_; try simp only [Act.put, List.setIfInBounds_toArray, List.set_cons_zero, List.set_cons_succ]
          refine k_val (v := .bool true) rfl _ (.inl rfl) rfl ?_; try simp only [Act.put, List.setIfInBounds_toArray, List.set_cons_zero, List.set_cons_succ]
          refine k_val (v := .int .i64 (j : Int)) rfl _ (.inl rfl) rfl ?_; try simp only [Act.put, List.setIfInBounds_toArray, List.set_cons_zero, List.set_cons_succ]
          refine k_val (v := .int .i64 k) rfl _ (.inl rfl) rfl ?_; try simp only [Act.put, List.setIfInBounds_toArray, List.set_cons_zero, List.set_cons_succ]
          refine k_geqI (m := (j : Int)) (n := k) (t := true) rfl _ _ _ rfl rfl rfl (decide_eq_true (by omega)) ?_; try simp only [Act.put, List.setIfInBounds_toArray, List.set_cons_zero, List.set_cons_succ]
          refine k_pickT (t := true) rfl _ _ _ rfl rfl rfl ?_; try simp only [Act.put, List.setIfInBounds_toArray, List.set_cons_zero, List.set_cons_succ]
          refine k_val (v := .bool true) rfl _ (.inl rfl) rfl ?_; try simp only [Act.put, List.setIfInBounds_toArray, List.set_cons_zero, List.set_cons_succ]
          refine k_val (v := .int .i64 (j : Int)) rfl _ (.inl rfl) rfl ?_; try simp only [Act.put, List.setIfInBounds_toArray, List.set_cons_zero, List.set_cons_succ]
          refine k_val (v := .int .i64 k) rfl _ (.inl rfl) rfl ?_; try simp only [Act.put, List.setIfInBounds_toArray, List.set_cons_zero, List.set_cons_succ]
          refine k_sub (m := (j : Int)) (n := k) (s := (j : Int) - k) rfl _ _ _ _ rfl rfl rfl (by rw [IntKind.wrap_i64]; omega) ?_; try simp only [Act.put, List.setIfInBounds_toArray, List.set_cons_zero, List.set_cons_succ]
          refine k_val (v := .slice p M.length c) rfl _ (.inl rfl) rfl ?_; try simp only [Act.put, List.setIfInBounds_toArray, List.set_cons_zero, List.set_cons_succ]
          refine k_lenSl (p := p) (n := M.length) (c := c) rfl _ rfl rfl ?_; try simp only [Act.put, List.setIfInBounds_toArray, List.set_cons_zero, List.set_cons_succ]
          refine k_lss (m := ((j : Int) - k)) (n := (M.length : Int)) (t := false) rfl _ _ _ rfl rfl rfl (decide_eq_false (by omega)) ?_; try simp only [Act.put, List.setIfInBounds_toArray, List.set_cons_zero, List.set_cons_succ]
          refine k_pickT (t := false) rfl _ _ _ rfl rfl rfl ?_; try simp only [Act.put, List.setIfInBounds_toArray, List.set_cons_zero, List.set_cons_succ]
          refine k_end ?_
          intro wD hTD
          have hci := own_cellB (own_far HIC.out (hTr.trans hTD) (by simp)) (k := j) (by rw [HL1.out.2.1]; exact hlt)
          rw [HG] at hci
          have HCI := Lib.hid hci
          clear hci
          go_wp2_with (first
            | (refine st_x (v := .pointer (some ⟨gi, j, none⟩)) rfl (by have h := x_idxB (w := wD) (.tmp 108) (.tmp 109) rfl rfl rfl hlt; rwa [Nat.zero_add] at h) ?_)
            | (refine st_x (v := .int .u8 ((0 : Nat) : Int)) rfl (x_cell 5 (.tmp 110) rfl rfl HCI.out u8_agg) ?_)
            )
          go_roundw
          case rel => exact ⟨j + 1, by go_num, hlt, hTr.trans hTD⟩
          case measure => simp [intOf]; omega
        · skip
          try simp only [Act.put, List.setIfInBounds_toArray, List.set_cons_zero, List.set_cons_succ]
          refine k_seq (C := fun w' => Tch [] wr w') (Tch.refl _ _) ?_
          refine k_val (v := .bool true) rfl _ (.inl rfl) rfl ?_; try simp only [Act.put, List.setIfInBounds_toArray, List.set_cons_zero, List.set_cons_succ]
          refine k_val (v := .bool true) rfl _ (.inl rfl) rfl ?_; try simp only [Act.put, List.setIfInBounds_toArray, List.set_cons_zero, List.set_cons_succ]
          refine k_val (v := .int .i64 (j : Int)) rfl _ (.inl rfl) rfl ?_; try simp only [Act.put, List.setIfInBounds_toArray, List.set_cons_zero, List.set_cons_succ]
          refine k_val (v := .int .i64 k) rfl _ (.inl rfl) rfl ?_; try simp only [Act.put, List.setIfInBounds_toArray, List.set_cons_zero, List.set_cons_succ]
          refine k_geqI (m := (j : Int)) (n := k) (t := false) rfl _ _ _ rfl rfl rfl (decide_eq_false (by omega)) ?_; try simp only [Act.put, List.setIfInBounds_toArray, List.set_cons_zero, List.set_cons_succ]
          refine k_pickT (t := false) rfl _ _ _ rfl rfl rfl ?_; try simp only [Act.put, List.setIfInBounds_toArray, List.set_cons_zero, List.set_cons_succ]
          refine k_val (v := .bool false) rfl _ (.inl rfl) rfl ?_; try simp only [Act.put, List.setIfInBounds_toArray, List.set_cons_zero, List.set_cons_succ]
          refine k_skip rfl rfl rfl rfl rfl ?_; try simp only [Act.put, List.setIfInBounds_toArray, List.set_cons_zero, List.set_cons_succ]
          refine k_skip rfl rfl rfl rfl rfl ?_; try simp only [Act.put, List.setIfInBounds_toArray, List.set_cons_zero, List.set_cons_succ]
          refine k_skip rfl rfl rfl rfl rfl ?_; try simp only [Act.put, List.setIfInBounds_toArray, List.set_cons_zero, List.set_cons_succ]
          refine k_skip rfl rfl rfl rfl rfl ?_; try simp only [Act.put, List.setIfInBounds_toArray, List.set_cons_zero, List.set_cons_succ]
          refine k_skip rfl rfl rfl rfl rfl ?_; try simp only [Act.put, List.setIfInBounds_toArray, List.set_cons_zero, List.set_cons_succ]
          refine k_skip rfl rfl rfl rfl rfl ?_; try simp only [Act.put, List.setIfInBounds_toArray, List.set_cons_zero, List.set_cons_succ]
          refine k_pickF (t := false) rfl _ _ _ rfl rfl rfl ?_; try simp only [Act.put, List.setIfInBounds_toArray, List.set_cons_zero, List.set_cons_succ]
          refine k_end ?_
          intro wD hTD
          have hci := own_cellB (own_far HIC.out (hTr.trans hTD) (by simp)) (k := j) (by rw [HL1.out.2.1]; exact hlt)
          rw [HG] at hci
          have HCI := Lib.hid hci
          clear hci
          go_wp2_with (first
            | (refine st_x (v := .pointer (some ⟨gi, j, none⟩)) rfl (by have h := x_idxB (w := wD) (.tmp 108) (.tmp 109) rfl rfl rfl hlt; rwa [Nat.zero_add] at h) ?_)
            | (refine st_x (v := .int .u8 ((0 : Nat) : Int)) rfl (x_cell 5 (.tmp 110) rfl rfl HCI.out u8_agg) ?_)
            )
          go_roundw
          case rel => exact ⟨j + 1, by go_num, hlt, hTr.trans hTD⟩
          case measure => simp [intOf]; omega
      · obtain rfl : j = N := by omega
        go_upto_region 21 with (fail)
        try simp only [Act.put, List.setIfInBounds_toArray, List.set_cons_zero, List.set_cons_succ]
        have HMr := Lib.hid (fun w' (h : Tch [] wr w') => HMC.out.call (hTr.trans h))
        have HVr := Lib.hid (fun w' (h : Tch [] wr w') => HV.out.tch (hTwC.trans (hTr.trans h)) (by simp))
        refine wp_region_held_drew (S := fun w' => Tch [] wr w') (by kernel_rfl) ((Tch.refl _ _).drew) (fun hC => ?_)
        generalize World.drew wr = u0 at hC ⊢
        refine held_in (v := (.bool true)) 0 rfl (by kernel_rfl) (by kernel_rfl) (by kernel_rfl) (fun _ _ _ h => h) hC rfl (fun w' hw' => x_val _ (.inl rfl) rfl) ?_
        try simp only [Act.put, List.setIfInBounds_toArray, List.set_cons_zero, List.set_cons_succ]
        refine held_in (v := (.bool false)) 1 rfl (by kernel_rfl) (by kernel_rfl) (by kernel_rfl) (fun _ _ _ h => h) hC rfl (fun w' hw' => x_notB (s := true) _ _ rfl rfl rfl) ?_
        try simp only [Act.put, List.setIfInBounds_toArray, List.set_cons_zero, List.set_cons_succ]
        refine held_in (v := (.bool false)) 2 rfl (by kernel_rfl) (by kernel_rfl) (by kernel_rfl) (fun _ _ _ h => h) hC rfl (fun w' hw' => x_val _ (.inl rfl) rfl) ?_
        try simp only [Act.put, List.setIfInBounds_toArray, List.set_cons_zero, List.set_cons_succ]
        refine held_in (v := (.int .i64 k)) 3 rfl (by kernel_rfl) (by kernel_rfl) (by kernel_rfl) (fun _ _ _ h => h) hC rfl (fun w' hw' => x_val _ (.inl rfl) rfl) ?_
        try simp only [Act.put, List.setIfInBounds_toArray, List.set_cons_zero, List.set_cons_succ]
        refine held_in (v := (.slice p M.length c)) 4 rfl (by kernel_rfl) (by kernel_rfl) (by kernel_rfl) (fun _ _ _ h => h) hC rfl (fun w' hw' => x_val _ (.inl rfl) rfl) ?_
        try simp only [Act.put, List.setIfInBounds_toArray, List.set_cons_zero, List.set_cons_succ]
        refine held_in (v := (.int .i64 (M.length : Int))) 5 rfl (by kernel_rfl) (by kernel_rfl) (by kernel_rfl) (fun _ _ _ h => h) hC rfl (fun w' hw' => x_lenB _ rfl rfl) ?_
        try simp only [Act.put, List.setIfInBounds_toArray, List.set_cons_zero, List.set_cons_succ]
        refine held_in (v := (.slice p M.length c)) 8 rfl (by kernel_rfl) (by kernel_rfl) (by kernel_rfl) (fun _ _ _ h => h) hC rfl (fun w' hw' => x_val _ (.inl rfl) rfl) ?_
        try simp only [Act.put, List.setIfInBounds_toArray, List.set_cons_zero, List.set_cons_succ]
        refine held_in (v := (.string (strB M))) 9 rfl (by kernel_rfl) (by kernel_rfl) (by kernel_rfl) (fun _ _ _ h => h) hC rfl (fun w' hw' => x_convB _ rfl rfl (HVr.out w' hw')) ?_
        try simp only [Act.put, List.setIfInBounds_toArray, List.set_cons_zero, List.set_cons_succ]
        refine held_one 6 (by kernel_rfl) ?_
        refine held_call3 (v1 := .pointer (some ⟨b, 0, none⟩)) (v2 := .int .i64 k) (v3 := .int .i64 (M.length : Int)) rfl rfl rfl (by rfl) (by rfl) (by rfl) Try.call15 (get_any w.heap.size b v9 L1 k (M.length : Int) u0 (HMr.out _ hC) HL1.out.2.2 HK.out) ?_
        rintro e u1 ⟨vg, rfl, hg1, hT1⟩
        rw [HL1.out.1, hgetM] at hg1
        have hC1 : Tch [] wr u1 := hC.trans hT1
        refine ⟨_, rfl, hC1, ?_⟩
        try simp only [Act.put, List.setIfInBounds_toArray, List.set_cons_zero, List.set_cons_succ]
        refine held_one 7 (by kernel_rfl) ?_
        refine held_x (v := .string (strB M)) rfl rfl (x_convB _ rfl rfl (RdB.own hg1 HML.out)) ?_
        refine ⟨hC1, ?_⟩
        try simp only [Act.put, List.setIfInBounds_toArray, List.set_cons_zero, List.set_cons_succ]
        refine held_in (v := (.bool true)) 10 rfl (by kernel_rfl) (by kernel_rfl) (by kernel_rfl) (fun _ _ _ h => h) hC1 rfl (fun w' hw' => x_strS _ _ _ rfl rfl rfl) ?_
        try simp only [Act.put, List.setIfInBounds_toArray, List.set_cons_zero, List.set_cons_succ]
        refine held_in (v := (.bool true)) 11 rfl (by kernel_rfl) (by kernel_rfl) (by kernel_rfl) (fun _ _ _ h => h) hC1 rfl (fun w' hw' => x_pickF _ _ _ rfl rfl rfl) ?_
        try simp only [Act.put, List.setIfInBounds_toArray, List.set_cons_zero, List.set_cons_succ]
        refine held_in (v := (.bool true)) 12 rfl (by kernel_rfl) (by kernel_rfl) (by kernel_rfl) (fun _ _ _ h => h) hC1 rfl (fun w' hw' => x_val _ (.inr rfl) rfl) ?_
        try simp only [Act.put, List.setIfInBounds_toArray, List.set_cons_zero, List.set_cons_succ]
        refine wpAnyH_done (by kernel_rfl) ?_ _
        clear hg1 hT1 hC
        go_wp2
        go_ret
        exact ⟨rfl, hTwC.trans (hTr.trans hC1)⟩
  have hMl : 0 < M.length := List.length_pos_iff.2 a2
  by_cases a3 : (N : Int) < k
  · skip
    obtain ⟨hok, hR⟩ := put_no (L := L0) (M := M) (k := k) (by rintro ⟨_, h | h⟩; exact a2 h; rw [HZ.out.1] at h; omega)
    have HP2 := HPU
    have hpl := putR_len L0 k M
    have hplt := putR_lt (k := k) HZ.out.2.1 HML.out
    have hp2 := HPU.out
    rw [hok] at hp2
    obtain ⟨L1, hL1⟩ : ∃ L, L = putR L0 k M := ⟨_, rfl⟩
    rw [← hL1] at hp2 hpl hplt
    rw [HZ.out.1] at hpl
    have HP3 := Lib.hid hp2
    have HL1 := Lib.hid (And.intro hL1 (And.intro hpl hplt))
    clear hp2 hok hL1 hpl hplt HP2
    go_upto_region 9 with (go_at_call 22; go_must (refine (HP3.out _ (hT7.trans hT8)).mono ?_; rintro e w9 ⟨v9, rfl, hM9, hT9⟩; have H9 := Lib.hid (And.intro hM9 hT9); clear hM9 hT9))
    have hT9w := Turned.fresh_tch (hT6.trans (hT7.trans hT8)) H9.out.2 (fun x hx => (HM6.out.lt hx).1)
    have hW9 := own_far H8.out H9.out.2.tch (fun j hj hm => by
      have h1 := (H8.out.lt j hj).1
      have h2 := ((HM6.out.call hT7).lt hm).2
      omega)
    have HM9 := Lib.hid H9.out.1
    have HW9 := Lib.hid hW9
    clear hW9 H9 H8 HP3 HPU HGT HSZ hT7 hT8 HM6 hT6
    try simp only [Act.put, List.setIfInBounds_toArray, List.set_cons_zero, List.set_cons_succ]
    refine k_seq (C := fun w' => Tch [] w9 w') (Tch.refl _ _) ?_
    refine k_val (v := .int .i64 k) rfl _ (.inl rfl) rfl ?_; try simp only [Act.put, List.setIfInBounds_toArray, List.set_cons_zero, List.set_cons_succ]
    refine k_geqI (m := k) (n := 0) (t := true) rfl _ _ _ rfl rfl rfl (decide_eq_true (by omega)) ?_; try simp only [Act.put, List.setIfInBounds_toArray, List.set_cons_zero, List.set_cons_succ]
    refine k_val (v := .bool true) rfl _ (.inl rfl) rfl ?_; try simp only [Act.put, List.setIfInBounds_toArray, List.set_cons_zero, List.set_cons_succ]
    refine k_val (v := .slice p M.length c) rfl _ (.inl rfl) rfl ?_; try simp only [Act.put, List.setIfInBounds_toArray, List.set_cons_zero, List.set_cons_succ]
    refine k_lenSl (p := p) (n := M.length) (c := c) rfl _ rfl rfl ?_; try simp only [Act.put, List.setIfInBounds_toArray, List.set_cons_zero, List.set_cons_succ]
    refine k_eqlI (m := (M.length : Int)) (n := 0) (t := false) rfl _ _ _ rfl rfl rfl (decide_eq_false (by omega)) ?_; try simp only [Act.put, List.setIfInBounds_toArray, List.set_cons_zero, List.set_cons_succ]
    refine k_val (v := .bool false) rfl _ (.inl rfl) rfl ?_; try simp only [Act.put, List.setIfInBounds_toArray, List.set_cons_zero, List.set_cons_succ]
    refine k_val (v := .int .i64 k) rfl _ (.inl rfl) rfl ?_; try simp only [Act.put, List.setIfInBounds_toArray, List.set_cons_zero, List.set_cons_succ]
    refine k_val (v := .int .i64 (N : Int)) rfl _ (.inl rfl) rfl ?_; try simp only [Act.put, List.setIfInBounds_toArray, List.set_cons_zero, List.set_cons_succ]
    refine k_leqI (m := k) (n := (N : Int)) (t := false) rfl _ _ _ rfl rfl rfl (decide_eq_false (by omega)) ?_; try simp only [Act.put, List.setIfInBounds_toArray, List.set_cons_zero, List.set_cons_succ]
    refine k_val (v := .bool false) rfl _ (.inl rfl) rfl ?_; try simp only [Act.put, List.setIfInBounds_toArray, List.set_cons_zero, List.set_cons_succ]
    refine k_skip rfl rfl rfl rfl rfl ?_; try simp only [Act.put, List.setIfInBounds_toArray, List.set_cons_zero, List.set_cons_succ]
    refine k_skip rfl rfl rfl rfl rfl ?_; try simp only [Act.put, List.setIfInBounds_toArray, List.set_cons_zero, List.set_cons_succ]
    refine k_skip rfl rfl rfl rfl rfl ?_; try simp only [Act.put, List.setIfInBounds_toArray, List.set_cons_zero, List.set_cons_succ]
    refine k_skip rfl rfl rfl rfl rfl ?_; try simp only [Act.put, List.setIfInBounds_toArray, List.set_cons_zero, List.set_cons_succ]
    refine k_skip rfl rfl rfl rfl rfl ?_; try simp only [Act.put, List.setIfInBounds_toArray, List.set_cons_zero, List.set_cons_succ]
    refine k_skip rfl rfl rfl rfl rfl ?_; try simp only [Act.put, List.setIfInBounds_toArray, List.set_cons_zero, List.set_cons_succ]
    refine k_pickF (t := false) rfl _ _ _ rfl rfl rfl ?_; try simp only [Act.put, List.setIfInBounds_toArray, List.set_cons_zero, List.set_cons_succ]
    refine k_pickF (t := false) rfl _ _ _ rfl rfl rfl ?_; try simp only [Act.put, List.setIfInBounds_toArray, List.set_cons_zero, List.set_cons_succ]
    refine k_pickT (t := false) rfl _ _ _ rfl rfl rfl ?_; try simp only [Act.put, List.setIfInBounds_toArray, List.set_cons_zero, List.set_cons_succ]
    refine k_val (v := .bool false) rfl _ (.inr rfl) rfl ?_; try simp only [Act.put, List.setIfInBounds_toArray, List.set_cons_zero, List.set_cons_succ]
    refine k_end ?_
    intro wA hTA
    have hgt := fun w' (h : Tch [] wA w') => get_any w.heap.size b v9 L1 0 (N : Int) w' (HM9.out.call (hTA.trans h)) HL1.out.2.2 (by omega)
    rw [show getL L1 0 (N : Int) = L1 by unfold getL; rw [if_neg (by omega), Int.toNat_natCast]; show cutL L1 0 N = L1; rw [← HL1.out.2.1]; exact cutL_full L1] at hgt
    have HGT := Lib.hid hgt
    clear hgt
    go_upto_region 11 with (go_at_call 15; go_must (refine (HGT.out _ (Tch.refl _ _)).mono ?_; rintro e wB ⟨vi, rfl, hownB, hTB⟩; have HIB := Lib.hid hownB; clear hownB))
    have hTC := hTA.trans hTB
    have hsz := fun w' (h : Tch [] wB w') => (size_any _ _ _ _ w' (HM9.out.call (hTC.trans h))).mono (fun e w'' q => And.intro q.1 (q.2 ▸ h : Tch [] wB w''))
    rw [HL1.out.2.1] at hsz
    have HSZ := Lib.hid hsz
    have HWB := Lib.hid (own_far HW9.out hTC (by simp))
    have HMB := Lib.hid (HM9.out.call hTC)
    have hTwB := hT9w.trans hTC
    clear hsz HGT HW9 HM9 hTA hTB hTC hT9w
    have hsW := own_sliceB HWB.out
    rw [HZ.out.1] at hsW
    obtain ⟨pw, cw, rfl, _, hpw⟩ := hsW
    have hsI := own_sliceB HIB.out
    rw [HL1.out.2.1] at hsI
    obtain ⟨pi, ci, rfl, _, hpi⟩ := hsI
    try simp only [Act.put, List.setIfInBounds_toArray, List.set_cons_zero, List.set_cons_succ]
    refine k_seq (C := fun w' => Tch [] wB w') (Tch.refl _ _) ?_
    refine k_val (v := .bool false) rfl _ (.inl rfl) rfl ?_; try simp only [Act.put, List.setIfInBounds_toArray, List.set_cons_zero, List.set_cons_succ]
    refine k_val (v := .bool false) rfl _ (.inl rfl) rfl ?_; try simp only [Act.put, List.setIfInBounds_toArray, List.set_cons_zero, List.set_cons_succ]
    refine k_neqB (s := false) (r := false) (t := false) rfl _ _ _ rfl rfl rfl rfl ?_; try simp only [Act.put, List.setIfInBounds_toArray, List.set_cons_zero, List.set_cons_succ]
    refine k_val (v := .bool false) rfl _ (.inl rfl) rfl ?_; try simp only [Act.put, List.setIfInBounds_toArray, List.set_cons_zero, List.set_cons_succ]
    refine k_val (v := .slice pi N ci) rfl _ (.inl rfl) rfl ?_; try simp only [Act.put, List.setIfInBounds_toArray, List.set_cons_zero, List.set_cons_succ]
    refine k_lenSl (p := pi) (n := N) (c := ci) rfl _ rfl rfl ?_; try simp only [Act.put, List.setIfInBounds_toArray, List.set_cons_zero, List.set_cons_succ]
    refine k_val (v := .int .i64 (N : Int)) rfl _ (.inl rfl) rfl ?_; try simp only [Act.put, List.setIfInBounds_toArray, List.set_cons_zero, List.set_cons_succ]
    refine k_neqI (m := (N : Int)) (n := (N : Int)) (t := false) rfl _ _ _ rfl rfl rfl (decide_eq_false (by omega)) ?_; try simp only [Act.put, List.setIfInBounds_toArray, List.set_cons_zero, List.set_cons_succ]
    refine k_pickF (t := false) rfl _ _ _ rfl rfl rfl ?_; try simp only [Act.put, List.setIfInBounds_toArray, List.set_cons_zero, List.set_cons_succ]
    refine k_val (v := .bool false) rfl _ (.inl rfl) rfl ?_; try simp only [Act.put, List.setIfInBounds_toArray, List.set_cons_zero, List.set_cons_succ]
    refine k_callC1 (v := .int .i64 (N : Int)) rfl rfl rfl Try.call10 (fun w' h => HSZ.out w' h) ?_; try simp only [Act.put, List.setIfInBounds_toArray, List.set_cons_zero, List.set_cons_succ]
    refine k_val (v := .int .i64 (N : Int)) rfl _ (.inl rfl) rfl ?_; try simp only [Act.put, List.setIfInBounds_toArray, List.set_cons_zero, List.set_cons_succ]
    refine k_neqI (m := (N : Int)) (n := (N : Int)) (t := false) rfl _ _ _ rfl rfl rfl (decide_eq_false (by omega)) ?_; try simp only [Act.put, List.setIfInBounds_toArray, List.set_cons_zero, List.set_cons_succ]
    refine k_pickF (t := false) rfl _ _ _ rfl rfl rfl ?_; try simp only [Act.put, List.setIfInBounds_toArray, List.set_cons_zero, List.set_cons_succ]
    refine k_end ?_
    intro wC hTC
    have HWC := Lib.hid (own_far HWB.out hTC (by simp))
    have HIC := Lib.hid (own_far HIB.out hTC (by simp))
    have HMC := Lib.hid (HMB.out.call hTC)
    have hTwC := hTwB.trans hTC
    clear HWB HIB HMB hTwB HSZ hTC
    go_upto_region 14 with (fail)
    go_loopw [14] (fun i wr => ∃ j : Nat, i = .int .i64 (j : Int) ∧ j ≤ N ∧ Tch [] wC wr) (fun i _ => N - (intOf i).toNat)
    case atStart => exact ⟨0, rfl, Nat.zero_le _, Tch.refl _ _⟩
    case round =>
      obtain ⟨j, rfl, hj, hTr⟩ := hrel
      by_cases hlt : j < N
      · have hlt' : (j : Int) < (N : Int) := by omega
        obtain ⟨gw, rfl⟩ := hpw (by omega)
        obtain ⟨gi, rfl⟩ := hpi (by omega)
        have hcw := own_cellB (own_far HWC.out hTr (by simp)) (k := j) (by rw [HZ.out.1]; exact hlt)
        rw [HZ.out.2.2 j] at hcw
        go_upto_region 17 with (first
          | (refine st_x (v := .pointer (some ⟨gw, j, none⟩)) rfl (by have h := x_idxB (w := wr) (.tmp 84) (.tmp 85) rfl rfl rfl hlt; rwa [Nat.zero_add] at h) ?_)
          | (refine st_x (v := .int .u8 ((0 : Nat) : Int)) rfl (x_cell 5 (.tmp 86) rfl rfl hcw u8_agg) ?_))
        have HG : L1.getD j 0 = 0 := by rw [HL1.out.1, hR]; exact HZ.out.2.2 j
        try simp only [Act.put, List.setIfInBounds_toArray, List.set_cons_zero, List.set_cons_succ]
        refine k_seq (C := fun w' => Tch [] wr w') (Tch.refl _ _) ?_
        refine k_val (v := .bool false) rfl _ (.inl rfl) rfl ?_; try simp only [Act.put, List.setIfInBounds_toArray, List.set_cons_zero, List.set_cons_succ]
        refine k_val (v := .bool false) rfl _ (.inl rfl) rfl ?_; try simp only [Act.put, List.setIfInBounds_toArray, List.set_cons_zero, List.set_cons_succ]
        refine k_skip rfl rfl rfl rfl rfl ?_; try simp only [Act.put, List.setIfInBounds_toArray, List.set_cons_zero, List.set_cons_succ]
        refine k_skip rfl rfl rfl rfl rfl ?_; try simp only [Act.put, List.setIfInBounds_toArray, List.set_cons_zero, List.set_cons_succ]
        refine k_skip rfl rfl rfl rfl rfl ?_; try simp only [Act.put, List.setIfInBounds_toArray, List.set_cons_zero, List.set_cons_succ]
        refine k_pickF (t := false) rfl _ _ _ rfl rfl rfl ?_; try simp only [Act.put, List.setIfInBounds_toArray, List.set_cons_zero, List.set_cons_succ]
        refine k_val (v := .bool false) rfl _ (.inl rfl) rfl ?_; try simp only [Act.put, List.setIfInBounds_toArray, List.set_cons_zero, List.set_cons_succ]
        refine k_skip rfl rfl rfl rfl rfl ?_; try simp only [Act.put, List.setIfInBounds_toArray, List.set_cons_zero, List.set_cons_succ]
        refine k_skip rfl rfl rfl rfl rfl ?_; try simp only [Act.put, List.setIfInBounds_toArray, List.set_cons_zero, List.set_cons_succ]
        refine k_skip rfl rfl rfl rfl rfl ?_; try simp only [Act.put, List.setIfInBounds_toArray, List.set_cons_zero, List.set_cons_succ]
        refine k_skip rfl rfl rfl rfl rfl ?_; try simp only [Act.put, List.setIfInBounds_toArray, List.set_cons_zero, List.set_cons_succ]
        refine k_skip rfl rfl rfl rfl rfl ?_; try simp only [Act.put, List.setIfInBounds_toArray, List.set_cons_zero, List.set_cons_succ]
        refine k_skip rfl rfl rfl rfl rfl ?_; try simp only [Act.put, List.setIfInBounds_toArray, List.set_cons_zero, List.set_cons_succ]
        refine k_pickF (t := false) rfl _ _ _ rfl rfl rfl ?_; try simp only [Act.put, List.setIfInBounds_toArray, List.set_cons_zero, List.set_cons_succ]
        refine k_end ?_
        intro wD hTD
        have hci := own_cellB (own_far HIC.out (hTr.trans hTD) (by simp)) (k := j) (by rw [HL1.out.2.1]; exact hlt)
        rw [HG] at hci
        have HCI := Lib.hid hci
        clear hci
        go_wp2_with (first
          | (refine st_x (v := .pointer (some ⟨gi, j, none⟩)) rfl (by have h := x_idxB (w := wD) (.tmp 108) (.tmp 109) rfl rfl rfl hlt; rwa [Nat.zero_add] at h) ?_)
          | (refine st_x (v := .int .u8 ((0 : Nat) : Int)) rfl (x_cell 5 (.tmp 110) rfl rfl HCI.out u8_agg) ?_)
          )
        go_roundw
        case rel => exact ⟨j + 1, by go_num, hlt, hTr.trans hTD⟩
        case measure => simp [intOf]; omega
      · obtain rfl : j = N := by omega
        go_upto_region 21 with (fail)
        try simp only [Act.put, List.setIfInBounds_toArray, List.set_cons_zero, List.set_cons_succ]
        refine k_region (C := fun w' => Tch [] wr w') (by kernel_rfl) (by kernel_rfl) ((Tch.refl _ _).drew) ?_
        refine k_val (v := .bool false) rfl _ (.inl rfl) rfl ?_; try simp only [Act.put, List.setIfInBounds_toArray, List.set_cons_zero, List.set_cons_succ]
        refine k_notV (s := false) (t := true) rfl _ _ rfl rfl rfl ?_; try simp only [Act.put, List.setIfInBounds_toArray, List.set_cons_zero, List.set_cons_succ]
        refine k_val (v := .bool true) rfl _ (.inl rfl) rfl ?_; try simp only [Act.put, List.setIfInBounds_toArray, List.set_cons_zero, List.set_cons_succ]
        refine k_skip rfl rfl rfl rfl rfl ?_; try simp only [Act.put, List.setIfInBounds_toArray, List.set_cons_zero, List.set_cons_succ]
        refine k_skip rfl rfl rfl rfl rfl ?_; try simp only [Act.put, List.setIfInBounds_toArray, List.set_cons_zero, List.set_cons_succ]
        refine k_skip rfl rfl rfl rfl rfl ?_; try simp only [Act.put, List.setIfInBounds_toArray, List.set_cons_zero, List.set_cons_succ]
        refine k_skip rfl rfl rfl rfl rfl ?_; try simp only [Act.put, List.setIfInBounds_toArray, List.set_cons_zero, List.set_cons_succ]
        refine k_skip rfl rfl rfl rfl rfl ?_; try simp only [Act.put, List.setIfInBounds_toArray, List.set_cons_zero, List.set_cons_succ]
        refine k_skip rfl rfl rfl rfl rfl ?_; try simp only [Act.put, List.setIfInBounds_toArray, List.set_cons_zero, List.set_cons_succ]
        refine k_skip rfl rfl rfl rfl rfl ?_; try simp only [Act.put, List.setIfInBounds_toArray, List.set_cons_zero, List.set_cons_succ]
        refine k_skip rfl rfl rfl rfl rfl ?_; try simp only [Act.put, List.setIfInBounds_toArray, List.set_cons_zero, List.set_cons_succ]
        refine k_pickT (t := true) rfl _ _ _ rfl rfl rfl ?_; try simp only [Act.put, List.setIfInBounds_toArray, List.set_cons_zero, List.set_cons_succ]
        refine k_val (v := .bool true) rfl _ (.inr rfl) rfl ?_; try simp only [Act.put, List.setIfInBounds_toArray, List.set_cons_zero, List.set_cons_succ]
        refine k_end ?_
        intro wE hTE
        go_wp2
        go_ret
        exact ⟨rfl, hTwC.trans (hTr.trans hTE)⟩
  by_cases a4 : (N : Int) - k < (M.length : Int)
  · skip
    obtain ⟨hok, hR⟩ := put_no (L := L0) (M := M) (k := k) (by rintro ⟨_, h | h⟩; exact a2 h; rw [HZ.out.1] at h; omega)
    have HP2 := HPU
    have hpl := putR_len L0 k M
    have hplt := putR_lt (k := k) HZ.out.2.1 HML.out
    have hp2 := HPU.out
    rw [hok] at hp2
    obtain ⟨L1, hL1⟩ : ∃ L, L = putR L0 k M := ⟨_, rfl⟩
    rw [← hL1] at hp2 hpl hplt
    rw [HZ.out.1] at hpl
    have HP3 := Lib.hid hp2
    have HL1 := Lib.hid (And.intro hL1 (And.intro hpl hplt))
    clear hp2 hok hL1 hpl hplt HP2
    go_upto_region 9 with (go_at_call 22; go_must (refine (HP3.out _ (hT7.trans hT8)).mono ?_; rintro e w9 ⟨v9, rfl, hM9, hT9⟩; have H9 := Lib.hid (And.intro hM9 hT9); clear hM9 hT9))
    have hT9w := Turned.fresh_tch (hT6.trans (hT7.trans hT8)) H9.out.2 (fun x hx => (HM6.out.lt hx).1)
    have hW9 := own_far H8.out H9.out.2.tch (fun j hj hm => by
      have h1 := (H8.out.lt j hj).1
      have h2 := ((HM6.out.call hT7).lt hm).2
      omega)
    have HM9 := Lib.hid H9.out.1
    have HW9 := Lib.hid hW9
    clear hW9 H9 H8 HP3 HPU HGT HSZ hT7 hT8 HM6 hT6
    try simp only [Act.put, List.setIfInBounds_toArray, List.set_cons_zero, List.set_cons_succ]
    refine k_seq (C := fun w' => Tch [] w9 w') (Tch.refl _ _) ?_
    refine k_val (v := .int .i64 k) rfl _ (.inl rfl) rfl ?_; try simp only [Act.put, List.setIfInBounds_toArray, List.set_cons_zero, List.set_cons_succ]
    refine k_geqI (m := k) (n := 0) (t := true) rfl _ _ _ rfl rfl rfl (decide_eq_true (by omega)) ?_; try simp only [Act.put, List.setIfInBounds_toArray, List.set_cons_zero, List.set_cons_succ]
    refine k_val (v := .bool true) rfl _ (.inl rfl) rfl ?_; try simp only [Act.put, List.setIfInBounds_toArray, List.set_cons_zero, List.set_cons_succ]
    refine k_val (v := .slice p M.length c) rfl _ (.inl rfl) rfl ?_; try simp only [Act.put, List.setIfInBounds_toArray, List.set_cons_zero, List.set_cons_succ]
    refine k_lenSl (p := p) (n := M.length) (c := c) rfl _ rfl rfl ?_; try simp only [Act.put, List.setIfInBounds_toArray, List.set_cons_zero, List.set_cons_succ]
    refine k_eqlI (m := (M.length : Int)) (n := 0) (t := false) rfl _ _ _ rfl rfl rfl (decide_eq_false (by omega)) ?_; try simp only [Act.put, List.setIfInBounds_toArray, List.set_cons_zero, List.set_cons_succ]
    refine k_val (v := .bool false) rfl _ (.inl rfl) rfl ?_; try simp only [Act.put, List.setIfInBounds_toArray, List.set_cons_zero, List.set_cons_succ]
    refine k_val (v := .int .i64 k) rfl _ (.inl rfl) rfl ?_; try simp only [Act.put, List.setIfInBounds_toArray, List.set_cons_zero, List.set_cons_succ]
    refine k_val (v := .int .i64 (N : Int)) rfl _ (.inl rfl) rfl ?_; try simp only [Act.put, List.setIfInBounds_toArray, List.set_cons_zero, List.set_cons_succ]
    refine k_leqI (m := k) (n := (N : Int)) (t := true) rfl _ _ _ rfl rfl rfl (decide_eq_true (by omega)) ?_; try simp only [Act.put, List.setIfInBounds_toArray, List.set_cons_zero, List.set_cons_succ]
    refine k_val (v := .bool true) rfl _ (.inl rfl) rfl ?_; try simp only [Act.put, List.setIfInBounds_toArray, List.set_cons_zero, List.set_cons_succ]
    refine k_val (v := .slice p M.length c) rfl _ (.inl rfl) rfl ?_; try simp only [Act.put, List.setIfInBounds_toArray, List.set_cons_zero, List.set_cons_succ]
    refine k_lenSl (p := p) (n := M.length) (c := c) rfl _ rfl rfl ?_; try simp only [Act.put, List.setIfInBounds_toArray, List.set_cons_zero, List.set_cons_succ]
    refine k_val (v := .int .i64 (N : Int)) rfl _ (.inl rfl) rfl ?_; try simp only [Act.put, List.setIfInBounds_toArray, List.set_cons_zero, List.set_cons_succ]
    refine k_val (v := .int .i64 k) rfl _ (.inl rfl) rfl ?_; try simp only [Act.put, List.setIfInBounds_toArray, List.set_cons_zero, List.set_cons_succ]
    refine k_sub (m := (N : Int)) (n := k) (s := (N : Int) - k) rfl _ _ _ _ rfl rfl rfl (by rw [IntKind.wrap_i64]; omega) ?_; try simp only [Act.put, List.setIfInBounds_toArray, List.set_cons_zero, List.set_cons_succ]
    refine k_leqI (m := (M.length : Int)) (n := ((N : Int) - k)) (t := false) rfl _ _ _ rfl rfl rfl (decide_eq_false (by omega)) ?_; try simp only [Act.put, List.setIfInBounds_toArray, List.set_cons_zero, List.set_cons_succ]
    refine k_pickT (t := false) rfl _ _ _ rfl rfl rfl ?_; try simp only [Act.put, List.setIfInBounds_toArray, List.set_cons_zero, List.set_cons_succ]
    refine k_pickF (t := false) rfl _ _ _ rfl rfl rfl ?_; try simp only [Act.put, List.setIfInBounds_toArray, List.set_cons_zero, List.set_cons_succ]
    refine k_pickT (t := false) rfl _ _ _ rfl rfl rfl ?_; try simp only [Act.put, List.setIfInBounds_toArray, List.set_cons_zero, List.set_cons_succ]
    refine k_val (v := .bool false) rfl _ (.inr rfl) rfl ?_; try simp only [Act.put, List.setIfInBounds_toArray, List.set_cons_zero, List.set_cons_succ]
    refine k_end ?_
    intro wA hTA
    have hgt := fun w' (h : Tch [] wA w') => get_any w.heap.size b v9 L1 0 (N : Int) w' (HM9.out.call (hTA.trans h)) HL1.out.2.2 (by omega)
    rw [show getL L1 0 (N : Int) = L1 by unfold getL; rw [if_neg (by omega), Int.toNat_natCast]; show cutL L1 0 N = L1; rw [← HL1.out.2.1]; exact cutL_full L1] at hgt
    have HGT := Lib.hid hgt
    clear hgt
    go_upto_region 11 with (go_at_call 15; go_must (refine (HGT.out _ (Tch.refl _ _)).mono ?_; rintro e wB ⟨vi, rfl, hownB, hTB⟩; have HIB := Lib.hid hownB; clear hownB))
    have hTC := hTA.trans hTB
    have hsz := fun w' (h : Tch [] wB w') => (size_any _ _ _ _ w' (HM9.out.call (hTC.trans h))).mono (fun e w'' q => And.intro q.1 (q.2 ▸ h : Tch [] wB w''))
    rw [HL1.out.2.1] at hsz
    have HSZ := Lib.hid hsz
    have HWB := Lib.hid (own_far HW9.out hTC (by simp))
    have HMB := Lib.hid (HM9.out.call hTC)
    have hTwB := hT9w.trans hTC
    clear hsz HGT HW9 HM9 hTA hTB hTC hT9w
    have hsW := own_sliceB HWB.out
    rw [HZ.out.1] at hsW
    obtain ⟨pw, cw, rfl, _, hpw⟩ := hsW
    have hsI := own_sliceB HIB.out
    rw [HL1.out.2.1] at hsI
    obtain ⟨pi, ci, rfl, _, hpi⟩ := hsI
    try simp only [Act.put, List.setIfInBounds_toArray, List.set_cons_zero, List.set_cons_succ]
    refine k_seq (C := fun w' => Tch [] wB w') (Tch.refl _ _) ?_
    refine k_val (v := .bool false) rfl _ (.inl rfl) rfl ?_; try simp only [Act.put, List.setIfInBounds_toArray, List.set_cons_zero, List.set_cons_succ]
    refine k_val (v := .bool false) rfl _ (.inl rfl) rfl ?_; try simp only [Act.put, List.setIfInBounds_toArray, List.set_cons_zero, List.set_cons_succ]
    refine k_neqB (s := false) (r := false) (t := false) rfl _ _ _ rfl rfl rfl rfl ?_; try simp only [Act.put, List.setIfInBounds_toArray, List.set_cons_zero, List.set_cons_succ]
    refine k_val (v := .bool false) rfl _ (.inl rfl) rfl ?_; try simp only [Act.put, List.setIfInBounds_toArray, List.set_cons_zero, List.set_cons_succ]
    refine k_val (v := .slice pi N ci) rfl _ (.inl rfl) rfl ?_; try simp only [Act.put, List.setIfInBounds_toArray, List.set_cons_zero, List.set_cons_succ]
    refine k_lenSl (p := pi) (n := N) (c := ci) rfl _ rfl rfl ?_; try simp only [Act.put, List.setIfInBounds_toArray, List.set_cons_zero, List.set_cons_succ]
    refine k_val (v := .int .i64 (N : Int)) rfl _ (.inl rfl) rfl ?_; try simp only [Act.put, List.setIfInBounds_toArray, List.set_cons_zero, List.set_cons_succ]
    refine k_neqI (m := (N : Int)) (n := (N : Int)) (t := false) rfl _ _ _ rfl rfl rfl (decide_eq_false (by omega)) ?_; try simp only [Act.put, List.setIfInBounds_toArray, List.set_cons_zero, List.set_cons_succ]
    refine k_pickF (t := false) rfl _ _ _ rfl rfl rfl ?_; try simp only [Act.put, List.setIfInBounds_toArray, List.set_cons_zero, List.set_cons_succ]
    refine k_val (v := .bool false) rfl _ (.inl rfl) rfl ?_; try simp only [Act.put, List.setIfInBounds_toArray, List.set_cons_zero, List.set_cons_succ]
    refine k_callC1 (v := .int .i64 (N : Int)) rfl rfl rfl Try.call10 (fun w' h => HSZ.out w' h) ?_; try simp only [Act.put, List.setIfInBounds_toArray, List.set_cons_zero, List.set_cons_succ]
    refine k_val (v := .int .i64 (N : Int)) rfl _ (.inl rfl) rfl ?_; try simp only [Act.put, List.setIfInBounds_toArray, List.set_cons_zero, List.set_cons_succ]
    refine k_neqI (m := (N : Int)) (n := (N : Int)) (t := false) rfl _ _ _ rfl rfl rfl (decide_eq_false (by omega)) ?_; try simp only [Act.put, List.setIfInBounds_toArray, List.set_cons_zero, List.set_cons_succ]
    refine k_pickF (t := false) rfl _ _ _ rfl rfl rfl ?_; try simp only [Act.put, List.setIfInBounds_toArray, List.set_cons_zero, List.set_cons_succ]
    refine k_end ?_
    intro wC hTC
    have HWC := Lib.hid (own_far HWB.out hTC (by simp))
    have HIC := Lib.hid (own_far HIB.out hTC (by simp))
    have HMC := Lib.hid (HMB.out.call hTC)
    have hTwC := hTwB.trans hTC
    clear HWB HIB HMB hTwB HSZ hTC
    go_upto_region 14 with (fail)
    go_loopw [14] (fun i wr => ∃ j : Nat, i = .int .i64 (j : Int) ∧ j ≤ N ∧ Tch [] wC wr) (fun i _ => N - (intOf i).toNat)
    case atStart => exact ⟨0, rfl, Nat.zero_le _, Tch.refl _ _⟩
    case round =>
      obtain ⟨j, rfl, hj, hTr⟩ := hrel
      by_cases hlt : j < N
      · have hlt' : (j : Int) < (N : Int) := by omega
        obtain ⟨gw, rfl⟩ := hpw (by omega)
        obtain ⟨gi, rfl⟩ := hpi (by omega)
        have hcw := own_cellB (own_far HWC.out hTr (by simp)) (k := j) (by rw [HZ.out.1]; exact hlt)
        rw [HZ.out.2.2 j] at hcw
        go_upto_region 17 with (first
          | (refine st_x (v := .pointer (some ⟨gw, j, none⟩)) rfl (by have h := x_idxB (w := wr) (.tmp 84) (.tmp 85) rfl rfl rfl hlt; rwa [Nat.zero_add] at h) ?_)
          | (refine st_x (v := .int .u8 ((0 : Nat) : Int)) rfl (x_cell 5 (.tmp 86) rfl rfl hcw u8_agg) ?_))
        have HG : L1.getD j 0 = 0 := by rw [HL1.out.1, hR]; exact HZ.out.2.2 j
        try simp only [Act.put, List.setIfInBounds_toArray, List.set_cons_zero, List.set_cons_succ]
        refine k_seq (C := fun w' => Tch [] wr w') (Tch.refl _ _) ?_
        refine k_val (v := .bool false) rfl _ (.inl rfl) rfl ?_; try simp only [Act.put, List.setIfInBounds_toArray, List.set_cons_zero, List.set_cons_succ]
        refine k_val (v := .bool false) rfl _ (.inl rfl) rfl ?_; try simp only [Act.put, List.setIfInBounds_toArray, List.set_cons_zero, List.set_cons_succ]
        refine k_skip rfl rfl rfl rfl rfl ?_; try simp only [Act.put, List.setIfInBounds_toArray, List.set_cons_zero, List.set_cons_succ]
        refine k_skip rfl rfl rfl rfl rfl ?_; try simp only [Act.put, List.setIfInBounds_toArray, List.set_cons_zero, List.set_cons_succ]
        refine k_skip rfl rfl rfl rfl rfl ?_; try simp only [Act.put, List.setIfInBounds_toArray, List.set_cons_zero, List.set_cons_succ]
        refine k_pickF (t := false) rfl _ _ _ rfl rfl rfl ?_; try simp only [Act.put, List.setIfInBounds_toArray, List.set_cons_zero, List.set_cons_succ]
        refine k_val (v := .bool false) rfl _ (.inl rfl) rfl ?_; try simp only [Act.put, List.setIfInBounds_toArray, List.set_cons_zero, List.set_cons_succ]
        refine k_skip rfl rfl rfl rfl rfl ?_; try simp only [Act.put, List.setIfInBounds_toArray, List.set_cons_zero, List.set_cons_succ]
        refine k_skip rfl rfl rfl rfl rfl ?_; try simp only [Act.put, List.setIfInBounds_toArray, List.set_cons_zero, List.set_cons_succ]
        refine k_skip rfl rfl rfl rfl rfl ?_; try simp only [Act.put, List.setIfInBounds_toArray, List.set_cons_zero, List.set_cons_succ]
        refine k_skip rfl rfl rfl rfl rfl ?_; try simp only [Act.put, List.setIfInBounds_toArray, List.set_cons_zero, List.set_cons_succ]
        refine k_skip rfl rfl rfl rfl rfl ?_; try simp only [Act.put, List.setIfInBounds_toArray, List.set_cons_zero, List.set_cons_succ]
        refine k_skip rfl rfl rfl rfl rfl ?_; try simp only [Act.put, List.setIfInBounds_toArray, List.set_cons_zero, List.set_cons_succ]
        refine k_pickF (t := false) rfl _ _ _ rfl rfl rfl ?_; try simp only [Act.put, List.setIfInBounds_toArray, List.set_cons_zero, List.set_cons_succ]
        refine k_end ?_
        intro wD hTD
        have hci := own_cellB (own_far HIC.out (hTr.trans hTD) (by simp)) (k := j) (by rw [HL1.out.2.1]; exact hlt)
        rw [HG] at hci
        have HCI := Lib.hid hci
        clear hci
        go_wp2_with (first
          | (refine st_x (v := .pointer (some ⟨gi, j, none⟩)) rfl (by have h := x_idxB (w := wD) (.tmp 108) (.tmp 109) rfl rfl rfl hlt; rwa [Nat.zero_add] at h) ?_)
          | (refine st_x (v := .int .u8 ((0 : Nat) : Int)) rfl (x_cell 5 (.tmp 110) rfl rfl HCI.out u8_agg) ?_)
          )
        go_roundw
        case rel => exact ⟨j + 1, by go_num, hlt, hTr.trans hTD⟩
        case measure => simp [intOf]; omega
      · obtain rfl : j = N := by omega
        go_upto_region 21 with (fail)
        try simp only [Act.put, List.setIfInBounds_toArray, List.set_cons_zero, List.set_cons_succ]
        refine k_region (C := fun w' => Tch [] wr w') (by kernel_rfl) (by kernel_rfl) ((Tch.refl _ _).drew) ?_
        refine k_val (v := .bool false) rfl _ (.inl rfl) rfl ?_; try simp only [Act.put, List.setIfInBounds_toArray, List.set_cons_zero, List.set_cons_succ]
        refine k_notV (s := false) (t := true) rfl _ _ rfl rfl rfl ?_; try simp only [Act.put, List.setIfInBounds_toArray, List.set_cons_zero, List.set_cons_succ]
        refine k_val (v := .bool true) rfl _ (.inl rfl) rfl ?_; try simp only [Act.put, List.setIfInBounds_toArray, List.set_cons_zero, List.set_cons_succ]
        refine k_skip rfl rfl rfl rfl rfl ?_; try simp only [Act.put, List.setIfInBounds_toArray, List.set_cons_zero, List.set_cons_succ]
        refine k_skip rfl rfl rfl rfl rfl ?_; try simp only [Act.put, List.setIfInBounds_toArray, List.set_cons_zero, List.set_cons_succ]
        refine k_skip rfl rfl rfl rfl rfl ?_; try simp only [Act.put, List.setIfInBounds_toArray, List.set_cons_zero, List.set_cons_succ]
        refine k_skip rfl rfl rfl rfl rfl ?_; try simp only [Act.put, List.setIfInBounds_toArray, List.set_cons_zero, List.set_cons_succ]
        refine k_skip rfl rfl rfl rfl rfl ?_; try simp only [Act.put, List.setIfInBounds_toArray, List.set_cons_zero, List.set_cons_succ]
        refine k_skip rfl rfl rfl rfl rfl ?_; try simp only [Act.put, List.setIfInBounds_toArray, List.set_cons_zero, List.set_cons_succ]
        refine k_skip rfl rfl rfl rfl rfl ?_; try simp only [Act.put, List.setIfInBounds_toArray, List.set_cons_zero, List.set_cons_succ]
        refine k_skip rfl rfl rfl rfl rfl ?_; try simp only [Act.put, List.setIfInBounds_toArray, List.set_cons_zero, List.set_cons_succ]
        refine k_pickT (t := true) rfl _ _ _ rfl rfl rfl ?_; try simp only [Act.put, List.setIfInBounds_toArray, List.set_cons_zero, List.set_cons_succ]
        refine k_val (v := .bool true) rfl _ (.inr rfl) rfl ?_; try simp only [Act.put, List.setIfInBounds_toArray, List.set_cons_zero, List.set_cons_succ]
        refine k_end ?_
        intro wE hTE
        go_wp2
        go_ret
        exact ⟨rfl, hTwC.trans (hTr.trans hTE)⟩
  obtain ⟨k, rfl⟩ : ∃ m : Nat, k = m := ⟨k.toNat, by omega⟩
  have hfit0 : k + M.length ≤ L0.length := by rw [HZ.out.1]; omega
  obtain ⟨hok, hR⟩ := put_yes (L := L0) (M := M) (k := k) a2 hfit0
  have hgetM : getL (putR L0 (k : Int) M) (k : Int) (M.length : Int) = M := by unfold getL; rw [if_neg (by omega), Int.toNat_natCast, Int.toNat_natCast, hR]; exact cut_put hfit0
  have HP2 := HPU
  have hpl := putR_len L0 (k : Int) M
  have hplt := putR_lt (k := (k : Int)) HZ.out.2.1 HML.out
  have hp2 := HPU.out
  rw [hok] at hp2
  obtain ⟨L1, hL1⟩ : ∃ L, L = putR L0 (k : Int) M := ⟨_, rfl⟩
  rw [← hL1] at hp2 hpl hplt
  rw [HZ.out.1] at hpl
  have HP3 := Lib.hid hp2
  have HL1 := Lib.hid (And.intro hL1 (And.intro hpl hplt))
  clear hp2 hok hL1 hpl hplt HP2
  go_upto_region 9 with (go_at_call 22; go_must (refine (HP3.out _ (hT7.trans hT8)).mono ?_; rintro e w9 ⟨v9, rfl, hM9, hT9⟩; have H9 := Lib.hid (And.intro hM9 hT9); clear hM9 hT9))
  have hT9w := Turned.fresh_tch (hT6.trans (hT7.trans hT8)) H9.out.2 (fun x hx => (HM6.out.lt hx).1)
  have hW9 := own_far H8.out H9.out.2.tch (fun j hj hm => by
    have h1 := (H8.out.lt j hj).1
    have h2 := ((HM6.out.call hT7).lt hm).2
    omega)
  have HM9 := Lib.hid H9.out.1
  have HW9 := Lib.hid hW9
  clear hW9 H9 H8 HP3 HPU HGT HSZ hT7 hT8 HM6 hT6
  try simp only [Act.put, List.setIfInBounds_toArray, List.set_cons_zero, List.set_cons_succ]
  refine k_seq (C := fun w' => Tch [] w9 w') (Tch.refl _ _) ?_
  refine k_val (v := .int .i64 (k : Int)) rfl _ (.inl rfl) rfl ?_; try simp only [Act.put, List.setIfInBounds_toArray, List.set_cons_zero, List.set_cons_succ]
  refine k_geqI (m := (k : Int)) (n := 0) (t := true) rfl _ _ _ rfl rfl rfl (decide_eq_true (by omega)) ?_; try simp only [Act.put, List.setIfInBounds_toArray, List.set_cons_zero, List.set_cons_succ]
  refine k_val (v := .bool true) rfl _ (.inl rfl) rfl ?_; try simp only [Act.put, List.setIfInBounds_toArray, List.set_cons_zero, List.set_cons_succ]
  refine k_val (v := .slice p M.length c) rfl _ (.inl rfl) rfl ?_; try simp only [Act.put, List.setIfInBounds_toArray, List.set_cons_zero, List.set_cons_succ]
  refine k_lenSl (p := p) (n := M.length) (c := c) rfl _ rfl rfl ?_; try simp only [Act.put, List.setIfInBounds_toArray, List.set_cons_zero, List.set_cons_succ]
  refine k_eqlI (m := (M.length : Int)) (n := 0) (t := false) rfl _ _ _ rfl rfl rfl (decide_eq_false (by omega)) ?_; try simp only [Act.put, List.setIfInBounds_toArray, List.set_cons_zero, List.set_cons_succ]
  refine k_val (v := .bool false) rfl _ (.inl rfl) rfl ?_; try simp only [Act.put, List.setIfInBounds_toArray, List.set_cons_zero, List.set_cons_succ]
  refine k_val (v := .int .i64 (k : Int)) rfl _ (.inl rfl) rfl ?_; try simp only [Act.put, List.setIfInBounds_toArray, List.set_cons_zero, List.set_cons_succ]
  refine k_val (v := .int .i64 (N : Int)) rfl _ (.inl rfl) rfl ?_; try simp only [Act.put, List.setIfInBounds_toArray, List.set_cons_zero, List.set_cons_succ]
  refine k_leqI (m := (k : Int)) (n := (N : Int)) (t := true) rfl _ _ _ rfl rfl rfl (decide_eq_true (by omega)) ?_; try simp only [Act.put, List.setIfInBounds_toArray, List.set_cons_zero, List.set_cons_succ]
  refine k_val (v := .bool true) rfl _ (.inl rfl) rfl ?_; try simp only [Act.put, List.setIfInBounds_toArray, List.set_cons_zero, List.set_cons_succ]
  refine k_val (v := .slice p M.length c) rfl _ (.inl rfl) rfl ?_; try simp only [Act.put, List.setIfInBounds_toArray, List.set_cons_zero, List.set_cons_succ]
  refine k_lenSl (p := p) (n := M.length) (c := c) rfl _ rfl rfl ?_; try simp only [Act.put, List.setIfInBounds_toArray, List.set_cons_zero, List.set_cons_succ]
  refine k_val (v := .int .i64 (N : Int)) rfl _ (.inl rfl) rfl ?_; try simp only [Act.put, List.setIfInBounds_toArray, List.set_cons_zero, List.set_cons_succ]
  refine k_val (v := .int .i64 (k : Int)) rfl _ (.inl rfl) rfl ?_; try simp only [Act.put, List.setIfInBounds_toArray, List.set_cons_zero, List.set_cons_succ]
  refine k_sub (m := (N : Int)) (n := (k : Int)) (s := (N : Int) - k) rfl _ _ _ _ rfl rfl rfl (by rw [IntKind.wrap_i64]; omega) ?_; try simp only [Act.put, List.setIfInBounds_toArray, List.set_cons_zero, List.set_cons_succ]
  refine k_leqI (m := (M.length : Int)) (n := ((N : Int) - k)) (t := true) rfl _ _ _ rfl rfl rfl (decide_eq_true (by omega)) ?_; try simp only [Act.put, List.setIfInBounds_toArray, List.set_cons_zero, List.set_cons_succ]
  refine k_pickT (t := true) rfl _ _ _ rfl rfl rfl ?_; try simp only [Act.put, List.setIfInBounds_toArray, List.set_cons_zero, List.set_cons_succ]
  refine k_pickF (t := true) rfl _ _ _ rfl rfl rfl ?_; try simp only [Act.put, List.setIfInBounds_toArray, List.set_cons_zero, List.set_cons_succ]
  refine k_pickT (t := true) rfl _ _ _ rfl rfl rfl ?_; try simp only [Act.put, List.setIfInBounds_toArray, List.set_cons_zero, List.set_cons_succ]
  refine k_val (v := .bool true) rfl _ (.inr rfl) rfl ?_; try simp only [Act.put, List.setIfInBounds_toArray, List.set_cons_zero, List.set_cons_succ]
  refine k_end ?_
  intro wA hTA
  have hgt := fun w' (h : Tch [] wA w') => get_any w.heap.size b v9 L1 0 (N : Int) w' (HM9.out.call (hTA.trans h)) HL1.out.2.2 (by omega)
  rw [show getL L1 0 (N : Int) = L1 by unfold getL; rw [if_neg (by omega), Int.toNat_natCast]; show cutL L1 0 N = L1; rw [← HL1.out.2.1]; exact cutL_full L1] at hgt
  have HGT := Lib.hid hgt
  clear hgt
  go_upto_region 11 with (go_at_call 15; go_must (refine (HGT.out _ (Tch.refl _ _)).mono ?_; rintro e wB ⟨vi, rfl, hownB, hTB⟩; have HIB := Lib.hid hownB; clear hownB))
  have hTC := hTA.trans hTB
  have hsz := fun w' (h : Tch [] wB w') => (size_any _ _ _ _ w' (HM9.out.call (hTC.trans h))).mono (fun e w'' q => And.intro q.1 (q.2 ▸ h : Tch [] wB w''))
  rw [HL1.out.2.1] at hsz
  have HSZ := Lib.hid hsz
  have HWB := Lib.hid (own_far HW9.out hTC (by simp))
  have HMB := Lib.hid (HM9.out.call hTC)
  have hTwB := hT9w.trans hTC
  clear hsz HGT HW9 HM9 hTA hTB hTC hT9w
  have hsW := own_sliceB HWB.out
  rw [HZ.out.1] at hsW
  obtain ⟨pw, cw, rfl, _, hpw⟩ := hsW
  have hsI := own_sliceB HIB.out
  rw [HL1.out.2.1] at hsI
  obtain ⟨pi, ci, rfl, _, hpi⟩ := hsI
  try simp only [Act.put, List.setIfInBounds_toArray, List.set_cons_zero, List.set_cons_succ]
  refine k_seq (C := fun w' => Tch [] wB w') (Tch.refl _ _) ?_
  refine k_val (v := .bool true) rfl _ (.inl rfl) rfl ?_; try simp only [Act.put, List.setIfInBounds_toArray, List.set_cons_zero, List.set_cons_succ]
  refine k_val (v := .bool true) rfl _ (.inl rfl) rfl ?_; try simp only [Act.put, List.setIfInBounds_toArray, List.set_cons_zero, List.set_cons_succ]
  refine k_neqB (s := true) (r := true) (t := false) rfl _ _ _ rfl rfl rfl rfl ?_; try simp only [Act.put, List.setIfInBounds_toArray, List.set_cons_zero, List.set_cons_succ]
  refine k_val (v := .bool false) rfl _ (.inl rfl) rfl ?_; try simp only [Act.put, List.setIfInBounds_toArray, List.set_cons_zero, List.set_cons_succ]
  refine k_val (v := .slice pi N ci) rfl _ (.inl rfl) rfl ?_; try simp only [Act.put, List.setIfInBounds_toArray, List.set_cons_zero, List.set_cons_succ]
  refine k_lenSl (p := pi) (n := N) (c := ci) rfl _ rfl rfl ?_; try simp only [Act.put, List.setIfInBounds_toArray, List.set_cons_zero, List.set_cons_succ]
  refine k_val (v := .int .i64 (N : Int)) rfl _ (.inl rfl) rfl ?_; try simp only [Act.put, List.setIfInBounds_toArray, List.set_cons_zero, List.set_cons_succ]
  refine k_neqI (m := (N : Int)) (n := (N : Int)) (t := false) rfl _ _ _ rfl rfl rfl (decide_eq_false (by omega)) ?_; try simp only [Act.put, List.setIfInBounds_toArray, List.set_cons_zero, List.set_cons_succ]
  refine k_pickF (t := false) rfl _ _ _ rfl rfl rfl ?_; try simp only [Act.put, List.setIfInBounds_toArray, List.set_cons_zero, List.set_cons_succ]
  refine k_val (v := .bool false) rfl _ (.inl rfl) rfl ?_; try simp only [Act.put, List.setIfInBounds_toArray, List.set_cons_zero, List.set_cons_succ]
  refine k_callC1 (v := .int .i64 (N : Int)) rfl rfl rfl Try.call10 (fun w' h => HSZ.out w' h) ?_; try simp only [Act.put, List.setIfInBounds_toArray, List.set_cons_zero, List.set_cons_succ]
  refine k_val (v := .int .i64 (N : Int)) rfl _ (.inl rfl) rfl ?_; try simp only [Act.put, List.setIfInBounds_toArray, List.set_cons_zero, List.set_cons_succ]
  refine k_neqI (m := (N : Int)) (n := (N : Int)) (t := false) rfl _ _ _ rfl rfl rfl (decide_eq_false (by omega)) ?_; try simp only [Act.put, List.setIfInBounds_toArray, List.set_cons_zero, List.set_cons_succ]
  refine k_pickF (t := false) rfl _ _ _ rfl rfl rfl ?_; try simp only [Act.put, List.setIfInBounds_toArray, List.set_cons_zero, List.set_cons_succ]
  refine k_end ?_
  intro wC hTC
  have HWC := Lib.hid (own_far HWB.out hTC (by simp))
  have HIC := Lib.hid (own_far HIB.out hTC (by simp))
  have HMC := Lib.hid (HMB.out.call hTC)
  have hTwC := hTwB.trans hTC
  clear HWB HIB HMB hTwB HSZ hTC
  go_upto_region 14 with (fail)
  go_loopw [14] (fun i wr => ∃ j : Nat, i = .int .i64 (j : Int) ∧ j ≤ N ∧ Tch [] wC wr) (fun i _ => N - (intOf i).toNat)
  case atStart => exact ⟨0, rfl, Nat.zero_le _, Tch.refl _ _⟩
  case round =>
    obtain ⟨j, rfl, hj, hTr⟩ := hrel
    by_cases hlt : j < N
    · have hlt' : (j : Int) < (N : Int) := by omega
      obtain ⟨gw, rfl⟩ := hpw (by omega)
      obtain ⟨gi, rfl⟩ := hpi (by omega)
      have hcw := own_cellB (own_far HWC.out hTr (by simp)) (k := j) (by rw [HZ.out.1]; exact hlt)
      rw [HZ.out.2.2 j] at hcw
      go_upto_region 17 with (first
        | (refine st_x (v := .pointer (some ⟨gw, j, none⟩)) rfl (by have h := x_idxB (w := wr) (.tmp 84) (.tmp 85) rfl rfl rfl hlt; rwa [Nat.zero_add] at h) ?_)
        | (refine st_x (v := .int .u8 ((0 : Nat) : Int)) rfl (x_cell 5 (.tmp 86) rfl rfl hcw u8_agg) ?_))
      by_cases q1 : k ≤ j
      · by_cases hin : j - k < M.length
        · have HG : L1.getD j 0 = M.getD (j - k) 0 := by rw [HL1.out.1, hR, put_get hfit0, if_pos ⟨q1, hin⟩]
          try simp only [Act.put, List.setIfInBounds_toArray, List.set_cons_zero, List.set_cons_succ]
          refine k_seq (C := fun w' => Tch [] wr w') (Tch.refl _ _) ?_
          refine k_val (v := .bool true) rfl _ (.inl rfl) rfl ?_; try simp only [Act.put, List.setIfInBounds_toArray, List.set_cons_zero, List.set_cons_succ]
          refine k_val (v := .bool true) rfl _ (.inl rfl) rfl ?_; try simp only [Act.put, List.setIfInBounds_toArray, List.set_cons_zero, List.set_cons_succ]
          refine k_val (v := .int .i64 (j : Int)) rfl _ (.inl rfl) rfl ?_; try simp only [Act.put, List.setIfInBounds_toArray, List.set_cons_zero, List.set_cons_succ]
          refine k_val (v := .int .i64 (k : Int)) rfl _ (.inl rfl) rfl ?_; try simp only [Act.put, List.setIfInBounds_toArray, List.set_cons_zero, List.set_cons_succ]
          refine k_geqI (m := (j : Int)) (n := (k : Int)) (t := true) rfl _ _ _ rfl rfl rfl (decide_eq_true (by omega)) ?_; try simp only [Act.put, List.setIfInBounds_toArray, List.set_cons_zero, List.set_cons_succ]
          refine k_pickT (t := true) rfl _ _ _ rfl rfl rfl ?_; try simp only [Act.put, List.setIfInBounds_toArray, List.set_cons_zero, List.set_cons_succ]
          refine k_val (v := .bool true) rfl _ (.inl rfl) rfl ?_; try simp only [Act.put, List.setIfInBounds_toArray, List.set_cons_zero, List.set_cons_succ]
          refine k_val (v := .int .i64 (j : Int)) rfl _ (.inl rfl) rfl ?_; try simp only [Act.put, List.setIfInBounds_toArray, List.set_cons_zero, List.set_cons_succ]
          refine k_val (v := .int .i64 (k : Int)) rfl _ (.inl rfl) rfl ?_; try simp only [Act.put, List.setIfInBounds_toArray, List.set_cons_zero, List.set_cons_succ]
          refine k_sub (m := (j : Int)) (n := (k : Int)) (s := ((j - k : Nat) : Int)) rfl _ _ _ _ rfl rfl rfl (by rw [IntKind.wrap_i64]; omega) ?_; try simp only [Act.put, List.setIfInBounds_toArray, List.set_cons_zero, List.set_cons_succ]
          refine k_val (v := .slice p M.length c) rfl _ (.inl rfl) rfl ?_; try simp only [Act.put, List.setIfInBounds_toArray, List.set_cons_zero, List.set_cons_succ]
          refine k_lenSl (p := p) (n := M.length) (c := c) rfl _ rfl rfl ?_; try simp only [Act.put, List.setIfInBounds_toArray, List.set_cons_zero, List.set_cons_succ]
          refine k_lss (m := (((j - k : Nat) : Int))) (n := (M.length : Int)) (t := true) rfl _ _ _ rfl rfl rfl (decide_eq_true (by omega)) ?_; try simp only [Act.put, List.setIfInBounds_toArray, List.set_cons_zero, List.set_cons_succ]
          refine k_pickT (t := true) rfl _ _ _ rfl rfl rfl ?_; try simp only [Act.put, List.setIfInBounds_toArray, List.set_cons_zero, List.set_cons_succ]
          refine k_end ?_
          intro wD hTD
          have hci := own_cellB (own_far HIC.out (hTr.trans hTD) (by simp)) (k := j) (by rw [HL1.out.2.1]; exact hlt)
          rw [HG] at hci
          have HCI := Lib.hid hci
          clear hci
          have HVD := Lib.hid (HV.out.tch (hTwC.trans (hTr.trans hTD)) (by simp))
          obtain ⟨p0, c0', hp0, _, _, h4⟩ := HVD.out
          obtain ⟨bm, om, hpm, hbm, hcm⟩ := h4 (by intro e; rw [e] at hin; simp at hin)
          injection hp0 with hp0 _ _
          subst hp0
          subst hpm
          have hcmj := hcm (j - k) hin
          have hq : IntKind.i64.wrap ((j : Int) - (k : Int)) = ((j - k : Nat) : Int) := by rw [IntKind.wrap_i64]; omega
          clear h4 hcm HVD
          go_wp2_with (first
            | (refine st_x (v := .pointer (some ⟨gi, j, none⟩)) rfl (by have h := x_idxB (w := wD) (.tmp 108) (.tmp 109) rfl rfl rfl hlt; rwa [Nat.zero_add] at h) ?_)
            | (refine st_x (v := .int .u8 ((M.getD (j - k) 0 : Nat) : Int)) rfl (x_cell 5 (.tmp 110) rfl rfl HCI.out u8_agg) ?_)
            | (refine st_x (v := .pointer (some ⟨bm, om + (j - k), none⟩)) rfl (x_idxB (.tmp 102) (.tmp 105) rfl rfl rfl hin) ?_)
            | (refine st_x (v := .int .u8 ((M.getD (j - k) 0 : Nat) : Int)) rfl (x_cell 5 (.tmp 106) rfl rfl hcmj u8_agg) ?_)
            )
          go_roundw
          case rel => exact ⟨j + 1, by go_num, hlt, hTr.trans hTD⟩
          case measure => simp [intOf]; omega
        · have HG : L1.getD j 0 = 0 := by rw [HL1.out.1, hR, put_get hfit0, if_neg (by omega)]; exact HZ.out.2.2 j
          try simp only [Act.put, List.setIfInBounds_toArray, List.set_cons_zero, List.set_cons_succ]
          refine k_seq (C := fun w' => Tch [] wr w') (Tch.refl _ _) ?_
          refine k_val (v := .bool true) rfl _ (.inl rfl) rfl ?_; try simp only [Act.put, List.setIfInBounds_toArray, List.set_cons_zero, List.set_cons_succ]
          refine k_val (v := .bool true) rfl _ (.inl rfl) rfl ?_; try simp only [Act.put, List.setIfInBounds_toArray, List.set_cons_zero, List.set_cons_succ]
          refine k_val (v := .int .i64 (j : Int)) rfl _ (.inl rfl) rfl ?_; try simp only [Act.put, List.setIfInBounds_toArray, List.set_cons_zero, List.set_cons_succ]
          refine k_val (v := .int .i64 (k : Int)) rfl _ (.inl rfl) rfl ?_; try simp only [Act.put, List.setIfInBounds_toArray, List.set_cons_zero, List.set_cons_succ]
          refine k_geqI (m := (j : Int)) (n := (k : Int)) (t := true) rfl _ _ _ rfl rfl rfl (decide_eq_true (by omega)) ?_; try simp only [Act.put, List.setIfInBounds_toArray, List.set_cons_zero, List.set_cons_succ]
          refine k_pickT (t := true) rfl _ _ _ rfl rfl rfl ?_; try simp only [Act.put, List.setIfInBounds_toArray, List.set_cons_zero, List.set_cons_succ]
          refine k_val (v := .bool true) rfl _ (.inl rfl) rfl ?_; try simp only [Act.put, List.setIfInBounds_toArray, List.set_cons_zero, List.set_cons_succ]
          refine k_val (v := .int .i64 (j : Int)) rfl _ (.inl rfl) rfl ?_; try simp only [Act.put, List.setIfInBounds_toArray, List.set_cons_zero, List.set_cons_succ]
          refine k_val (v := .int .i64 (k : Int)) rfl _ (.inl rfl) rfl ?_; try simp only [Act.put, List.setIfInBounds_toArray, List.set_cons_zero, List.set_cons_succ]
          refine k_sub (m := (j : Int)) (n := (k : Int)) (s := ((j - k : Nat) : Int)) rfl _ _ _ _ rfl rfl rfl (by rw [IntKind.wrap_i64]; omega) ?_; try simp only [Act.put, List.setIfInBounds_toArray, List.set_cons_zero, List.set_cons_succ]
          refine k_val (v := .slice p M.length c) rfl _ (.inl rfl) rfl ?_; try simp only [Act.put, List.setIfInBounds_toArray, List.set_cons_zero, List.set_cons_succ]
          refine k_lenSl (p := p) (n := M.length) (c := c) rfl _ rfl rfl ?_; try simp only [Act.put, List.setIfInBounds_toArray, List.set_cons_zero, List.set_cons_succ]
          refine k_lss (m := (((j - k : Nat) : Int))) (n := (M.length : Int)) (t := false) rfl _ _ _ rfl rfl rfl (decide_eq_false (by omega)) ?_; try simp only [Act.put, List.setIfInBounds_toArray, List.set_cons_zero, List.set_cons_succ]
          refine k_pickT (t := false) rfl _ _ _ rfl rfl rfl ?_; try simp only [Act.put, List.setIfInBounds_toArray, List.set_cons_zero, List.set_cons_succ]
          refine k_end ?_
          intro wD hTD
          have hci := own_cellB (own_far HIC.out (hTr.trans hTD) (by simp)) (k := j) (by rw [HL1.out.2.1]; exact hlt)
          rw [HG] at hci
          have HCI := Lib.hid hci
          clear hci
          go_wp2_with (first
            | (refine st_x (v := .pointer (some ⟨gi, j, none⟩)) rfl (by have h := x_idxB (w := wD) (.tmp 108) (.tmp 109) rfl rfl rfl hlt; rwa [Nat.zero_add] at h) ?_)
            | (refine st_x (v := .int .u8 ((0 : Nat) : Int)) rfl (x_cell 5 (.tmp 110) rfl rfl HCI.out u8_agg) ?_)
            )
          go_roundw
          case rel => exact ⟨j + 1, by go_num, hlt, hTr.trans hTD⟩
          case measure => simp [intOf]; omega
      · have HG : L1.getD j 0 = 0 := by rw [HL1.out.1, hR, put_get hfit0, if_neg (by omega)]; exact HZ.out.2.2 j
        try simp only [Act.put, List.setIfInBounds_toArray, List.set_cons_zero, List.set_cons_succ]
        refine k_seq (C := fun w' => Tch [] wr w') (Tch.refl _ _) ?_
        refine k_val (v := .bool true) rfl _ (.inl rfl) rfl ?_; try simp only [Act.put, List.setIfInBounds_toArray, List.set_cons_zero, List.set_cons_succ]
        refine k_val (v := .bool true) rfl _ (.inl rfl) rfl ?_; try simp only [Act.put, List.setIfInBounds_toArray, List.set_cons_zero, List.set_cons_succ]
        refine k_val (v := .int .i64 (j : Int)) rfl _ (.inl rfl) rfl ?_; try simp only [Act.put, List.setIfInBounds_toArray, List.set_cons_zero, List.set_cons_succ]
        refine k_val (v := .int .i64 (k : Int)) rfl _ (.inl rfl) rfl ?_; try simp only [Act.put, List.setIfInBounds_toArray, List.set_cons_zero, List.set_cons_succ]
        refine k_geqI (m := (j : Int)) (n := (k : Int)) (t := false) rfl _ _ _ rfl rfl rfl (decide_eq_false (by omega)) ?_; try simp only [Act.put, List.setIfInBounds_toArray, List.set_cons_zero, List.set_cons_succ]
        refine k_pickT (t := false) rfl _ _ _ rfl rfl rfl ?_; try simp only [Act.put, List.setIfInBounds_toArray, List.set_cons_zero, List.set_cons_succ]
        refine k_val (v := .bool false) rfl _ (.inl rfl) rfl ?_; try simp only [Act.put, List.setIfInBounds_toArray, List.set_cons_zero, List.set_cons_succ]
        refine k_skip rfl rfl rfl rfl rfl ?_; try simp only [Act.put, List.setIfInBounds_toArray, List.set_cons_zero, List.set_cons_succ]
        refine k_skip rfl rfl rfl rfl rfl ?_; try simp only [Act.put, List.setIfInBounds_toArray, List.set_cons_zero, List.set_cons_succ]
        refine k_skip rfl rfl rfl rfl rfl ?_; try simp only [Act.put, List.setIfInBounds_toArray, List.set_cons_zero, List.set_cons_succ]
        refine k_skip rfl rfl rfl rfl rfl ?_; try simp only [Act.put, List.setIfInBounds_toArray, List.set_cons_zero, List.set_cons_succ]
        refine k_skip rfl rfl rfl rfl rfl ?_; try simp only [Act.put, List.setIfInBounds_toArray, List.set_cons_zero, List.set_cons_succ]
        refine k_skip rfl rfl rfl rfl rfl ?_; try simp only [Act.put, List.setIfInBounds_toArray, List.set_cons_zero, List.set_cons_succ]
        refine k_pickF (t := false) rfl _ _ _ rfl rfl rfl ?_; try simp only [Act.put, List.setIfInBounds_toArray, List.set_cons_zero, List.set_cons_succ]
        refine k_end ?_
        intro wD hTD
        have hci := own_cellB (own_far HIC.out (hTr.trans hTD) (by simp)) (k := j) (by rw [HL1.out.2.1]; exact hlt)
        rw [HG] at hci
        have HCI := Lib.hid hci
        clear hci
        go_wp2_with (first
          | (refine st_x (v := .pointer (some ⟨gi, j, none⟩)) rfl (by have h := x_idxB (w := wD) (.tmp 108) (.tmp 109) rfl rfl rfl hlt; rwa [Nat.zero_add] at h) ?_)
          | (refine st_x (v := .int .u8 ((0 : Nat) : Int)) rfl (x_cell 5 (.tmp 110) rfl rfl HCI.out u8_agg) ?_)
          )
        go_roundw
        case rel => exact ⟨j + 1, by go_num, hlt, hTr.trans hTD⟩
        case measure => simp [intOf]; omega
    · obtain rfl : j = N := by omega
      go_upto_region 21 with (fail)
      try simp only [Act.put, List.setIfInBounds_toArray, List.set_cons_zero, List.set_cons_succ]
      have HMr := Lib.hid (fun w' (h : Tch [] wr w') => HMC.out.call (hTr.trans h))
      have HVr := Lib.hid (fun w' (h : Tch [] wr w') => HV.out.tch (hTwC.trans (hTr.trans h)) (by simp))
      refine wp_region_held_drew (S := fun w' => Tch [] wr w') (by kernel_rfl) ((Tch.refl _ _).drew) (fun hC => ?_)
      generalize World.drew wr = u0 at hC ⊢
      refine held_in (v := (.bool true)) 0 rfl (by kernel_rfl) (by kernel_rfl) (by kernel_rfl) (fun _ _ _ h => h) hC rfl (fun w' hw' => x_val _ (.inl rfl) rfl) ?_
      try simp only [Act.put, List.setIfInBounds_toArray, List.set_cons_zero, List.set_cons_succ]
      refine held_in (v := (.bool false)) 1 rfl (by kernel_rfl) (by kernel_rfl) (by kernel_rfl) (fun _ _ _ h => h) hC rfl (fun w' hw' => x_notB (s := true) _ _ rfl rfl rfl) ?_
      try simp only [Act.put, List.setIfInBounds_toArray, List.set_cons_zero, List.set_cons_succ]
      refine held_in (v := (.bool false)) 2 rfl (by kernel_rfl) (by kernel_rfl) (by kernel_rfl) (fun _ _ _ h => h) hC rfl (fun w' hw' => x_val _ (.inl rfl) rfl) ?_
      try simp only [Act.put, List.setIfInBounds_toArray, List.set_cons_zero, List.set_cons_succ]
      refine held_in (v := (.int .i64 (k : Int))) 3 rfl (by kernel_rfl) (by kernel_rfl) (by kernel_rfl) (fun _ _ _ h => h) hC rfl (fun w' hw' => x_val _ (.inl rfl) rfl) ?_
      try simp only [Act.put, List.setIfInBounds_toArray, List.set_cons_zero, List.set_cons_succ]
      refine held_in (v := (.slice p M.length c)) 4 rfl (by kernel_rfl) (by kernel_rfl) (by kernel_rfl) (fun _ _ _ h => h) hC rfl (fun w' hw' => x_val _ (.inl rfl) rfl) ?_
      try simp only [Act.put, List.setIfInBounds_toArray, List.set_cons_zero, List.set_cons_succ]
      refine held_in (v := (.int .i64 (M.length : Int))) 5 rfl (by kernel_rfl) (by kernel_rfl) (by kernel_rfl) (fun _ _ _ h => h) hC rfl (fun w' hw' => x_lenB _ rfl rfl) ?_
      try simp only [Act.put, List.setIfInBounds_toArray, List.set_cons_zero, List.set_cons_succ]
      refine held_in (v := (.slice p M.length c)) 8 rfl (by kernel_rfl) (by kernel_rfl) (by kernel_rfl) (fun _ _ _ h => h) hC rfl (fun w' hw' => x_val _ (.inl rfl) rfl) ?_
      try simp only [Act.put, List.setIfInBounds_toArray, List.set_cons_zero, List.set_cons_succ]
      refine held_in (v := (.string (strB M))) 9 rfl (by kernel_rfl) (by kernel_rfl) (by kernel_rfl) (fun _ _ _ h => h) hC rfl (fun w' hw' => x_convB _ rfl rfl (HVr.out w' hw')) ?_
      try simp only [Act.put, List.setIfInBounds_toArray, List.set_cons_zero, List.set_cons_succ]
      refine held_one 6 (by kernel_rfl) ?_
      refine held_call3 (v1 := .pointer (some ⟨b, 0, none⟩)) (v2 := .int .i64 (k : Int)) (v3 := .int .i64 (M.length : Int)) rfl rfl rfl (by rfl) (by rfl) (by rfl) Try.call15 (get_any w.heap.size b v9 L1 (k : Int) (M.length : Int) u0 (HMr.out _ hC) HL1.out.2.2 HK.out) ?_
      rintro e u1 ⟨vg, rfl, hg1, hT1⟩
      rw [HL1.out.1, hgetM] at hg1
      have hC1 : Tch [] wr u1 := hC.trans hT1
      refine ⟨_, rfl, hC1, ?_⟩
      try simp only [Act.put, List.setIfInBounds_toArray, List.set_cons_zero, List.set_cons_succ]
      refine held_one 7 (by kernel_rfl) ?_
      refine held_x (v := .string (strB M)) rfl rfl (x_convB _ rfl rfl (RdB.own hg1 HML.out)) ?_
      refine ⟨hC1, ?_⟩
      try simp only [Act.put, List.setIfInBounds_toArray, List.set_cons_zero, List.set_cons_succ]
      refine held_in (v := (.bool true)) 10 rfl (by kernel_rfl) (by kernel_rfl) (by kernel_rfl) (fun _ _ _ h => h) hC1 rfl (fun w' hw' => x_strS _ _ _ rfl rfl rfl) ?_
      try simp only [Act.put, List.setIfInBounds_toArray, List.set_cons_zero, List.set_cons_succ]
      refine held_in (v := (.bool true)) 11 rfl (by kernel_rfl) (by kernel_rfl) (by kernel_rfl) (fun _ _ _ h => h) hC1 rfl (fun w' hw' => x_pickF _ _ _ rfl rfl rfl) ?_
      try simp only [Act.put, List.setIfInBounds_toArray, List.set_cons_zero, List.set_cons_succ]
      refine held_in (v := (.bool true)) 12 rfl (by kernel_rfl) (by kernel_rfl) (by kernel_rfl) (fun _ _ _ h => h) hC1 rfl (fun w' hw' => x_val _ (.inr rfl) rfl) ?_
      try simp only [Act.put, List.setIfInBounds_toArray, List.set_cons_zero, List.set_cons_succ]
      refine wpAnyH_done (by kernel_rfl) ?_ _
      clear hg1 hT1 hC
      go_wp2
      go_ret
      exact ⟨rfl, hTwC.trans (hTr.trans hC1)⟩
end Go.Proofs.Ytlliidfkjlmadaa
