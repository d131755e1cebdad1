/- ops.digits, ops.Name, Pops, Pushes, Gas. -/
import Derived.Test.YtjbjjiibldlipaaO7
import Derived.Laws.Cover4
namespace Go.Proofs.Ytjbjjiibldlipaa
open Go.RowKit

section
variable {ops : Array Oper} {rest : List Oper} {o : Oper} {a : Act} {w : World} {Q : Exit → Act → World → Prop}
/-- A conversion. -/
theorem st_convO {s d : TypeId} {x : Operand} {vx v : Value} (hgd : o.guard = none) (ho : o.op = .convert s d x) (hx : a.eval x = vx) (hr : (convert s d vx).run Try.prog w = .ok v w) (h : wpList Try.prog ops Q rest (a.put o.dst v) w) : wpList Try.prog ops Q (o :: rest) a w :=
  wpList_plain hgd fun K hK => by
    unfold Oper.wp execOp
    simp only [ho, hx, Sem.run_bind, hr, Result.andThen_ok, Sem.run_pure]
    exact hK _ _ h
end
theorem strB_append (l m : List Nat) : strB l ++ strB m = strB (l ++ m) := by
  apply ByteArray.ext
  simp [strB, ByteArray.data_append]
theorem one_rune (n : Nat) (hn : n < 10) : Utf8.encode (48 + (n : Int)) = strB (digN n) := by
  have all : ∀ n : Fin 10, Utf8.encode (48 + (n.val : Int)) = strB (digN n.val) := by decide +kernel
  exact all ⟨n, hn⟩
theorem two_runes (n : Nat) (h : 10 ≤ n) (hn : n < 100) : runesBytes [48 + (n : Int) / 10, 48 + (n : Int) % 10] = strB (digN n) := by
  have all : ∀ n : Fin 100, 10 ≤ n.val → runesBytes [48 + (n.val : Int) / 10, 48 + (n.val : Int) % 10] = strB (digN n.val) := by decide +kernel
  exact all ⟨n, hn⟩ h
theorem runes_ty : Try.prog.underlying 83 = some (.slice 21) := by kernel_rfl
theorem rune_ty : Try.prog.underlying 21 = some (.int .i32) := by kernel_rfl
theorem digits_none (w : World) : Calls Try.prog 34 #[.int .i64 (-1)] w fun e w' => e = .returned (.string (strB [])) ∧ Tch [] w w' := by
  go_enter Try.func34, Try.ntmps34
  go_wp2
  go_ret
  exact ⟨rfl, Tch.refl _ _⟩
theorem digits_one (n : Nat) (hn : n < 10) (w : World) : Calls Try.prog 34 #[.int .i64 (n : Int)] w fun e w' => e = .returned (.string (strB (digN n))) ∧ Tch [] w w' := by
  have d0 : ((n : Int) == -1) = false := beq_eq_false_iff_ne.2 (by omega)
  have d1 : (n : Int) < 10 := by omega
  have H := Lib.hid (one_rune n hn)
  go_enter Try.func34, Try.ntmps34
  go_wp2
  go_ret
  exact ⟨by rw [H.out]; rfl, Tch.refl _ _⟩
set_option maxRecDepth 100000 in
theorem digits_two (n : Nat) (h : 10 ≤ n) (hn : n < 100) (w : World) : Calls Try.prog 34 #[.int .i64 (n : Int)] w fun e w' => e = .returned (.string (strB (digN n))) ∧ Tch [] w w' := by
  have d0 : ((n : Int) == -1) = false := beq_eq_false_iff_ne.2 (by omega)
  have d1 : ¬ (n : Int) < 10 := by omega
  have HR : Hid ((convert 83 9 (.slice (some ⟨w.heap.size, 0, none⟩) 2 2)).run Try.prog (w.alloc (.cells #[.int .i32 (48 + (n : Int) / 10), .int .i32 (48 + (n : Int) % 10)] 21)) = .ok (.string (strB (digN n))) (w.alloc (.cells #[.int .i32 (48 + (n : Int) / 10), .int .i32 (48 + (n : Int) % 10)] 21))) := by
    refine Lib.hid ?_
    have := run_convert_runes (P := Try.prog) (w.alloc (.cells #[.int .i32 (48 + (n : Int) / 10), .int .i32 (48 + (n : Int) % 10)] 21)) 83 9 21 ⟨w.heap.size, 0, none⟩ 2 2 [48 + (n : Int) / 10, 48 + (n : Int) % 10] (Nat.le_refl 2) runes_ty rune_ty string_ty (fun j hj => by
      have hB := Blk.new w 21 #[.int .i32 (48 + (n : Int) / 10), .int .i32 (48 + (n : Int) % 10)]
      have hadd : (⟨w.heap.size, 0, none⟩ : Addr).add j = ⟨w.heap.size, j, none⟩ := by unfold Addr.add; split <;> simp_all
      rw [hadd]
      refine hB.cell ?_
      match j, hj with
      | 0, _ => rfl
      | 1, _ => rfl)
    rw [this, ← two_runes n h hn]; rfl
  go_enter Try.func34, Try.ntmps34
  go_wp2_with (refine st_convO (s := 83) (d := 9) (v := .string (strB (digN n))) rfl rfl rfl HR.out ?_)
  go_ret
  exact ⟨rfl, (Tch.refl _ _).alloc _⟩
theorem num_lt (x : Nat) (h : x < 256) (n : Nat) (hn : num x = some n) : n < 100 := by
  unfold num at hn
  repeat' split at hn
  all_goals first | (obtain rfl := Option.some.inj hn; omega) | cases hn
theorem digits_num (x : Nat) (hx : x < 256) (w : World) : Calls Try.prog 34 #[.int .i64 (numI x)] w fun e w' => e = .returned (.string (strB (digs (num x)))) ∧ Tch [] w w' := by
  have hl := num_lt x hx
  unfold numI
  cases h : num x with
  | none => exact digits_none w
  | some n =>
    have := hl n h
    by_cases h10 : n < 10
    · exact digits_one n h10 w
    · exact digits_two n (by omega) this w
section
variable {o : Oper} {a : Act} {ops : Array Oper} {rest : List Oper} {C : World → Prop} {Q : Act → Prop}
/-- Two texts, one behind the other. -/
theorem k_addS {s t : ByteArray} (hw : Region.wanted o (yielded ops a.tmps) = true) (ty : TypeId) (x y : Operand) (yt : TypeId) (ho : o.op = .binOp .add ty x y yt) (hx : a.eval x = .string s) (hy : a.eval y = .string t) (hm : s.size + t.size ≤ 100000000)
    (h : KQ ops C Q rest (a.put o.dst (.string (s ++ t)))) : KQ ops C Q (o :: rest) a :=
  k_pure hw (fun w => by
    have h1 : ¬ (s.size + t.size > maxLen) := by unfold maxLen; omega
    have h2 : (s.size : Int) + (t.size : Int) ≤ 9223372036854775807 := by omega
    unfold execOp; simp only [ho, hx, hy]; show Sem.run _ _ w = _; simp [eqGuard, binOp, Op.stringOp, h1]; try exact h2) h
end
theorem ins_fa0 (b : Nat) (w : World) : (Instr.fieldAt 70 (.pointer (some ⟨b, 0, none⟩)) 0).run Try.prog w = .ok (.pointer (some ⟨b, 0, none⟩)) w := by kernel_rfl
theorem ins_fa1 (b : Nat) (w : World) : (Instr.fieldAt 70 (.pointer (some ⟨b, 0, none⟩)) 1).run Try.prog w = .ok (.pointer (some ⟨b, 1, none⟩)) w := by kernel_rfl
theorem ins_fa2 (b : Nat) (w : World) : (Instr.fieldAt 70 (.pointer (some ⟨b, 0, none⟩)) 2).run Try.prog w = .ok (.pointer (some ⟨b, 2, none⟩)) w := by kernel_rfl
theorem ins_fa3 (b : Nat) (w : World) : (Instr.fieldAt 70 (.pointer (some ⟨b, 0, none⟩)) 3).run Try.prog w = .ok (.pointer (some ⟨b, 3, none⟩)) w := by kernel_rfl
section
variable {o : Oper} {a : Act} {ops : Array Oper} {rest : List Oper} {C : World → Prop} {Q : Act → Prop}
/-- A field's place. -/
theorem k_fa {ty : TypeId} {x : Operand} {f : Nat} {v u : Value} (hw : Region.wanted o (yielded ops a.tmps) = true) (ho : o.op = .fieldAddr ty x f) (hx : a.eval x = v) (hr : ∀ w, (Instr.fieldAt ty v f).run Try.prog w = .ok u w)
    (h : KQ ops C Q rest (a.put o.dst u)) : KQ ops C Q (o :: rest) a :=
  k_pure hw (fun w => by unfold execOp; simp only [ho, hx, Sem.run_bind, hr, Result.andThen_ok, Sem.run_pure]) h
end
set_option maxHeartbeats 1000000 in
set_option maxRecDepth 100000 in
theorem name_any (x : Nat) (hx : x < 256) (w : World) : Calls Try.prog 22 #[.int .u8 (x : Int)] w fun e w' => e = .returned (.string (strB (nm x))) ∧ Tch [] w w' := by
  have hS := St.start w
  have HLN := Lib.hid (show (strB (ins x).1).size + (strB (digs (num x))).size ≤ 100000000 by
    have := (ins_bounds ⟨x, hx⟩).2.2.2.2
    rw [strB_size, strB_size, ← List.length_append]
    exact Nat.le_trans this (by omega))
  go_enter Try.func22, Try.ntmps22
  go_upto_region 2 with (first
    | (refine st_new (c := insZ) hS rfl 70 rfl ins_zero ?_; clear hS; intro w1 b1 hS)
    | (go_at_call 33; refine (find_any x hx _).mono ?_; rintro e w3 ⟨rfl, hT3⟩; replace hS := hS.call hT3)
    | (refine st_store (b := b1) (c' := rowA (ins x)) hS rfl 70 _ _ rfl rfl rfl .head ins_size rfl rfl (rowA_one _) ?_; clear hS; intro w2 hS))
  refine k_region (C := fun w' => St [] w w' [(b1, 70, rowA (ins x))]) (by kernel_rfl) (by kernel_rfl) hS.drew ?_
  refine k_fa rfl rfl rfl (ins_fa0 b1) ?_; try simp only [Act.put, List.setIfInBounds_toArray, List.set_cons_zero, List.set_cons_succ]
  refine k_cell rfl _ _ rfl rfl .head rfl string_agg ?_; try simp only [Act.put, List.setIfInBounds_toArray, List.set_cons_zero, List.set_cons_succ]
  refine k_val rfl _ (.inl rfl) rfl ?_; try simp only [Act.put, List.setIfInBounds_toArray, List.set_cons_zero, List.set_cons_succ]
  refine k_callC1 rfl rfl rfl Try.call34 (fun w' h => (digits_num x hx w').mono fun e w'' h2 => ⟨h2.1, h.call h2.2⟩) ?_; try simp only [Act.put, List.setIfInBounds_toArray, List.set_cons_zero, List.set_cons_succ]
  refine k_addS (s := strB (ins x).1) (t := strB (digs (num x))) rfl _ _ _ _ rfl rfl rfl HLN.out ?_; try simp only [Act.put, List.setIfInBounds_toArray, List.set_cons_zero, List.set_cons_succ]
  refine k_val (v := .string (strB (ins x).1 ++ strB (digs (num x)))) rfl _ (.inr rfl) rfl ?_; try simp only [Act.put, List.setIfInBounds_toArray, List.set_cons_zero, List.set_cons_succ]
  refine k_end ?_
  intro w5 hS5
  have H := Lib.hid (strB_append (ins x).1 (digs (num x)))
  go_wp2
  go_ret
  exact ⟨by rw [H.out]; rfl, hS5.frame⟩
end Go.Proofs.Ytjbjjiibldlipaa
