/- OpsTells' walk. -/
import Derived.Test.YtijnglcagijlcaaO15
import Derived.Test.YtijnglcagijlcaaO3
namespace Go.Proofs.Ytijnglcagijlcaa
open Go.RowKit

section
variable {o : Oper} {a : Act} {ops : Array Oper} {rest : List Oper} {C : World → Prop} {Q : Act → Prop}
theorem k_notV {s t : Bool} (hw : Region.wanted o (yielded ops a.tmps) = true) (ty : TypeId) (xo : Operand) (ho : o.op = .unOp .not ty xo) (hx : a.eval xo = .bool s) (ht : (!s) = t)
    (h : KQ ops C Q rest (a.put o.dst (.bool t))) : KQ ops C Q (o :: rest) a := k_not hw ty xo ho hx (by rw [ht]; exact h)
end
set_option maxHeartbeats 2000000 in
set_option maxRecDepth 100000 in
theorem tells_main (x : Nat) (L : List Nat) (w : World) (hx : x < 256) (hm : L.length ≤ 1000) (hL : ∀ y ∈ L, y < 256) :
    Calls Try.prog 3 #[.int .u8 (x : Int), .string (strB L)] w fun e w' => e = .returned (.bool true) ∧ Tch [] w w' := by
  have HS := Lib.hid (fun w1 => op_any L w1 hL (by omega))
  have HR := Lib.hid (fun w1 => rop_any L w1 hL)
  have HNL := Lib.hid (nm_lt ⟨x, hx⟩)
  have hnl : (nm x).length ≤ 20 := (ins_bounds ⟨x, hx⟩).2.2.2.2
  have HN := Lib.hid (fun w1 => op_any (nm x) w1 HNL.out (by omega))
  have hsz := strB_size L
  have d1 : ¬ (1000 : Int) < ((strB L).size : Int) := by omega
  clear hsz hL hnl
  obtain ⟨sB, hsB⟩ : ∃ sB, sB = strB L := ⟨_, rfl⟩
  rw [← hsB] at d1 ⊢
  rw [← hsB] at HS HR
  clear hsB
  by_cases h0 : nm x = []
  · have HF : Hid (opF (nm x) = none) := Lib.hid (opF_none fun j _ h1 => by rw [h0]; exact h1)
    have HB := Lib.hid (show (nm x != []) = false by rw [h0]; rfl)
    clear h0
    go_enter Try.func3, Try.ntmps3
    go_upto_region 7 with (first
      | (go_at_call 7; refine (alive_ops _).mono ?_; rintro e w1 ⟨rfl, hT1⟩)
      | (go_at_call 8; refine (line_any x hx _).mono ?_; rintro e w2 ⟨rfl, hT2⟩; have T2 := hT1.trans hT2)
      | (go_at_call 9; refine (HS.out _).mono ?_; rintro e w3 ⟨rfl, hT3⟩; have T3 := T2.trans hT3)
      | (go_at_call 10; refine (HR.out _).mono ?_; rintro e w4 ⟨rfl, hT4⟩; have T4 := T3.trans hT4))
    go_upto_region 8 with (go_at_call 9; refine (HN.out _).mono ?_; rintro e w6 ⟨rfl, hT6⟩; have T6 := T4.trans hT6)
    rw [HF.out]
    generalize (((opF L).getD 0 : Nat) : Int) = A0
    generalize (opF L).isSome = B0
    refine k_seq (C := fun w' => Tch [] w w') T6 ?_
    refine k_val (v := .int .u8 (x : Int)) rfl _ (.inl rfl) rfl ?_; try simp only [Act.put, List.setIfInBounds_toArray, List.set_cons_zero, List.set_cons_succ]
    refine k_callC1 (v1 := .int .u8 (x : Int)) rfl rfl rfl Try.call11 (fun w' h => (name_any x hx w').mono fun e w'' h2 => ⟨h2.1, h.trans h2.2⟩) ?_; try simp only [Act.put, List.setIfInBounds_toArray, List.set_cons_zero, List.set_cons_succ]
    refine k_val (v := .string (strB (nm x))) rfl _ (.inl rfl) rfl ?_; try simp only [Act.put, List.setIfInBounds_toArray, List.set_cons_zero, List.set_cons_succ]
    refine k_eqS (l := nm x) (m := nm x) (t := true) rfl _ _ _ rfl rfl rfl HNL.out HNL.out (beq_self_eq_true _) ?_; try simp only [Act.put, List.setIfInBounds_toArray, List.set_cons_zero, List.set_cons_succ]
    refine k_val (v := .bool true) rfl _ (.inl rfl) rfl ?_; try simp only [Act.put, List.setIfInBounds_toArray, List.set_cons_zero, List.set_cons_succ]
    refine k_val (v := .int .u8 (x : Int)) rfl _ (.inl rfl) rfl ?_; try simp only [Act.put, List.setIfInBounds_toArray, List.set_cons_zero, List.set_cons_succ]
    refine k_callC1 (v1 := .int .u8 (x : Int)) rfl rfl rfl Try.call12 (fun w' h => (pops_any x hx w').mono fun e w'' h2 => ⟨h2.1, h.trans h2.2⟩) ?_; try simp only [Act.put, List.setIfInBounds_toArray, List.set_cons_zero, List.set_cons_succ]
    refine k_val (v := .int .i64 (((ins x).2.1 : Nat) : Int)) rfl _ (.inl rfl) rfl ?_; try simp only [Act.put, List.setIfInBounds_toArray, List.set_cons_zero, List.set_cons_succ]
    refine k_ints (t := true) rfl _ _ _ rfl rfl rfl (beq_self_eq_true _) ?_; try simp only [Act.put, List.setIfInBounds_toArray, List.set_cons_zero, List.set_cons_succ]
    refine k_pickT (t := true) rfl _ _ _ rfl rfl rfl ?_; try simp only [Act.put, List.setIfInBounds_toArray, List.set_cons_zero, List.set_cons_succ]
    refine k_val (v := .bool true) rfl _ (.inl rfl) rfl ?_; try simp only [Act.put, List.setIfInBounds_toArray, List.set_cons_zero, List.set_cons_succ]
    refine k_val (v := .int .u8 (x : Int)) rfl _ (.inl rfl) rfl ?_; try simp only [Act.put, List.setIfInBounds_toArray, List.set_cons_zero, List.set_cons_succ]
    refine k_callC1 (v1 := .int .u8 (x : Int)) rfl rfl rfl Try.call13 (fun w' h => (pushes_any x hx w').mono fun e w'' h2 => ⟨h2.1, h.trans h2.2⟩) ?_; try simp only [Act.put, List.setIfInBounds_toArray, List.set_cons_zero, List.set_cons_succ]
    refine k_val (v := .int .i64 (((ins x).2.2.1 : Nat) : Int)) rfl _ (.inl rfl) rfl ?_; try simp only [Act.put, List.setIfInBounds_toArray, List.set_cons_zero, List.set_cons_succ]
    refine k_ints (t := true) rfl _ _ _ rfl rfl rfl (beq_self_eq_true _) ?_; try simp only [Act.put, List.setIfInBounds_toArray, List.set_cons_zero, List.set_cons_succ]
    refine k_pickT (t := true) rfl _ _ _ rfl rfl rfl ?_; try simp only [Act.put, List.setIfInBounds_toArray, List.set_cons_zero, List.set_cons_succ]
    refine k_val (v := .bool true) rfl _ (.inl rfl) rfl ?_; try simp only [Act.put, List.setIfInBounds_toArray, List.set_cons_zero, List.set_cons_succ]
    refine k_val (v := .int .u8 (x : Int)) rfl _ (.inl rfl) rfl ?_; try simp only [Act.put, List.setIfInBounds_toArray, List.set_cons_zero, List.set_cons_succ]
    refine k_callC1 (v1 := .int .u8 (x : Int)) rfl rfl rfl Try.call14 (fun w' h => (gas_any x hx w').mono fun e w'' h2 => ⟨h2.1, h.trans h2.2⟩) ?_; try simp only [Act.put, List.setIfInBounds_toArray, List.set_cons_zero, List.set_cons_succ]
    refine k_val (v := .int .i64 (((ins x).2.2.2 : Nat) : Int)) rfl _ (.inl rfl) rfl ?_; try simp only [Act.put, List.setIfInBounds_toArray, List.set_cons_zero, List.set_cons_succ]
    refine k_ints (t := true) rfl _ _ _ rfl rfl rfl (beq_self_eq_true _) ?_; try simp only [Act.put, List.setIfInBounds_toArray, List.set_cons_zero, List.set_cons_succ]
    refine k_pickT (t := true) rfl _ _ _ rfl rfl rfl ?_; try simp only [Act.put, List.setIfInBounds_toArray, List.set_cons_zero, List.set_cons_succ]
    refine k_val (v := .bool true) rfl _ (.inl rfl) rfl ?_; try simp only [Act.put, List.setIfInBounds_toArray, List.set_cons_zero, List.set_cons_succ]
    refine k_val (v := .int .u8 A0) rfl _ (.inl rfl) rfl ?_; try simp only [Act.put, List.setIfInBounds_toArray, List.set_cons_zero, List.set_cons_succ]
    refine k_val (v := .int .u8 A0) rfl _ (.inl rfl) rfl ?_; try simp only [Act.put, List.setIfInBounds_toArray, List.set_cons_zero, List.set_cons_succ]
    refine k_u8 (t := true) rfl _ _ _ rfl rfl rfl (beq_self_eq_true _) ?_; try simp only [Act.put, List.setIfInBounds_toArray, List.set_cons_zero, List.set_cons_succ]
    refine k_pickT (t := true) rfl _ _ _ rfl rfl rfl ?_; try simp only [Act.put, List.setIfInBounds_toArray, List.set_cons_zero, List.set_cons_succ]
    refine k_val (v := .bool true) rfl _ (.inl rfl) rfl ?_; try simp only [Act.put, List.setIfInBounds_toArray, List.set_cons_zero, List.set_cons_succ]
    refine k_val (v := .bool B0) rfl _ (.inl rfl) rfl ?_; try simp only [Act.put, List.setIfInBounds_toArray, List.set_cons_zero, List.set_cons_succ]
    refine k_val (v := .bool B0) rfl _ (.inl rfl) rfl ?_; try simp only [Act.put, List.setIfInBounds_toArray, List.set_cons_zero, List.set_cons_succ]
    refine k_boolsS (s := B0) rfl _ _ _ rfl rfl rfl ?_; try simp only [Act.put, List.setIfInBounds_toArray, List.set_cons_zero, List.set_cons_succ]
    refine k_pickT (t := true) rfl _ _ _ rfl rfl rfl ?_; try simp only [Act.put, List.setIfInBounds_toArray, List.set_cons_zero, List.set_cons_succ]
    refine k_val (v := .bool true) rfl _ (.inl rfl) rfl ?_; try simp only [Act.put, List.setIfInBounds_toArray, List.set_cons_zero, List.set_cons_succ]
    refine k_val (v := .bool false) rfl _ (.inl rfl) rfl ?_; try simp only [Act.put, List.setIfInBounds_toArray, List.set_cons_zero, List.set_cons_succ]
    refine k_val (v := .string (strB (nm x))) rfl _ (.inl rfl) rfl ?_; try simp only [Act.put, List.setIfInBounds_toArray, List.set_cons_zero, List.set_cons_succ]
    refine k_neS (l := nm x) (m := []) (t := false) rfl _ _ _ rfl rfl rfl HNL.out (by simp) HB.out ?_; try simp only [Act.put, List.setIfInBounds_toArray, List.set_cons_zero, List.set_cons_succ]
    refine k_boolsS (s := false) rfl _ _ _ rfl rfl rfl ?_; try simp only [Act.put, List.setIfInBounds_toArray, List.set_cons_zero, List.set_cons_succ]
    refine k_pickT (t := true) rfl _ _ _ rfl rfl rfl ?_; try simp only [Act.put, List.setIfInBounds_toArray, List.set_cons_zero, List.set_cons_succ]
    refine k_val (v := .bool true) rfl _ (.inl rfl) rfl ?_; try simp only [Act.put, List.setIfInBounds_toArray, List.set_cons_zero, List.set_cons_succ]
    refine k_val (v := .bool false) rfl _ (.inl rfl) rfl ?_; try simp only [Act.put, List.setIfInBounds_toArray, List.set_cons_zero, List.set_cons_succ]
    refine k_notV (s := false) (t := true) rfl _ _ rfl rfl rfl ?_; try simp only [Act.put, List.setIfInBounds_toArray, List.set_cons_zero, List.set_cons_succ]
    refine k_val (v := .bool true) rfl _ (.inl rfl) rfl ?_; try simp only [Act.put, List.setIfInBounds_toArray, List.set_cons_zero, List.set_cons_succ]
    refine k_skip rfl rfl rfl rfl rfl ?_; try simp only [Act.put, List.setIfInBounds_toArray, List.set_cons_zero, List.set_cons_succ]
    refine k_skip rfl rfl rfl rfl rfl ?_; try simp only [Act.put, List.setIfInBounds_toArray, List.set_cons_zero, List.set_cons_succ]
    refine k_skip rfl rfl rfl rfl rfl ?_; try simp only [Act.put, List.setIfInBounds_toArray, List.set_cons_zero, List.set_cons_succ]
    refine k_pickT (t := true) rfl _ _ _ rfl rfl rfl ?_; try simp only [Act.put, List.setIfInBounds_toArray, List.set_cons_zero, List.set_cons_succ]
    refine k_pickT (t := true) rfl _ _ _ rfl rfl rfl ?_; try simp only [Act.put, List.setIfInBounds_toArray, List.set_cons_zero, List.set_cons_succ]
    refine k_val (v := .bool true) rfl _ (.inr rfl) rfl ?_; try simp only [Act.put, List.setIfInBounds_toArray, List.set_cons_zero, List.set_cons_succ]
    refine k_end ?_
    intro w9 hT9
    go_wp2
    go_ret
    exact ⟨rfl, hT9⟩
  · have HF : Hid (opF (nm x) = some x) := Lib.hid (opF_some hx h0 rfl)
    have HB := Lib.hid (show (nm x != []) = true by simpa using h0)
    clear h0
    go_enter Try.func3, Try.ntmps3
    go_upto_region 7 with (first
      | (go_at_call 7; refine (alive_ops _).mono ?_; rintro e w1 ⟨rfl, hT1⟩)
      | (go_at_call 8; refine (line_any x hx _).mono ?_; rintro e w2 ⟨rfl, hT2⟩; have T2 := hT1.trans hT2)
      | (go_at_call 9; refine (HS.out _).mono ?_; rintro e w3 ⟨rfl, hT3⟩; have T3 := T2.trans hT3)
      | (go_at_call 10; refine (HR.out _).mono ?_; rintro e w4 ⟨rfl, hT4⟩; have T4 := T3.trans hT4))
    go_upto_region 8 with (go_at_call 9; refine (HN.out _).mono ?_; rintro e w6 ⟨rfl, hT6⟩; have T6 := T4.trans hT6)
    rw [HF.out]
    generalize (((opF L).getD 0 : Nat) : Int) = A0
    generalize (opF L).isSome = B0
    refine k_seq (C := fun w' => Tch [] w w') T6 ?_
    refine k_val (v := .int .u8 (x : Int)) rfl _ (.inl rfl) rfl ?_; try simp only [Act.put, List.setIfInBounds_toArray, List.set_cons_zero, List.set_cons_succ]
    refine k_callC1 (v1 := .int .u8 (x : Int)) rfl rfl rfl Try.call11 (fun w' h => (name_any x hx w').mono fun e w'' h2 => ⟨h2.1, h.trans h2.2⟩) ?_; try simp only [Act.put, List.setIfInBounds_toArray, List.set_cons_zero, List.set_cons_succ]
    refine k_val (v := .string (strB (nm x))) rfl _ (.inl rfl) rfl ?_; try simp only [Act.put, List.setIfInBounds_toArray, List.set_cons_zero, List.set_cons_succ]
    refine k_eqS (l := nm x) (m := nm x) (t := true) rfl _ _ _ rfl rfl rfl HNL.out HNL.out (beq_self_eq_true _) ?_; try simp only [Act.put, List.setIfInBounds_toArray, List.set_cons_zero, List.set_cons_succ]
    refine k_val (v := .bool true) rfl _ (.inl rfl) rfl ?_; try simp only [Act.put, List.setIfInBounds_toArray, List.set_cons_zero, List.set_cons_succ]
    refine k_val (v := .int .u8 (x : Int)) rfl _ (.inl rfl) rfl ?_; try simp only [Act.put, List.setIfInBounds_toArray, List.set_cons_zero, List.set_cons_succ]
    refine k_callC1 (v1 := .int .u8 (x : Int)) rfl rfl rfl Try.call12 (fun w' h => (pops_any x hx w').mono fun e w'' h2 => ⟨h2.1, h.trans h2.2⟩) ?_; try simp only [Act.put, List.setIfInBounds_toArray, List.set_cons_zero, List.set_cons_succ]
    refine k_val (v := .int .i64 (((ins x).2.1 : Nat) : Int)) rfl _ (.inl rfl) rfl ?_; try simp only [Act.put, List.setIfInBounds_toArray, List.set_cons_zero, List.set_cons_succ]
    refine k_ints (t := true) rfl _ _ _ rfl rfl rfl (beq_self_eq_true _) ?_; try simp only [Act.put, List.setIfInBounds_toArray, List.set_cons_zero, List.set_cons_succ]
    refine k_pickT (t := true) rfl _ _ _ rfl rfl rfl ?_; try simp only [Act.put, List.setIfInBounds_toArray, List.set_cons_zero, List.set_cons_succ]
    refine k_val (v := .bool true) rfl _ (.inl rfl) rfl ?_; try simp only [Act.put, List.setIfInBounds_toArray, List.set_cons_zero, List.set_cons_succ]
    refine k_val (v := .int .u8 (x : Int)) rfl _ (.inl rfl) rfl ?_; try simp only [Act.put, List.setIfInBounds_toArray, List.set_cons_zero, List.set_cons_succ]
    refine k_callC1 (v1 := .int .u8 (x : Int)) rfl rfl rfl Try.call13 (fun w' h => (pushes_any x hx w').mono fun e w'' h2 => ⟨h2.1, h.trans h2.2⟩) ?_; try simp only [Act.put, List.setIfInBounds_toArray, List.set_cons_zero, List.set_cons_succ]
    refine k_val (v := .int .i64 (((ins x).2.2.1 : Nat) : Int)) rfl _ (.inl rfl) rfl ?_; try simp only [Act.put, List.setIfInBounds_toArray, List.set_cons_zero, List.set_cons_succ]
    refine k_ints (t := true) rfl _ _ _ rfl rfl rfl (beq_self_eq_true _) ?_; try simp only [Act.put, List.setIfInBounds_toArray, List.set_cons_zero, List.set_cons_succ]
    refine k_pickT (t := true) rfl _ _ _ rfl rfl rfl ?_; try simp only [Act.put, List.setIfInBounds_toArray, List.set_cons_zero, List.set_cons_succ]
    refine k_val (v := .bool true) rfl _ (.inl rfl) rfl ?_; try simp only [Act.put, List.setIfInBounds_toArray, List.set_cons_zero, List.set_cons_succ]
    refine k_val (v := .int .u8 (x : Int)) rfl _ (.inl rfl) rfl ?_; try simp only [Act.put, List.setIfInBounds_toArray, List.set_cons_zero, List.set_cons_succ]
    refine k_callC1 (v1 := .int .u8 (x : Int)) rfl rfl rfl Try.call14 (fun w' h => (gas_any x hx w').mono fun e w'' h2 => ⟨h2.1, h.trans h2.2⟩) ?_; try simp only [Act.put, List.setIfInBounds_toArray, List.set_cons_zero, List.set_cons_succ]
    refine k_val (v := .int .i64 (((ins x).2.2.2 : Nat) : Int)) rfl _ (.inl rfl) rfl ?_; try simp only [Act.put, List.setIfInBounds_toArray, List.set_cons_zero, List.set_cons_succ]
    refine k_ints (t := true) rfl _ _ _ rfl rfl rfl (beq_self_eq_true _) ?_; try simp only [Act.put, List.setIfInBounds_toArray, List.set_cons_zero, List.set_cons_succ]
    refine k_pickT (t := true) rfl _ _ _ rfl rfl rfl ?_; try simp only [Act.put, List.setIfInBounds_toArray, List.set_cons_zero, List.set_cons_succ]
    refine k_val (v := .bool true) rfl _ (.inl rfl) rfl ?_; try simp only [Act.put, List.setIfInBounds_toArray, List.set_cons_zero, List.set_cons_succ]
    refine k_val (v := .int .u8 A0) rfl _ (.inl rfl) rfl ?_; try simp only [Act.put, List.setIfInBounds_toArray, List.set_cons_zero, List.set_cons_succ]
    refine k_val (v := .int .u8 A0) rfl _ (.inl rfl) rfl ?_; try simp only [Act.put, List.setIfInBounds_toArray, List.set_cons_zero, List.set_cons_succ]
    refine k_u8 (t := true) rfl _ _ _ rfl rfl rfl (beq_self_eq_true _) ?_; try simp only [Act.put, List.setIfInBounds_toArray, List.set_cons_zero, List.set_cons_succ]
    refine k_pickT (t := true) rfl _ _ _ rfl rfl rfl ?_; try simp only [Act.put, List.setIfInBounds_toArray, List.set_cons_zero, List.set_cons_succ]
    refine k_val (v := .bool true) rfl _ (.inl rfl) rfl ?_; try simp only [Act.put, List.setIfInBounds_toArray, List.set_cons_zero, List.set_cons_succ]
    refine k_val (v := .bool B0) rfl _ (.inl rfl) rfl ?_; try simp only [Act.put, List.setIfInBounds_toArray, List.set_cons_zero, List.set_cons_succ]
    refine k_val (v := .bool B0) rfl _ (.inl rfl) rfl ?_; try simp only [Act.put, List.setIfInBounds_toArray, List.set_cons_zero, List.set_cons_succ]
    refine k_boolsS (s := B0) rfl _ _ _ rfl rfl rfl ?_; try simp only [Act.put, List.setIfInBounds_toArray, List.set_cons_zero, List.set_cons_succ]
    refine k_pickT (t := true) rfl _ _ _ rfl rfl rfl ?_; try simp only [Act.put, List.setIfInBounds_toArray, List.set_cons_zero, List.set_cons_succ]
    refine k_val (v := .bool true) rfl _ (.inl rfl) rfl ?_; try simp only [Act.put, List.setIfInBounds_toArray, List.set_cons_zero, List.set_cons_succ]
    refine k_val (v := .bool true) rfl _ (.inl rfl) rfl ?_; try simp only [Act.put, List.setIfInBounds_toArray, List.set_cons_zero, List.set_cons_succ]
    refine k_val (v := .string (strB (nm x))) rfl _ (.inl rfl) rfl ?_; try simp only [Act.put, List.setIfInBounds_toArray, List.set_cons_zero, List.set_cons_succ]
    refine k_neS (l := nm x) (m := []) (t := true) rfl _ _ _ rfl rfl rfl HNL.out (by simp) HB.out ?_; try simp only [Act.put, List.setIfInBounds_toArray, List.set_cons_zero, List.set_cons_succ]
    refine k_boolsS (s := true) rfl _ _ _ rfl rfl rfl ?_; try simp only [Act.put, List.setIfInBounds_toArray, List.set_cons_zero, List.set_cons_succ]
    refine k_pickT (t := true) rfl _ _ _ rfl rfl rfl ?_; try simp only [Act.put, List.setIfInBounds_toArray, List.set_cons_zero, List.set_cons_succ]
    refine k_val (v := .bool true) rfl _ (.inl rfl) rfl ?_; try simp only [Act.put, List.setIfInBounds_toArray, List.set_cons_zero, List.set_cons_succ]
    refine k_val (v := .bool true) rfl _ (.inl rfl) rfl ?_; try simp only [Act.put, List.setIfInBounds_toArray, List.set_cons_zero, List.set_cons_succ]
    refine k_notV (s := true) (t := false) rfl _ _ rfl rfl rfl ?_; try simp only [Act.put, List.setIfInBounds_toArray, List.set_cons_zero, List.set_cons_succ]
    refine k_val (v := .bool false) rfl _ (.inl rfl) rfl ?_; try simp only [Act.put, List.setIfInBounds_toArray, List.set_cons_zero, List.set_cons_succ]
    refine k_val (v := .int .u8 (x : Int)) rfl _ (.inl rfl) rfl ?_; try simp only [Act.put, List.setIfInBounds_toArray, List.set_cons_zero, List.set_cons_succ]
    refine k_val (v := .int .u8 (x : Int)) rfl _ (.inl rfl) rfl ?_; try simp only [Act.put, List.setIfInBounds_toArray, List.set_cons_zero, List.set_cons_succ]
    refine k_u8 (t := true) rfl _ _ _ rfl rfl rfl (beq_self_eq_true _) ?_; try simp only [Act.put, List.setIfInBounds_toArray, List.set_cons_zero, List.set_cons_succ]
    refine k_pickF (t := true) rfl _ _ _ rfl rfl rfl ?_; try simp only [Act.put, List.setIfInBounds_toArray, List.set_cons_zero, List.set_cons_succ]
    refine k_pickT (t := true) rfl _ _ _ rfl rfl rfl ?_; try simp only [Act.put, List.setIfInBounds_toArray, List.set_cons_zero, List.set_cons_succ]
    refine k_val (v := .bool true) rfl _ (.inr rfl) rfl ?_; try simp only [Act.put, List.setIfInBounds_toArray, List.set_cons_zero, List.set_cons_succ]
    refine k_end ?_
    intro w9 hT9
    go_wp2
    go_ret
    exact ⟨rfl, hT9⟩
theorem strB_of (s : ByteArray) : s = strB (s.data.toList.map UInt8.toNat) := by
  apply ByteArray.ext
  apply Array.ext'
  simp [strB, List.map_map, Function.comp_def]
set_option maxHeartbeats 1000000 in
theorem opsTells_walk (x : Nat) (s : ByteArray) (w : World) (hx : x < 256) :
    Calls Try.prog 3 #[.int .u8 (x : Int), .string s] w fun e w' => e = .returned (.bool true) ∧ Tch [] w w' := by
  by_cases h : s.size ≤ 1000
  · rw [strB_of s]
    refine tells_main x _ w hx (by simpa using h) fun y hy => ?_
    obtain ⟨u, _, rfl⟩ := List.mem_map.1 hy
    exact u.toNat_lt
  · have d1 : (1000 : Int) < (s.size : Int) := by omega
    go_enter Try.func3, Try.ntmps3
    go_wp2_with (go_at_call 7; refine (alive_ops _).mono ?_; rintro e w1 ⟨rfl, hT1⟩)
    go_ret
    exact ⟨rfl, hT1⟩
end Go.Proofs.Ytijnglcagijlcaa
