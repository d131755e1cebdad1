/- OpsAll's walk. -/
import Derived.Test.YtijnglcagijlcaaO8
import Derived.Test.YtijnglcagijlcaaO3
import Derived.Test.YtijnglcagijlcaaB2
namespace Go.Proofs.Ytijnglcagijlcaa
open Go.RowKit

theorem strB_inj' {a b : List Nat} (ha : ∀ x ∈ a, x < 256) (hb : ∀ x ∈ b, x < 256) (h : strB a = strB b) : a = b := by
  have := strB_eq ha hb
  rw [h, beq_self_eq_true] at this
  exact (beq_iff_eq.1 this.symm)
theorem nm_inj (x y : Nat) (hx : x < 256) (hy : y < 256) (h0 : nm x ≠ []) (h : nm x = nm y) : x = y := by
  have hd := nm_codes
  have hx' : x ∈ (List.range 256).filter fun x => nm x != [] := List.mem_filter.2 ⟨List.mem_range.2 hx, by simpa using h0⟩
  have hy' : y ∈ (List.range 256).filter fun x => nm x != [] := List.mem_filter.2 ⟨List.mem_range.2 hy, by rw [← h]; simpa using h0⟩
  have hp := List.pairwise_map.1 hd
  obtain ⟨i, hi, rfl⟩ := List.mem_iff_getElem.1 hx'
  obtain ⟨j, hj, rfl⟩ := List.mem_iff_getElem.1 hy'
  have hpw := List.pairwise_iff_getElem.1 hp
  rcases Nat.lt_trichotomy i j with hl | he | hl
  · exact absurd (by rw [h]) (hpw i j hi hj hl)
  · subst he; rfl
  · exact absurd (by rw [h]) (hpw j i hj hi hl)
/-- How many of the first bytes are instructions. -/
def cnt (k : Nat) : Nat := ((List.range k).filter fun x => nm x != []).length
theorem cnt_yes {k : Nat} (h : nm k ≠ []) : cnt (k + 1) = cnt k + 1 := by
  unfold cnt; rw [List.range_succ, List.filter_append, List.length_append]
  simp [h]
theorem cnt_no {k : Nat} (h : nm k = []) : cnt (k + 1) = cnt k := by
  unfold cnt; rw [List.range_succ, List.filter_append, List.length_append]
  simp [h]
theorem cnt_le (k : Nat) : cnt k ≤ k := by
  unfold cnt
  exact Nat.le_trans (List.length_filter_le _ _) (by simp)
section
variable {ops : Array Oper} {rest : List Oper} {o : Oper} {a : Act} {w : World} {Q : Exit → Act → World → Prop}
/-- A text held against another. -/
theorem st_eqS {l m : List Nat} {t : Bool} (hgd : o.guard = none) (x y : Operand) (yt : TypeId) (ho : o.op = .binOp .eql 9 x y yt) (hx : a.eval x = .string (strB l)) (hy : a.eval y = .string (strB m)) (hl : ∀ x ∈ l, x < 256) (hm : ∀ x ∈ m, x < 256) (ht : (l == m) = t)
    (h : wpList Try.prog ops Q rest (a.put o.dst (.bool t)) w) : wpList Try.prog ops Q (o :: rest) a w :=
  wpList_plain hgd fun K hK => by
    have e : ((strB l).toList == (strB m).toList) = t := by rw [strB_eq hl hm]; exact ht
    have hr : (execOp a.eval o).run Try.prog w = .ok (.value (.bool t)) w := by
      unfold execOp; simp only [ho, hx, hy]; show Sem.run _ _ w = _; simp [eqGuard, binOp, Op.stringOp, e]
    unfold Oper.wp
    rw [hr]
    exact hK _ _ h
end
section
variable {o : Oper} {a : Act} {ops : Array Oper} {rest : List Oper} {C : World → Prop} {Q : Act → Prop} {t : Bool}
theorem k_eqS {l m : List Nat} (hw : Region.wanted o (yielded ops a.tmps) = true) (x y : Operand) (yt : TypeId) (ho : o.op = .binOp .eql 9 x y yt) (hx : a.eval x = .string (strB l)) (hy : a.eval y = .string (strB m)) (hl : ∀ x ∈ l, x < 256) (hm : ∀ x ∈ m, x < 256) (ht : (l == m) = t)
    (h : KQ ops C Q rest (a.put o.dst (.bool t))) : KQ ops C Q (o :: rest) a :=
  k_pure hw (fun w => by
    have e : ((strB l).toList == (strB m).toList) = t := by rw [strB_eq hl hm]; exact ht
    unfold execOp; simp only [ho, hx, hy]; show Sem.run _ _ w = _; simp [eqGuard, binOp, Op.stringOp, e]) h
theorem k_gtr {m n : Int} (hw : Region.wanted o (yielded ops a.tmps) = true) (xo yo : Operand) (yt : TypeId) (ho : o.op = .binOp .gtr 3 xo yo yt)
    (hxe : a.eval xo = .int .i64 m) (hye : a.eval yo = .int .i64 n) (hxy : decide (n < m) = t) (h : KQ ops C Q rest (a.put o.dst (.bool t))) : KQ ops C Q (o :: rest) a :=
  k_pure hw (fun w => by unfold execOp; simp only [ho, hxe, hye]; show Sem.run _ _ w = _; simp [eqGuard, binOp, Op.intCmp, ← hxy]) h
/-- A conversion. -/
theorem k_cvt {s d : TypeId} {x : Operand} {vx v : Value} (hw : Region.wanted o (yielded ops a.tmps) = true) (ho : o.op = .convert s d x) (hx : a.eval x = vx) (hr : ∀ w, (convert s d vx).run Try.prog w = .ok v w) (h : KQ ops C Q rest (a.put o.dst v)) : KQ ops C Q (o :: rest) a :=
  k_pure hw (fun w => by unfold execOp; simp only [ho, hx, Sem.run_bind, hr, Result.andThen_ok, Sem.run_pure]) h
end
theorem cvt_u8 (x : Nat) (hx : x < 256) (w : World) : (convert 3 5 (.int .i64 (x : Int))).run Try.prog w = .ok (.int .u8 (x : Int)) w := by
  have h : IntKind.u8.wrap (x : Int) = (x : Int) := by simp [IntKind.wrap, IntKind.bits, IntKind.signed]; omega
  simp [convert, run_underlying int_tyI, run_underlying byte_ty, Conv.intToInt, h]
set_option maxHeartbeats 4000000 in
set_option maxRecDepth 100000 in
theorem all_main (F : Nat) (w : World) (hF : F < 256) :
    Calls Try.prog 5 #[.int .i64 (F : Int)] w fun e w' => e = .returned (.bool true) ∧ Tch [] w w' := by
  have d1 : ¬ (F : Int) < 0 := by omega
  have d2 : ¬ (255 : Int) < (F : Int) := by omega
  go_enter Try.func5, Try.ntmps5
  go_upto_region 6 with (go_at_call 7; refine (alive_ops _).mono ?_; rintro e w1 ⟨rfl, hT1⟩)
  go_loopw [4, 5] (fun n i wr => ∃ k : Nat, i = .int .i64 (k : Int) ∧ k ≤ 256 ∧ n = .int .i64 ((cnt k : Nat) : Int) ∧ Tch [] w wr) (fun _ i _ => 256 - (intOf i).toNat)
  case atStart => exact ⟨0, rfl, Nat.zero_le _, rfl, hT1⟩
  case round =>
    obtain ⟨k, rfl, hk, rfl, hT⟩ := hrel
    have hcl := cnt_le k
    by_cases hlt : k < 256
    · have hb := ins_bounds ⟨k, hlt⟩
      have HN := Lib.hid (nm_lt ⟨k, hlt⟩)
      have HNF := Lib.hid (nm_lt ⟨F, hF⟩)
      by_cases hnil : nm k = []
      · have hz := hb.2.2.1 hnil
        have HNIL := Lib.hid hnil
        have HC := Lib.hid (cnt_no hnil)
        have HNE := Lib.hid (show (nm k == []) = true by rw [hnil]; rfl)
        have hp := pops_any k hlt
        have hq := pushes_any k hlt
        have hg := gas_any k hlt
        rw [hz.1, show ((0 : Nat) : Int) = 0 from rfl] at hp
        rw [hz.2.1, show ((0 : Nat) : Int) = 0 from rfl] at hq
        rw [hz.2.2, show ((0 : Nat) : Int) = 0 from rfl] at hg
        have HP := Lib.hid hp
        have HQ' := Lib.hid hq
        have HG := Lib.hid hg
        clear hnil hb hz hp hq hg
        go_upto_region 11 with (first
          | (refine st_convO (s := 3) (d := 5) (v := .int .u8 (k : Int)) rfl rfl rfl (cvt_u8 k hlt _) ?_)
          | (go_at_call 11; refine (name_any k hlt _).mono ?_; rintro e w2 ⟨rfl, hT2⟩)
          | (refine st_eqS (l := nm k) (m := []) rfl _ _ _ rfl rfl rfl HN.out (by simp) HNE.out ?_))
        refine k_seq (C := fun w' => Tch [] w w') (hT.trans hT2) ?_
        refine k_val (v := .int .u8 (k : Int)) rfl _ (.inl rfl) rfl ?_; try simp only [Act.put, List.setIfInBounds_toArray, List.set_cons_zero, List.set_cons_succ]
        refine k_callC1 (v1 := .int .u8 (k : Int)) rfl rfl rfl Try.call12 (fun w' h => (HP.out w').mono fun e w'' h2 => ⟨h2.1, h.trans h2.2⟩) ?_; try simp only [Act.put, List.setIfInBounds_toArray, List.set_cons_zero, List.set_cons_succ]
        refine k_neqs (t := false) rfl _ _ _ rfl rfl rfl rfl ?_; try simp only [Act.put, List.setIfInBounds_toArray, List.set_cons_zero, List.set_cons_succ]
        refine k_val (v := .bool false) rfl _ (.inl rfl) rfl ?_; try simp only [Act.put, List.setIfInBounds_toArray, List.set_cons_zero, List.set_cons_succ]
        refine k_val (v := .int .u8 (k : Int)) rfl _ (.inl rfl) rfl ?_; try simp only [Act.put, List.setIfInBounds_toArray, List.set_cons_zero, List.set_cons_succ]
        refine k_callC1 (v1 := .int .u8 (k : Int)) rfl rfl rfl Try.call13 (fun w' h => (HQ'.out w').mono fun e w'' h2 => ⟨h2.1, h.trans h2.2⟩) ?_; try simp only [Act.put, List.setIfInBounds_toArray, List.set_cons_zero, List.set_cons_succ]
        refine k_neqs (t := false) rfl _ _ _ rfl rfl rfl rfl ?_; try simp only [Act.put, List.setIfInBounds_toArray, List.set_cons_zero, List.set_cons_succ]
        refine k_pickF (t := false) rfl _ _ _ rfl rfl rfl ?_; try simp only [Act.put, List.setIfInBounds_toArray, List.set_cons_zero, List.set_cons_succ]
        refine k_val (v := .bool false) rfl _ (.inl rfl) rfl ?_; try simp only [Act.put, List.setIfInBounds_toArray, List.set_cons_zero, List.set_cons_succ]
        refine k_val (v := .int .u8 (k : Int)) rfl _ (.inl rfl) rfl ?_; try simp only [Act.put, List.setIfInBounds_toArray, List.set_cons_zero, List.set_cons_succ]
        refine k_callC1 (v1 := .int .u8 (k : Int)) rfl rfl rfl Try.call14 (fun w' h => (HG.out w').mono fun e w'' h2 => ⟨h2.1, h.trans h2.2⟩) ?_; try simp only [Act.put, List.setIfInBounds_toArray, List.set_cons_zero, List.set_cons_succ]
        refine k_neqs (t := false) rfl _ _ _ rfl rfl rfl rfl ?_; try simp only [Act.put, List.setIfInBounds_toArray, List.set_cons_zero, List.set_cons_succ]
        refine k_pickF (t := false) rfl _ _ _ rfl rfl rfl ?_; try simp only [Act.put, List.setIfInBounds_toArray, List.set_cons_zero, List.set_cons_succ]
        refine k_end ?_
        intro w3 hT3
        go_wp2
        go_roundw
        case rel => exact ⟨k + 1, by go_num, hlt, by rw [HC.out], hT3⟩
        case measure => simp [intOf]; omega
      · have HC := Lib.hid (cnt_yes hnil)
        have HNE := Lib.hid (show (nm k == []) = false by simpa using hnil)
        have HFE := Lib.hid (fun (hne : k ≠ F) => show (nm k == nm F) = false from beq_eq_false_iff_ne.2 fun e => hne (nm_inj k F hlt hF hnil e))
        obtain ⟨b1, b2, _, b3, _⟩ := hb
        dsimp only at b1 b2 b3
        have hp := pops_any k hlt
        have hq := pushes_any k hlt
        have hg := gas_any k hlt
        generalize (ins k).2.1 = P at b1 hp
        generalize (ins k).2.2.1 = Q1 at b2 hq
        generalize (ins k).2.2.2 = G at b3 hg
        have HP := Lib.hid hp
        have HQ' := Lib.hid hq
        have HG := Lib.hid hg
        have c1 : decide ((17 : Int) < (P : Int)) = false := decide_eq_false (by omega)
        have c2 : decide ((17 : Int) < (Q1 : Int)) = false := decide_eq_false (by omega)
        have c3 : decide ((P : Int) < 0) = false := decide_eq_false (by omega)
        have c4 : decide ((Q1 : Int) < 0) = false := decide_eq_false (by omega)
        have c5 : decide ((G : Int) < 0) = false := decide_eq_false (by omega)
        have CC := Lib.hid (And.intro c1 (And.intro c2 (And.intro c3 (And.intro c4 c5))))
        clear hnil hp hq hg b1 b2 b3 c1 c2 c3 c4 c5
        go_upto_region 14 with (first
          | (refine st_convO (s := 3) (d := 5) (v := .int .u8 (k : Int)) rfl rfl rfl (cvt_u8 k hlt _) ?_)
          | (go_at_call 11; refine (name_any k hlt _).mono ?_; rintro e w2 ⟨rfl, hT2⟩)
          | (refine st_eqS (l := nm k) (m := []) rfl _ _ _ rfl rfl rfl HN.out (by simp) HNE.out ?_))
        refine k_seq (C := fun w' => Tch [] w w') (hT.trans hT2) ?_
        by_cases hkF : k = F
        · have e1 : ((k : Int) != (F : Int)) = false := by rw [hkF]; simp
          clear HFE
          refine k_val (v := .int .i64 (k : Int)) rfl _ (.inl rfl) rfl ?_; try simp only [Act.put, List.setIfInBounds_toArray, List.set_cons_zero, List.set_cons_succ]
          refine k_val (v := .int .i64 (F : Int)) rfl _ (.inl rfl) rfl ?_; try simp only [Act.put, List.setIfInBounds_toArray, List.set_cons_zero, List.set_cons_succ]
          refine k_neqs rfl _ _ _ rfl rfl rfl e1 ?_; try simp only [Act.put, List.setIfInBounds_toArray, List.set_cons_zero, List.set_cons_succ]
          refine k_val (v := .bool false) rfl _ (.inl rfl) rfl ?_; try simp only [Act.put, List.setIfInBounds_toArray, List.set_cons_zero, List.set_cons_succ]
          refine k_skip rfl rfl rfl rfl rfl ?_; try simp only [Act.put, List.setIfInBounds_toArray, List.set_cons_zero, List.set_cons_succ]
          refine k_skip rfl rfl rfl rfl rfl ?_; try simp only [Act.put, List.setIfInBounds_toArray, List.set_cons_zero, List.set_cons_succ]
          refine k_skip rfl rfl rfl rfl rfl ?_; try simp only [Act.put, List.setIfInBounds_toArray, List.set_cons_zero, List.set_cons_succ]
          refine k_skip rfl rfl rfl rfl rfl ?_; try simp only [Act.put, List.setIfInBounds_toArray, List.set_cons_zero, List.set_cons_succ]
          refine k_skip rfl rfl rfl rfl rfl ?_; try simp only [Act.put, List.setIfInBounds_toArray, List.set_cons_zero, List.set_cons_succ]
          refine k_pickF (t := false) rfl _ _ _ rfl rfl rfl ?_; try simp only [Act.put, List.setIfInBounds_toArray, List.set_cons_zero, List.set_cons_succ]
          refine k_val (v := .bool false) rfl _ (.inl rfl) rfl ?_; try simp only [Act.put, List.setIfInBounds_toArray, List.set_cons_zero, List.set_cons_succ]
          refine k_val (v := .int .u8 (k : Int)) rfl _ (.inl rfl) rfl ?_; try simp only [Act.put, List.setIfInBounds_toArray, List.set_cons_zero, List.set_cons_succ]
          refine k_callC1 (v1 := .int .u8 (k : Int)) rfl rfl rfl Try.call12 (fun w' h => (HP.out w').mono fun e w'' h2 => ⟨h2.1, h.trans h2.2⟩) ?_; try simp only [Act.put, List.setIfInBounds_toArray, List.set_cons_zero, List.set_cons_succ]
          refine k_gtr rfl _ _ _ rfl rfl rfl CC.out.1 ?_; try simp only [Act.put, List.setIfInBounds_toArray, List.set_cons_zero, List.set_cons_succ]
          refine k_pickF (t := false) rfl _ _ _ rfl rfl rfl ?_; try simp only [Act.put, List.setIfInBounds_toArray, List.set_cons_zero, List.set_cons_succ]
          refine k_val (v := .bool false) rfl _ (.inl rfl) rfl ?_; try simp only [Act.put, List.setIfInBounds_toArray, List.set_cons_zero, List.set_cons_succ]
          refine k_val (v := .int .u8 (k : Int)) rfl _ (.inl rfl) rfl ?_; try simp only [Act.put, List.setIfInBounds_toArray, List.set_cons_zero, List.set_cons_succ]
          refine k_callC1 (v1 := .int .u8 (k : Int)) rfl rfl rfl Try.call13 (fun w' h => (HQ'.out w').mono fun e w'' h2 => ⟨h2.1, h.trans h2.2⟩) ?_; try simp only [Act.put, List.setIfInBounds_toArray, List.set_cons_zero, List.set_cons_succ]
          refine k_gtr rfl _ _ _ rfl rfl rfl CC.out.2.1 ?_; try simp only [Act.put, List.setIfInBounds_toArray, List.set_cons_zero, List.set_cons_succ]
          refine k_pickF (t := false) rfl _ _ _ rfl rfl rfl ?_; try simp only [Act.put, List.setIfInBounds_toArray, List.set_cons_zero, List.set_cons_succ]
          refine k_val (v := .bool false) rfl _ (.inl rfl) rfl ?_; try simp only [Act.put, List.setIfInBounds_toArray, List.set_cons_zero, List.set_cons_succ]
          refine k_val (v := .int .u8 (k : Int)) rfl _ (.inl rfl) rfl ?_; try simp only [Act.put, List.setIfInBounds_toArray, List.set_cons_zero, List.set_cons_succ]
          refine k_callC1 (v1 := .int .u8 (k : Int)) rfl rfl rfl Try.call12 (fun w' h => (HP.out w').mono fun e w'' h2 => ⟨h2.1, h.trans h2.2⟩) ?_; try simp only [Act.put, List.setIfInBounds_toArray, List.set_cons_zero, List.set_cons_succ]
          refine k_lss rfl _ _ _ rfl rfl rfl CC.out.2.2.1 ?_; try simp only [Act.put, List.setIfInBounds_toArray, List.set_cons_zero, List.set_cons_succ]
          refine k_pickF (t := false) rfl _ _ _ rfl rfl rfl ?_; try simp only [Act.put, List.setIfInBounds_toArray, List.set_cons_zero, List.set_cons_succ]
          refine k_val (v := .bool false) rfl _ (.inl rfl) rfl ?_; try simp only [Act.put, List.setIfInBounds_toArray, List.set_cons_zero, List.set_cons_succ]
          refine k_val (v := .int .u8 (k : Int)) rfl _ (.inl rfl) rfl ?_; try simp only [Act.put, List.setIfInBounds_toArray, List.set_cons_zero, List.set_cons_succ]
          refine k_callC1 (v1 := .int .u8 (k : Int)) rfl rfl rfl Try.call13 (fun w' h => (HQ'.out w').mono fun e w'' h2 => ⟨h2.1, h.trans h2.2⟩) ?_; try simp only [Act.put, List.setIfInBounds_toArray, List.set_cons_zero, List.set_cons_succ]
          refine k_lss rfl _ _ _ rfl rfl rfl CC.out.2.2.2.1 ?_; try simp only [Act.put, List.setIfInBounds_toArray, List.set_cons_zero, List.set_cons_succ]
          refine k_pickF (t := false) rfl _ _ _ rfl rfl rfl ?_; try simp only [Act.put, List.setIfInBounds_toArray, List.set_cons_zero, List.set_cons_succ]
          refine k_val (v := .bool false) rfl _ (.inl rfl) rfl ?_; try simp only [Act.put, List.setIfInBounds_toArray, List.set_cons_zero, List.set_cons_succ]
          refine k_val (v := .int .u8 (k : Int)) rfl _ (.inl rfl) rfl ?_; try simp only [Act.put, List.setIfInBounds_toArray, List.set_cons_zero, List.set_cons_succ]
          refine k_callC1 (v1 := .int .u8 (k : Int)) rfl rfl rfl Try.call14 (fun w' h => (HG.out w').mono fun e w'' h2 => ⟨h2.1, h.trans h2.2⟩) ?_; try simp only [Act.put, List.setIfInBounds_toArray, List.set_cons_zero, List.set_cons_succ]
          refine k_lss rfl _ _ _ rfl rfl rfl CC.out.2.2.2.2 ?_; try simp only [Act.put, List.setIfInBounds_toArray, List.set_cons_zero, List.set_cons_succ]
          refine k_pickF (t := false) rfl _ _ _ rfl rfl rfl ?_; try simp only [Act.put, List.setIfInBounds_toArray, List.set_cons_zero, List.set_cons_succ]
          refine k_end ?_
          intro w3 hT3
          clear e1
          go_wp2
          go_roundw
          case rel => exact ⟨k + 1, by go_num, hlt, by rw [HC.out]; go_num, hT3⟩
          case measure => simp [intOf]; omega
        · have e1 : ((k : Int) != (F : Int)) = true := by simp; omega
          have HE := Lib.hid (HFE.out hkF)
          clear HFE
          refine k_val (v := .int .i64 (k : Int)) rfl _ (.inl rfl) rfl ?_; try simp only [Act.put, List.setIfInBounds_toArray, List.set_cons_zero, List.set_cons_succ]
          refine k_val (v := .int .i64 (F : Int)) rfl _ (.inl rfl) rfl ?_; try simp only [Act.put, List.setIfInBounds_toArray, List.set_cons_zero, List.set_cons_succ]
          refine k_neqs rfl _ _ _ rfl rfl rfl e1 ?_; try simp only [Act.put, List.setIfInBounds_toArray, List.set_cons_zero, List.set_cons_succ]
          refine k_val (v := .bool true) rfl _ (.inl rfl) rfl ?_; try simp only [Act.put, List.setIfInBounds_toArray, List.set_cons_zero, List.set_cons_succ]
          refine k_val (v := .string (strB (nm k))) rfl _ (.inl rfl) rfl ?_; try simp only [Act.put, List.setIfInBounds_toArray, List.set_cons_zero, List.set_cons_succ]
          refine k_val (v := .int .i64 (F : Int)) rfl _ (.inl rfl) rfl ?_; try simp only [Act.put, List.setIfInBounds_toArray, List.set_cons_zero, List.set_cons_succ]
          refine k_cvt (v := .int .u8 (F : Int)) rfl rfl rfl (cvt_u8 F hF) ?_; try simp only [Act.put, List.setIfInBounds_toArray, List.set_cons_zero, List.set_cons_succ]
          refine k_callC1 (v1 := .int .u8 (F : Int)) rfl rfl rfl Try.call11 (fun w' h => (name_any F hF w').mono fun e w'' h2 => ⟨h2.1, h.trans h2.2⟩) ?_; try simp only [Act.put, List.setIfInBounds_toArray, List.set_cons_zero, List.set_cons_succ]
          refine k_eqS (l := nm k) (m := nm F) rfl _ _ _ rfl rfl rfl HN.out HNF.out HE.out ?_; try simp only [Act.put, List.setIfInBounds_toArray, List.set_cons_zero, List.set_cons_succ]
          refine k_pickT (t := false) rfl _ _ _ rfl rfl rfl ?_; try simp only [Act.put, List.setIfInBounds_toArray, List.set_cons_zero, List.set_cons_succ]
          refine k_val (v := .bool false) rfl _ (.inl rfl) rfl ?_; try simp only [Act.put, List.setIfInBounds_toArray, List.set_cons_zero, List.set_cons_succ]
          refine k_val (v := .int .u8 (k : Int)) rfl _ (.inl rfl) rfl ?_; try simp only [Act.put, List.setIfInBounds_toArray, List.set_cons_zero, List.set_cons_succ]
          refine k_callC1 (v1 := .int .u8 (k : Int)) rfl rfl rfl Try.call12 (fun w' h => (HP.out w').mono fun e w'' h2 => ⟨h2.1, h.trans h2.2⟩) ?_; try simp only [Act.put, List.setIfInBounds_toArray, List.set_cons_zero, List.set_cons_succ]
          refine k_gtr rfl _ _ _ rfl rfl rfl CC.out.1 ?_; try simp only [Act.put, List.setIfInBounds_toArray, List.set_cons_zero, List.set_cons_succ]
          refine k_pickF (t := false) rfl _ _ _ rfl rfl rfl ?_; try simp only [Act.put, List.setIfInBounds_toArray, List.set_cons_zero, List.set_cons_succ]
          refine k_val (v := .bool false) rfl _ (.inl rfl) rfl ?_; try simp only [Act.put, List.setIfInBounds_toArray, List.set_cons_zero, List.set_cons_succ]
          refine k_val (v := .int .u8 (k : Int)) rfl _ (.inl rfl) rfl ?_; try simp only [Act.put, List.setIfInBounds_toArray, List.set_cons_zero, List.set_cons_succ]
          refine k_callC1 (v1 := .int .u8 (k : Int)) rfl rfl rfl Try.call13 (fun w' h => (HQ'.out w').mono fun e w'' h2 => ⟨h2.1, h.trans h2.2⟩) ?_; try simp only [Act.put, List.setIfInBounds_toArray, List.set_cons_zero, List.set_cons_succ]
          refine k_gtr rfl _ _ _ rfl rfl rfl CC.out.2.1 ?_; try simp only [Act.put, List.setIfInBounds_toArray, List.set_cons_zero, List.set_cons_succ]
          refine k_pickF (t := false) rfl _ _ _ rfl rfl rfl ?_; try simp only [Act.put, List.setIfInBounds_toArray, List.set_cons_zero, List.set_cons_succ]
          refine k_val (v := .bool false) rfl _ (.inl rfl) rfl ?_; try simp only [Act.put, List.setIfInBounds_toArray, List.set_cons_zero, List.set_cons_succ]
          refine k_val (v := .int .u8 (k : Int)) rfl _ (.inl rfl) rfl ?_; try simp only [Act.put, List.setIfInBounds_toArray, List.set_cons_zero, List.set_cons_succ]
          refine k_callC1 (v1 := .int .u8 (k : Int)) rfl rfl rfl Try.call12 (fun w' h => (HP.out w').mono fun e w'' h2 => ⟨h2.1, h.trans h2.2⟩) ?_; try simp only [Act.put, List.setIfInBounds_toArray, List.set_cons_zero, List.set_cons_succ]
          refine k_lss rfl _ _ _ rfl rfl rfl CC.out.2.2.1 ?_; try simp only [Act.put, List.setIfInBounds_toArray, List.set_cons_zero, List.set_cons_succ]
          refine k_pickF (t := false) rfl _ _ _ rfl rfl rfl ?_; try simp only [Act.put, List.setIfInBounds_toArray, List.set_cons_zero, List.set_cons_succ]
          refine k_val (v := .bool false) rfl _ (.inl rfl) rfl ?_; try simp only [Act.put, List.setIfInBounds_toArray, List.set_cons_zero, List.set_cons_succ]
          refine k_val (v := .int .u8 (k : Int)) rfl _ (.inl rfl) rfl ?_; try simp only [Act.put, List.setIfInBounds_toArray, List.set_cons_zero, List.set_cons_succ]
          refine k_callC1 (v1 := .int .u8 (k : Int)) rfl rfl rfl Try.call13 (fun w' h => (HQ'.out w').mono fun e w'' h2 => ⟨h2.1, h.trans h2.2⟩) ?_; try simp only [Act.put, List.setIfInBounds_toArray, List.set_cons_zero, List.set_cons_succ]
          refine k_lss rfl _ _ _ rfl rfl rfl CC.out.2.2.2.1 ?_; try simp only [Act.put, List.setIfInBounds_toArray, List.set_cons_zero, List.set_cons_succ]
          refine k_pickF (t := false) rfl _ _ _ rfl rfl rfl ?_; try simp only [Act.put, List.setIfInBounds_toArray, List.set_cons_zero, List.set_cons_succ]
          refine k_val (v := .bool false) rfl _ (.inl rfl) rfl ?_; try simp only [Act.put, List.setIfInBounds_toArray, List.set_cons_zero, List.set_cons_succ]
          refine k_val (v := .int .u8 (k : Int)) rfl _ (.inl rfl) rfl ?_; try simp only [Act.put, List.setIfInBounds_toArray, List.set_cons_zero, List.set_cons_succ]
          refine k_callC1 (v1 := .int .u8 (k : Int)) rfl rfl rfl Try.call14 (fun w' h => (HG.out w').mono fun e w'' h2 => ⟨h2.1, h.trans h2.2⟩) ?_; try simp only [Act.put, List.setIfInBounds_toArray, List.set_cons_zero, List.set_cons_succ]
          refine k_lss rfl _ _ _ rfl rfl rfl CC.out.2.2.2.2 ?_; try simp only [Act.put, List.setIfInBounds_toArray, List.set_cons_zero, List.set_cons_succ]
          refine k_pickF (t := false) rfl _ _ _ rfl rfl rfl ?_; try simp only [Act.put, List.setIfInBounds_toArray, List.set_cons_zero, List.set_cons_succ]
          refine k_end ?_
          intro w3 hT3
          clear e1
          go_wp2
          go_roundw
          case rel => exact ⟨k + 1, by go_num, hlt, by rw [HC.out]; go_num, hT3⟩
          case measure => simp [intOf]; omega
    · obtain rfl : k = 256 := by omega
      have hc : cnt 256 = 138 := nm_count
      rw [hc]
      clear hc
      go_wp2
      go_ret
      exact ⟨rfl, hT⟩
set_option maxHeartbeats 1000000 in
theorem opsAll_walk (n : Int) (w : World) :
    Calls Try.prog 5 #[.int .i64 n] w fun e w' => e = .returned (.bool true) ∧ Tch [] w w' := by
  by_cases h1 : n < 0
  · go_enter Try.func5, Try.ntmps5
    go_wp2_with (go_at_call 7; refine (alive_ops _).mono ?_; rintro e w1 ⟨rfl, hT1⟩)
    go_ret
    exact ⟨rfl, hT1⟩
  by_cases h2 : 255 < n
  · go_enter Try.func5, Try.ntmps5
    go_wp2_with (go_at_call 7; refine (alive_ops _).mono ?_; rintro e w1 ⟨rfl, hT1⟩)
    go_ret
    exact ⟨rfl, hT1⟩
  obtain ⟨F, rfl⟩ : ∃ F : Nat, n = F := ⟨n.toNat, by omega⟩
  exact all_main F w (by omega)
end Go.Proofs.Ytijnglcagijlcaa
