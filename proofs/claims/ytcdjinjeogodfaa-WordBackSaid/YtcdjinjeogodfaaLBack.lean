/- The law WordBack: for every two words. No condition. -/
import Derived.Test.YtcdjinjeogodfaaM1
import Derived.Test.YtcdjinjeogodfaaH
import Derived.Test.YtcdjinjeogodfaaK
import Derived.Test.YtcdjinjeogodfaaJ6
import Derived.Test.YtcdjinjeogodfaaN
namespace Go.Proofs.Ytcdjinjeogodfaa.BackLaw
open Go.ChangeShapes Go.WideShapes Go.ChangeAt Go.RowKit
set_option linter.unusedVariables false

theorem built {a : Act} {o : Oper} (ho : o.op = .build 23 #[]) (w : World) : (execOp a.eval o).run Try.prog w = .ok (.value (.agg (wcells 0))) w := by
  unfold execOp
  simp only [ho]
  rw [← word_lit_eq]
  kernel_rfl
theorem k_nought {o : Oper} {a : Act} {ops : Array Oper} {rest : List Oper} {C : World → Prop} {Q : Act → Prop} (hw : Region.wanted o (yielded ops a.tmps) = true) (ho : o.op = .build 23 #[])
    (h : KQ ops C Q rest (a.put o.dst (.agg (wcells 0)))) : KQ ops C Q (o :: rest) a := k_pure hw (built ho) h
theorem back {x y : Nat} (hx : x < M256) (h : y ≠ 0) : wadd (wmul (x / y) y) (wrest x y) = x := by
  have hm := Nat.div_add_mod x y
  have hle : x / y * y ≤ x := Nat.div_mul_le_self _ _
  unfold wadd wmul wrest
  rw [if_neg h, Nat.mod_eq_of_lt (Nat.lt_of_le_of_lt hle hx), Nat.mul_comm, hm, Nat.mod_eq_of_lt hx]
theorem rest_less {x y : Nat} (h : y ≠ 0) : decide (cmpN (wrest x y) y < 0) = true := by
  have hl : wrest x y < y := by unfold wrest; rw [if_neg h]; exact Nat.mod_lt _ (by omega)
  unfold cmpN; rw [if_pos hl]; rfl
/-- The sign that a bool stands for. -/
def sgn (b : Bool) : Int := bif b then -1 else 1
theorem neg_ex {q : Nat} (h : q < M256) : ∃ k : Int, ((wsub 0 q : Nat) : Int) = -(q : Int) + k * (M256 : Int) := by
  unfold wsub
  rw [Nat.zero_add]
  by_cases h0 : q = 0
  · subst h0; exact ⟨0, by simp⟩
  · rw [Nat.mod_eq_of_lt (by omega)]; exact ⟨1, by omega⟩
theorem pick_ex {b : Bool} {q : Nat} (h : q < M256) : ∃ k : Int, ((pickN b q : Nat) : Int) = sgn b * (q : Int) + k * (M256 : Int) := by
  cases b
  · exact ⟨0, by simp [pickN, sgn]⟩
  · obtain ⟨k, hk⟩ := neg_ex h
    exact ⟨k, by show ((wsub 0 q : Nat) : Int) = -1 * (q : Int) + _; rw [hk]; omega⟩
theorem mag_ex {x : Nat} (h : x < M256) : ∃ k : Int, ((magN x : Nat) : Int) = sgn (decide (2 ^ 255 ≤ x)) * (x : Int) + k * (M256 : Int) := by
  obtain ⟨k, hk⟩ := pick_ex (b := decide (2 ^ 255 ≤ x)) h
  refine ⟨k, ?_⟩
  rw [← hk]
  unfold magN pickN
  by_cases hh : 2 ^ 255 ≤ x
  · rw [if_pos hh, decide_eq_true hh]; rfl
  · rw [if_neg hh, decide_eq_false hh]; rfl
theorem whole {dx dy : Bool} {x y mx my p r s t M k1 k2 k3 k4 : Int} (h1 : mx = sgn dx * x + k1 * M) (h2 : my = sgn dy * y + k2 * M) (h3 : mx = p * my + r)
    (h4 : s = sgn (dx != dy) * p + k3 * M) (h5 : t = sgn dx * r + k4 * M) : ∃ K : Int, s * y + t = x + K * M := by
  cases dx <;> cases dy <;> simp only [sgn, cond_true, cond_false, bne_self_eq_false, Bool.true_bne, Bool.false_bne, Bool.not_true, Bool.not_false] at *
  · exact ⟨k3 * y - p * k2 + k4 + k1, by grind⟩
  · exact ⟨k3 * y - p * k2 + k4 + k1, by grind⟩
  · exact ⟨k3 * y + p * k2 + k4 - k1, by grind⟩
  · exact ⟨k3 * y + p * k2 + k4 - k1, by grind⟩
theorem mag_ne {y : Nat} (h : y ≠ 0) (hy : y < M256) : magN y ≠ 0 := by
  unfold magN wsub; split
  · rw [Nat.zero_add, Nat.mod_eq_of_lt (by omega)]; omega
  · exact h
theorem sback {x y : Nat} (hx : x < M256) (hy : y < M256) (h : y ≠ 0) : wadd (wmul (sdivN x y) y) (smodN x y) = x := by
  obtain ⟨k1, h1⟩ := mag_ex hx
  obtain ⟨k2, h2⟩ := mag_ex hy
  have hm : ((magN x : Nat) : Int) = ((magN x / magN y : Nat) : Int) * ((magN y : Nat) : Int) + ((wrest (magN x) (magN y) : Nat) : Int) := by
    unfold wrest; rw [if_neg (mag_ne h hy)]
    have := Nat.div_add_mod (magN x) (magN y)
    rw [← Int.natCast_mul, ← Int.natCast_add, Nat.mul_comm, this]
  obtain ⟨k3, h3⟩ := pick_ex (b := decide (2 ^ 255 ≤ x) != decide (2 ^ 255 ≤ y)) (div_lt (y := magN y) (magN_lt hx))
  obtain ⟨k4, h4⟩ := pick_ex (b := decide (2 ^ 255 ≤ x)) (wrest_lt (y := magN y) (magN_lt hx))
  obtain ⟨K, hK⟩ := whole h1 h2 hm h3 h4
  unfold wadd wmul
  rw [Nat.mod_add_mod]
  have e : ((sdivN x y * y + smodN x y : Nat) : Int) = (x : Int) + K * (M256 : Int) := by
    rw [Int.natCast_add, Int.natCast_mul]; exact hK
  have e2 : (((sdivN x y * y + smodN x y) % M256 : Nat) : Int) = (x : Int) := by
    rw [Int.natCast_emod, e, Int.add_mul_emod_self_right, Int.emod_eq_of_lt (by omega) (by omega)]
  exact Int.ofNat.inj e2

theorem st_other {o : Oper} {a : Act} {x y : Nat} {ops : Array Oper} {rest : List Oper} {w : World} {Q : Exit → Act → World → Prop} (hw : Region.wanted o (yielded ops a.tmps) = true) (xo yo : Operand) (yt : TypeId) (ho : o.op = .binOp .eql 23 xo yo yt)
    (hxe : a.eval xo = .agg (wcells x)) (hye : a.eval yo = .agg (wcells y)) (hx : x < M256) (hy : y < M256) (hxy : x ≠ y) (h : wpList Try.prog ops Q rest (a.put o.dst (.bool false)) w) : wpList Try.prog ops Q (o :: rest) a w := by
  unfold wpList
  rw [if_pos hw]
  refine .inl ?_
  unfold Oper.wp
  rw [ex_eql xo yo yt ho hxe hye hx hy w, decide_eq_false hxy]
  exact h
theorem zero_facts (x y : Nat) (h : y = 0) : x / y = 0 ∧ wrest x y = 0 ∧ sdivN x y = 0 ∧ smodN x y = 0 := by
  subst h
  have m0 : magN 0 = 0 := by unfold magN; rw [if_neg (by have := Nat.two_pow_pos 255; omega)]
  have r0 : ∀ z, wrest z 0 = 0 := fun z => by unfold wrest; rw [if_pos rfl]
  have p0 : ∀ b, pickN b 0 = 0 := fun b => by cases b <;> first | rfl | exact wsub_nought
  refine ⟨Nat.div_zero _, r0 _, ?_, ?_⟩
  · unfold sdivN; rw [m0, Nat.div_zero, p0]
  · unfold smodN; rw [m0, r0, p0]

set_option maxHeartbeats 8000000 in
set_option maxRecDepth 100000 in
theorem walk (a b : Nat) (ha : a < M256) (hb : b < M256) (w : World) :
    Calls Try.prog 10 #[.agg (wcells a), .agg (wcells b)] w fun e w' => e = .returned (.bool true) ∧ Below w.heap.size w w' := by
  have HL := Lib.hid (And.intro ha hb)
  by_cases h0 : b = 0
  · have HB := Lib.hid (zero_facts a b h0)
    have HZ := Lib.hid h0
    clear ha hb h0
    have hS := St.start w
    go_enter Try.func10, Try.ntmps10
    go_wp2_with (first | (refine st_store (c' := wcells 0) hS rfl 23 _ _ rfl rfl word_lit_eq (by repeat (first | exact Upd.head | apply Upd.tail)) word_size (wf_size _) (wf_size _) (wf_one _) ?_; clear hS; intro w1 hS) | (refine st_new hS rfl 23 rfl word_zero ?_; clear hS; intro w1 b1 hS) | (refine st_box hS rfl _ _ rfl rfl ?_; clear hS; intro w1 b1 hS) | (refine st_load hS rfl 23 _ rfl rfl (by repeat (first | exact At.head | apply At.tail)) word_type rfl word_size (wf_size _) ?_) | (refine st_store hS rfl 23 _ _ rfl rfl rfl (by repeat (first | exact Upd.head | apply Upd.tail)) word_size (wf_size _) (wf_size _) (wf_one _) ?_; clear hS; intro w1 hS) | (refine st_same rfl _ _ _ rfl rfl word_lit_eq HL.out.2 HZ.out ?_) | (go_at_call 17; refine (alive_any _).mono ?_; rintro e w1 ⟨rfl, hb⟩; replace hS := hS.call hb; clear hb))
    refine k_region (C := fun w' => St w w' _) (by kernel_rfl) (by kernel_rfl) hS.drew ?_
    repeat (first | (refine k_skip rfl rfl rfl rfl rfl ?_; try simp only [Act.put, List.setIfInBounds_toArray, List.set_cons_zero, List.set_cons_succ]) | (refine k_load rfl 23 _ rfl rfl (by repeat (first | exact At.head | apply At.tail)) word_type word_size (wf_size _) ?_; try simp only [Act.put, List.setIfInBounds_toArray, List.set_cons_zero, List.set_cons_succ]) | (refine k_words rfl _ _ _ rfl rfl rfl (by with_reducible first | exact ⟨div_lt HL.out.1, M256_pos, decide_eq_true HB.out.1⟩ | exact ⟨wrest_lt HL.out.1, M256_pos, decide_eq_true HB.out.2.1⟩ | exact ⟨sdivN_lt HL.out.1, M256_pos, decide_eq_true HB.out.2.2.1⟩ | exact ⟨smodN_lt HL.out.1, M256_pos, decide_eq_true HB.out.2.2.2⟩) ?_; try simp only [Act.put, List.setIfInBounds_toArray, List.set_cons_zero, List.set_cons_succ]) | (refine k_nought rfl rfl ?_; try simp only [Act.put, List.setIfInBounds_toArray, List.set_cons_zero, List.set_cons_succ]) | (refine k_boolm rfl _ rfl rfl ?_; try simp only [Act.put, List.setIfInBounds_toArray, List.set_cons_zero, List.set_cons_succ]) | (refine k_boola rfl _ rfl rfl ?_; try simp only [Act.put, List.setIfInBounds_toArray, List.set_cons_zero, List.set_cons_succ]) | (refine k_intm rfl _ rfl rfl ?_; try simp only [Act.put, List.setIfInBounds_toArray, List.set_cons_zero, List.set_cons_succ]) | (refine k_inta rfl _ rfl rfl ?_; try simp only [Act.put, List.setIfInBounds_toArray, List.set_cons_zero, List.set_cons_succ]) | (refine k_pickT rfl _ _ _ rfl rfl rfl ?_; try simp only [Act.put, List.setIfInBounds_toArray, List.set_cons_zero, List.set_cons_succ]) | (refine k_pickF rfl _ _ _ rfl rfl rfl ?_; try simp only [Act.put, List.setIfInBounds_toArray, List.set_cons_zero, List.set_cons_succ]) | (refine k_bools rfl _ _ _ rfl rfl rfl ?_; try simp only [Act.put, List.setIfInBounds_toArray, List.set_cons_zero, List.set_cons_succ]) | (refine k_call_ww rfl rfl rfl rfl (by with_reducible first | exact ⟨Try.call24, div_any _ _ HL.out.1 HL.out.2⟩ | exact ⟨Try.call26, mod_any _ _ HL.out.1 HL.out.2⟩ | exact ⟨Try.call28, sdiv_any _ _ HL.out.1 HL.out.2⟩ | exact ⟨Try.call30, smod_any _ _ HL.out.1 HL.out.2⟩) ?_; try simp only [Act.put, List.setIfInBounds_toArray, List.set_cons_zero, List.set_cons_succ]))
    refine k_end ?_
    clear hS
    intro w1 hS
    go_wp2_with (fail)
    go_ret
    exact ⟨rfl, hS.below⟩
  · have HB := Lib.hid (And.intro (back ha h0) (And.intro (rest_less (x := a) h0) (sback ha hb h0)))
    have HZ := Lib.hid h0
    clear ha hb h0
    have hS := St.start w
    go_enter Try.func10, Try.ntmps10
    go_wp2_with (first | (refine st_new hS rfl 23 rfl word_zero ?_; clear hS; intro w1 b1 hS) | (refine st_box hS rfl _ _ rfl rfl ?_; clear hS; intro w1 b1 hS) | (refine st_load hS rfl 23 _ rfl rfl (by repeat (first | exact At.head | apply At.tail)) word_type rfl word_size (wf_size _) ?_) | (refine st_store hS rfl 23 _ _ rfl rfl rfl (by repeat (first | exact Upd.head | apply Upd.tail)) word_size (wf_size _) (wf_size _) (wf_one _) ?_; clear hS; intro w1 hS) | (refine st_other rfl _ _ _ rfl rfl word_lit_eq HL.out.2 M256_pos HZ.out ?_) | (go_at_call 17; refine (alive_any _).mono ?_; rintro e w1 ⟨rfl, hb⟩; replace hS := hS.call hb; clear hb) | (go_at_call 24; with_reducible refine (div_any a b HL.out.1 HL.out.2 _).mono ?_; rintro e w1 ⟨rfl, hb⟩; replace hS := hS.call hb; clear hb) | (go_at_call 26; with_reducible refine (mod_any a b HL.out.1 HL.out.2 _).mono ?_; rintro e w1 ⟨rfl, hb⟩; replace hS := hS.call hb; clear hb) | (go_at_call 28; with_reducible refine (sdiv_any a b HL.out.1 HL.out.2 _).mono ?_; rintro e w1 ⟨rfl, hb⟩; replace hS := hS.call hb; clear hb) | (go_at_call 30; with_reducible refine (smod_any a b HL.out.1 HL.out.2 _).mono ?_; rintro e w1 ⟨rfl, hb⟩; replace hS := hS.call hb; clear hb))
    refine k_region (C := fun w' => St w w' _) (by kernel_rfl) (by kernel_rfl) hS.drew ?_
    repeat (first | (refine k_skip rfl rfl rfl rfl rfl ?_; try simp only [Act.put, List.setIfInBounds_toArray, List.set_cons_zero, List.set_cons_succ]) | (refine k_load rfl 23 _ rfl rfl (by repeat (first | exact At.head | apply At.tail)) word_type word_size (wf_size _) ?_; try simp only [Act.put, List.setIfInBounds_toArray, List.set_cons_zero, List.set_cons_succ]) | (refine k_words rfl _ _ _ rfl rfl rfl (by with_reducible first | exact ⟨wadd_lt _ _, HL.out.1, decide_eq_true HB.out.1⟩ | exact ⟨wadd_lt _ _, HL.out.1, decide_eq_true HB.out.2.2⟩) ?_; try simp only [Act.put, List.setIfInBounds_toArray, List.set_cons_zero, List.set_cons_succ]) | (refine k_lss rfl _ _ _ rfl rfl rfl HB.out.2.1 ?_; try simp only [Act.put, List.setIfInBounds_toArray, List.set_cons_zero, List.set_cons_succ]) | (refine k_boolm rfl _ rfl rfl ?_; try simp only [Act.put, List.setIfInBounds_toArray, List.set_cons_zero, List.set_cons_succ]) | (refine k_boola rfl _ rfl rfl ?_; try simp only [Act.put, List.setIfInBounds_toArray, List.set_cons_zero, List.set_cons_succ]) | (refine k_intm rfl _ rfl rfl ?_; try simp only [Act.put, List.setIfInBounds_toArray, List.set_cons_zero, List.set_cons_succ]) | (refine k_inta rfl _ rfl rfl ?_; try simp only [Act.put, List.setIfInBounds_toArray, List.set_cons_zero, List.set_cons_succ]) | (refine k_pickT rfl _ _ _ rfl rfl rfl ?_; try simp only [Act.put, List.setIfInBounds_toArray, List.set_cons_zero, List.set_cons_succ]) | (refine k_pickF rfl _ _ _ rfl rfl rfl ?_; try simp only [Act.put, List.setIfInBounds_toArray, List.set_cons_zero, List.set_cons_succ]) | (refine k_bools rfl _ _ _ rfl rfl rfl ?_; try simp only [Act.put, List.setIfInBounds_toArray, List.set_cons_zero, List.set_cons_succ]) | (refine k_call_ww rfl rfl rfl rfl (by with_reducible first | exact ⟨Try.call18, add_any _ _⟩ | exact ⟨Try.call22, mul_any _ _ (div_lt HL.out.1) HL.out.2⟩ | exact ⟨Try.call22, mul_any _ _ (sdivN_lt HL.out.1) HL.out.2⟩ | exact ⟨Try.call59, Cmp_any _ _ (wrest_lt HL.out.1) HL.out.2⟩) ?_; try simp only [Act.put, List.setIfInBounds_toArray, List.set_cons_zero, List.set_cons_succ]))
    refine k_end ?_
    clear hS
    intro w1 hS
    go_wp2_with (fail)
    go_ret
    exact ⟨rfl, hS.below⟩
end Go.Proofs.Ytcdjinjeogodfaa.BackLaw
