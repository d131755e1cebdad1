/- The law WordOrders: for every two words and every integer the package's Cmp, SCmp, Bits, Int and Of tell what the document's own words tell, and an integer comes back from its word just where it is not negative. No condition. -/
import Derived.Test.YtcdjinjeogodfaaH
import Derived.Test.YtcdjinjeogodfaaK
import Derived.Test.YtcdjinjeogodfaaN
import Derived.Test.YtcdjinjeogodfaaS3
import Derived.Test.YtcdjinjeogodfaaR1
import Derived.Test.YtcdjinjeogodfaaR2
import Derived.Test.YtcdjinjeogodfaaR3
namespace Go.Proofs.Ytcdjinjeogodfaa.OrdersLaw
open Go.ChangeShapes Go.WideShapes Go.ChangeAt Go.RowKit
set_option linter.unusedVariables false

theorem same {x : Nat} (h : x < M256) : x < M256 ∧ x < M256 ∧ decide (x = x) = true := ⟨h, h, decide_eq_true rfl⟩
theorem bounds_of {n : Int} (h : (Lit.int .i64 n).wf = true) : -9223372036854775808 ≤ n ∧ n ≤ 9223372036854775807 := by
  simp [Lit.wf, IntKind.min, IntKind.max, IntKind.bits, IntKind.signed] at h
  omega
theorem k_geq {o : Oper} {a : Act} {ops : Array Oper} {rest : List Oper} {C : World → Prop} {Q : Act → Prop} {t : Bool} {m n : Int} (hw : Region.wanted o (yielded ops a.tmps) = true) (xo yo : Operand) (yt : TypeId) (ho : o.op = .binOp .geq 3 xo yo yt)
    (hxe : a.eval xo = .int .i64 m) (hye : a.eval yo = .int .i64 n) (hxy : decide (n ≤ m) = t) (h : KQ ops C Q rest (a.put o.dst (.bool t))) : KQ ops C Q (o :: rest) a :=
  k_pure hw (fun w => by unfold execOp; simp only [ho, hxe, hye]; show Sem.run _ _ w = _; simp [eqGuard, binOp, Op.intCmp, hxy]) h
theorem eq_self (m : Int) : (m == m) = true := by simp
theorem wint_neg_big {n : Int} (h : n < 0) (hn : -9223372036854775808 ≤ n) : 9223372036854775808 ≤ wint n := by
  have hM : M256 = 9223372036854775808 + (M256 - 9223372036854775808) := by unfold M256; decide
  have hbig : 9223372036854775808 ≤ M256 - 9223372036854775808 := by unfold M256; decide
  have e : n % (M256 : Int) = n + M256 := by
    rw [← Int.add_emod_right, Int.emod_eq_of_lt (by omega) (by omega)]
  unfold wint
  rw [e]
  omega
theorem int_of_nat (n : Int) (hn : -9223372036854775808 ≤ n ∧ n ≤ 9223372036854775807) (h : ¬ n < 0) (w : World) : Calls Try.prog 56 #[.agg (wcells (wint n))] w fun e w' => e = .returned (.tuple #[.int .i64 n, .bool true]) ∧ Below w.heap.size w w' := by
  obtain ⟨m, rfl⟩ := Int.eq_ofNat_of_zero_le (show 0 ≤ n by omega)
  have hM : 9223372036854775808 < M256 := by unfold M256; decide
  have e : wint (m : Int) = m := wint_nat (by omega)
  rw [e]
  exact int_small m (by omega) (len_of_lt (show m < 2 ^ 63 by omega)) w
set_option maxHeartbeats 1000000 in
set_option maxRecDepth 100000 in
theorem w1 (a b : Nat) (n : Int) (hn : -9223372036854775808 ≤ n ∧ n ≤ 9223372036854775807) (ha : a < M256) (hb : b < M256) (h1 : a < 9223372036854775808) (h2 : ¬ n < 0) (w : World) :
    Calls Try.prog 8 #[.agg (wcells a), .agg (wcells b), .int .i64 n] w fun e w' => e = .returned (.bool true) ∧ Below w.heap.size w w' := by
  have HI := Lib.hid (And.intro (int_small a ha (len_of_lt (show a < 2 ^ 63 from h1))) (And.intro (rInt_small a h1) (And.intro (of_any n hn) (int_of_nat n hn h2))))
  have HG := Lib.hid (show decide (0 ≤ n) = true from decide_eq_true (by omega))
  clear h1 h2
  have HL := Lib.hid (And.intro ha hb)
  have HN := Lib.hid hn
  clear ha hb hn
  have hS := St.start w
  go_enter Try.func8, Try.ntmps8
  go_wp2_with (first | (refine st_box hS rfl _ _ rfl rfl ?_; clear hS; intro w1 b1 hS) | (refine st_load hS rfl 23 _ rfl rfl (by repeat (first | exact At.head | apply At.tail)) word_type rfl word_size (wf_size _) ?_) | (go_at_call 17; refine (alive_any _).mono ?_; rintro e w1 ⟨rfl, hb⟩; replace hS := hS.call hb; clear hb) | (go_at_call 56; with_reducible refine (HI.out.1 _).mono ?_; rintro e w1 ⟨rfl, hb⟩; replace hS := hS.call hb; clear hb) | (go_at_call 57; with_reducible refine (HI.out.2.1 _).mono ?_; rintro e w1 ⟨rfl, hb⟩; replace hS := hS.call hb; clear hb) | (go_at_call 58; with_reducible refine (HI.out.2.2.1 _).mono ?_; rintro e w1 ⟨rfl, hb⟩; replace hS := hS.call hb; clear hb) | (go_at_call 56; with_reducible refine (HI.out.2.2.2 _).mono ?_; rintro e w1 ⟨rfl, hb⟩; replace hS := hS.call hb; clear hb))
  refine k_region (C := fun w' => St w w' _) (by kernel_rfl) (by kernel_rfl) hS.drew ?_
  repeat (first | (refine k_skip rfl rfl rfl rfl rfl ?_; try simp only [Act.put, List.setIfInBounds_toArray, List.set_cons_zero, List.set_cons_succ]) | (refine k_load rfl 23 _ rfl rfl (by repeat (first | exact At.head | apply At.tail)) word_type word_size (wf_size _) ?_; try simp only [Act.put, List.setIfInBounds_toArray, List.set_cons_zero, List.set_cons_succ]) | (refine k_words rfl _ _ _ rfl rfl rfl (by with_reducible first | exact same (wint_lt _)) ?_; try simp only [Act.put, List.setIfInBounds_toArray, List.set_cons_zero, List.set_cons_succ]) | (refine k_ints rfl _ _ _ rfl rfl rfl (by with_reducible first | exact eq_self _) ?_; try simp only [Act.put, List.setIfInBounds_toArray, List.set_cons_zero, List.set_cons_succ]) | (refine k_geq rfl _ _ _ rfl rfl rfl (by with_reducible exact HG.out) ?_; try simp only [Act.put, List.setIfInBounds_toArray, List.set_cons_zero, List.set_cons_succ]) | (refine k_not rfl _ _ rfl rfl ?_; try simp only [Act.put, List.setIfInBounds_toArray, List.set_cons_zero, List.set_cons_succ]) | (refine k_boolm rfl _ rfl rfl ?_; try simp only [Act.put, List.setIfInBounds_toArray, List.set_cons_zero, List.set_cons_succ]) | (refine k_boola rfl _ rfl rfl ?_; try simp only [Act.put, List.setIfInBounds_toArray, List.set_cons_zero, List.set_cons_succ]) | (refine k_intm rfl _ rfl rfl ?_; try simp only [Act.put, List.setIfInBounds_toArray, List.set_cons_zero, List.set_cons_succ]) | (refine k_inta rfl _ rfl rfl ?_; try simp only [Act.put, List.setIfInBounds_toArray, List.set_cons_zero, List.set_cons_succ]) | (refine k_pickT rfl _ _ _ rfl rfl rfl ?_; try simp only [Act.put, List.setIfInBounds_toArray, List.set_cons_zero, List.set_cons_succ]) | (refine k_pickF rfl _ _ _ rfl rfl rfl ?_; try simp only [Act.put, List.setIfInBounds_toArray, List.set_cons_zero, List.set_cons_succ]) | (refine k_bools rfl _ _ _ rfl rfl rfl ?_; try simp only [Act.put, List.setIfInBounds_toArray, List.set_cons_zero, List.set_cons_succ]) | (refine k_call_ww rfl rfl rfl rfl (by with_reducible first | exact ⟨Try.call59, Cmp_any _ _ HL.out.1 HL.out.2⟩ | exact ⟨Try.call60, rCmp_any _ _ HL.out.1 HL.out.2⟩ | exact ⟨Try.call61, SCmp_any _ _ HL.out.1 HL.out.2⟩ | exact ⟨Try.call62, rSCmp_any _ _ HL.out.1 HL.out.2⟩) ?_; try simp only [Act.put, List.setIfInBounds_toArray, List.set_cons_zero, List.set_cons_succ]) | (refine k_call_w rfl rfl rfl (by with_reducible first | exact ⟨Try.call63, bits_any _ HL.out.1⟩ | exact ⟨Try.call64, rBits_any _ HL.out.1⟩) ?_; try simp only [Act.put, List.setIfInBounds_toArray, List.set_cons_zero, List.set_cons_succ]) | (refine k_call_i rfl rfl rfl (by with_reducible first | exact ⟨Try.call58, of_any _ HN.out⟩ | exact ⟨Try.call65, rOf_any _ HN.out⟩) ?_; try simp only [Act.put, List.setIfInBounds_toArray, List.set_cons_zero, List.set_cons_succ]))
  refine k_end ?_
  clear hS
  intro w1 hS
  go_wp2_with (fail)
  go_ret
  exact ⟨rfl, hS.below⟩
set_option maxHeartbeats 1000000 in
set_option maxRecDepth 100000 in
theorem w2 (a b : Nat) (n : Int) (hn : -9223372036854775808 ≤ n ∧ n ≤ 9223372036854775807) (ha : a < M256) (hb : b < M256) (h1 : a < 9223372036854775808) (h2 : n < 0) (w : World) :
    Calls Try.prog 8 #[.agg (wcells a), .agg (wcells b), .int .i64 n] w fun e w' => e = .returned (.bool true) ∧ Below w.heap.size w w' := by
  have HI := Lib.hid (And.intro (int_small a ha (len_of_lt (show a < 2 ^ 63 from h1))) (And.intro (rInt_small a h1) (And.intro (of_any n hn) (int_big (wint n) (wint_lt n) (by have := lt_of_len (x := wint n) (n := 63); have := wint_neg_big h2 hn.1; omega)))))
  have HG := Lib.hid (show decide (0 ≤ n) = false from decide_eq_false (by omega))
  clear h1 h2
  have HL := Lib.hid (And.intro ha hb)
  have HN := Lib.hid hn
  clear ha hb hn
  have hS := St.start w
  go_enter Try.func8, Try.ntmps8
  go_wp2_with (first | (refine st_box hS rfl _ _ rfl rfl ?_; clear hS; intro w1 b1 hS) | (refine st_load hS rfl 23 _ rfl rfl (by repeat (first | exact At.head | apply At.tail)) word_type rfl word_size (wf_size _) ?_) | (go_at_call 17; refine (alive_any _).mono ?_; rintro e w1 ⟨rfl, hb⟩; replace hS := hS.call hb; clear hb) | (go_at_call 56; with_reducible refine (HI.out.1 _).mono ?_; rintro e w1 ⟨rfl, hb⟩; replace hS := hS.call hb; clear hb) | (go_at_call 57; with_reducible refine (HI.out.2.1 _).mono ?_; rintro e w1 ⟨rfl, hb⟩; replace hS := hS.call hb; clear hb) | (go_at_call 58; with_reducible refine (HI.out.2.2.1 _).mono ?_; rintro e w1 ⟨rfl, hb⟩; replace hS := hS.call hb; clear hb) | (go_at_call 56; with_reducible refine (HI.out.2.2.2 _).mono ?_; rintro e w1 ⟨rfl, hb⟩; replace hS := hS.call hb; clear hb))
  refine k_region (C := fun w' => St w w' _) (by kernel_rfl) (by kernel_rfl) hS.drew ?_
  repeat (first | (refine k_skip rfl rfl rfl rfl rfl ?_; try simp only [Act.put, List.setIfInBounds_toArray, List.set_cons_zero, List.set_cons_succ]) | (refine k_load rfl 23 _ rfl rfl (by repeat (first | exact At.head | apply At.tail)) word_type word_size (wf_size _) ?_; try simp only [Act.put, List.setIfInBounds_toArray, List.set_cons_zero, List.set_cons_succ]) | (refine k_words rfl _ _ _ rfl rfl rfl (by with_reducible first | exact same (wint_lt _)) ?_; try simp only [Act.put, List.setIfInBounds_toArray, List.set_cons_zero, List.set_cons_succ]) | (refine k_ints rfl _ _ _ rfl rfl rfl (by with_reducible first | exact eq_self _) ?_; try simp only [Act.put, List.setIfInBounds_toArray, List.set_cons_zero, List.set_cons_succ]) | (refine k_geq rfl _ _ _ rfl rfl rfl (by with_reducible exact HG.out) ?_; try simp only [Act.put, List.setIfInBounds_toArray, List.set_cons_zero, List.set_cons_succ]) | (refine k_not rfl _ _ rfl rfl ?_; try simp only [Act.put, List.setIfInBounds_toArray, List.set_cons_zero, List.set_cons_succ]) | (refine k_boolm rfl _ rfl rfl ?_; try simp only [Act.put, List.setIfInBounds_toArray, List.set_cons_zero, List.set_cons_succ]) | (refine k_boola rfl _ rfl rfl ?_; try simp only [Act.put, List.setIfInBounds_toArray, List.set_cons_zero, List.set_cons_succ]) | (refine k_intm rfl _ rfl rfl ?_; try simp only [Act.put, List.setIfInBounds_toArray, List.set_cons_zero, List.set_cons_succ]) | (refine k_inta rfl _ rfl rfl ?_; try simp only [Act.put, List.setIfInBounds_toArray, List.set_cons_zero, List.set_cons_succ]) | (refine k_pickT rfl _ _ _ rfl rfl rfl ?_; try simp only [Act.put, List.setIfInBounds_toArray, List.set_cons_zero, List.set_cons_succ]) | (refine k_pickF rfl _ _ _ rfl rfl rfl ?_; try simp only [Act.put, List.setIfInBounds_toArray, List.set_cons_zero, List.set_cons_succ]) | (refine k_bools rfl _ _ _ rfl rfl rfl ?_; try simp only [Act.put, List.setIfInBounds_toArray, List.set_cons_zero, List.set_cons_succ]) | (refine k_call_ww rfl rfl rfl rfl (by with_reducible first | exact ⟨Try.call59, Cmp_any _ _ HL.out.1 HL.out.2⟩ | exact ⟨Try.call60, rCmp_any _ _ HL.out.1 HL.out.2⟩ | exact ⟨Try.call61, SCmp_any _ _ HL.out.1 HL.out.2⟩ | exact ⟨Try.call62, rSCmp_any _ _ HL.out.1 HL.out.2⟩) ?_; try simp only [Act.put, List.setIfInBounds_toArray, List.set_cons_zero, List.set_cons_succ]) | (refine k_call_w rfl rfl rfl (by with_reducible first | exact ⟨Try.call63, bits_any _ HL.out.1⟩ | exact ⟨Try.call64, rBits_any _ HL.out.1⟩) ?_; try simp only [Act.put, List.setIfInBounds_toArray, List.set_cons_zero, List.set_cons_succ]) | (refine k_call_i rfl rfl rfl (by with_reducible first | exact ⟨Try.call58, of_any _ HN.out⟩ | exact ⟨Try.call65, rOf_any _ HN.out⟩) ?_; try simp only [Act.put, List.setIfInBounds_toArray, List.set_cons_zero, List.set_cons_succ]))
  refine k_end ?_
  clear hS
  intro w1 hS
  go_wp2_with (fail)
  go_ret
  exact ⟨rfl, hS.below⟩
set_option maxHeartbeats 1000000 in
set_option maxRecDepth 100000 in
theorem w3 (a b : Nat) (n : Int) (hn : -9223372036854775808 ≤ n ∧ n ≤ 9223372036854775807) (ha : a < M256) (hb : b < M256) (h1 : ¬ a < 9223372036854775808) (h2 : ¬ n < 0) (w : World) :
    Calls Try.prog 8 #[.agg (wcells a), .agg (wcells b), .int .i64 n] w fun e w' => e = .returned (.bool true) ∧ Below w.heap.size w w' := by
  have HI := Lib.hid (And.intro (int_big a ha (by have := lt_of_len (x := a) (n := 63); omega)) (And.intro (rInt_big a ha (by omega)) (And.intro (of_any n hn) (int_of_nat n hn h2))))
  have HG := Lib.hid (show decide (0 ≤ n) = true from decide_eq_true (by omega))
  clear h1 h2
  have HL := Lib.hid (And.intro ha hb)
  have HN := Lib.hid hn
  clear ha hb hn
  have hS := St.start w
  go_enter Try.func8, Try.ntmps8
  go_wp2_with (first | (refine st_box hS rfl _ _ rfl rfl ?_; clear hS; intro w1 b1 hS) | (refine st_load hS rfl 23 _ rfl rfl (by repeat (first | exact At.head | apply At.tail)) word_type rfl word_size (wf_size _) ?_) | (go_at_call 17; refine (alive_any _).mono ?_; rintro e w1 ⟨rfl, hb⟩; replace hS := hS.call hb; clear hb) | (go_at_call 56; with_reducible refine (HI.out.1 _).mono ?_; rintro e w1 ⟨rfl, hb⟩; replace hS := hS.call hb; clear hb) | (go_at_call 57; with_reducible refine (HI.out.2.1 _).mono ?_; rintro e w1 ⟨rfl, hb⟩; replace hS := hS.call hb; clear hb) | (go_at_call 58; with_reducible refine (HI.out.2.2.1 _).mono ?_; rintro e w1 ⟨rfl, hb⟩; replace hS := hS.call hb; clear hb) | (go_at_call 56; with_reducible refine (HI.out.2.2.2 _).mono ?_; rintro e w1 ⟨rfl, hb⟩; replace hS := hS.call hb; clear hb))
  refine k_region (C := fun w' => St w w' _) (by kernel_rfl) (by kernel_rfl) hS.drew ?_
  repeat (first | (refine k_skip rfl rfl rfl rfl rfl ?_; try simp only [Act.put, List.setIfInBounds_toArray, List.set_cons_zero, List.set_cons_succ]) | (refine k_load rfl 23 _ rfl rfl (by repeat (first | exact At.head | apply At.tail)) word_type word_size (wf_size _) ?_; try simp only [Act.put, List.setIfInBounds_toArray, List.set_cons_zero, List.set_cons_succ]) | (refine k_words rfl _ _ _ rfl rfl rfl (by with_reducible first | exact same (wint_lt _)) ?_; try simp only [Act.put, List.setIfInBounds_toArray, List.set_cons_zero, List.set_cons_succ]) | (refine k_ints rfl _ _ _ rfl rfl rfl (by with_reducible first | exact eq_self _) ?_; try simp only [Act.put, List.setIfInBounds_toArray, List.set_cons_zero, List.set_cons_succ]) | (refine k_geq rfl _ _ _ rfl rfl rfl (by with_reducible exact HG.out) ?_; try simp only [Act.put, List.setIfInBounds_toArray, List.set_cons_zero, List.set_cons_succ]) | (refine k_not rfl _ _ rfl rfl ?_; try simp only [Act.put, List.setIfInBounds_toArray, List.set_cons_zero, List.set_cons_succ]) | (refine k_boolm rfl _ rfl rfl ?_; try simp only [Act.put, List.setIfInBounds_toArray, List.set_cons_zero, List.set_cons_succ]) | (refine k_boola rfl _ rfl rfl ?_; try simp only [Act.put, List.setIfInBounds_toArray, List.set_cons_zero, List.set_cons_succ]) | (refine k_intm rfl _ rfl rfl ?_; try simp only [Act.put, List.setIfInBounds_toArray, List.set_cons_zero, List.set_cons_succ]) | (refine k_inta rfl _ rfl rfl ?_; try simp only [Act.put, List.setIfInBounds_toArray, List.set_cons_zero, List.set_cons_succ]) | (refine k_pickT rfl _ _ _ rfl rfl rfl ?_; try simp only [Act.put, List.setIfInBounds_toArray, List.set_cons_zero, List.set_cons_succ]) | (refine k_pickF rfl _ _ _ rfl rfl rfl ?_; try simp only [Act.put, List.setIfInBounds_toArray, List.set_cons_zero, List.set_cons_succ]) | (refine k_bools rfl _ _ _ rfl rfl rfl ?_; try simp only [Act.put, List.setIfInBounds_toArray, List.set_cons_zero, List.set_cons_succ]) | (refine k_call_ww rfl rfl rfl rfl (by with_reducible first | exact ⟨Try.call59, Cmp_any _ _ HL.out.1 HL.out.2⟩ | exact ⟨Try.call60, rCmp_any _ _ HL.out.1 HL.out.2⟩ | exact ⟨Try.call61, SCmp_any _ _ HL.out.1 HL.out.2⟩ | exact ⟨Try.call62, rSCmp_any _ _ HL.out.1 HL.out.2⟩) ?_; try simp only [Act.put, List.setIfInBounds_toArray, List.set_cons_zero, List.set_cons_succ]) | (refine k_call_w rfl rfl rfl (by with_reducible first | exact ⟨Try.call63, bits_any _ HL.out.1⟩ | exact ⟨Try.call64, rBits_any _ HL.out.1⟩) ?_; try simp only [Act.put, List.setIfInBounds_toArray, List.set_cons_zero, List.set_cons_succ]) | (refine k_call_i rfl rfl rfl (by with_reducible first | exact ⟨Try.call58, of_any _ HN.out⟩ | exact ⟨Try.call65, rOf_any _ HN.out⟩) ?_; try simp only [Act.put, List.setIfInBounds_toArray, List.set_cons_zero, List.set_cons_succ]))
  refine k_end ?_
  clear hS
  intro w1 hS
  go_wp2_with (fail)
  go_ret
  exact ⟨rfl, hS.below⟩
set_option maxHeartbeats 1000000 in
set_option maxRecDepth 100000 in
theorem w4 (a b : Nat) (n : Int) (hn : -9223372036854775808 ≤ n ∧ n ≤ 9223372036854775807) (ha : a < M256) (hb : b < M256) (h1 : ¬ a < 9223372036854775808) (h2 : n < 0) (w : World) :
    Calls Try.prog 8 #[.agg (wcells a), .agg (wcells b), .int .i64 n] w fun e w' => e = .returned (.bool true) ∧ Below w.heap.size w w' := by
  have HI := Lib.hid (And.intro (int_big a ha (by have := lt_of_len (x := a) (n := 63); omega)) (And.intro (rInt_big a ha (by omega)) (And.intro (of_any n hn) (int_big (wint n) (wint_lt n) (by have := lt_of_len (x := wint n) (n := 63); have := wint_neg_big h2 hn.1; omega)))))
  have HG := Lib.hid (show decide (0 ≤ n) = false from decide_eq_false (by omega))
  clear h1 h2
  have HL := Lib.hid (And.intro ha hb)
  have HN := Lib.hid hn
  clear ha hb hn
  have hS := St.start w
  go_enter Try.func8, Try.ntmps8
  go_wp2_with (first | (refine st_box hS rfl _ _ rfl rfl ?_; clear hS; intro w1 b1 hS) | (refine st_load hS rfl 23 _ rfl rfl (by repeat (first | exact At.head | apply At.tail)) word_type rfl word_size (wf_size _) ?_) | (go_at_call 17; refine (alive_any _).mono ?_; rintro e w1 ⟨rfl, hb⟩; replace hS := hS.call hb; clear hb) | (go_at_call 56; with_reducible refine (HI.out.1 _).mono ?_; rintro e w1 ⟨rfl, hb⟩; replace hS := hS.call hb; clear hb) | (go_at_call 57; with_reducible refine (HI.out.2.1 _).mono ?_; rintro e w1 ⟨rfl, hb⟩; replace hS := hS.call hb; clear hb) | (go_at_call 58; with_reducible refine (HI.out.2.2.1 _).mono ?_; rintro e w1 ⟨rfl, hb⟩; replace hS := hS.call hb; clear hb) | (go_at_call 56; with_reducible refine (HI.out.2.2.2 _).mono ?_; rintro e w1 ⟨rfl, hb⟩; replace hS := hS.call hb; clear hb))
  refine k_region (C := fun w' => St w w' _) (by kernel_rfl) (by kernel_rfl) hS.drew ?_
  repeat (first | (refine k_skip rfl rfl rfl rfl rfl ?_; try simp only [Act.put, List.setIfInBounds_toArray, List.set_cons_zero, List.set_cons_succ]) | (refine k_load rfl 23 _ rfl rfl (by repeat (first | exact At.head | apply At.tail)) word_type word_size (wf_size _) ?_; try simp only [Act.put, List.setIfInBounds_toArray, List.set_cons_zero, List.set_cons_succ]) | (refine k_words rfl _ _ _ rfl rfl rfl (by with_reducible first | exact same (wint_lt _)) ?_; try simp only [Act.put, List.setIfInBounds_toArray, List.set_cons_zero, List.set_cons_succ]) | (refine k_ints rfl _ _ _ rfl rfl rfl (by with_reducible first | exact eq_self _) ?_; try simp only [Act.put, List.setIfInBounds_toArray, List.set_cons_zero, List.set_cons_succ]) | (refine k_geq rfl _ _ _ rfl rfl rfl (by with_reducible exact HG.out) ?_; try simp only [Act.put, List.setIfInBounds_toArray, List.set_cons_zero, List.set_cons_succ]) | (refine k_not rfl _ _ rfl rfl ?_; try simp only [Act.put, List.setIfInBounds_toArray, List.set_cons_zero, List.set_cons_succ]) | (refine k_boolm rfl _ rfl rfl ?_; try simp only [Act.put, List.setIfInBounds_toArray, List.set_cons_zero, List.set_cons_succ]) | (refine k_boola rfl _ rfl rfl ?_; try simp only [Act.put, List.setIfInBounds_toArray, List.set_cons_zero, List.set_cons_succ]) | (refine k_intm rfl _ rfl rfl ?_; try simp only [Act.put, List.setIfInBounds_toArray, List.set_cons_zero, List.set_cons_succ]) | (refine k_inta rfl _ rfl rfl ?_; try simp only [Act.put, List.setIfInBounds_toArray, List.set_cons_zero, List.set_cons_succ]) | (refine k_pickT rfl _ _ _ rfl rfl rfl ?_; try simp only [Act.put, List.setIfInBounds_toArray, List.set_cons_zero, List.set_cons_succ]) | (refine k_pickF rfl _ _ _ rfl rfl rfl ?_; try simp only [Act.put, List.setIfInBounds_toArray, List.set_cons_zero, List.set_cons_succ]) | (refine k_bools rfl _ _ _ rfl rfl rfl ?_; try simp only [Act.put, List.setIfInBounds_toArray, List.set_cons_zero, List.set_cons_succ]) | (refine k_call_ww rfl rfl rfl rfl (by with_reducible first | exact ⟨Try.call59, Cmp_any _ _ HL.out.1 HL.out.2⟩ | exact ⟨Try.call60, rCmp_any _ _ HL.out.1 HL.out.2⟩ | exact ⟨Try.call61, SCmp_any _ _ HL.out.1 HL.out.2⟩ | exact ⟨Try.call62, rSCmp_any _ _ HL.out.1 HL.out.2⟩) ?_; try simp only [Act.put, List.setIfInBounds_toArray, List.set_cons_zero, List.set_cons_succ]) | (refine k_call_w rfl rfl rfl (by with_reducible first | exact ⟨Try.call63, bits_any _ HL.out.1⟩ | exact ⟨Try.call64, rBits_any _ HL.out.1⟩) ?_; try simp only [Act.put, List.setIfInBounds_toArray, List.set_cons_zero, List.set_cons_succ]) | (refine k_call_i rfl rfl rfl (by with_reducible first | exact ⟨Try.call58, of_any _ HN.out⟩ | exact ⟨Try.call65, rOf_any _ HN.out⟩) ?_; try simp only [Act.put, List.setIfInBounds_toArray, List.set_cons_zero, List.set_cons_succ]))
  refine k_end ?_
  clear hS
  intro w1 hS
  go_wp2_with (fail)
  go_ret
  exact ⟨rfl, hS.below⟩
theorem walk (a b : Nat) (n : Int) (ha : a < M256) (hb : b < M256) (wn : (Lit.int .i64 n).wf = true) (w : World) :
    Calls Try.prog 8 #[.agg (wcells a), .agg (wcells b), .int .i64 n] w fun e w' => e = .returned (.bool true) ∧ Below w.heap.size w w' := by
  by_cases h1 : a < 9223372036854775808 <;> by_cases h2 : n < 0
  · exact w2 a b n (bounds_of wn) ha hb h1 h2 w
  · exact w1 a b n (bounds_of wn) ha hb h1 h2 w
  · exact w4 a b n (bounds_of wn) ha hb h1 h2 w
  · exact w3 a b n (bounds_of wn) ha hb h1 h2 w
end Go.Proofs.Ytcdjinjeogodfaa.OrdersLaw
