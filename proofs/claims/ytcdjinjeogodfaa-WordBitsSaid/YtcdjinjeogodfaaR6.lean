/- The document's shifts of words by words, and their bytes. -/
import Derived.Test.YtcdjinjeogodfaaR1
import Derived.Test.YtcdjinjeogodfaaR2
import Derived.Test.YtcdjinjeogodfaaR4
import Derived.Test.YtcdjinjeogodfaaK
import Derived.Test.YtcdjinjeogodfaaN
import Derived.StillTailTactics
namespace Go.Proofs.Ytcdjinjeogodfaa
open Go.RowKit

set_option maxHeartbeats 1000000 in
set_option maxRecDepth 100000 in
theorem rByte_any (k x : Nat) (hk : k < M256) (w : World) :
    Calls Try.prog 47 #[.agg (wcells k), .agg (wcells x)] w fun e w' => e = .returned (.agg (wcells (bytN k x))) ∧ Below w.heap.size w w' := by
  by_cases h : k < 256
  · by_cases h2 : k < 32
    · rw [show bytN k x = byt x k from if_pos h2]
      have hl := byt_lt x k
      have hc := fun w => rOf_any (byt x k : Nat) (by omega) w
      rw [wint_nat (show byt x k < M256 by unfold M256; omega)] at hc
      have g := wf_get (f := byt x) h2
      have HB := Lib.hid (rsmall_yes k h)
      obtain ⟨v, hv⟩ : ∃ v, v = byt x k := ⟨_, rfl⟩
      rw [← hv] at hc g hl ⊢
      have G := Lib.hid (And.intro g hc)
      clear g hc hv hk
      have hS := St.start w
      go_enter Try.func47, Try.ntmps47
      go_wp2_with (first | (refine st_box hS rfl _ _ rfl rfl ?_; clear hS; intro w1 b1 hS) | (refine st_new hS rfl 23 rfl word_zero ?_; clear hS; intro w1 b1 hS) | (refine st_load hS rfl 23 _ rfl rfl (by repeat (first | exact At.head | apply At.tail)) word_type rfl word_size (wf_size _) ?_) | (go_at_call 87; with_reducible refine (HB.out _).mono ?_; rintro e w1 ⟨rfl, hb⟩; replace hS := hS.call hb; clear hb) | (refine st_cell hS rfl 5 _ rfl rfl (by repeat (first | exact At.head | apply At.tail)) G.out.1 u8_agg ?_) | (go_at_call 65; with_reducible refine (G.out.2 _).mono ?_; rintro e w1 ⟨rfl, hb⟩; replace hS := hS.call hb; clear hb) | (refine st_store hS rfl 23 _ _ rfl rfl rfl (by repeat (first | exact Upd.head | apply Upd.tail)) word_size (wf_size _) (wf_size _) (wf_one _) ?_; clear hS; intro w1 hS))
      exact st_post hS 4 23 rfl rfl rfl (by repeat (first | exact At.head | apply At.tail)) word_type rfl word_size (wf_size _) (fun hb => ⟨rfl, hb⟩)
    · rw [show bytN k x = 0 from if_neg h2]
      have HB := Lib.hid (rsmall_yes k h)
      clear hk
      have hS := St.start w
      go_enter Try.func47, Try.ntmps47
      go_wp2_with (first | (refine st_store (c' := wcells 0) hS rfl 23 _ _ rfl rfl word_lit_eq (by repeat (first | exact Upd.head | apply Upd.tail)) word_size (wf_size _) (wf_size _) (wf_one _) ?_; clear hS; intro w1 hS) | (refine st_box hS rfl _ _ rfl rfl ?_; clear hS; intro w1 b1 hS) | (refine st_new hS rfl 23 rfl word_zero ?_; clear hS; intro w1 b1 hS) | (refine st_load hS rfl 23 _ rfl rfl (by repeat (first | exact At.head | apply At.tail)) word_type rfl word_size (wf_size _) ?_) | (go_at_call 87; with_reducible refine (HB.out _).mono ?_; rintro e w1 ⟨rfl, hb⟩; replace hS := hS.call hb; clear hb))
      exact st_post hS 4 23 rfl rfl rfl (by repeat (first | exact At.head | apply At.tail)) word_type rfl word_size (wf_size _) (fun hb => ⟨rfl, hb⟩)
  · rw [show bytN k x = 0 from if_neg (by omega)]
    have HB := Lib.hid (rsmall_no k hk h)
    clear hk h
    generalize smallN k = sk at *
    have hS := St.start w
    go_enter Try.func47, Try.ntmps47
    go_wp2_with (first | (refine st_store (c' := wcells 0) hS rfl 23 _ _ rfl rfl word_lit_eq (by repeat (first | exact Upd.head | apply Upd.tail)) word_size (wf_size _) (wf_size _) (wf_one _) ?_; clear hS; intro w1 hS) | (refine st_box hS rfl _ _ rfl rfl ?_; clear hS; intro w1 b1 hS) | (refine st_new hS rfl 23 rfl word_zero ?_; clear hS; intro w1 b1 hS) | (refine st_load hS rfl 23 _ rfl rfl (by repeat (first | exact At.head | apply At.tail)) word_type rfl word_size (wf_size _) ?_) | (go_at_call 87; with_reducible refine (HB.out _).mono ?_; rintro e w1 ⟨rfl, hb⟩; replace hS := hS.call hb; clear hb))
    exact st_post hS 4 23 rfl rfl rfl (by repeat (first | exact At.head | apply At.tail)) word_type rfl word_size (wf_size _) (fun hb => ⟨rfl, hb⟩)
set_option maxHeartbeats 1000000 in
set_option maxRecDepth 100000 in
theorem rShl_any (k x : Nat) (hk : k < M256) (w : World) :
    Calls Try.prog 49 #[.agg (wcells k), .agg (wcells x)] w fun e w' => e = .returned (.agg (wcells (shlN k x))) ∧ Below w.heap.size w w' := by
  by_cases h : k < 256
  · rw [show shlN k x = x * 2 ^ k % M256 from if_pos h]
    have hc : ∀ w, Calls Try.prog 89 #[.agg (wcells x), .int .i64 (k : Int), .int .u8 0] w fun e w' => e = .returned (.agg (wcells (x * 2 ^ k % M256))) ∧ Below w.heap.size w w' := fun w => moved_any x (x * 2 ^ k % M256) (k : Int) 0 (by omega) (by omega) (by omega) (Nat.mod_lt _ M256_pos)
      (fun i m hi hm he => by rw [shl_bits i hi, if_pos (by omega)]; congr 1; omega)
      (fun i hi ho => by rw [shl_bits i hi, if_neg (by omega)]; rfl) w
    have HB := Lib.hid (rsmall_yes k h)
    generalize x * 2 ^ k % M256 = y at *
    have HC := Lib.hid hc
    clear hc hk
    have hS := St.start w
    go_enter Try.func49, Try.ntmps49
    go_wp2_with (first | (refine st_box hS rfl _ _ rfl rfl ?_; clear hS; intro w1 b1 hS) | (refine st_new hS rfl 23 rfl word_zero ?_; clear hS; intro w1 b1 hS) | (refine st_load hS rfl 23 _ rfl rfl (by repeat (first | exact At.head | apply At.tail)) word_type rfl word_size (wf_size _) ?_) | (go_at_call 87; with_reducible refine (HB.out _).mono ?_; rintro e w1 ⟨rfl, hb⟩; replace hS := hS.call hb; clear hb) | (go_at_call 89; with_reducible refine (HC.out _).mono ?_; rintro e w1 ⟨rfl, hb⟩; replace hS := hS.call hb; clear hb) | (refine st_store hS rfl 23 _ _ rfl rfl rfl (by repeat (first | exact Upd.head | apply Upd.tail)) word_size (wf_size _) (wf_size _) (wf_one _) ?_; clear hS; intro w1 hS))
    exact st_post hS 4 23 rfl rfl rfl (by repeat (first | exact At.head | apply At.tail)) word_type rfl word_size (wf_size _) (fun hb => ⟨rfl, hb⟩)
  · rw [show shlN k x = 0 from if_neg h]
    have HB := Lib.hid (rsmall_no k hk h)
    clear hk h
    generalize smallN k = sk at *
    have hS := St.start w
    go_enter Try.func49, Try.ntmps49
    go_wp2_with (first | (refine st_store (c' := wcells 0) hS rfl 23 _ _ rfl rfl word_lit_eq (by repeat (first | exact Upd.head | apply Upd.tail)) word_size (wf_size _) (wf_size _) (wf_one _) ?_; clear hS; intro w1 hS) | (refine st_box hS rfl _ _ rfl rfl ?_; clear hS; intro w1 b1 hS) | (refine st_new hS rfl 23 rfl word_zero ?_; clear hS; intro w1 b1 hS) | (refine st_load hS rfl 23 _ rfl rfl (by repeat (first | exact At.head | apply At.tail)) word_type rfl word_size (wf_size _) ?_) | (go_at_call 87; with_reducible refine (HB.out _).mono ?_; rintro e w1 ⟨rfl, hb⟩; replace hS := hS.call hb; clear hb))
    exact st_post hS 4 23 rfl rfl rfl (by repeat (first | exact At.head | apply At.tail)) word_type rfl word_size (wf_size _) (fun hb => ⟨rfl, hb⟩)
set_option maxHeartbeats 1000000 in
set_option maxRecDepth 100000 in
theorem rShr_any (k x : Nat) (hk : k < M256) (hx : x < M256) (w : World) :
    Calls Try.prog 51 #[.agg (wcells k), .agg (wcells x)] w fun e w' => e = .returned (.agg (wcells (shrN k x))) ∧ Below w.heap.size w w' := by
  by_cases h : k < 256
  · rw [show shrN k x = x / 2 ^ k from if_pos h]
    have hc : ∀ w, Calls Try.prog 89 #[.agg (wcells x), .int .i64 (-(k : Int)), .int .u8 0] w fun e w' => e = .returned (.agg (wcells (x / 2 ^ k))) ∧ Below w.heap.size w w' := fun w => moved_any x (x / 2 ^ k) (-(k : Int)) 0 (by omega) (by omega) (by omega) (Nat.lt_of_le_of_lt (Nat.div_le_self _ _) hx)
      (fun i m hi hm he => by rw [shr_bits i]; congr 1; omega)
      (fun i hi ho => by rw [shr_bits i, bit_high hx (by omega)]; rfl) w
    have HB := Lib.hid (rsmall_yes k h)
    generalize x / 2 ^ k = y at *
    have HC := Lib.hid hc
    clear hc hk hx
    have hS := St.start w
    go_enter Try.func51, Try.ntmps51
    go_wp2_with (first | (refine st_box hS rfl _ _ rfl rfl ?_; clear hS; intro w1 b1 hS) | (refine st_new hS rfl 23 rfl word_zero ?_; clear hS; intro w1 b1 hS) | (refine st_load hS rfl 23 _ rfl rfl (by repeat (first | exact At.head | apply At.tail)) word_type rfl word_size (wf_size _) ?_) | (go_at_call 87; with_reducible refine (HB.out _).mono ?_; rintro e w1 ⟨rfl, hb⟩; replace hS := hS.call hb; clear hb) | (go_at_call 89; with_reducible refine (HC.out _).mono ?_; rintro e w1 ⟨rfl, hb⟩; replace hS := hS.call hb; clear hb) | (refine st_store hS rfl 23 _ _ rfl rfl rfl (by repeat (first | exact Upd.head | apply Upd.tail)) word_size (wf_size _) (wf_size _) (wf_one _) ?_; clear hS; intro w1 hS))
    exact st_post hS 4 23 rfl rfl rfl (by repeat (first | exact At.head | apply At.tail)) word_type rfl word_size (wf_size _) (fun hb => ⟨rfl, hb⟩)
  · rw [show shrN k x = 0 from if_neg h]
    clear hx
    have HB := Lib.hid (rsmall_no k hk h)
    clear hk h
    generalize smallN k = sk at *
    have hS := St.start w
    go_enter Try.func51, Try.ntmps51
    go_wp2_with (first | (refine st_store (c' := wcells 0) hS rfl 23 _ _ rfl rfl word_lit_eq (by repeat (first | exact Upd.head | apply Upd.tail)) word_size (wf_size _) (wf_size _) (wf_one _) ?_; clear hS; intro w1 hS) | (refine st_box hS rfl _ _ rfl rfl ?_; clear hS; intro w1 b1 hS) | (refine st_new hS rfl 23 rfl word_zero ?_; clear hS; intro w1 b1 hS) | (refine st_load hS rfl 23 _ rfl rfl (by repeat (first | exact At.head | apply At.tail)) word_type rfl word_size (wf_size _) ?_) | (go_at_call 87; with_reducible refine (HB.out _).mono ?_; rintro e w1 ⟨rfl, hb⟩; replace hS := hS.call hb; clear hb))
    exact st_post hS 4 23 rfl rfl rfl (by repeat (first | exact At.head | apply At.tail)) word_type rfl word_size (wf_size _) (fun hb => ⟨rfl, hb⟩)
theorem sar_moved (x n : Nat) (hn : n ≤ 256) (hx : x < M256) (w : World) :
    Calls Try.prog 89 #[.agg (wcells x), .int .i64 (-(n : Int)), .int .u8 ((x.testBit 255).toNat : Int)] w fun e w' => e = .returned (.agg (wcells (sraN n x))) ∧ Below w.heap.size w w' := by
  refine moved_any x (sraN n x) (-(n : Int)) _ (by omega) (by omega) (by cases x.testBit 255 <;> decide) (by unfold sraN; split <;> exact sar_lt hx) (fun i m hi hm he => ?_) (fun i hi ho => ?_) w
  · unfold sraN
    split
    · rw [sar_bits hx i hi, if_pos (by omega)]; congr 1; omega
    · omega
  · rw [sign_bit hx]
    unfold sraN
    split
    · rw [sar_bits hx i hi, if_neg (by omega)]
    · rw [sar_bits hx i hi]
      by_cases h0 : i + 255 < 256
      · rw [if_pos h0, show i + 255 = 255 by omega, sign_bit hx]
      · rw [if_neg h0]
theorem k_call_wib {o : Oper} {a : Act} {ops : Array Oper} {rest : List Oper} {Q : Act → Prop} {w0 : World} {L : List Ent} {v : Value} {f : FuncId} {ts : Array TypeId} {x1 x2 x3 : Operand} {c1 : Array Value} {k2 k3 : IntKind} {m2 m3 : Int} (hw : Region.wanted o (yielded ops a.tmps) = true) (ho : o.op = .call { callee := .value (.func f), args := #[x1, x2, x3], argTypes := ts }) (h1 : a.eval x1 = .agg c1) (h2 : a.eval x2 = .int k2 m2) (h3 : a.eval x3 = .int k3 m3)
    (hc : (∀ args w, (callFunc f args).run Try.prog w = .ok (.enter f args) w) ∧ ∀ w, Calls Try.prog f #[.agg c1, .int k2 m2, .int k3 m3] w fun e w' => e = .returned v ∧ Below w.heap.size w w')
    (h : KQ ops (fun w' => St w0 w' L) Q rest (a.put o.dst v)) : KQ ops (fun w' => St w0 w' L) Q (o :: rest) a := k_call hw ho (by simp [h1, h2, h3]) hc h
theorem bit255 (x : Nat) (w : World) : Calls Try.prog 92 #[.agg (wcells x), .int .i64 255] w fun e w' => e = .returned (.int .u8 ((x.testBit 255).toNat : Int)) ∧ Below w.heap.size w w' := rbit_any x 255 (by decide) w
set_option maxHeartbeats 1000000 in
set_option maxRecDepth 100000 in
theorem rSar_any (k x : Nat) (hk : k < M256) (hx : x < M256) (w : World) :
    Calls Try.prog 53 #[.agg (wcells k), .agg (wcells x)] w fun e w' => e = .returned (.agg (wcells (sraN k x))) ∧ Below w.heap.size w w' := by
  by_cases h : k < 256
  · have hb := bit255 x
    have hm := sar_moved x k (by omega) hx
    have HB := Lib.hid (rsmall_yes k h)
    generalize sraN k x = y at *
    generalize (x.testBit 255).toNat = b at *
    have HS1 := Lib.hid (And.intro hb hm)
    have HN := Lib.hid (show IntKind.i64.wrap (-(k : Int)) = -(k : Int) from IntWalk.i64_in _ (by omega))
    clear hb hm hk hx
    have hS := St.start w
    go_enter Try.func53, Try.ntmps53
    go_wp2_with (first | (refine st_box hS rfl _ _ rfl rfl ?_; clear hS; intro w1 b1 hS) | (refine st_new hS rfl 23 rfl word_zero ?_; clear hS; intro w1 b1 hS) | (refine st_load hS rfl 23 _ rfl rfl (by repeat (first | exact At.head | apply At.tail)) word_type rfl word_size (wf_size _) ?_) | (go_at_call 87; with_reducible refine (HB.out _).mono ?_; rintro e w1 ⟨rfl, hb⟩; replace hS := hS.call hb; clear hb))
    refine k_region_head (C := fun w' => St w w' _) 6 (by kernel_rfl) (by kernel_rfl) hS.drew ?_
    simp only [List.take_succ_cons, List.take_zero, List.drop_succ_cons, List.drop_zero]
    repeat (first | (refine k_skip rfl rfl rfl rfl rfl ?_; try simp only [Act.put, List.setIfInBounds_toArray, List.set_cons_zero, List.set_cons_succ]) | (refine k_load rfl 23 _ rfl rfl (by repeat (first | exact At.head | apply At.tail)) word_type word_size (wf_size _) ?_; try simp only [Act.put, List.setIfInBounds_toArray, List.set_cons_zero, List.set_cons_succ]) | (refine k_neg rfl _ _ rfl rfl (by with_reducible exact HN.out) ?_; try simp only [Act.put, List.setIfInBounds_toArray, List.set_cons_zero, List.set_cons_succ]) | (refine k_call_wi rfl rfl rfl rfl (by with_reducible exact ⟨Try.call92, HS1.out.1⟩) ?_; try simp only [Act.put, List.setIfInBounds_toArray, List.set_cons_zero, List.set_cons_succ]) | (refine k_call_wib rfl rfl rfl rfl rfl (by with_reducible exact ⟨Try.call89, HS1.out.2⟩) ?_; try simp only [Act.put, List.setIfInBounds_toArray, List.set_cons_zero, List.set_cons_succ]) | (refine k_boolm rfl _ rfl rfl ?_; try simp only [Act.put, List.setIfInBounds_toArray, List.set_cons_zero, List.set_cons_succ]) | (refine k_boola rfl _ rfl rfl ?_; try simp only [Act.put, List.setIfInBounds_toArray, List.set_cons_zero, List.set_cons_succ]) | (refine k_intm rfl _ rfl rfl ?_; try simp only [Act.put, List.setIfInBounds_toArray, List.set_cons_zero, List.set_cons_succ]) | (refine k_inta rfl _ rfl rfl ?_; try simp only [Act.put, List.setIfInBounds_toArray, List.set_cons_zero, List.set_cons_succ]) | (refine k_pickT rfl _ _ _ rfl rfl rfl ?_; try simp only [Act.put, List.setIfInBounds_toArray, List.set_cons_zero, List.set_cons_succ]) | (refine k_pickF rfl _ _ _ rfl rfl rfl ?_; try simp only [Act.put, List.setIfInBounds_toArray, List.set_cons_zero, List.set_cons_succ]) | (refine k_bools rfl _ _ _ rfl rfl rfl ?_; try simp only [Act.put, List.setIfInBounds_toArray, List.set_cons_zero, List.set_cons_succ]))
    refine k_end ?_
    clear hS
    intro w1 hS
    go_wp2_with (first | (refine st_store hS rfl 23 _ _ rfl rfl rfl (by repeat (first | exact Upd.head | apply Upd.tail)) word_size (wf_size _) (wf_size _) (wf_one _) ?_; clear hS; intro w1 hS))
    exact st_post hS 4 23 rfl rfl rfl (by repeat (first | exact At.head | apply At.tail)) word_type rfl word_size (wf_size _) (fun hb => ⟨rfl, hb⟩)
  · have hb := bit255 x
    have hm := sar_moved x 256 (by omega) hx
    rw [show sraN 256 x = sraN k x by unfold sraN; rw [if_neg (by omega), if_neg h]] at hm
    have HB := Lib.hid (rsmall_no k hk h)
    generalize smallN k = sk at *
    generalize sraN k x = y at *
    generalize (x.testBit 255).toNat = b at *
    have HS1 := Lib.hid (And.intro hb hm)
    have HN := Lib.hid (show IntKind.i64.wrap (-(256 : Int)) = -((256 : Nat) : Int) from IntWalk.i64_in _ (by omega))
    clear hb hm hk hx h
    have hS := St.start w
    go_enter Try.func53, Try.ntmps53
    go_wp2_with (first | (refine st_box hS rfl _ _ rfl rfl ?_; clear hS; intro w1 b1 hS) | (refine st_new hS rfl 23 rfl word_zero ?_; clear hS; intro w1 b1 hS) | (refine st_load hS rfl 23 _ rfl rfl (by repeat (first | exact At.head | apply At.tail)) word_type rfl word_size (wf_size _) ?_) | (go_at_call 87; with_reducible refine (HB.out _).mono ?_; rintro e w1 ⟨rfl, hb⟩; replace hS := hS.call hb; clear hb))
    refine k_region_head (C := fun w' => St w w' _) 6 (by kernel_rfl) (by kernel_rfl) hS.drew ?_
    simp only [List.take_succ_cons, List.take_zero, List.drop_succ_cons, List.drop_zero]
    repeat (first | (refine k_skip rfl rfl rfl rfl rfl ?_; try simp only [Act.put, List.setIfInBounds_toArray, List.set_cons_zero, List.set_cons_succ]) | (refine k_load rfl 23 _ rfl rfl (by repeat (first | exact At.head | apply At.tail)) word_type word_size (wf_size _) ?_; try simp only [Act.put, List.setIfInBounds_toArray, List.set_cons_zero, List.set_cons_succ]) | (refine k_neg rfl _ _ rfl rfl (by with_reducible exact HN.out) ?_; try simp only [Act.put, List.setIfInBounds_toArray, List.set_cons_zero, List.set_cons_succ]) | (refine k_call_wi rfl rfl rfl rfl (by with_reducible exact ⟨Try.call92, HS1.out.1⟩) ?_; try simp only [Act.put, List.setIfInBounds_toArray, List.set_cons_zero, List.set_cons_succ]) | (refine k_call_wib rfl rfl rfl rfl rfl (by with_reducible exact ⟨Try.call89, HS1.out.2⟩) ?_; try simp only [Act.put, List.setIfInBounds_toArray, List.set_cons_zero, List.set_cons_succ]) | (refine k_boolm rfl _ rfl rfl ?_; try simp only [Act.put, List.setIfInBounds_toArray, List.set_cons_zero, List.set_cons_succ]) | (refine k_boola rfl _ rfl rfl ?_; try simp only [Act.put, List.setIfInBounds_toArray, List.set_cons_zero, List.set_cons_succ]) | (refine k_intm rfl _ rfl rfl ?_; try simp only [Act.put, List.setIfInBounds_toArray, List.set_cons_zero, List.set_cons_succ]) | (refine k_inta rfl _ rfl rfl ?_; try simp only [Act.put, List.setIfInBounds_toArray, List.set_cons_zero, List.set_cons_succ]) | (refine k_pickT rfl _ _ _ rfl rfl rfl ?_; try simp only [Act.put, List.setIfInBounds_toArray, List.set_cons_zero, List.set_cons_succ]) | (refine k_pickF rfl _ _ _ rfl rfl rfl ?_; try simp only [Act.put, List.setIfInBounds_toArray, List.set_cons_zero, List.set_cons_succ]) | (refine k_bools rfl _ _ _ rfl rfl rfl ?_; try simp only [Act.put, List.setIfInBounds_toArray, List.set_cons_zero, List.set_cons_succ]))
    refine k_end ?_
    clear hS
    intro w1 hS
    go_wp2_with (first | (refine st_store hS rfl 23 _ _ rfl rfl rfl (by repeat (first | exact Upd.head | apply Upd.tail)) word_size (wf_size _) (wf_size _) (wf_one _) ?_; clear hS; intro w1 hS))
    exact st_post hS 4 23 rfl rfl rfl (by repeat (first | exact At.head | apply At.tail)) word_type rfl word_size (wf_size _) (fun hb => ⟨rfl, hb⟩)
end Go.Proofs.Ytcdjinjeogodfaa
