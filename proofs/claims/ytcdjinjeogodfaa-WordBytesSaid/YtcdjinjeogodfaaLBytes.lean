/- The law WordBytes: for every word its bytes, one by one, are the word; there is no 33rd byte; shifted by its length it is nought, and by one less it is one. No condition. -/
import Derived.Test.YtcdjinjeogodfaaH
import Derived.Test.YtcdjinjeogodfaaK
import Derived.Test.YtcdjinjeogodfaaN
namespace Go.Proofs.Ytcdjinjeogodfaa.BytesLaw
open Go.ChangeShapes Go.WideShapes Go.ChangeAt Go.RowKit
set_option linter.unusedVariables false

theorem big : 1000 < M256 := by unfold M256; decide
theorem wint_small (k : Nat) (h : k < 1000) : wint k = k := wint_nat (by have := big; omega)
theorem byt_k (k x : Nat) (h : k < 32) (w : World) : Calls Try.prog 46 #[.agg (wcells (wint k)), .agg (wcells x)] w fun e w' => e = .returned (.agg (wcells (byt x k))) ∧ Below w.heap.size w w' := by
  rw [wint_small k (by omega)]
  have := Byte_any k x (by have := big; omega) w
  rwa [show bytN k x = byt x k from if_pos h] at this
theorem byt_none (x : Nat) (w : World) : Calls Try.prog 46 #[.agg (wcells (wint 32)), .agg (wcells x)] w fun e w' => e = .returned (.agg (wcells 0)) ∧ Below w.heap.size w w' := by
  rw [show wint 32 = 32 from wint_small 32 (by omega)]
  exact Byte_any 32 x (by have := big; omega) w
theorem of_k (k : Nat) (h : k < 1000) (w : World) : Calls Try.prog 58 #[.int .i64 (k : Int)] w fun e w' => e = .returned (.agg (wcells (wint k))) ∧ Below w.heap.size w w' := of_any k (by omega) w
theorem shr_k (n x : Nat) (h : n < 1000) (hx : x < M256) (w : World) : Calls Try.prog 50 #[.agg (wcells (wint n)), .agg (wcells x)] w fun e w' => e = .returned (.agg (wcells (shrN n x))) ∧ Below w.heap.size w w' := by
  rw [wint_small n h]; exact Shr_any n x (by have := big; omega) hx w
theorem shr_lt {n x : Nat} (hx : x < M256) : shrN n x < M256 := by
  unfold shrN; split
  · exact Nat.lt_of_le_of_lt (Nat.div_le_self _ _) hx
  · exact M256_pos
theorem len_le {y : Nat} (hy : y < M256) : bitLen y ≤ 256 := len_of_lt hy
theorem shr_all {x : Nat} : shrN (bitLen x) x = 0 := by
  unfold shrN; split
  · exact Nat.div_eq_of_lt (bitLen_spec x).1
  · rfl
theorem shr_top {x m : Nat} (hx : x < M256) (h : bitLen x = m + 1) : shrN m x = wint 1 := by
  have h0 : x ≠ 0 := by rintro rfl; cases h
  have h1 := (bitLen_spec x).2 h0
  have h2 := (bitLen_spec x).1
  have h3 := len_le hx
  rw [h] at h1 h2
  rw [show wint 1 = 1 from wint_small 1 (by omega)]
  unfold shrN
  rw [if_pos (by omega)]
  rw [Nat.add_sub_cancel] at h1
  rw [Nat.pow_succ] at h2
  exact Nat.div_eq_of_lt_le (by omega) (by omega)
theorem built {a : Act} {o : Oper} (ho : o.op = .build 23 #[]) (w : World) : (execOp a.eval o).run Try.prog w = .ok (.value (.agg (wcells 0))) w := by
  unfold execOp
  simp only [ho]
  rw [← word_lit_eq]
  kernel_rfl
theorem k_nought {o : Oper} {a : Act} {ops : Array Oper} {rest : List Oper} {C : World → Prop} {Q : Act → Prop} (hw : Region.wanted o (yielded ops a.tmps) = true) (ho : o.op = .build 23 #[])
    (h : KQ ops C Q rest (a.put o.dst (.agg (wcells 0)))) : KQ ops C Q (o :: rest) a := k_pure hw (built ho) h

set_option maxHeartbeats 1000000 in
set_option maxRecDepth 100000 in
theorem walk (a : Nat) (ha : a < M256) (w : World) :
    Calls Try.prog 15 #[.agg (wcells a)] w fun e w' => e = .returned (.bool true) ∧ Below w.heap.size w w' := by
  have HL := Lib.hid ha
  clear ha
  have hS := St.start w
  go_enter Try.func15, Try.ntmps15
  go_wp2_with (first | (refine st_box hS rfl _ _ rfl rfl ?_; clear hS; intro w1 ba hS) | (refine st_new hS rfl 23 rfl word_zero ?_; clear hS; intro w1 bb hS) | (go_at_call 17; refine (alive_any _).mono ?_; rintro e w1 ⟨rfl, hb⟩; replace hS := hS.call hb; clear hb))
  go_loopw [5] (fun i wr => ∃ k : Nat, k ≤ 32 ∧ i = .int .i64 k ∧ St w wr [(bb, 23, wf fun i => if i < k then byt a i else byt 0 i), (ba, 23, wcells a)]) (fun i _ => 32 - (intOf i).toNat)
  case atStart =>
    refine ⟨0, by omega, rfl, ?_⟩
    exact hS
  case round =>
    clear hS
    obtain ⟨k, hk, rfl, hS⟩ := hrel
    by_cases hlt : k < 32
    · go_wp2_with (fail)
      go_cut [6] (fun s6 wx => ∃ b6 : Nat, s6 = .pointer (some ⟨b6, 0, none⟩) ∧ St w wx [(b6, 23, wcells (byt a k)), (bb, 23, wf fun i => if i < k then byt a i else byt 0 i), (ba, 23, wcells a)])
      case first =>
        refine wp_region_held_drew (S := fun w' => St w w' _) (by kernel_rfl) hS.drew fun _ => ?_
        replace hS := hS.drew
        simp only [List.size_toArray, List.length_cons, List.length_nil, Nat.reduceAdd, Array.replicate_succ, Array.replicate_zero, List.push_toArray, List.nil_append, List.cons_append]
        refine wpAnyH_take (i := 0) rfl (by kernel_rfl) (by kernel_rfl) (by kernel_rfl) (fun _ _ _ h => h) (y_move rfl _ (.inl rfl) rfl) hS ?_; simp only [Act.put, List.getElem_toArray, List.getElem_cons_succ, List.getElem_cons_zero, List.setIfInBounds_toArray, List.set_cons_zero, List.set_cons_succ]
        refine wpAnyH_take (i := 2) rfl (by kernel_rfl) (by kernel_rfl) (by kernel_rfl) (fun _ _ _ h => h) (y_load rfl 23 _ rfl rfl (by repeat (first | exact At.head | apply At.tail)) word_type rfl word_size (wf_size _)) hS ?_; simp only [Act.put, List.getElem_toArray, List.getElem_cons_succ, List.getElem_cons_zero, List.setIfInBounds_toArray, List.set_cons_zero, List.set_cons_succ]
        refine wpAnyH_all (rs := [1, 4]) (by kernel_rfl) (by simp) ?_
        intro i hi
        have hi2 : i = 1 ∨ i = 4 := by simpa using hi
        rcases hi2 with rfl | rfl
        ·
          refine o_call rfl rfl (by kernel_rfl) (of_k k (by omega) _) hS fun w1 hS => ⟨hS, ?_⟩
          simp only [Act.put, List.getElem_toArray, List.getElem_cons_succ, List.getElem_cons_zero, List.setIfInBounds_toArray, List.set_cons_zero, List.set_cons_succ]
          refine wpAnyH_all (rs := [3, 4]) (by kernel_rfl) (by simp) ?_
          intro i hi
          have hi2 : i = 3 ∨ i = 4 := by simpa using hi
          rcases hi2 with rfl | rfl
          ·
            refine o_call rfl rfl (by kernel_rfl) (byt_k k a hlt _) hS fun w1 hS => ⟨hS, ?_⟩
            simp only [Act.put, List.getElem_toArray, List.getElem_cons_succ, List.getElem_cons_zero, List.setIfInBounds_toArray, List.set_cons_zero, List.set_cons_succ]
            refine wpAnyH_all (rs := [4]) (by kernel_rfl) (by simp) ?_
            intro i hi
            obtain rfl : i = 4 := by simpa using hi
            refine o_new rfl rfl 23 rfl word_zero hS fun w1 bn hS => ⟨hS.drop, ?_⟩
            simp only [Act.put, List.getElem_toArray, List.getElem_cons_succ, List.getElem_cons_zero, List.setIfInBounds_toArray, List.set_cons_zero, List.set_cons_succ]
            refine wpAnyH_all (rs := [5]) (by kernel_rfl) (by simp) ?_
            intro i hi
            obtain rfl : i = 5 := by simpa using hi
            refine o_store (c' := wcells (byt a k)) rfl rfl hS 23 _ _ rfl rfl rfl (by repeat (first | exact Upd.head | apply Upd.tail)) word_size (wf_size _) (wf_size _) (wf_one _) fun w1 hS => ⟨hS.drop, ?_⟩
            simp only [Act.put, List.getElem_toArray, List.getElem_cons_succ, List.getElem_cons_zero, List.setIfInBounds_toArray, List.set_cons_zero, List.set_cons_succ]
            refine wpAnyH_done (by kernel_rfl) ?_ _
            go_wp2_with (fail)
            go_meet
            exact ⟨_, rfl, hS⟩
          ·
            refine o_new rfl rfl 23 rfl word_zero hS fun w1 bn hS => ⟨hS.drop, ?_⟩
            simp only [Act.put, List.getElem_toArray, List.getElem_cons_succ, List.getElem_cons_zero, List.setIfInBounds_toArray, List.set_cons_zero, List.set_cons_succ]
            refine wpAnyH_all (rs := [3]) (by kernel_rfl) (by simp) ?_
            intro i hi
            obtain rfl : i = 3 := by simpa using hi
            refine o_call rfl rfl (by kernel_rfl) (byt_k k a hlt _) hS fun w1 hS => ⟨hS.drop, ?_⟩
            simp only [Act.put, List.getElem_toArray, List.getElem_cons_succ, List.getElem_cons_zero, List.setIfInBounds_toArray, List.set_cons_zero, List.set_cons_succ]
            refine wpAnyH_all (rs := [5]) (by kernel_rfl) (by simp) ?_
            intro i hi
            obtain rfl : i = 5 := by simpa using hi
            refine o_store (c' := wcells (byt a k)) rfl rfl hS 23 _ _ rfl rfl rfl (by repeat (first | exact Upd.head | apply Upd.tail)) word_size (wf_size _) (wf_size _) (wf_one _) fun w1 hS => ⟨hS.drop, ?_⟩
            simp only [Act.put, List.getElem_toArray, List.getElem_cons_succ, List.getElem_cons_zero, List.setIfInBounds_toArray, List.set_cons_zero, List.set_cons_succ]
            refine wpAnyH_done (by kernel_rfl) ?_ _
            go_wp2_with (fail)
            go_meet
            exact ⟨_, rfl, hS⟩
        ·
          refine o_new rfl rfl 23 rfl word_zero hS fun w1 bn hS => ⟨hS.drop, ?_⟩
          simp only [Act.put, List.getElem_toArray, List.getElem_cons_succ, List.getElem_cons_zero, List.setIfInBounds_toArray, List.set_cons_zero, List.set_cons_succ]
          refine wpAnyH_all (rs := [1]) (by kernel_rfl) (by simp) ?_
          intro i hi
          obtain rfl : i = 1 := by simpa using hi
          refine o_call rfl rfl (by kernel_rfl) (of_k k (by omega) _) hS fun w1 hS => ⟨hS.drop, ?_⟩
          simp only [Act.put, List.getElem_toArray, List.getElem_cons_succ, List.getElem_cons_zero, List.setIfInBounds_toArray, List.set_cons_zero, List.set_cons_succ]
          refine wpAnyH_all (rs := [3]) (by kernel_rfl) (by simp) ?_
          intro i hi
          obtain rfl : i = 3 := by simpa using hi
          refine o_call rfl rfl (by kernel_rfl) (byt_k k a hlt _) hS fun w1 hS => ⟨hS.drop, ?_⟩
          simp only [Act.put, List.getElem_toArray, List.getElem_cons_succ, List.getElem_cons_zero, List.setIfInBounds_toArray, List.set_cons_zero, List.set_cons_succ]
          refine wpAnyH_all (rs := [5]) (by kernel_rfl) (by simp) ?_
          intro i hi
          obtain rfl : i = 5 := by simpa using hi
          refine o_store (c' := wcells (byt a k)) rfl rfl hS 23 _ _ rfl rfl rfl (by repeat (first | exact Upd.head | apply Upd.tail)) word_size (wf_size _) (wf_size _) (wf_one _) fun w1 hS => ⟨hS.drop, ?_⟩
          simp only [Act.put, List.getElem_toArray, List.getElem_cons_succ, List.getElem_cons_zero, List.setIfInBounds_toArray, List.set_cons_zero, List.set_cons_succ]
          refine wpAnyH_done (by kernel_rfl) ?_ _
          go_wp2_with (fail)
          go_meet
          exact ⟨_, rfl, hS⟩
      case rest =>
        clear hS
        obtain ⟨b6, rfl, hS⟩ := hcut
        have hv := byt_lt a k
        have hstep := fun v hv => wf_step (f := byt 0) (g := byt a) (k := k) (v := v) hlt hv
        obtain ⟨v, hvd⟩ : ∃ v, v = byt a k := ⟨_, rfl⟩
        have hi := fun w => int_small v (by have := big; omega) (len_of_lt (show v < 2 ^ 63 by omega)) w
        have hs := hstep (v : Int) (by rw [hvd])
        rw [← hvd] at hS hv
        have HI := Lib.hid (And.intro hi hs)
        clear hvd hi hs hstep
        go_wp2_with (first | (refine st_load hS rfl 23 _ rfl rfl (by repeat (first | exact At.head | apply At.tail)) word_type rfl word_size (wf_size _) ?_) | (go_at_call 56; with_reducible refine (HI.out.1 _).mono ?_; rintro e w1 ⟨rfl, hb⟩; replace hS := hS.call hb; clear hb) | (refine st_store1 (j := k) hS rfl 5 _ _ rfl rfl rfl u8_size (by repeat (first | exact Upd.head | apply Upd.tail)) (by rw [wf_size]; omega) ?_; clear hS; intro w1 hS; rw [HI.out.2] at hS))
        go_roundw
        case rel => exact ⟨k + 1, by omega, by go_num, hS.drop⟩
        case measure => simp [intOf]; omega
    · rw [wf_end hlt] at hS
      have hl := len_le HL.out
      obtain ⟨n, hn⟩ : ∃ n, n = bitLen a := ⟨_, rfl⟩
      have hc := fun w => bits_any a HL.out w
      have hall := shr_all (x := a)
      have htop := fun m => shr_top (m := m) HL.out
      rw [← hn] at hl hc hall htop
      have HN := Lib.hid (And.intro (show n < 1000 by omega) hall)
      have HC := Lib.hid hc
      clear hn hc hall
      rcases Nat.eq_zero_or_pos n with h0 | h0
      · have hz : ((n : Int) == 0) = true := by simp [h0]
        have HZ := Lib.hid hz
        clear hz h0 htop
        go_wp2_with (first | (refine st_load hS rfl 23 _ rfl rfl (by repeat (first | exact At.head | apply At.tail)) word_type rfl word_size (wf_size _) ?_) | (go_at_call 63; with_reducible refine (HC.out _).mono ?_; rintro e w1 ⟨rfl, hb⟩; replace hS := hS.call hb; clear hb))
        refine k_region (C := fun w' => St w w' _) (by kernel_rfl) (by kernel_rfl) hS.drew ?_
        repeat (first | (refine k_skip rfl rfl rfl rfl rfl ?_; try simp only [Act.put, List.setIfInBounds_toArray, List.set_cons_zero, List.set_cons_succ]) | (refine k_load rfl 23 _ rfl rfl (by repeat (first | exact At.head | apply At.tail)) word_type word_size (wf_size _) ?_; try simp only [Act.put, List.setIfInBounds_toArray, List.set_cons_zero, List.set_cons_succ]) | (refine k_words rfl _ _ _ rfl rfl rfl (by with_reducible first | exact ⟨HL.out, HL.out, decide_eq_true rfl⟩ | exact ⟨M256_pos, M256_pos, decide_eq_true rfl⟩ | exact ⟨shr_lt HL.out, M256_pos, decide_eq_true HN.out.2⟩) ?_; try simp only [Act.put, List.setIfInBounds_toArray, List.set_cons_zero, List.set_cons_succ]) | (refine k_ints rfl _ _ _ rfl rfl rfl (by with_reducible first | exact HZ.out) ?_; try simp only [Act.put, List.setIfInBounds_toArray, List.set_cons_zero, List.set_cons_succ]) | (refine k_nought rfl rfl ?_; try simp only [Act.put, List.setIfInBounds_toArray, List.set_cons_zero, List.set_cons_succ]) | (refine k_boolm rfl _ rfl rfl ?_; try simp only [Act.put, List.setIfInBounds_toArray, List.set_cons_zero, List.set_cons_succ]) | (refine k_boola rfl _ rfl rfl ?_; try simp only [Act.put, List.setIfInBounds_toArray, List.set_cons_zero, List.set_cons_succ]) | (refine k_intm rfl _ rfl rfl ?_; try simp only [Act.put, List.setIfInBounds_toArray, List.set_cons_zero, List.set_cons_succ]) | (refine k_inta rfl _ rfl rfl ?_; try simp only [Act.put, List.setIfInBounds_toArray, List.set_cons_zero, List.set_cons_succ]) | (refine k_pickT rfl _ _ _ rfl rfl rfl ?_; try simp only [Act.put, List.setIfInBounds_toArray, List.set_cons_zero, List.set_cons_succ]) | (refine k_pickF rfl _ _ _ rfl rfl rfl ?_; try simp only [Act.put, List.setIfInBounds_toArray, List.set_cons_zero, List.set_cons_succ]) | (refine k_bools rfl _ _ _ rfl rfl rfl ?_; try simp only [Act.put, List.setIfInBounds_toArray, List.set_cons_zero, List.set_cons_succ]) | (refine k_call_i rfl rfl rfl (by with_reducible first | exact ⟨Try.call58, of_any 32 (by omega)⟩ | exact ⟨Try.call58, of_k n (by with_reducible exact HN.out.1)⟩) ?_; try simp only [Act.put, List.setIfInBounds_toArray, List.set_cons_zero, List.set_cons_succ]) | (refine k_call_ww rfl rfl rfl rfl (by with_reducible first | exact ⟨Try.call46, byt_none _⟩ | exact ⟨Try.call50, shr_k n _ HN.out.1 HL.out⟩) ?_; try simp only [Act.put, List.setIfInBounds_toArray, List.set_cons_zero, List.set_cons_succ]))
        refine k_end ?_
        clear hS
        intro w1 hS
        go_wp2_with (fail)
        go_ret
        exact ⟨rfl, hS.below⟩
      · obtain ⟨m, hm⟩ : ∃ m, n = m + 1 := ⟨n - 1, by omega⟩
        have hz : ((n : Int) == 0) = false := by simp; omega
        have hsub : IntKind.i64.wrap ((n : Int) - 1) = (m : Int) := by rw [IntWalk.i64_in _ (by omega)]; omega
        have HM := Lib.hid (And.intro (show m < 1000 by omega) (And.intro (htop m hm) (And.intro hz hsub)))
        clear hz h0 htop hsub hm
        go_wp2_with (first | (refine st_load hS rfl 23 _ rfl rfl (by repeat (first | exact At.head | apply At.tail)) word_type rfl word_size (wf_size _) ?_) | (go_at_call 63; with_reducible refine (HC.out _).mono ?_; rintro e w1 ⟨rfl, hb⟩; replace hS := hS.call hb; clear hb))
        refine k_region (C := fun w' => St w w' _) (by kernel_rfl) (by kernel_rfl) hS.drew ?_
        repeat (first | (refine k_skip rfl rfl rfl rfl rfl ?_; try simp only [Act.put, List.setIfInBounds_toArray, List.set_cons_zero, List.set_cons_succ]) | (refine k_load rfl 23 _ rfl rfl (by repeat (first | exact At.head | apply At.tail)) word_type word_size (wf_size _) ?_; try simp only [Act.put, List.setIfInBounds_toArray, List.set_cons_zero, List.set_cons_succ]) | (refine k_words rfl _ _ _ rfl rfl rfl (by with_reducible first | exact ⟨HL.out, HL.out, decide_eq_true rfl⟩ | exact ⟨M256_pos, M256_pos, decide_eq_true rfl⟩ | exact ⟨shr_lt HL.out, M256_pos, decide_eq_true HN.out.2⟩ | exact ⟨shr_lt HL.out, wint_lt _, decide_eq_true HM.out.2.1⟩) ?_; try simp only [Act.put, List.setIfInBounds_toArray, List.set_cons_zero, List.set_cons_succ]) | (refine k_ints rfl _ _ _ rfl rfl rfl (by with_reducible first | exact HM.out.2.2.1) ?_; try simp only [Act.put, List.setIfInBounds_toArray, List.set_cons_zero, List.set_cons_succ]) | (refine k_nought rfl rfl ?_; try simp only [Act.put, List.setIfInBounds_toArray, List.set_cons_zero, List.set_cons_succ]) | (refine k_sub rfl _ _ _ _ rfl rfl rfl HM.out.2.2.2 ?_; try simp only [Act.put, List.setIfInBounds_toArray, List.set_cons_zero, List.set_cons_succ]) | (refine k_boolm rfl _ rfl rfl ?_; try simp only [Act.put, List.setIfInBounds_toArray, List.set_cons_zero, List.set_cons_succ]) | (refine k_boola rfl _ rfl rfl ?_; try simp only [Act.put, List.setIfInBounds_toArray, List.set_cons_zero, List.set_cons_succ]) | (refine k_intm rfl _ rfl rfl ?_; try simp only [Act.put, List.setIfInBounds_toArray, List.set_cons_zero, List.set_cons_succ]) | (refine k_inta rfl _ rfl rfl ?_; try simp only [Act.put, List.setIfInBounds_toArray, List.set_cons_zero, List.set_cons_succ]) | (refine k_pickT rfl _ _ _ rfl rfl rfl ?_; try simp only [Act.put, List.setIfInBounds_toArray, List.set_cons_zero, List.set_cons_succ]) | (refine k_pickF rfl _ _ _ rfl rfl rfl ?_; try simp only [Act.put, List.setIfInBounds_toArray, List.set_cons_zero, List.set_cons_succ]) | (refine k_bools rfl _ _ _ rfl rfl rfl ?_; try simp only [Act.put, List.setIfInBounds_toArray, List.set_cons_zero, List.set_cons_succ]) | (refine k_call_i rfl rfl rfl (by with_reducible first | exact ⟨Try.call58, of_any 32 (by omega)⟩ | exact ⟨Try.call58, of_any 1 (by omega)⟩ | exact ⟨Try.call58, of_k n (by with_reducible exact HN.out.1)⟩ | exact ⟨Try.call58, of_k m (by with_reducible exact HM.out.1)⟩) ?_; try simp only [Act.put, List.setIfInBounds_toArray, List.set_cons_zero, List.set_cons_succ]) | (refine k_call_ww rfl rfl rfl rfl (by with_reducible first | exact ⟨Try.call46, byt_none _⟩ | exact ⟨Try.call50, shr_k n _ HN.out.1 HL.out⟩ | exact ⟨Try.call50, shr_k m _ HM.out.1 HL.out⟩) ?_; try simp only [Act.put, List.setIfInBounds_toArray, List.set_cons_zero, List.set_cons_succ]))
        refine k_end ?_
        clear hS
        intro w1 hS
        go_wp2_with (fail)
        go_ret
        exact ⟨rfl, hS.below⟩
end Go.Proofs.Ytcdjinjeogodfaa.BytesLaw
