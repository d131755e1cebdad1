/- The law WordHalves: for every word and every integer. No condition. -/
import Derived.Test.YtcdjinjeogodfaaE1
import Derived.Test.YtcdjinjeogodfaaH
import Derived.Test.YtcdjinjeogodfaaK
import Derived.Test.YtcdjinjeogodfaaN
namespace Go.Proofs.Ytcdjinjeogodfaa.HalvesLaw
open Go.ChangeShapes Go.WideShapes Go.ChangeAt Go.RowKit
set_option linter.unusedVariables false

theorem bounds_of {n : Int} (h : (Lit.int .i64 n).wf = true) : -9223372036854775808 ≤ n ∧ n ≤ 9223372036854775807 := by
  simp [Lit.wf, IntKind.min, IntKind.max, IntKind.bits, IntKind.signed] at h
  omega
theorem big : 1000 < M256 := by unfold M256; decide
theorem wint_small (k : Nat) (h : k < 1000) : wint k = k := wint_nat (by have := big; omega)
theorem of_k (k : Nat) (h : k < 1000) (w : World) : Calls Try.prog 58 #[.int .i64 (k : Int)] w fun e w' => e = .returned (.agg (wcells (wint k))) ∧ Below w.heap.size w w' := of_any k (by omega) w
theorem of_2 (w : World) : Calls Try.prog 58 #[.int .i64 2] w fun e w' => e = .returned (.agg (wcells (wint 2))) ∧ Below w.heap.size w w' := of_any 2 (by omega) w
theorem two_lt {k : Nat} (h : k < 256) : 2 ^ k < M256 := Nat.pow_lt_pow_right (by decide) h
theorem exp_k (k : Nat) (h : k < 256) (t : Nat) (ht : t = 2 ^ k) (w : World) : Calls Try.prog 36 #[.agg (wcells (wint 2)), .agg (wcells (wint k))] w fun e w' => e = .returned (.agg (wcells t)) ∧ Below w.heap.size w w' := by
  rw [wint_small k (by omega), show wint 2 = 2 from wint_small 2 (by decide), ht, ← show wpow 2 k = 2 ^ k from Nat.mod_eq_of_lt (two_lt h)]; exact exp_any 2 k (by have := big; omega) (by have := big; omega) w
theorem shl_k (n x : Nat) (h : n < 256) (hx : x < M256) (w : World) : Calls Try.prog 48 #[.agg (wcells (wint n)), .agg (wcells x)] w fun e w' => e = .returned (.agg (wcells (shlN n x))) ∧ Below w.heap.size w w' := by
  rw [wint_small n (by omega)]; exact Shl_any n x (by have := big; omega) hx w
theorem shr_k (n x : Nat) (h : n < 256) (hx : x < M256) (w : World) : Calls Try.prog 50 #[.agg (wcells (wint n)), .agg (wcells x)] w fun e w' => e = .returned (.agg (wcells (shrN n x))) ∧ Below w.heap.size w w' := by
  rw [wint_small n (by omega)]; exact Shr_any n x (by have := big; omega) hx w
theorem shl_lt (n x : Nat) : shlN n x < M256 := by
  unfold shlN; split
  · exact Nat.mod_lt _ M256_pos
  · exact M256_pos
theorem shr_lt {n x : Nat} (hx : x < M256) : shrN n x < M256 := by
  unfold shrN; split
  · exact Nat.lt_of_le_of_lt (Nat.div_le_self _ _) hx
  · exact M256_pos
theorem halves_up {a k t : Nat} (hk : k < 256) (ha : a < M256) (ht : t = 2 ^ k) : wadd (shlN k (shrN k a)) (wrest a t) = a := by
  have hp : 0 < 2 ^ k := Nat.two_pow_pos k
  have hm := Nat.div_add_mod a (2 ^ k)
  have hle : a / 2 ^ k * 2 ^ k ≤ a := Nat.div_mul_le_self _ _
  unfold wadd shlN shrN wrest
  rw [if_pos hk, if_pos hk, ht, if_neg (by omega), Nat.mod_eq_of_lt (Nat.lt_of_le_of_lt hle ha), Nat.mul_comm, hm, Nat.mod_eq_of_lt ha]
theorem halves_mul {a k t : Nat} (hk : k < 256) (ht : t = 2 ^ k) : shlN k a = wmul a t := by
  unfold shlN wmul; rw [if_pos hk, ht]
theorem halves_div {a k t : Nat} (hk : k < 256) (ht : t = 2 ^ k) : shrN k a = a / t := by
  unfold shrN; rw [if_pos hk, ht]

set_option maxHeartbeats 8000000 in
set_option maxRecDepth 100000 in
theorem walk_in (a k t : Nat) (hk : k < 256) (ht : t = 2 ^ k) (ha : a < M256) (w : World) :
    Calls Try.prog 14 #[.agg (wcells a), .int .i64 (k : Int)] w fun e w' => e = .returned (.bool true) ∧ Below w.heap.size w w' := by
  have HK := Lib.hid (And.intro (show k < 1000 by omega) (And.intro hk (And.intro ha (And.intro (show t < M256 by rw [ht]; exact two_lt hk) ht))))
  clear ha ht
  have hS := St.start w
  go_enter Try.func14, Try.ntmps14
  go_upto_region 5 with (first | (refine st_new hS rfl 23 rfl word_zero ?_; clear hS; intro w1 b1 hS) | (refine st_store hS rfl 23 _ _ rfl rfl rfl (by repeat (first | exact Upd.head | apply Upd.tail)) word_size (wf_size _) (wf_size _) (wf_one _) ?_; clear hS; intro w1 hS) | (go_at_call 58; with_reducible refine (of_k k HK.out.1 _).mono ?_; rintro e w1 ⟨rfl, hb⟩; replace hS := hS.call hb; clear hb) | (first | (refine st_box hS rfl _ _ rfl rfl ?_; clear hS; intro w1 b1 hS) | (go_at_call 17; refine (alive_any _).mono ?_; rintro e w1 ⟨rfl, hb⟩; replace hS := hS.call hb; clear hb)))
  try simp only [Act.put, List.setIfInBounds_toArray, List.set_cons_zero, List.set_cons_succ]
  go_cut [2, 6, 7] (fun s2 s6 s7 wx => ∃ b2 b6 b7 : Nat, s2 = .pointer (some ⟨b2, 0, none⟩) ∧ s6 = .pointer (some ⟨b6, 0, none⟩) ∧ s7 = .pointer (some ⟨b7, 0, none⟩) ∧ St w wx [(b7, 23, wcells t), (b6, 23, wcells (wint (k : Int))), (b2, 23, wcells a)])
  case first =>
    refine wp_region_held_drew (S := fun w' => St w w' _) (by kernel_rfl) hS.drew fun _ => ?_
    replace hS := hS.drew
    simp only [List.size_toArray, List.length_cons, List.length_nil, Nat.reduceAdd, Array.replicate_succ, Array.replicate_zero, List.push_toArray, List.nil_append, List.cons_append]
    refine wpAnyH_take (i := 1) rfl (by kernel_rfl) (by kernel_rfl) (by kernel_rfl) (fun _ _ _ h => h) (y_load rfl 23 _ rfl rfl (by repeat (first | exact At.head | apply At.tail)) word_type rfl word_size (wf_size _)) hS ?_; simp only [Act.put, List.getElem_toArray, List.getElem_cons_succ, List.getElem_cons_zero, List.setIfInBounds_toArray, List.set_cons_zero, List.set_cons_succ]
    refine wpAnyH_all (rs := [0, 3]) (by kernel_rfl) (by simp) ?_
    intro i hi
    have hi2 : i = 0 ∨ i = 3 := by simpa using hi
    rcases hi2 with rfl | rfl
    ·
      refine o_call rfl rfl (by kernel_rfl) (of_2 _) hS fun w1 hS => ⟨hS, ?_⟩
      simp only [Act.put, List.getElem_toArray, List.getElem_cons_succ, List.getElem_cons_zero, List.setIfInBounds_toArray, List.set_cons_zero, List.set_cons_succ]
      refine wpAnyH_all (rs := [2, 3]) (by kernel_rfl) (by simp) ?_
      intro i hi
      have hi2 : i = 2 ∨ i = 3 := by simpa using hi
      rcases hi2 with rfl | rfl
      ·
        refine o_call rfl rfl (by kernel_rfl) (exp_k k HK.out.2.1 t HK.out.2.2.2.2 _) hS fun w1 hS => ⟨hS, ?_⟩
        simp only [Act.put, List.getElem_toArray, List.getElem_cons_succ, List.getElem_cons_zero, List.setIfInBounds_toArray, List.set_cons_zero, List.set_cons_succ]
        refine wpAnyH_all (rs := [3]) (by kernel_rfl) (by simp) ?_
        intro i hi
        obtain rfl : i = 3 := by simpa using hi
        refine o_new rfl rfl 23 rfl word_zero hS fun w1 bn hS => ⟨hS.drop, ?_⟩
        simp only [Act.put, List.getElem_toArray, List.getElem_cons_succ, List.getElem_cons_zero, List.setIfInBounds_toArray, List.set_cons_zero, List.set_cons_succ]
        refine wpAnyH_all (rs := [4]) (by kernel_rfl) (by simp) ?_
        intro i hi
        obtain rfl : i = 4 := by simpa using hi
        refine o_store (c' := wcells t) rfl rfl hS 23 _ _ rfl rfl rfl (by repeat (first | exact Upd.head | apply Upd.tail)) word_size (wf_size _) (wf_size _) (wf_one _) fun w1 hS => ⟨hS.drop, ?_⟩
        simp only [Act.put, List.getElem_toArray, List.getElem_cons_succ, List.getElem_cons_zero, List.setIfInBounds_toArray, List.set_cons_zero, List.set_cons_succ]
        refine wpAnyH_done (by kernel_rfl) ?_ _
        go_wp2_with (fail)
        go_meet
        exact ⟨_, _, _, rfl, rfl, rfl, hS⟩
      ·
        refine o_new rfl rfl 23 rfl word_zero hS fun w1 bn hS => ⟨hS.drop, ?_⟩
        simp only [Act.put, List.getElem_toArray, List.getElem_cons_succ, List.getElem_cons_zero, List.setIfInBounds_toArray, List.set_cons_zero, List.set_cons_succ]
        refine wpAnyH_all (rs := [2]) (by kernel_rfl) (by simp) ?_
        intro i hi
        obtain rfl : i = 2 := by simpa using hi
        refine o_call rfl rfl (by kernel_rfl) (exp_k k HK.out.2.1 t HK.out.2.2.2.2 _) hS fun w1 hS => ⟨hS.drop, ?_⟩
        simp only [Act.put, List.getElem_toArray, List.getElem_cons_succ, List.getElem_cons_zero, List.setIfInBounds_toArray, List.set_cons_zero, List.set_cons_succ]
        refine wpAnyH_all (rs := [4]) (by kernel_rfl) (by simp) ?_
        intro i hi
        obtain rfl : i = 4 := by simpa using hi
        refine o_store (c' := wcells t) rfl rfl hS 23 _ _ rfl rfl rfl (by repeat (first | exact Upd.head | apply Upd.tail)) word_size (wf_size _) (wf_size _) (wf_one _) fun w1 hS => ⟨hS.drop, ?_⟩
        simp only [Act.put, List.getElem_toArray, List.getElem_cons_succ, List.getElem_cons_zero, List.setIfInBounds_toArray, List.set_cons_zero, List.set_cons_succ]
        refine wpAnyH_done (by kernel_rfl) ?_ _
        go_wp2_with (fail)
        go_meet
        exact ⟨_, _, _, rfl, rfl, rfl, hS⟩
    ·
      refine o_new rfl rfl 23 rfl word_zero hS fun w1 bn hS => ⟨hS.drop, ?_⟩
      simp only [Act.put, List.getElem_toArray, List.getElem_cons_succ, List.getElem_cons_zero, List.setIfInBounds_toArray, List.set_cons_zero, List.set_cons_succ]
      refine wpAnyH_all (rs := [0]) (by kernel_rfl) (by simp) ?_
      intro i hi
      obtain rfl : i = 0 := by simpa using hi
      refine o_call rfl rfl (by kernel_rfl) (of_2 _) hS fun w1 hS => ⟨hS.drop, ?_⟩
      simp only [Act.put, List.getElem_toArray, List.getElem_cons_succ, List.getElem_cons_zero, List.setIfInBounds_toArray, List.set_cons_zero, List.set_cons_succ]
      refine wpAnyH_all (rs := [2]) (by kernel_rfl) (by simp) ?_
      intro i hi
      obtain rfl : i = 2 := by simpa using hi
      refine o_call rfl rfl (by kernel_rfl) (exp_k k HK.out.2.1 t HK.out.2.2.2.2 _) hS fun w1 hS => ⟨hS.drop, ?_⟩
      simp only [Act.put, List.getElem_toArray, List.getElem_cons_succ, List.getElem_cons_zero, List.setIfInBounds_toArray, List.set_cons_zero, List.set_cons_succ]
      refine wpAnyH_all (rs := [4]) (by kernel_rfl) (by simp) ?_
      intro i hi
      obtain rfl : i = 4 := by simpa using hi
      refine o_store (c' := wcells t) rfl rfl hS 23 _ _ rfl rfl rfl (by repeat (first | exact Upd.head | apply Upd.tail)) word_size (wf_size _) (wf_size _) (wf_one _) fun w1 hS => ⟨hS.drop, ?_⟩
      simp only [Act.put, List.getElem_toArray, List.getElem_cons_succ, List.getElem_cons_zero, List.setIfInBounds_toArray, List.set_cons_zero, List.set_cons_succ]
      refine wpAnyH_done (by kernel_rfl) ?_ _
      go_wp2_with (fail)
      go_meet
      exact ⟨_, _, _, rfl, rfl, rfl, hS⟩
  case rest =>
    clear hS
    obtain ⟨b2, b6, b7, rfl, rfl, rfl, hS⟩ := hcut
    go_upto_region 6 with (fail)
    try simp only [Act.put, List.setIfInBounds_toArray, List.set_cons_zero, List.set_cons_succ]
    go_cut [2, 6, 7, 8] (fun s2 s6 s7 s8 wx => ∃ b2 b6 b7 b8 : Nat, s2 = .pointer (some ⟨b2, 0, none⟩) ∧ s6 = .pointer (some ⟨b6, 0, none⟩) ∧ s7 = .pointer (some ⟨b7, 0, none⟩) ∧ s8 = .pointer (some ⟨b8, 0, none⟩) ∧ St w wx [(b8, 23, wcells (shlN k (shrN k a))), (b7, 23, wcells t), (b6, 23, wcells (wint (k : Int))), (b2, 23, wcells a)])
    case first =>
      refine wp_region_held_drew (S := fun w' => St w w' _) (by kernel_rfl) hS.drew fun _ => ?_
      replace hS := hS.drew
      simp only [List.size_toArray, List.length_cons, List.length_nil, Nat.reduceAdd, Array.replicate_succ, Array.replicate_zero, List.push_toArray, List.nil_append, List.cons_append]
      refine wpAnyH_take (i := 0) rfl (by kernel_rfl) (by kernel_rfl) (by kernel_rfl) (fun _ _ _ h => h) (y_load rfl 23 _ rfl rfl (by repeat (first | exact At.head | apply At.tail)) word_type rfl word_size (wf_size _)) hS ?_; simp only [Act.put, List.getElem_toArray, List.getElem_cons_succ, List.getElem_cons_zero, List.setIfInBounds_toArray, List.set_cons_zero, List.set_cons_succ]
      refine wpAnyH_take (i := 1) rfl (by kernel_rfl) (by kernel_rfl) (by kernel_rfl) (fun _ _ _ h => h) (y_load rfl 23 _ rfl rfl (by repeat (first | exact At.head | apply At.tail)) word_type rfl word_size (wf_size _)) hS ?_; simp only [Act.put, List.getElem_toArray, List.getElem_cons_succ, List.getElem_cons_zero, List.setIfInBounds_toArray, List.set_cons_zero, List.set_cons_succ]
      refine wpAnyH_take (i := 2) rfl (by kernel_rfl) (by kernel_rfl) (by kernel_rfl) (fun _ _ _ h => h) (y_load rfl 23 _ rfl rfl (by repeat (first | exact At.head | apply At.tail)) word_type rfl word_size (wf_size _)) hS ?_; simp only [Act.put, List.getElem_toArray, List.getElem_cons_succ, List.getElem_cons_zero, List.setIfInBounds_toArray, List.set_cons_zero, List.set_cons_succ]
      refine wpAnyH_all (rs := [3, 5]) (by kernel_rfl) (by simp) ?_
      intro i hi
      have hi2 : i = 3 ∨ i = 5 := by simpa using hi
      rcases hi2 with rfl | rfl
      ·
        refine o_call rfl rfl (by kernel_rfl) (shr_k k a HK.out.2.1 HK.out.2.2.1 _) hS fun w1 hS => ⟨hS, ?_⟩
        simp only [Act.put, List.getElem_toArray, List.getElem_cons_succ, List.getElem_cons_zero, List.setIfInBounds_toArray, List.set_cons_zero, List.set_cons_succ]
        refine wpAnyH_all (rs := [4, 5]) (by kernel_rfl) (by simp) ?_
        intro i hi
        have hi2 : i = 4 ∨ i = 5 := by simpa using hi
        rcases hi2 with rfl | rfl
        ·
          refine o_call rfl rfl (by kernel_rfl) (shl_k k (shrN k a) HK.out.2.1 (shr_lt HK.out.2.2.1) _) hS fun w1 hS => ⟨hS, ?_⟩
          simp only [Act.put, List.getElem_toArray, List.getElem_cons_succ, List.getElem_cons_zero, List.setIfInBounds_toArray, List.set_cons_zero, List.set_cons_succ]
          refine wpAnyH_all (rs := [5]) (by kernel_rfl) (by simp) ?_
          intro i hi
          obtain rfl : i = 5 := by simpa using hi
          refine o_new rfl rfl 23 rfl word_zero hS fun w1 bn hS => ⟨hS.drop, ?_⟩
          simp only [Act.put, List.getElem_toArray, List.getElem_cons_succ, List.getElem_cons_zero, List.setIfInBounds_toArray, List.set_cons_zero, List.set_cons_succ]
          refine wpAnyH_all (rs := [6]) (by kernel_rfl) (by simp) ?_
          intro i hi
          obtain rfl : i = 6 := by simpa using hi
          refine o_store (c' := wcells (shlN k (shrN k a))) rfl rfl hS 23 _ _ rfl rfl rfl (by repeat (first | exact Upd.head | apply Upd.tail)) word_size (wf_size _) (wf_size _) (wf_one _) fun w1 hS => ⟨hS.drop, ?_⟩
          simp only [Act.put, List.getElem_toArray, List.getElem_cons_succ, List.getElem_cons_zero, List.setIfInBounds_toArray, List.set_cons_zero, List.set_cons_succ]
          refine wpAnyH_done (by kernel_rfl) ?_ _
          go_wp2_with (fail)
          go_meet
          exact ⟨_, _, _, _, rfl, rfl, rfl, rfl, hS⟩
        ·
          refine o_new rfl rfl 23 rfl word_zero hS fun w1 bn hS => ⟨hS.drop, ?_⟩
          simp only [Act.put, List.getElem_toArray, List.getElem_cons_succ, List.getElem_cons_zero, List.setIfInBounds_toArray, List.set_cons_zero, List.set_cons_succ]
          refine wpAnyH_all (rs := [4]) (by kernel_rfl) (by simp) ?_
          intro i hi
          obtain rfl : i = 4 := by simpa using hi
          refine o_call rfl rfl (by kernel_rfl) (shl_k k (shrN k a) HK.out.2.1 (shr_lt HK.out.2.2.1) _) hS fun w1 hS => ⟨hS.drop, ?_⟩
          simp only [Act.put, List.getElem_toArray, List.getElem_cons_succ, List.getElem_cons_zero, List.setIfInBounds_toArray, List.set_cons_zero, List.set_cons_succ]
          refine wpAnyH_all (rs := [6]) (by kernel_rfl) (by simp) ?_
          intro i hi
          obtain rfl : i = 6 := by simpa using hi
          refine o_store (c' := wcells (shlN k (shrN k a))) rfl rfl hS 23 _ _ rfl rfl rfl (by repeat (first | exact Upd.head | apply Upd.tail)) word_size (wf_size _) (wf_size _) (wf_one _) fun w1 hS => ⟨hS.drop, ?_⟩
          simp only [Act.put, List.getElem_toArray, List.getElem_cons_succ, List.getElem_cons_zero, List.setIfInBounds_toArray, List.set_cons_zero, List.set_cons_succ]
          refine wpAnyH_done (by kernel_rfl) ?_ _
          go_wp2_with (fail)
          go_meet
          exact ⟨_, _, _, _, rfl, rfl, rfl, rfl, hS⟩
      ·
        refine o_new rfl rfl 23 rfl word_zero hS fun w1 bn hS => ⟨hS.drop, ?_⟩
        simp only [Act.put, List.getElem_toArray, List.getElem_cons_succ, List.getElem_cons_zero, List.setIfInBounds_toArray, List.set_cons_zero, List.set_cons_succ]
        refine wpAnyH_all (rs := [3]) (by kernel_rfl) (by simp) ?_
        intro i hi
        obtain rfl : i = 3 := by simpa using hi
        refine o_call rfl rfl (by kernel_rfl) (shr_k k a HK.out.2.1 HK.out.2.2.1 _) hS fun w1 hS => ⟨hS.drop, ?_⟩
        simp only [Act.put, List.getElem_toArray, List.getElem_cons_succ, List.getElem_cons_zero, List.setIfInBounds_toArray, List.set_cons_zero, List.set_cons_succ]
        refine wpAnyH_all (rs := [4]) (by kernel_rfl) (by simp) ?_
        intro i hi
        obtain rfl : i = 4 := by simpa using hi
        refine o_call rfl rfl (by kernel_rfl) (shl_k k (shrN k a) HK.out.2.1 (shr_lt HK.out.2.2.1) _) hS fun w1 hS => ⟨hS.drop, ?_⟩
        simp only [Act.put, List.getElem_toArray, List.getElem_cons_succ, List.getElem_cons_zero, List.setIfInBounds_toArray, List.set_cons_zero, List.set_cons_succ]
        refine wpAnyH_all (rs := [6]) (by kernel_rfl) (by simp) ?_
        intro i hi
        obtain rfl : i = 6 := by simpa using hi
        refine o_store (c' := wcells (shlN k (shrN k a))) rfl rfl hS 23 _ _ rfl rfl rfl (by repeat (first | exact Upd.head | apply Upd.tail)) word_size (wf_size _) (wf_size _) (wf_one _) fun w1 hS => ⟨hS.drop, ?_⟩
        simp only [Act.put, List.getElem_toArray, List.getElem_cons_succ, List.getElem_cons_zero, List.setIfInBounds_toArray, List.set_cons_zero, List.set_cons_succ]
        refine wpAnyH_done (by kernel_rfl) ?_ _
        go_wp2_with (fail)
        go_meet
        exact ⟨_, _, _, _, rfl, rfl, rfl, rfl, hS⟩
    case rest =>
      clear hS
      obtain ⟨b2, b6, b7, b8, rfl, rfl, rfl, rfl, hS⟩ := hcut
      have HE := Lib.hid (And.intro (halves_up HK.out.2.1 HK.out.2.2.1 HK.out.2.2.2.2) (And.intro (halves_mul (a := a) HK.out.2.1 HK.out.2.2.2.2) (halves_div (a := a) HK.out.2.1 HK.out.2.2.2.2)))
      go_wp2_with (first | (refine st_new hS rfl 23 rfl word_zero ?_; clear hS; intro w1 b1 hS) | (refine st_load hS rfl 23 _ rfl rfl (by repeat (first | exact At.head | apply At.tail)) word_type rfl word_size (wf_size _) ?_) | (refine st_store hS rfl 23 _ _ rfl rfl rfl (by repeat (first | exact Upd.head | apply Upd.tail)) word_size (wf_size _) (wf_size _) (wf_one _) ?_; clear hS; intro w1 hS) | (go_at_call 26; with_reducible refine (mod_any a t HK.out.2.2.1 HK.out.2.2.2.1 _).mono ?_; rintro e w1 ⟨rfl, hb⟩; replace hS := hS.call hb; clear hb))
      refine k_region (C := fun w' => St w w' _) (by kernel_rfl) (by kernel_rfl) hS.drew ?_
      repeat (first | (refine k_skip rfl rfl rfl rfl rfl ?_; try simp only [Act.put, List.setIfInBounds_toArray, List.set_cons_zero, List.set_cons_succ]) | (refine k_load rfl 23 _ rfl rfl (by repeat (first | exact At.head | apply At.tail)) word_type word_size (wf_size _) ?_; try simp only [Act.put, List.setIfInBounds_toArray, List.set_cons_zero, List.set_cons_succ]) | (refine k_words rfl _ _ _ rfl rfl rfl (by with_reducible first | exact ⟨wadd_lt _ _, HK.out.2.2.1, decide_eq_true HE.out.1⟩ | exact ⟨shl_lt _ _, wmul_lt _ _, decide_eq_true HE.out.2.1⟩ | exact ⟨shr_lt HK.out.2.2.1, div_lt HK.out.2.2.1, decide_eq_true HE.out.2.2⟩) ?_; try simp only [Act.put, List.setIfInBounds_toArray, List.set_cons_zero, List.set_cons_succ]) | (refine k_boolm rfl _ rfl rfl ?_; try simp only [Act.put, List.setIfInBounds_toArray, List.set_cons_zero, List.set_cons_succ]) | (refine k_boola rfl _ rfl rfl ?_; try simp only [Act.put, List.setIfInBounds_toArray, List.set_cons_zero, List.set_cons_succ]) | (refine k_intm rfl _ rfl rfl ?_; try simp only [Act.put, List.setIfInBounds_toArray, List.set_cons_zero, List.set_cons_succ]) | (refine k_inta rfl _ rfl rfl ?_; try simp only [Act.put, List.setIfInBounds_toArray, List.set_cons_zero, List.set_cons_succ]) | (refine k_pickT rfl _ _ _ rfl rfl rfl ?_; try simp only [Act.put, List.setIfInBounds_toArray, List.set_cons_zero, List.set_cons_succ]) | (refine k_pickF rfl _ _ _ rfl rfl rfl ?_; try simp only [Act.put, List.setIfInBounds_toArray, List.set_cons_zero, List.set_cons_succ]) | (refine k_bools rfl _ _ _ rfl rfl rfl ?_; try simp only [Act.put, List.setIfInBounds_toArray, List.set_cons_zero, List.set_cons_succ]) | (refine k_call_ww rfl rfl rfl rfl (by with_reducible first | exact ⟨Try.call18, add_any _ _⟩ | exact ⟨Try.call48, shl_k k a HK.out.2.1 HK.out.2.2.1⟩ | exact ⟨Try.call22, mul_any _ _ HK.out.2.2.1 HK.out.2.2.2.1⟩ | exact ⟨Try.call50, shr_k k a HK.out.2.1 HK.out.2.2.1⟩ | exact ⟨Try.call24, div_any _ _ HK.out.2.2.1 HK.out.2.2.2.1⟩) ?_; try simp only [Act.put, List.setIfInBounds_toArray, List.set_cons_zero, List.set_cons_succ]))
      refine k_end ?_
      clear hS
      intro w1 hS
      go_wp2_with (fail)
      go_ret
      exact ⟨rfl, hS.below⟩
set_option maxHeartbeats 1000000 in
set_option maxRecDepth 100000 in
theorem walk (a : Nat) (m : Int) (ha : a < M256) (wm : (Lit.int .i64 m).wf = true) (w : World) :
    Calls Try.prog 14 #[.agg (wcells a), .int .i64 m] w fun e w' => e = .returned (.bool true) ∧ Below w.heap.size w w' := by
  have bm := bounds_of wm
  clear wm
  by_cases h0 : m < 0
  · clear ha
    have hS := St.start w
    go_enter Try.func14, Try.ntmps14
    go_wp2_with (first | (refine st_box hS rfl _ _ rfl rfl ?_; clear hS; intro w1 b1 hS) | (go_at_call 17; refine (alive_any _).mono ?_; rintro e w1 ⟨rfl, hb⟩; replace hS := hS.call hb; clear hb))
    go_ret
    exact ⟨rfl, hS.below⟩
  · by_cases h1 : 255 < m
    · clear ha
      have hS := St.start w
      go_enter Try.func14, Try.ntmps14
      go_wp2_with (first | (refine st_box hS rfl _ _ rfl rfl ?_; clear hS; intro w1 b1 hS) | (go_at_call 17; refine (alive_any _).mono ?_; rintro e w1 ⟨rfl, hb⟩; replace hS := hS.call hb; clear hb))
      go_ret
      exact ⟨rfl, hS.below⟩
    · obtain ⟨k, rfl⟩ := Int.eq_ofNat_of_zero_le (show 0 ≤ m by omega)
      exact walk_in a k _ (by omega) rfl ha w
end Go.Proofs.Ytcdjinjeogodfaa.HalvesLaw
