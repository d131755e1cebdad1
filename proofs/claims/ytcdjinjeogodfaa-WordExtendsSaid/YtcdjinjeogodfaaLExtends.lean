/- The law WordExtends: for every word and every integer: a word that is extended from its byte k keeps its lowest bytes and is as small as they are; extended again it is the same; beyond the 31st byte it is as it was. No condition. -/
import Derived.Test.YtcdjinjeogodfaaH
import Derived.Test.YtcdjinjeogodfaaK
import Derived.Test.YtcdjinjeogodfaaN
namespace Go.Proofs.Ytcdjinjeogodfaa.ExtendsLaw
open Go.ChangeShapes Go.WideShapes Go.ChangeAt Go.RowKit
set_option linter.unusedVariables false

theorem bounds_of {n : Int} (h : (Lit.int .i64 n).wf = true) : -9223372036854775808 ≤ n ∧ n ≤ 9223372036854775807 := by
  simp [Lit.wf, IntKind.min, IntKind.max, IntKind.bits, IntKind.signed] at h
  omega
theorem big : 1000 < M256 := by unfold M256; decide
theorem wint_small (k : Nat) (h : k < 1000) : wint k = k := wint_nat (by have := big; omega)
theorem ext_k (k x : Nat) (h : k < 41) (hx : x < M256) (w : World) : Calls Try.prog 54 #[.agg (wcells (wint k)), .agg (wcells x)] w fun e w' => e = .returned (.agg (wcells (extN k x))) ∧ Below w.heap.size w w' := by
  rw [wint_small k (by omega)]; exact Extend_any k x (by have := big; omega) hx w
theorem of_k (k : Nat) (h : k < 1000) (w : World) : Calls Try.prog 58 #[.int .i64 (k : Int)] w fun e w' => e = .returned (.agg (wcells (wint k))) ∧ Below w.heap.size w w' := of_any k (by omega) w
theorem ext_far {k x : Nat} (h : 30 < k) : extN k x = x := by unfold extN; rw [if_neg (by omega)]
theorem shl_k (n x : Nat) (h : n < 1000) (hx : x < M256) (w : World) : Calls Try.prog 48 #[.agg (wcells (wint n)), .agg (wcells x)] w fun e w' => e = .returned (.agg (wcells (shlN n x))) ∧ Below w.heap.size w w' := by
  rw [wint_small n h]; exact Shl_any n x (by have := big; omega) hx w
theorem sar_k (n x : Nat) (h : n < 1000) (hx : x < M256) (w : World) : Calls Try.prog 52 #[.agg (wcells (wint n)), .agg (wcells x)] w fun e w' => e = .returned (.agg (wcells (sraN n x))) ∧ Below w.heap.size w w' := by
  rw [wint_small n h]; exact Sar_any n x (by have := big; omega) hx w
theorem shl_lt (n x : Nat) : shlN n x < M256 := by
  unfold shlN; split
  · exact Nat.mod_lt _ M256_pos
  · exact M256_pos
theorem sra_lt {n x : Nat} (hx : x < M256) : sraN n x < M256 := by
  unfold sraN; split
  · exact sar_lt hx
  · exact sar_lt hx

set_option maxHeartbeats 1000000 in
set_option maxRecDepth 100000 in
theorem walk_in (a k : Nat) (hk : k < 41) (ha : a < M256) (w : World) :
    Calls Try.prog 16 #[.agg (wcells a), .int .i64 (k : Int)] w fun e w' => e = .returned (.bool true) ∧ Below w.heap.size w w' := by
  have HL := Lib.hid ha
  have HK := Lib.hid (And.intro hk trivial)
  clear ha
  have hS := St.start w
  go_enter Try.func16, Try.ntmps16
  go_upto_region 4 with ((first | (refine st_box hS rfl _ _ rfl rfl ?_; clear hS; intro w1 b1 hS) | (go_at_call 17; refine (alive_any _).mono ?_; rintro e w1 ⟨rfl, hb⟩; replace hS := hS.call hb; clear hb)))
  try simp only [Act.put, List.setIfInBounds_toArray, List.set_cons_zero, List.set_cons_succ]
  go_cut [2, 6] (fun s2 s6 wx => ∃ b2 b6 : Nat, s2 = .pointer (some ⟨b2, 0, none⟩) ∧ s6 = .pointer (some ⟨b6, 0, none⟩) ∧ St w wx [(b6, 23, wcells (extN k a)), (b2, 23, wcells a)])
  case first =>
    refine wp_region_held_drew (S := fun w' => St w w' _) (by kernel_rfl) hS.drew fun _ => ?_
    replace hS := hS.drew
    simp only [List.size_toArray, List.length_cons, List.length_nil, Nat.reduceAdd, Array.replicate_succ, Array.replicate_zero, List.push_toArray, List.nil_append, List.cons_append]
    refine wpAnyH_take (i := 0) rfl (by kernel_rfl) (by kernel_rfl) (by kernel_rfl) (fun _ _ _ h => h) (y_move rfl _ (.inl rfl) rfl) hS ?_; simp only [Act.put, List.getElem_toArray, List.getElem_cons_succ, List.getElem_cons_zero, List.setIfInBounds_toArray, List.set_cons_zero, List.set_cons_succ]
    refine wpAnyH_take (i := 2) rfl (by kernel_rfl) (by kernel_rfl) (by kernel_rfl) (fun _ _ _ h => h) (y_load rfl 23 _ rfl rfl (by repeat (first | exact At.head | apply At.tail)) word_type rfl word_size (wf_size _)) hS ?_; simp only [Act.put, List.getElem_toArray, List.getElem_cons_succ, List.getElem_cons_zero, List.setIfInBounds_toArray, List.set_cons_zero, List.set_cons_succ]
    refine wpAnyH_all (rs := [1, 4]) (by kernel_rfl) (by simp) ?_
    intro i hi
    have hi2 : i = 1 ∨ i = 4 := by simpa using hi
    rcases hi2 with rfl | rfl
    ·
      refine o_call rfl rfl (by kernel_rfl) (of_k k (by omega) _) hS fun w1 hS => ⟨hS, ?_⟩
      simp only [Act.put, List.getElem_toArray, List.getElem_cons_succ, List.getElem_cons_zero, List.setIfInBounds_toArray, List.set_cons_zero, List.set_cons_succ]
      refine wpAnyH_all (rs := [3, 4]) (by kernel_rfl) (by simp) ?_
      intro i hi
      have hi2 : i = 3 ∨ i = 4 := by simpa using hi
      rcases hi2 with rfl | rfl
      ·
        refine o_call rfl rfl (by kernel_rfl) (ext_k k a HK.out.1 HL.out _) hS fun w1 hS => ⟨hS, ?_⟩
        simp only [Act.put, List.getElem_toArray, List.getElem_cons_succ, List.getElem_cons_zero, List.setIfInBounds_toArray, List.set_cons_zero, List.set_cons_succ]
        refine wpAnyH_all (rs := [4]) (by kernel_rfl) (by simp) ?_
        intro i hi
        obtain rfl : i = 4 := by simpa using hi
        refine o_new rfl rfl 23 rfl word_zero hS fun w1 bn hS => ⟨hS.drop, ?_⟩
        simp only [Act.put, List.getElem_toArray, List.getElem_cons_succ, List.getElem_cons_zero, List.setIfInBounds_toArray, List.set_cons_zero, List.set_cons_succ]
        refine wpAnyH_all (rs := [5]) (by kernel_rfl) (by simp) ?_
        intro i hi
        obtain rfl : i = 5 := by simpa using hi
        refine o_store (c' := wcells (extN k a)) rfl rfl hS 23 _ _ rfl rfl rfl (by repeat (first | exact Upd.head | apply Upd.tail)) word_size (wf_size _) (wf_size _) (wf_one _) fun w1 hS => ⟨hS.drop, ?_⟩
        simp only [Act.put, List.getElem_toArray, List.getElem_cons_succ, List.getElem_cons_zero, List.setIfInBounds_toArray, List.set_cons_zero, List.set_cons_succ]
        refine wpAnyH_done (by kernel_rfl) ?_ _
        go_wp2_with (fail)
        go_meet
        exact ⟨_, _, rfl, rfl, hS⟩
      ·
        refine o_new rfl rfl 23 rfl word_zero hS fun w1 bn hS => ⟨hS.drop, ?_⟩
        simp only [Act.put, List.getElem_toArray, List.getElem_cons_succ, List.getElem_cons_zero, List.setIfInBounds_toArray, List.set_cons_zero, List.set_cons_succ]
        refine wpAnyH_all (rs := [3]) (by kernel_rfl) (by simp) ?_
        intro i hi
        obtain rfl : i = 3 := by simpa using hi
        refine o_call rfl rfl (by kernel_rfl) (ext_k k a HK.out.1 HL.out _) hS fun w1 hS => ⟨hS.drop, ?_⟩
        simp only [Act.put, List.getElem_toArray, List.getElem_cons_succ, List.getElem_cons_zero, List.setIfInBounds_toArray, List.set_cons_zero, List.set_cons_succ]
        refine wpAnyH_all (rs := [5]) (by kernel_rfl) (by simp) ?_
        intro i hi
        obtain rfl : i = 5 := by simpa using hi
        refine o_store (c' := wcells (extN k a)) rfl rfl hS 23 _ _ rfl rfl rfl (by repeat (first | exact Upd.head | apply Upd.tail)) word_size (wf_size _) (wf_size _) (wf_one _) fun w1 hS => ⟨hS.drop, ?_⟩
        simp only [Act.put, List.getElem_toArray, List.getElem_cons_succ, List.getElem_cons_zero, List.setIfInBounds_toArray, List.set_cons_zero, List.set_cons_succ]
        refine wpAnyH_done (by kernel_rfl) ?_ _
        go_wp2_with (fail)
        go_meet
        exact ⟨_, _, rfl, rfl, hS⟩
    ·
      refine o_new rfl rfl 23 rfl word_zero hS fun w1 bn hS => ⟨hS.drop, ?_⟩
      simp only [Act.put, List.getElem_toArray, List.getElem_cons_succ, List.getElem_cons_zero, List.setIfInBounds_toArray, List.set_cons_zero, List.set_cons_succ]
      refine wpAnyH_all (rs := [1]) (by kernel_rfl) (by simp) ?_
      intro i hi
      obtain rfl : i = 1 := by simpa using hi
      refine o_call rfl rfl (by kernel_rfl) (of_k k (by omega) _) hS fun w1 hS => ⟨hS.drop, ?_⟩
      simp only [Act.put, List.getElem_toArray, List.getElem_cons_succ, List.getElem_cons_zero, List.setIfInBounds_toArray, List.set_cons_zero, List.set_cons_succ]
      refine wpAnyH_all (rs := [3]) (by kernel_rfl) (by simp) ?_
      intro i hi
      obtain rfl : i = 3 := by simpa using hi
      refine o_call rfl rfl (by kernel_rfl) (ext_k k a HK.out.1 HL.out _) hS fun w1 hS => ⟨hS.drop, ?_⟩
      simp only [Act.put, List.getElem_toArray, List.getElem_cons_succ, List.getElem_cons_zero, List.setIfInBounds_toArray, List.set_cons_zero, List.set_cons_succ]
      refine wpAnyH_all (rs := [5]) (by kernel_rfl) (by simp) ?_
      intro i hi
      obtain rfl : i = 5 := by simpa using hi
      refine o_store (c' := wcells (extN k a)) rfl rfl hS 23 _ _ rfl rfl rfl (by repeat (first | exact Upd.head | apply Upd.tail)) word_size (wf_size _) (wf_size _) (wf_one _) fun w1 hS => ⟨hS.drop, ?_⟩
      simp only [Act.put, List.getElem_toArray, List.getElem_cons_succ, List.getElem_cons_zero, List.setIfInBounds_toArray, List.set_cons_zero, List.set_cons_succ]
      refine wpAnyH_done (by kernel_rfl) ?_ _
      go_wp2_with (fail)
      go_meet
      exact ⟨_, _, rfl, rfl, hS⟩
  case rest =>
    clear hS
    obtain ⟨b2, b6, rfl, rfl, hS⟩ := hcut
    by_cases h30 : 30 < k
    · have E := Lib.hid (ext_far (x := a) h30)
      go_wp2_with (first | (refine st_load hS rfl 23 _ rfl rfl (by repeat (first | exact At.head | apply At.tail)) word_type rfl word_size (wf_size _) ?_) | (refine st_same rfl _ _ _ rfl rfl rfl (ext_lt HL.out) E.out ?_))
      go_ret
      exact ⟨rfl, hS.below⟩
    · obtain ⟨n, hn⟩ : ∃ n, n = 8 * (31 - k) := ⟨_, rfl⟩
      have e0 : 8 * (31 - (k : Int)) = (n : Int) := by omega
      have hn2 : n < 1000 := by omega
      have hs := ext_shifts (x := a) (show k < 31 by omega)
      rw [← hn] at hs
      have HN := Lib.hid (And.intro hn2 hs)
      clear hn hs
      go_wp2_with (first | (refine st_new hS rfl 23 rfl word_zero ?_; clear hS; intro w1 b1 hS) | (refine st_store hS rfl 23 _ _ rfl rfl rfl (by repeat (first | exact Upd.head | apply Upd.tail)) word_size (wf_size _) (wf_size _) (wf_one _) ?_; clear hS; intro w1 hS) | (go_at_call 58; with_reducible refine (of_k n HN.out.1 _).mono ?_; rintro e w1 ⟨rfl, hb⟩; replace hS := hS.call hb; clear hb))
      refine k_region (C := fun w' => St w w' _) (by kernel_rfl) (by kernel_rfl) hS.drew ?_
      repeat (first | (refine k_skip rfl rfl rfl rfl rfl ?_; try simp only [Act.put, List.setIfInBounds_toArray, List.set_cons_zero, List.set_cons_succ]) | (refine k_load rfl 23 _ rfl rfl (by repeat (first | exact At.head | apply At.tail)) word_type word_size (wf_size _) ?_; try simp only [Act.put, List.setIfInBounds_toArray, List.set_cons_zero, List.set_cons_succ]) | (refine k_words rfl _ _ _ rfl rfl rfl (by with_reducible first | exact ⟨ext_lt HL.out, sra_lt (shl_lt _ _), decide_eq_true HN.out.2⟩ | exact ⟨ext_lt (ext_lt HL.out), ext_lt HL.out, decide_eq_true ext_twice⟩) ?_; try simp only [Act.put, List.setIfInBounds_toArray, List.set_cons_zero, List.set_cons_succ]) | (refine k_boolm rfl _ rfl rfl ?_; try simp only [Act.put, List.setIfInBounds_toArray, List.set_cons_zero, List.set_cons_succ]) | (refine k_boola rfl _ rfl rfl ?_; try simp only [Act.put, List.setIfInBounds_toArray, List.set_cons_zero, List.set_cons_succ]) | (refine k_intm rfl _ rfl rfl ?_; try simp only [Act.put, List.setIfInBounds_toArray, List.set_cons_zero, List.set_cons_succ]) | (refine k_inta rfl _ rfl rfl ?_; try simp only [Act.put, List.setIfInBounds_toArray, List.set_cons_zero, List.set_cons_succ]) | (refine k_pickT rfl _ _ _ rfl rfl rfl ?_; try simp only [Act.put, List.setIfInBounds_toArray, List.set_cons_zero, List.set_cons_succ]) | (refine k_pickF rfl _ _ _ rfl rfl rfl ?_; try simp only [Act.put, List.setIfInBounds_toArray, List.set_cons_zero, List.set_cons_succ]) | (refine k_bools rfl _ _ _ rfl rfl rfl ?_; try simp only [Act.put, List.setIfInBounds_toArray, List.set_cons_zero, List.set_cons_succ]) | (refine k_call_i rfl rfl rfl (by with_reducible first | exact ⟨Try.call58, of_k k (by omega)⟩ | exact ⟨Try.call58, of_any _ (by omega)⟩) ?_; try simp only [Act.put, List.setIfInBounds_toArray, List.set_cons_zero, List.set_cons_succ]) | (refine k_call_ww rfl rfl rfl rfl (by with_reducible first | exact ⟨Try.call54, ext_k k _ HK.out.1 (ext_lt HL.out)⟩ | exact ⟨Try.call48, shl_k n _ HN.out.1 HL.out⟩ | exact ⟨Try.call52, sar_k n _ HN.out.1 (shl_lt _ _)⟩) ?_; try simp only [Act.put, List.setIfInBounds_toArray, List.set_cons_zero, List.set_cons_succ]))
      refine k_end ?_
      clear hS
      intro w1 hS
      go_wp2_with (fail)
      go_ret
      exact ⟨rfl, hS.below⟩
set_option maxHeartbeats 1000000 in
set_option maxRecDepth 100000 in
theorem walk (a : Nat) (m : Int) (ha : a < M256) (wm : (Lit.int .i64 m).wf = true) (w : World) :
    Calls Try.prog 16 #[.agg (wcells a), .int .i64 m] w fun e w' => e = .returned (.bool true) ∧ Below w.heap.size w w' := by
  have bm := bounds_of wm
  clear wm
  by_cases h0 : m < 0
  · clear ha
    have hS := St.start w
    go_enter Try.func16, Try.ntmps16
    go_wp2_with (first | (refine st_box hS rfl _ _ rfl rfl ?_; clear hS; intro w1 b1 hS) | (go_at_call 17; refine (alive_any _).mono ?_; rintro e w1 ⟨rfl, hb⟩; replace hS := hS.call hb; clear hb))
    go_ret
    exact ⟨rfl, hS.below⟩
  · by_cases h1 : 40 < m
    · clear ha
      have hS := St.start w
      go_enter Try.func16, Try.ntmps16
      go_wp2_with (first | (refine st_box hS rfl _ _ rfl rfl ?_; clear hS; intro w1 b1 hS) | (go_at_call 17; refine (alive_any _).mono ?_; rintro e w1 ⟨rfl, hb⟩; replace hS := hS.call hb; clear hb))
      go_ret
      exact ⟨rfl, hS.below⟩
    · obtain ⟨k, rfl⟩ := Int.eq_ofNat_of_zero_le (show 0 ≤ m by omega)
      exact walk_in a k (by omega) ha w
end Go.Proofs.Ytcdjinjeogodfaa.ExtendsLaw
