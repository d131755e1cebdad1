/- The law HexNumbers: for every integer from 0 on: how long its text is, and that it is read as it. No condition. -/
import Derived.Test.YtbmlglnfhapceaaL2
import Derived.Test.YtbmlglnfhapceaaLTexts
namespace Go.Proofs.Ytbmlglnfhapceaa.Numbers
open Go.RowKit
open Go.Proofs.Ytbmlglnfhapceaa.Texts (shS shS_ok shS_val shS_size shS_data h64)

theorem shS_len (m : Nat) (hm : m < M256) : (shS (byt m)).size = 2 + digs m := by
  have hd : digs m ≤ 64 := by have := bitLen_le256 hm; unfold digs; omega
  rw [size_data, shS_data, strip_short m hm, List.length_cons, List.length_cons, List.length_drop, h64]; omega
theorem bitLen_small {k : Nat} (h0 : k ≠ 0) (h : k ≤ 15) : 1 ≤ bitLen k ∧ bitLen k ≤ 4 := by
  have hs := bitLen_spec k
  constructor
  · rcases Nat.eq_zero_or_pos (bitLen k) with h1 | h1
    · have := hs.1; rw [h1] at this; omega
    · exact h1
  · have h2 := hs.2 h0
    have : 2 ^ (bitLen k - 1) < 2 ^ 4 := Nat.lt_of_le_of_lt h2 (by omega)
    have := (Nat.pow_lt_pow_iff_right (by decide : 1 < 2)).1 this
    omega
theorem digs_found {m d k : Nat} (hd : 1 ≤ d) (hk : k = m / 2 ^ (4 * (d - 1))) (h1 : 1 < d → k ≠ 0) (h15 : k ≤ 15) : digs m = d := by
  by_cases hd1 : d = 1
  · subst hd1
    have e : k = m := by rw [hk]; simp
    subst e
    by_cases h0 : k = 0
    · subst h0; decide
    · have := bitLen_small h0 h15; unfold digs; omega
  · have h0 := h1 (by omega)
    have hb := bitLen_small h0 h15
    rw [hk] at h0 hb
    have := bitLen_shift m (4 * (d - 1)) h0
    unfold digs; omega
theorem digs_le {m : Nat} (h : m < M256) : digs m ≤ 64 := by have := bitLen_le256 h; unfold digs; omega
theorem wrap2 {d : Nat} (h : d ≤ 64) : IntKind.i64.wrap (2 + (d : Int)) = ((2 + d : Nat) : Int) := by rw [IntKind.wrap_i64]; omega
theorem div_step (m d : Nat) (hd : 1 ≤ d) : m / 2 ^ (4 * (d - 1)) / 16 = m / 2 ^ (4 * (d + 1 - 1)) := by
  rw [Nat.div_div_eq_div_mul, show (16 : Nat) = 2 ^ 4 by rfl, ← Nat.pow_add, show 4 * (d - 1) + 4 = 4 * (d + 1 - 1) by omega]
set_option maxHeartbeats 4000000 in
set_option maxRecDepth 100000 in
theorem walk (n0 : Int) (hn : (Lit.int .i64 n0).wf = true) (w : World) : Calls Try.prog 6 #[.int .i64 n0] w fun e w' => e = .returned (.bool true) ∧ Tch [] w w' := by
  have hn : -9223372036854775808 ≤ n0 ∧ n0 ≤ 9223372036854775807 := by
    simp [Lit.wf, IntKind.min, IntKind.max, IntKind.bits, IntKind.signed] at hn
    omega
  have hS := St.start w
  by_cases h0 : 0 ≤ n0
  · obtain ⟨m, rfl⟩ := Int.eq_ofNat_of_zero_le h0
    have hd0 : decide ((m : Int) < 0) = false := by simp
    have hm63 : m ≤ 9223372036854775807 := by omega
    have hmM : m < M256 := by unfold M256; exact Nat.lt_of_le_of_lt hm63 (by decide)
    have c1 := fun w1 => rOf_any (m : Int) hn w1
    rw [wint_nat hmM] at c1
    have c2 := fun w1 => hexShort_any m hmM w1
    have c3 := fun w1 => (hexWord_any (shS (byt m)) w1 (by have := shS_size (byt m); omega)).mono (fun e w' h => h.both)
    rw [shS_ok _ (fun i _ => byt_lt m i), if_pos rfl, shS_val _ (fun i _ => byt_lt m i)] at c3
    simp only [cond_true] at c3
    replace c2 : ∀ w1, Calls Try.prog 16 #[.agg (wcells m)] w1 fun e w' => e = .returned (.string (shS (byt m))) ∧ Tch [] w1 w' := c2
    have C := Lib.hid (And.intro c1 (And.intro c2 c3))
    have HM := Lib.hid (shS_len m hmM)
    have HMM := Lib.hid hmM
    generalize shS (byt m) = s at *
    clear c1 c2 c3 hmM hn h0
    go_enter Try.func6, Try.ntmps6
    go_wp2_with (first | (go_at_call 7; refine (alive_any _).mono ?_; rintro e w2 ⟨rfl, hT⟩; replace hS := hS.call hT; clear hT) | (go_at_call 19; refine (C.out.1 _).mono ?_; rintro e w2 ⟨rfl, hT⟩; replace hS := hS.call hT; clear hT) | (go_at_call 16; refine (C.out.2.1 _).mono ?_; rintro e w2 ⟨rfl, hT⟩; replace hS := hS.call hT; clear hT))
    go_loop [5, 6] (fun dv kv => ∃ d k : Nat, dv = .int .i64 (d : Int) ∧ kv = .int .i64 (k : Int) ∧ 1 ≤ d ∧ d + k ≤ m + 1 ∧ Hid (k = m / 2 ^ (4 * (d - 1)) ∧ (1 < d → k ≠ 0))) (fun _ kv => (intOf kv).toNat)
    case atStart => exact ⟨1, m, rfl, rfl, by omega, by omega, Lib.hid ⟨by simp, by omega⟩⟩
    case round =>
      obtain ⟨d, k, rfl, rfl, hd1, hdk, HK⟩ := hrel
      by_cases h15 : 15 < k
      · have hdec : decide ((15 : Int) < (k : Int)) = true := by simp; omega
        go_wp2
        go_round
        case rel => exact ⟨d + 1, k / 16, by go_num, by go_num, by omega, by omega, Lib.hid ⟨by rw [← div_step m d hd1, ← HK.out.1], by omega⟩⟩
        case measure => simp [intOf]; omega
      · have hdec : decide ((15 : Int) < (k : Int)) = false := by simp; omega
        have hdig := digs_found hd1 HK.out.1 HK.out.2 (by omega)
        have HA := Lib.hid (wrap2 (d := d) (by rw [← hdig]; exact digs_le HMM.out))
        have HE := Lib.hid (show ((s.size : Int) == ((2 + d : Nat) : Int)) = true by rw [HM.out, hdig]; simp)
        clear hdig
        go_upto_region 11 with (first | (go_at_call 10; refine (C.out.2.2 _).mono ?_; rintro e w2 ⟨rfl, hT⟩; replace hS := hS.call hT; clear hT) | (refine st_new hS rfl 30 rfl word_zero ?_; clear hS; intro w5 b7 hS) | (refine st_store hS rfl 30 _ _ rfl rfl rfl (by repeat (first | exact Upd.head | apply Upd.tail)) word_size (bc_size _ _) (bc_size _ _) (bc_one _ _) ?_; clear hS; intro w1 hS))
        have hB7 := hS.get .head
        have hFF := hS.frame
        refine k_region (C := fun w' => Tch [] w1 w') (by kernel_rfl) (by kernel_rfl) ((Tch.refl _ _).drew) ?_
        repeat (first | (refine k_skip rfl rfl rfl rfl rfl ?_; try simp only [Act.put, List.setIfInBounds_toArray, List.set_cons_zero, List.set_cons_succ]) | (refine k_num rfl rfl rfl ?_; try simp only [Act.put, List.setIfInBounds_toArray, List.set_cons_zero, List.set_cons_succ]) | (refine k_lenS rfl _ rfl rfl ?_; try simp only [Act.put, List.setIfInBounds_toArray, List.set_cons_zero, List.set_cons_succ]) | (refine k_add rfl _ _ _ _ rfl rfl rfl (s := (2 + d : Nat)) HA.out ?_; try simp only [Act.put, List.setIfInBounds_toArray, List.set_cons_zero, List.set_cons_succ]) | (refine k_ints rfl _ _ _ rfl rfl rfl (by first | exact HE.out | with_reducible rfl) ?_; try simp only [Act.put, List.setIfInBounds_toArray, List.set_cons_zero, List.set_cons_succ]) | (refine k_loadC rfl 30 _ rfl rfl (b := b7) (fun w h => h.blk hB7 (by simp)) word_type word_size (bc_size _ _) ?_; try simp only [Act.put, List.setIfInBounds_toArray, List.set_cons_zero, List.set_cons_succ]) | (refine k_callC1 (v1 := .int .i64 (m : Int)) rfl rfl rfl Try.call19 (fun w h => (C.out.1 w).mono fun e w' h2 => ⟨h2.1, h.trans h2.2⟩) ?_; try simp only [Act.put, List.setIfInBounds_toArray, List.set_cons_zero, List.set_cons_succ]) | (refine k_arrS rfl 30 _ _ _ rfl rfl rfl (by kernel_rfl) word_type (fun i _ => byt_lt m i) ?_; try simp only [Act.put, List.setIfInBounds_toArray, List.set_cons_zero, List.set_cons_succ]) | (refine k_boolm rfl _ rfl rfl ?_; try simp only [Act.put, List.setIfInBounds_toArray, List.set_cons_zero, List.set_cons_succ]) | (refine k_boola rfl _ rfl rfl ?_; try simp only [Act.put, List.setIfInBounds_toArray, List.set_cons_zero, List.set_cons_succ]) | (refine k_intm rfl _ rfl rfl ?_; try simp only [Act.put, List.setIfInBounds_toArray, List.set_cons_zero, List.set_cons_succ]) | (refine k_inta rfl _ rfl rfl ?_; try simp only [Act.put, List.setIfInBounds_toArray, List.set_cons_zero, List.set_cons_succ]) | (refine k_pickT rfl _ _ _ rfl rfl rfl ?_; try simp only [Act.put, List.setIfInBounds_toArray, List.set_cons_zero, List.set_cons_succ]) | (refine k_pickF rfl _ _ _ rfl rfl rfl ?_; try simp only [Act.put, List.setIfInBounds_toArray, List.set_cons_zero, List.set_cons_succ]) | (refine k_bools rfl _ _ _ rfl rfl rfl ?_; try simp only [Act.put, List.setIfInBounds_toArray, List.set_cons_zero, List.set_cons_succ]) | (refine k_val rfl _ (.inl rfl) rfl ?_; try simp only [Act.put, List.setIfInBounds_toArray, List.set_cons_zero, List.set_cons_succ]))
        refine k_end ?_
        intro w' hw'
        go_wp2
        go_ret
        exact ⟨rfl, hFF.trans hw'⟩
  · have hd0 : decide (n0 < 0) = true := by simp; omega
    go_enter Try.func6, Try.ntmps6
    go_wp2_with (go_at_call 7; refine (alive_any _).mono ?_; rintro e w2 ⟨rfl, hT⟩; replace hS := hS.call hT; clear hT)
    go_ret
    exact ⟨rfl, hS.frame⟩
end Go.Proofs.Ytbmlglnfhapceaa.Numbers
