/- Rows of digits held against each other: cmp. -/
import Derived.Test.YtcdjinjeogodfaaS1
import Derived.StillTailTactics
namespace Go.Proofs.Ytcdjinjeogodfaa
open Go.RowKit

theorem cmp_lt {x y : Nat} (h : x < y) : cmpN x y = -1 := if_pos h
theorem cmp_gt {x y : Nat} (h : y < x) : cmpN x y = 1 := by unfold cmpN; rw [if_neg (by omega), if_pos h]
theorem cmp_eq {x y : Nat} (h : x = y) : cmpN x y = 0 := by unfold cmpN; rw [if_neg (by omega), if_neg (by omega)]
theorem lt_of_dg {x y j : Nat} (he : x / 2 ^ (16 * (j + 1)) = y / 2 ^ (16 * (j + 1))) (h : dg x j < dg y j) : x < y := by
  have h1 := dg_split x j
  have h2 := dg_split y j
  rw [he] at h1
  have h3 : x / 2 ^ (16 * j) < y / 2 ^ (16 * j) := by omega
  exact Nat.lt_of_not_le fun hle => by have := Nat.div_le_div_right (c := 2 ^ (16 * j)) hle; omega
theorem eq_of_dg {x y j : Nat} (he : x / 2 ^ (16 * (j + 1)) = y / 2 ^ (16 * (j + 1))) (h : dg x j = dg y j) : x / 2 ^ (16 * j) = y / 2 ^ (16 * j) := by
  rw [dg_split x j, dg_split y j, he, h]
set_option maxHeartbeats 1000000 in
set_option maxRecDepth 100000 in
theorem cmp_any (n m b1 b2 c1 c2 x y : Nat) (w : World) (hm : m ≤ n) (hn0 : 0 < n) (hn : n ≤ 64) (h1 : Row w b1 n x) (h2 : Row w b2 m y) (hx : x < 2 ^ (16 * n)) (hy : y < 2 ^ (16 * m)) :
    Calls Try.prog 94 #[.slice (some ⟨b1, 0, none⟩) n c1, .slice (some ⟨b2, 0, none⟩) m c2] w fun e w' => e = .returned (.int .i64 (cmpN x y)) ∧ w = w' := by
  have HX := Lib.hid (And.intro h1 (And.intro h2 (And.intro hx hy)))
  clear h1 h2 hx hy
  have hmn : decide (n < m) = false := by simp; omega
  go_enter Try.func94, Try.ntmps94
  go_wp2
  go_loop [6] (fun i => ∃ k : Nat, k ≤ n ∧ i = .int .i64 ((k : Int) - 1) ∧ Hid (x / 2 ^ (16 * k) = y / 2 ^ (16 * k))) (fun i => (intOf i + 1).toNat)
  case atStart =>
    refine ⟨n, by omega, rfl, Lib.hid ?_⟩
    rw [Nat.div_eq_of_lt HX.out.2.2.1, Nat.div_eq_of_lt (Nat.lt_of_lt_of_le HX.out.2.2.2 (Nat.pow_le_pow_right (by decide) (by omega)))]
  case round =>
    obtain ⟨k, hk, rfl, HK⟩ := hrel
    rcases Nat.eq_zero_or_pos k with h0 | h0
    · subst h0
      have he : x = y := by have := HK.out; simpa using this
      have HE := Lib.hid he
      clear he
      go_wp2
      go_ret
      exact ⟨ret_int (by rw [cmp_eq HE.out]), rfl⟩
    · obtain ⟨j, rfl⟩ : ∃ j, k = j + 1 := ⟨k - 1, by omega⟩
      have e0 : ((j + 1 : Nat) : Int) - 1 = (j : Int) := by omega
      rw [e0]
      clear e0
      have hjn : j < n := by omega
      have g1 := HX.out.1.at_ hjn
      have l1 := dg_lt x j
      have l2 := dg_lt y j
      have HL : dg x j < dg y j → x < y := lt_of_dg HK.out
      have HG : dg y j < dg x j → y < x := lt_of_dg HK.out.symm
      have HQ : dg x j = dg y j → Hid (x / 2 ^ (16 * j) = y / 2 ^ (16 * j)) := fun h => Lib.hid (eq_of_dg HK.out h)
      by_cases hjm : j < m
      · have g2 := HX.out.2.1.at_ hjm
        generalize dg x j = p at *
        generalize dg y j = q at *
        rcases Nat.lt_trichotomy p q with h | h | h
        · have hlt := HL h
          have hd : decide (p < q) = true := by simpa using h
          have H := Lib.hid hlt
          clear HL HG HQ hlt
          have hlt := H
          go_wp2
          go_ret
          exact ⟨ret_int (by rw [cmp_lt H.out]), rfl⟩
        · have HE := HQ h
          subst h
          clear HL HG HQ
          go_wp2
          go_round
          case rel => exact ⟨j, by omega, by congr 1, HE⟩
          case measure => simp [intOf]
        · have H := Lib.hid (HG h)
          have hd : decide (p < q) = false := by simp; omega
          have hd2 : decide (q < p) = true := by simpa using h
          clear HL HG HQ
          go_wp2
          go_ret
          exact ⟨ret_int (by rw [cmp_gt H.out]), rfl⟩
      · have hq : dg y j = 0 := dg_hi HX.out.2.2.2 (by omega)
        have hjm2 : decide (j < m) = false := by simpa using hjm
        rw [hq] at HL HG HQ
        clear hq l2
        generalize dg x j = p at *
        rcases Nat.eq_zero_or_pos p with h | h
        · have HE := HQ h
          subst h
          clear HL HG HQ
          go_wp2
          go_round
          case rel => exact ⟨j, by omega, by congr 1, HE⟩
          case measure => simp [intOf]
        · have H := Lib.hid (HG h)
          have hd : decide ((p : Int) < 0) = false := by simp
          have hd2 : decide (0 < (p : Int)) = true := by simp; omega
          clear HL HG HQ
          go_wp2
          go_ret
          exact ⟨ret_int (by rw [cmp_gt H.out]), rfl⟩
end Go.Proofs.Ytcdjinjeogodfaa
