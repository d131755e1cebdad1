/- A digit of a quotient: takeDigit. -/
import Derived.Test.YtcdjinjeogodfaaD3
import Derived.Test.YtcdjinjeogodfaaPD
import Derived.Deep.QuietTactic
import Derived.BigQuiet
namespace Go.Proofs.Ytcdjinjeogodfaa
open Go.RowKit

theorem top_limb {V n1 : Nat} (hV : V < 2 ^ (64 * (n1 + 1))) : lm V n1 = V / 2 ^ (64 * n1) := by
  unfold lm
  rw [Nat.mod_eq_of_lt]
  rw [Nat.div_lt_iff_lt_mul (Nat.two_pow_pos _), ← Nat.pow_add, show 64 + 64 * n1 = 64 * (n1 + 1) by omega]
  exact hV
theorem two_limbs {U i : Nat} (hU : U < 2 ^ (64 * (i + 2))) : lm U (i + 1) * 18446744073709551616 + lm U i = U / 2 ^ (64 * i) := by
  rw [top_limb (n1 := i + 1) hU, show 64 * (i + 1) = 64 * i + 64 by omega, Nat.pow_add, ← Nat.div_div_eq_div_mul]
  unfold lm
  generalize U / 2 ^ (64 * i) = y
  rw [show (2 : Nat) ^ 64 = 18446744073709551616 by decide]
  omega
theorem guess_ge {U V j n1 q : Nat} (hV : V < 2 ^ (64 * (n1 + 1))) (hU : U < 2 ^ (64 * (j + (n1 + 1) + 1))) (hq : q * (V * 2 ^ (64 * j)) ≤ U) (hqb : q < 18446744073709551616) (ht : 0 < lm V n1) :
    q ≤ guessN (lm U (j + (n1 + 1))) (lm U (j + n1)) (lm V n1) := by
  have h2 := two_limbs (U := U) (i := j + n1) (by rw [show j + n1 + 2 = j + (n1 + 1) + 1 by omega]; exact hU)
  rw [show j + n1 + 1 = j + (n1 + 1) by omega] at h2
  have h3 : q * lm V n1 ≤ lm U (j + (n1 + 1)) * 18446744073709551616 + lm U (j + n1) := by
    rw [h2, Nat.le_div_iff_mul_le (Nat.two_pow_pos _)]
    refine Nat.le_trans ?_ hq
    rw [Nat.mul_assoc]
    refine Nat.mul_le_mul_left q ?_
    rw [top_limb hV, show 64 * (j + n1) = 64 * n1 + 64 * j by omega, Nat.pow_add, ← Nat.mul_assoc]
    exact Nat.mul_le_mul_right _ (Nat.div_mul_le_self _ _)
  unfold guessN
  split
  · omega
  · rw [Nat.le_div_iff_mul_le ht]; exact h3
theorem guess_lt {h l t : Nat} (hl : l < 18446744073709551616) (ht : 0 < t) : guessN h l t < 18446744073709551616 := by
  unfold guessN
  split
  · decide
  · rw [Nat.div_lt_iff_lt_mul ht]
    have := Nat.mul_le_mul_right 18446744073709551616 (show h + 1 ≤ t by omega)
    omega
/-- How a digit stands while it is sought. -/
structure Dig (U W P g : Nat) (t : Bool) (Uc : Nat) : Prop where
  sum : Uc + g * W = U + t.toNat * P
  lt : Uc < P
  ge : U / W ≤ g
theorem Dig.pos {U W P g Uc : Nat} (h : Dig U W P g true Uc) : 0 < g := by
  have h1 := h.sum
  have h2 := h.lt
  rcases Nat.eq_zero_or_pos g with h0 | h0
  · subst h0
    simp at h1
    omega
  · exact h0
theorem Dig.down {U W P g Uc U2 g1 : Nat} {t : Bool} (h : Dig U W P g true Uc) (hg : g = g1 + 1) (hs : U2 + t.toNat * P = Uc + W) (hl : U2 < P) (hW : 0 < W) : Dig U W P g1 (!t) U2 := by
  have h1 := h.sum
  have h2 := h.lt
  have hgt : U / W < g := by
    rw [Nat.div_lt_iff_lt_mul hW]
    simp at h1
    omega
  subst hg
  refine ⟨?_, hl, by omega⟩
  rw [Nat.add_mul, Nat.one_mul] at h1
  cases t <;> simp at * <;> omega
theorem Dig.done {U W P g Uc : Nat} (h : Dig U W P g false Uc) (hW : 0 < W) : g = U / W ∧ Uc = U % W := by
  have h1 := h.sum
  simp at h1
  have h3 : g = U / W := Nat.le_antisymm (by rw [Nat.le_div_iff_mul_le hW]; omega) h.ge
  refine ⟨h3, ?_⟩
  have h4 := Nat.div_add_mod U W
  rw [← h3, Nat.mul_comm] at h4
  omega
set_option maxHeartbeats 4000000 in
set_option maxRecDepth 100000 in
theorem take_any (bR bD j n m cR cD U V : Nat) (tR tD : TypeId) (w : World) (hm : m = n + 1) (hn1 : 1 ≤ n) (hn4 : n ≤ 4) (hj : j + n ≤ 8) (hne : bR ≠ bD) (hR : Blk w bR tR (dig 9 U)) (hD : Blk w bD tD (dig 4 V)) (hV : V < 2 ^ (64 * n)) (htop : 9223372036854775808 ≤ lm V (n - 1)) (hU : U < V * 2 ^ (64 * j) * 18446744073709551616) :
    Calls Try.prog 106 #[.slice (some ⟨bR, j, none⟩) m cR, .slice (some ⟨bD, 0, none⟩) n cD] w fun e w' => e = .returned (.int .u64 (U / (V * 2 ^ (64 * j)) : Nat)) ∧ Blk w' bR tR (dig 9 (U % (V * 2 ^ (64 * j)))) ∧ Only bR w w' := by
  obtain ⟨n1, hn⟩ : ∃ n1, n = n1 + 1 := ⟨n - 1, by omega⟩
  rw [show n - 1 = n1 by omega] at htop
  have hV0 : 0 < V := by
    rcases Nat.eq_zero_or_pos V with h0 | h0
    · rw [h0] at htop; simp [lm] at htop
    · exact h0
  have hW : 0 < V * 2 ^ (64 * j) := Nat.mul_pos hV0 (Nat.two_pow_pos _)
  have hUP : U < 2 ^ (64 * (j + n + 1)) := by
    refine Nat.lt_of_lt_of_le hU ?_
    rw [show 64 * (j + n + 1) = 64 * n + 64 * j + 64 by omega, Nat.pow_add, Nat.pow_add]
    exact Nat.mul_le_mul_right _ (Nat.mul_le_mul_right _ (Nat.le_of_lt hV))
  have hqb : U / (V * 2 ^ (64 * j)) < 18446744073709551616 := by rw [Nat.div_lt_iff_lt_mul hW, Nat.mul_comm]; exact hU
  have hge := guess_ge (q := U / (V * 2 ^ (64 * j))) (by rw [← hn]; exact hV) (by rw [← hn]; exact hUP) (Nat.div_mul_le_self _ _) hqb (by omega)
  rw [← hn] at hge
  have glt := guess_lt (h := lm U (j + n)) (lm_lt U (j + n1)) (show 0 < lm V n1 by omega)
  have hg := fun w => guess_any (lm U (j + n)) (lm U (j + n1)) (lm V n1) w (lm_lt _ _) (lm_lt _ _) (lm_lt _ _) htop
  have g1 := hR.cell (dig_get (n := 9) (x := U) (show j + n < 9 by omega))
  have g2 := hR.cell (dig_get (n := 9) (x := U) (show j + n1 < 9 by omega))
  have g3 := hD.cell (dig_get (n := 4) (x := V) (show n1 < 4 by omega))
  simp only [lm] at hge glt hg
  generalize U / 2 ^ (64 * (j + n)) % 2 ^ 64 = h at *
  generalize U / 2 ^ (64 * (j + n1)) % 2 ^ 64 = l at *
  generalize V / 2 ^ (64 * n1) % 2 ^ 64 = t at *
  generalize guessN h l t = g0 at *
  have tn : (n : Int) - 1 = (n1 : Int) := by omega
  have tnw : IntKind.i64.wrap ((n : Int) - 1) = (n1 : Int) := by rw [IntWalk.i64_in _ (by omega)]; exact tn
  have b1 : (n : Int) < (m : Int) := by omega
  have b2 : (n1 : Int) < (m : Int) := by omega
  have b3 : (n1 : Int) < (n : Int) := by omega
  have b4 : n < m := by omega
  have b5 : n1 < m := by omega
  have b6 : n1 < n := by omega
  have HV := Lib.hid (And.intro hV (And.intro hUP (And.intro hge (And.intro hW hm))))
  have HG := Lib.hid hg
  have HRD := Lib.hid (And.intro hR hD)
  clear hV hUP hge hW hm hg hR hD hU hqb htop hV0 hn
  go_enter Try.func106, Try.ntmps106
  go_wp2
  go_quiet ((go_at_call 111; exact Calls.quiet_of (HG.out _)))
  clear g1 g2 g3
  obtain ⟨w1, hw1⟩ : ∃ w1, w1 = w.drewN nq := ⟨_, rfl⟩
  have hR1 := HRD.out.1.drewN nq
  have hD1 := HRD.out.2.drewN nq
  have hO1 := (Only.refl bR w).drewN nq
  rw [← hw1] at hR1 hD1 hO1 ⊢
  clear hw1
  go_wp2_with (fail)
  refine (takeOff_any bR bD j n m cR cD U V g0 tR tD w1 HV.out.2.2.2.2 hn4 hj hne hR1 hD1 HV.out.1 HV.out.2.1 glt).mono ?_
  rintro e w2 ⟨t0, U1, rfl, hs, hl, hR2, hO2⟩
  have hD2 := hO2.blk (Ne.symm hne) hD1
  have hO := hO1.trans hO2
  have HD0 : Hid (Dig U (V * 2 ^ (64 * j)) (2 ^ (64 * (j + n + 1))) g0 t0 U1) := Lib.hid ⟨by rw [← hs, Nat.mul_assoc], hl, HV.out.2.2.1⟩
  clear hR1 hD1 hO1 hO2 hs hl
  go_wp2
  go_loopw [6, 7] (fun d c wr => ∃ (g : Nat) (tt : Bool) (Uc : Nat), d = .int .u64 g ∧ c = .bool tt ∧ g < 18446744073709551616 ∧ Hid (Dig U (V * 2 ^ (64 * j)) (2 ^ (64 * (j + n + 1))) g tt Uc) ∧ Blk wr bR tR (dig 9 Uc) ∧ Blk wr bD tD (dig 4 V) ∧ Only bR w wr) (fun d _ _ => (intOf d).toNat)
  case atStart => exact ⟨g0, t0, U1, rfl, rfl, glt, HD0, hR2, hD2, hO⟩
  case round =>
    clear hR2 hD2 hO HD0
    obtain ⟨g, tt, Uc, rfl, rfl, hgl, HDg, hR, hD, hO⟩ := hrel
    cases tt
    · have hdn := HDg.out.done HV.out.2.2.2.1
      have HN := Lib.hid hdn
      clear hdn
      go_wp2
      go_ret
      refine ⟨ret_int (by rw [HN.out.1]), by rw [← HN.out.2]; exact hR, hO⟩
    · have hgp := HDg.out.pos
      obtain ⟨g1, hg1⟩ : ∃ g1, g = g1 + 1 := ⟨g - 1, by omega⟩
      have tg : (g : Int) - 1 = (g1 : Int) := by omega
      have hg1l : g1 < 18446744073709551616 := by omega
      have HG1 := Lib.hid hg1
      clear hg1
      go_wp2_with (fail)
      refine (giveBack_any bR bD j n m cR cD Uc V tR tD wr HV.out.2.2.2.2 hn4 hj hne hR hD HV.out.1 HDg.out.lt).mono ?_
      rintro e w3 ⟨t3, U3, rfl, hs, hl, hR3, hO3⟩
      have hD3 := hO3.blk (Ne.symm hne) hD
      have hO4 := hO.trans hO3
      have hdn := HDg.out.down HG1.out hs hl HV.out.2.2.2.1
      have HN := Lib.hid hdn
      clear hdn hs hl hO3 hR hD hO
      go_wp2
      go_roundw
      case rel => exact ⟨g1, !t3, U3, rfl, rfl, hg1l, HN, hR3, hD3, hO4⟩
      case measure => have := HG1.out; simp [intOf]; omega
end Go.Proofs.Ytcdjinjeogodfaa
