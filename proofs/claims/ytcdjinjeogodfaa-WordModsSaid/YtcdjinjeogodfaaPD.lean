/- The plain mathematics of a digit taken off and given back. -/
import Derived.Test.YtcdjinjeogodfaaC2
import Derived.Test.YtcdjinjeogodfaaC4
import Derived.StillTailTactics
/-! The plain mathematics of a digit taken off and given back. -/
namespace Go.Proofs.Ytcdjinjeogodfaa
open Go.RowKit

/-- The limb of x with the number i. -/
abbrev lm (x i : Nat) : Nat := x / 2 ^ (64 * i) % 2 ^ 64
theorem lm_lt (x i : Nat) : lm x i < 18446744073709551616 := Nat.mod_lt _ (by decide)
theorem off_step {U V d j k c b Uk lo hi s b' : Nat} (hT : lo + hi * 2 ^ 64 = lm V k * d + c) (hs : s + lo + b = lm Uk (j + k) + 2 ^ 64 * b')
    (h : Uk + d * (V % 2 ^ (64 * k)) * 2 ^ (64 * j) = U + (b + c) * 2 ^ (64 * (j + k))) :
    dput Uk (j + k) s + d * (V % 2 ^ (64 * (k + 1))) * 2 ^ (64 * j) = U + (b' + hi) * 2 ^ (64 * (j + (k + 1))) := by
  have sp := dput_spec Uk (j + k) s
  have e1 : 2 ^ (64 * (j + (k + 1))) = 2 ^ 64 * 2 ^ (64 * (j + k)) := by rw [show 64 * (j + (k + 1)) = 64 + 64 * (j + k) by omega, Nat.pow_add]
  have e2 : 2 ^ (64 * (j + k)) = 2 ^ (64 * k) * 2 ^ (64 * j) := by rw [show 64 * (j + k) = 64 * k + 64 * j by omega, Nat.pow_add]
  rw [mod_pow_step, e1]
  simp only [lm] at *
  generalize dput Uk (j + k) s = Un at *
  generalize V / 2 ^ (64 * k) % 2 ^ 64 = vk at *
  generalize Uk / 2 ^ (64 * (j + k)) % 2 ^ 64 = r at *
  generalize V % 2 ^ (64 * k) = vl at *
  rw [e2] at *
  generalize 2 ^ (64 * k) = K at *
  generalize 2 ^ (64 * j) = J at *
  generalize 2 ^ 64 = B at *
  clear e1 e2
  grind
theorem off_end {U V d j n c b Uk s b' : Nat} (hV : V < 2 ^ (64 * n)) (hs : s + c + b = lm Uk (j + n) + 2 ^ 64 * b')
    (h : Uk + d * (V % 2 ^ (64 * n)) * 2 ^ (64 * j) = U + (b + c) * 2 ^ (64 * (j + n))) :
    dput Uk (j + n) s + d * V * 2 ^ (64 * j) = U + b' * 2 ^ (64 * (j + n + 1)) := by
  have sp := dput_spec Uk (j + n) s
  rw [Nat.mod_eq_of_lt hV] at h
  rw [show 2 ^ (64 * (j + n + 1)) = 2 ^ 64 * 2 ^ (64 * (j + n)) by rw [show 64 * (j + n + 1) = 64 + 64 * (j + n) by omega, Nat.pow_add]]
  simp only [lm] at *
  generalize dput Uk (j + n) s = Un at *
  generalize Uk / 2 ^ (64 * (j + n)) % 2 ^ 64 = r at *
  generalize d * V * 2 ^ (64 * j) = D at *
  generalize 2 ^ (64 * (j + n)) = P at *
  generalize 2 ^ 64 = B at *
  grind
theorem back_step {U V j k c Uk s c' : Nat} (hs : s + c' * 2 ^ 64 = lm Uk (j + k) + lm V k + c)
    (h : Uk + c * 2 ^ (64 * (j + k)) = U + (V % 2 ^ (64 * k)) * 2 ^ (64 * j)) :
    dput Uk (j + k) s + c' * 2 ^ (64 * (j + (k + 1))) = U + (V % 2 ^ (64 * (k + 1))) * 2 ^ (64 * j) := by
  have sp := dput_spec Uk (j + k) s
  have e1 : 2 ^ (64 * (j + (k + 1))) = 2 ^ 64 * 2 ^ (64 * (j + k)) := by rw [show 64 * (j + (k + 1)) = 64 + 64 * (j + k) by omega, Nat.pow_add]
  have e2 : 2 ^ (64 * (j + k)) = 2 ^ (64 * k) * 2 ^ (64 * j) := by rw [show 64 * (j + k) = 64 * k + 64 * j by omega, Nat.pow_add]
  rw [mod_pow_step, e1]
  simp only [lm] at *
  generalize dput Uk (j + k) s = Un at *
  generalize V / 2 ^ (64 * k) % 2 ^ 64 = vk at *
  generalize Uk / 2 ^ (64 * (j + k)) % 2 ^ 64 = r at *
  generalize V % 2 ^ (64 * k) = vl at *
  rw [e2] at *
  generalize 2 ^ (64 * k) = K at *
  generalize 2 ^ (64 * j) = J at *
  generalize 2 ^ 64 = B at *
  clear e1 e2
  grind
theorem back_end {U V j n c Uk s c' : Nat} (hV : V < 2 ^ (64 * n)) (hs : s + c' * 2 ^ 64 = lm Uk (j + n) + c)
    (h : Uk + c * 2 ^ (64 * (j + n)) = U + (V % 2 ^ (64 * n)) * 2 ^ (64 * j)) :
    dput Uk (j + n) s + c' * 2 ^ (64 * (j + n + 1)) = U + V * 2 ^ (64 * j) := by
  have sp := dput_spec Uk (j + n) s
  rw [Nat.mod_eq_of_lt hV] at h
  rw [show 2 ^ (64 * (j + n + 1)) = 2 ^ 64 * 2 ^ (64 * (j + n)) by rw [show 64 * (j + n + 1) = 64 + 64 * (j + n) by omega, Nat.pow_add]]
  simp only [lm] at *
  generalize dput Uk (j + n) s = Un at *
  generalize Uk / 2 ^ (64 * (j + n)) % 2 ^ 64 = r at *
  generalize V * 2 ^ (64 * j) = D at *
  generalize 2 ^ (64 * (j + n)) = P at *
  generalize 2 ^ 64 = B at *
  grind
theorem sub_ex (x y b : Nat) (hx : x < 18446744073709551616) (hy : y < 18446744073709551616) (hb : b ≤ 1) : ∃ s k : Nat, s + y + b = x + 2 ^ 64 * k ∧ s < 2 ^ 64 ∧ k ≤ 1 ∧ ∀ w : World,
    (callFunc 100 #[.int .u64 x, .int .u64 y, .int .u64 b]).run Try.prog w = .ok (.value (.tuple #[.int .u64 s, .int .u64 k])) w := by
  obtain ⟨s, k, hs, hk, hr⟩ := sub64' x y b hb
  refine ⟨s, k, ?_, ?_, ?_, hr⟩
  · rw [hs, hk]
    by_cases h : x < y + b
    · rw [if_pos h]; omega
    · rw [if_neg h]; omega
  · rw [hs]; exact Nat.mod_lt _ (by decide)
  · rw [hk]; split <;> omega
theorem add_ex (x y c : Nat) (hx : x < 18446744073709551616) (hy : y < 18446744073709551616) (hc : c ≤ 1) : ∃ s k : Nat, s + k * 2 ^ 64 = x + y + c ∧ s < 2 ^ 64 ∧ k ≤ 1 ∧ ∀ w : World,
    (callFunc 98 #[.int .u64 x, .int .u64 y, .int .u64 c]).run Try.prog w = .ok (.value (.tuple #[.int .u64 s, .int .u64 k])) w :=
  ⟨_, _, by have := Nat.mod_add_div (x + y + c) 18446744073709551616; omega, Nat.mod_lt _ (by decide), by omega, fun w => add64 x y c hc w⟩
theorem mulAdd0 (a b c : Nat) (w : World) (ha : a < 18446744073709551616) (hb : b < 18446744073709551616) (hc : c < 18446744073709551616) :
    Calls Try.prog 101 #[.int .u64 a, .int .u64 b, .int .u64 c, .int .u64 0] w fun e w' => ∃ lo hi : Nat, lo + hi * 2 ^ 64 = a * b + c ∧ lo < 18446744073709551616 ∧ hi < 18446744073709551616 ∧ e = .returned (.tuple #[.int .u64 lo, .int .u64 hi]) ∧ w = w' :=
  (mulAdd_ex a b c 0 w ha hb hc (by decide)).mono fun e w' ⟨lo, hi, h1, h2, h3, h4, h5⟩ => ⟨lo, hi, by omega, h2, h3, h4, h5⟩
end Go.Proofs.Ytcdjinjeogodfaa

/-! A digit's multiple taken off. -/
namespace Go.Proofs.Ytcdjinjeogodfaa
open Go.RowKit

def TakePost (bR : Nat) (tR : TypeId) (d U V j n : Nat) (w : World) (e : Ending) (w' : World) : Prop := ∃ (t : Bool) (U' : Nat), e = .returned (.bool t) ∧ U' + d * V * 2 ^ (64 * j) = U + t.toNat * 2 ^ (64 * (j + n + 1)) ∧ U' < 2 ^ (64 * (j + n + 1)) ∧ Blk w' bR tR (dig 9 U') ∧ Only bR w w'
def BackPost (bR : Nat) (tR : TypeId) (U V j n : Nat) (w : World) (e : Ending) (w' : World) : Prop := ∃ (t : Bool) (U' : Nat), e = .returned (.bool t) ∧ U' + t.toNat * 2 ^ (64 * (j + n + 1)) = U + V * 2 ^ (64 * j) ∧ U' < 2 ^ (64 * (j + n + 1)) ∧ Blk w' bR tR (dig 9 U') ∧ Only bR w w'
set_option maxHeartbeats 4000000 in
set_option maxRecDepth 100000 in
theorem takeOff_any (bR bD j n m cR cD U V d : Nat) (tR tD : TypeId) (w : World) (hm : m = n + 1) (hn4 : n ≤ 4) (hj : j + n ≤ 8) (hne : bR ≠ bD) (hR : Blk w bR tR (dig 9 U)) (hD : Blk w bD tD (dig 4 V)) (hV : V < 2 ^ (64 * n)) (hU : U < 2 ^ (64 * (j + n + 1))) (hd : d < 18446744073709551616) :
    Calls Try.prog 112 #[.slice (some ⟨bR, j, none⟩) m cR, .slice (some ⟨bD, 0, none⟩) n cD, .int .u64 (d : Int)] w (TakePost bR tR d U V j n w) := by
  have HV := Lib.hid (And.intro hV hU)
  have hnm : n < m := by omega
  have hm2 : m ≤ 5 := by omega
  have HM := Lib.hid hm
  clear hV hU hm
  go_enter Try.func112, Try.ntmps112
  go_wp2
  go_loopw [7, 8, 15] (fun c b i wr => ∃ k cc bb Uk : Nat, k ≤ n ∧ i = .int .i64 k ∧ c = .int .u64 cc ∧ b = .int .u64 bb ∧ cc < 18446744073709551616 ∧ bb ≤ 1 ∧ Hid (Uk + d * (V % 2 ^ (64 * k)) * 2 ^ (64 * j) = U + (bb + cc) * 2 ^ (64 * (j + k)) ∧ Uk < 2 ^ (64 * (j + n + 1))) ∧ Blk wr bR tR (dig 9 Uk) ∧ Blk wr bD tD (dig 4 V) ∧ Only bR w wr) (fun _ _ i _ => n - (intOf i).toNat)
  case atStart => exact ⟨0, 0, 0, U, by omega, rfl, rfl, rfl, by omega, by omega, Lib.hid ⟨by simp [Nat.mod_one], HV.out.2⟩, hR, hD, Only.refl _ _⟩
  case round =>
    clear hR hD
    obtain ⟨k, cc, bb, Uk, hk, rfl, rfl, rfl, hcc, hbb, HI, hR, hD, hO⟩ := hrel
    by_cases hlt : k < n
    · have hd1 : decide (k < n) = true := by simpa using hlt
      have g1 := hD.cell (dig_get (show k < 4 by omega))
      have g2 := hR.cell (dig_get (show j + k < 9 by omega))
      have f2 := hR.free (j + k)
      have l1 := lm_lt V k
      have l2 := lm_lt Uk (j + k)
      have hstep := fun lo hi s b' hT hs => off_step (U := U) (V := V) (d := d) (j := j) (k := k) (c := cc) (b := bb) (Uk := Uk) (lo := lo) (hi := hi) (s := s) (b' := b') hT hs HI.out.1
      have hlt2 := fun s hs => dput_lt (v := Uk) (k := j + k) (s := s) (m := j + n + 1) HI.out.2 (by omega) hs
      have hset := fun s hs => dig_put (n := 9) (v := Uk) (k := j + k) (s := s) (by omega) hs
      simp only [lm] at l1 l2 hstep
      generalize V / 2 ^ (64 * k) % 2 ^ 64 = vk at *
      generalize Uk / 2 ^ (64 * (j + k)) % 2 ^ 64 = r at *
      have HS := Lib.hid (And.intro hstep (And.intro hlt2 hset))
      clear hstep hlt2 hset
      have hkm : k < m := by omega
      go_wp2_with (go_at_call 101; refine (mulAdd0 vk d cc _ l1 hd hcc).mono ?_; rintro e w' ⟨lo, hi, hT, hlo, hhi, rfl, rfl⟩; obtain ⟨s, b', hs, hsl, hb', hr⟩ := sub_ex r lo bb l2 hlo hbb; have HT := Lib.hid (And.intro hT (And.intro hs (And.intro hsl (And.intro hb' hhi)))); clear hT hs hsl hb' hhi)
      go_roundw
      case rel =>
        refine ⟨k + 1, hi, b', _, by omega, by go_num, rfl, rfl, HT.out.2.2.2.2, HT.out.2.2.2.1, Lib.hid ⟨HS.out.1 lo hi s b' HT.out.1 HT.out.2.1, HS.out.2.1 s HT.out.2.2.1⟩, ?_, hD.far (by simp only; omega) _, hO.trans (Only.setCell wr ⟨bR, j + k, none⟩ _)⟩
        rw [← HS.out.2.2 s HT.out.2.2.1]
        exact hR.set _ _
      case measure => simp [intOf]; omega
    · obtain rfl : k = n := by omega
      have hd1 : decide (k < k) = false := by simp
      have g2 := hR.cell (dig_get (show j + k < 9 by omega))
      have f2 := hR.free (j + k)
      have l2 := lm_lt Uk (j + k)
      have hend := fun s b' hs => off_end (U := U) (V := V) (d := d) (j := j) (n := k) (c := cc) (b := bb) (Uk := Uk) (s := s) (b' := b') HV.out.1 hs HI.out.1
      have hlt2 := fun s hs => dput_lt (v := Uk) (k := j + k) (s := s) (m := j + k + 1) HI.out.2 (by omega) hs
      have hset := fun s hs => dig_put (n := 9) (v := Uk) (k := j + k) (s := s) (by omega) hs
      simp only [lm] at l2 hend
      generalize Uk / 2 ^ (64 * (j + k)) % 2 ^ 64 = r at *
      obtain ⟨s, b', hs, hsl, hb', hr⟩ := sub_ex r cc bb l2 hcc hbb
      have HF := Lib.hid (And.intro (hend s b' hs) (And.intro (hlt2 s hsl) (hset s hsl)))
      clear hend hlt2 hset hs hsl
      have hb2 : b' = 0 ∨ b' = 1 := by omega
      clear hb'
      rcases hb2 with rfl | rfl
      · go_wp2
        go_ret
        refine ⟨false, _, rfl, by rw [HF.out.1]; rfl, HF.out.2.1, ?_, hO.trans (Only.setCell wr ⟨bR, j + k, none⟩ _)⟩
        rw [← HF.out.2.2]
        exact hR.set _ _
      · go_wp2
        go_ret
        refine ⟨true, _, rfl, by rw [HF.out.1]; rfl, HF.out.2.1, ?_, hO.trans (Only.setCell wr ⟨bR, j + k, none⟩ _)⟩
        rw [← HF.out.2.2]
        exact hR.set _ _
end Go.Proofs.Ytcdjinjeogodfaa

/-! A divisor given back. -/
namespace Go.Proofs.Ytcdjinjeogodfaa
open Go.RowKit

set_option maxHeartbeats 4000000 in
set_option maxRecDepth 100000 in
theorem giveBack_any (bR bD j n m cR cD U V : Nat) (tR tD : TypeId) (w : World) (hm : m = n + 1) (hn4 : n ≤ 4) (hj : j + n ≤ 8) (hne : bR ≠ bD) (hR : Blk w bR tR (dig 9 U)) (hD : Blk w bD tD (dig 4 V)) (hV : V < 2 ^ (64 * n)) (hU : U < 2 ^ (64 * (j + n + 1))) :
    Calls Try.prog 113 #[.slice (some ⟨bR, j, none⟩) m cR, .slice (some ⟨bD, 0, none⟩) n cD] w (BackPost bR tR U V j n w) := by
  have HV := Lib.hid (And.intro hV hU)
  have hnm : n < m := by omega
  have hm2 : m ≤ 5 := by omega
  have HM := Lib.hid hm
  clear hV hU hm
  go_enter Try.func113, Try.ntmps113
  go_wp2
  go_loopw [5, 11] (fun c i wr => ∃ k cc Uk : Nat, k ≤ n ∧ i = .int .i64 k ∧ c = .int .u64 cc ∧ cc ≤ 1 ∧ Hid (Uk + cc * 2 ^ (64 * (j + k)) = U + (V % 2 ^ (64 * k)) * 2 ^ (64 * j) ∧ Uk < 2 ^ (64 * (j + n + 1))) ∧ Blk wr bR tR (dig 9 Uk) ∧ Blk wr bD tD (dig 4 V) ∧ Only bR w wr) (fun _ i _ => n - (intOf i).toNat)
  case atStart => exact ⟨0, 0, U, by omega, rfl, rfl, by omega, Lib.hid ⟨by simp [Nat.mod_one], HV.out.2⟩, hR, hD, Only.refl _ _⟩
  case round =>
    clear hR hD
    obtain ⟨k, cc, Uk, hk, rfl, rfl, hcc, HI, hR, hD, hO⟩ := hrel
    by_cases hlt : k < n
    · have hd1 : decide (k < n) = true := by simpa using hlt
      have g1 := hD.cell (dig_get (show k < 4 by omega))
      have g2 := hR.cell (dig_get (show j + k < 9 by omega))
      have f2 := hR.free (j + k)
      have l1 := lm_lt V k
      have l2 := lm_lt Uk (j + k)
      have hstep := fun s c' hs => back_step (U := U) (V := V) (j := j) (k := k) (c := cc) (Uk := Uk) (s := s) (c' := c') hs HI.out.1
      have hlt2 := fun s hs => dput_lt (v := Uk) (k := j + k) (s := s) (m := j + n + 1) HI.out.2 (by omega) hs
      have hset := fun s hs => dig_put (n := 9) (v := Uk) (k := j + k) (s := s) (by omega) hs
      simp only [lm] at l1 l2 hstep
      generalize V / 2 ^ (64 * k) % 2 ^ 64 = vk at *
      generalize Uk / 2 ^ (64 * (j + k)) % 2 ^ 64 = r at *
      obtain ⟨s, c', hs, hsl, hc', hr⟩ := add_ex r vk cc l2 l1 hcc
      have HS := Lib.hid (And.intro (hstep s c' hs) (And.intro (hlt2 s hsl) (And.intro (hset s hsl) hc')))
      clear hstep hlt2 hset hs hsl hc'
      have hkm : k < m := by omega
      go_wp2
      go_roundw
      case rel =>
        refine ⟨k + 1, c', _, by omega, by go_num, rfl, HS.out.2.2.2, Lib.hid ⟨HS.out.1, HS.out.2.1⟩, ?_, hD.far (by simp only; omega) _, hO.trans (Only.setCell wr ⟨bR, j + k, none⟩ _)⟩
        rw [← HS.out.2.2.1]
        exact hR.set _ _
      case measure => simp [intOf]; omega
    · obtain rfl : k = n := by omega
      have hd1 : decide (k < k) = false := by simp
      have g2 := hR.cell (dig_get (show j + k < 9 by omega))
      have f2 := hR.free (j + k)
      have l2 := lm_lt Uk (j + k)
      have hend := fun s c' hs => back_end (U := U) (V := V) (j := j) (n := k) (c := cc) (Uk := Uk) (s := s) (c' := c') HV.out.1 hs HI.out.1
      have hlt2 := fun s hs => dput_lt (v := Uk) (k := j + k) (s := s) (m := j + k + 1) HI.out.2 (by omega) hs
      have hset := fun s hs => dig_put (n := 9) (v := Uk) (k := j + k) (s := s) (by omega) hs
      simp only [lm] at l2 hend
      generalize Uk / 2 ^ (64 * (j + k)) % 2 ^ 64 = r at *
      obtain ⟨s, b', hs, hsl, hb', hr0⟩ := add_ex r 0 cc l2 (by omega) hcc
      have hr : ∀ w : World, (callFunc 98 #[.int .u64 r, .int .u64 0, .int .u64 cc]).run Try.prog w = .ok (.value (.tuple #[.int .u64 s, .int .u64 b'])) w := hr0
      have HF := Lib.hid (And.intro (hend s b' (by omega)) (And.intro (hlt2 s hsl) (hset s hsl)))
      clear hend hlt2 hset hs hsl hr0
      have hb2 : b' = 0 ∨ b' = 1 := by omega
      clear hb'
      rcases hb2 with rfl | rfl
      · go_wp2
        go_ret
        refine ⟨false, _, rfl, by rw [← HF.out.1]; rfl, HF.out.2.1, ?_, hO.trans (Only.setCell wr ⟨bR, j + k, none⟩ _)⟩
        rw [← HF.out.2.2]
        exact hR.set _ _
      · go_wp2
        go_ret
        refine ⟨true, _, rfl, by rw [← HF.out.1]; rfl, HF.out.2.1, ?_, hO.trans (Only.setCell wr ⟨bR, j + k, none⟩ _)⟩
        rw [← HF.out.2.2]
        exact hR.set _ _
end Go.Proofs.Ytcdjinjeogodfaa
