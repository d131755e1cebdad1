/- A divisor given back. -/
import Derived.Test.YtcdjinjeogodfaaD4
import Derived.StillTailTactics
namespace Go.Proofs.Ytcdjinjeogodfaa
open Go.RowKit

set_option maxHeartbeats 4000000 in
set_option maxRecDepth 100000 in
theorem giveBack_any (bR bD j n m cR cD U V : Nat) (tR tD : TypeId) (w : World) (hm : m = n + 1) (hn4 : n ≤ 4) (hj : j + n ≤ 8) (hne : bR ≠ bD) (hR : Blk w bR tR (dig 9 U)) (hD : Blk w bD tD (dig 4 V)) (hV : V < 2 ^ (64 * n)) (hU : U < 2 ^ (64 * (j + n + 1))) :
    Calls Try.prog 113 #[.slice (some ⟨bR, j, none⟩) m cR, .slice (some ⟨bD, 0, none⟩) n cD] w (BackPost bR tR U V j n w) := by
  have HV := Lib.hid (And.intro hV hU)
  have hnm : n < m := by omega
  have hm2 : m ≤ 5 := by omega
  have HM := Lib.hid hm
  clear hV hU hm
  go_enter Try.func113, Try.ntmps113
  go_wp2
  go_loopw [5, 11] (fun c i wr => ∃ k cc Uk : Nat, k ≤ n ∧ i = .int .i64 k ∧ c = .int .u64 cc ∧ cc ≤ 1 ∧ Hid (Uk + cc * 2 ^ (64 * (j + k)) = U + (V % 2 ^ (64 * k)) * 2 ^ (64 * j) ∧ Uk < 2 ^ (64 * (j + n + 1))) ∧ Blk wr bR tR (dig 9 Uk) ∧ Blk wr bD tD (dig 4 V) ∧ Only bR w wr) (fun _ i _ => n - (intOf i).toNat)
  case atStart => exact ⟨0, 0, U, by omega, rfl, rfl, by omega, Lib.hid ⟨by simp [Nat.mod_one], HV.out.2⟩, hR, hD, Only.refl _ _⟩
  case round =>
    clear hR hD
    obtain ⟨k, cc, Uk, hk, rfl, rfl, hcc, HI, hR, hD, hO⟩ := hrel
    by_cases hlt : k < n
    · have hd1 : decide (k < n) = true := by simpa using hlt
      have g1 := hD.cell (dig_get (show k < 4 by omega))
      have g2 := hR.cell (dig_get (show j + k < 9 by omega))
      have f2 := hR.free (j + k)
      have l1 := lm_lt V k
      have l2 := lm_lt Uk (j + k)
      have hstep := fun s c' hs => back_step (U := U) (V := V) (j := j) (k := k) (c := cc) (Uk := Uk) (s := s) (c' := c') hs HI.out.1
      have hlt2 := fun s hs => dput_lt (v := Uk) (k := j + k) (s := s) (m := j + n + 1) HI.out.2 (by omega) hs
      have hset := fun s hs => dig_put (n := 9) (v := Uk) (k := j + k) (s := s) (by omega) hs
      simp only [lm] at l1 l2 hstep
      generalize V / 2 ^ (64 * k) % 2 ^ 64 = vk at *
      generalize Uk / 2 ^ (64 * (j + k)) % 2 ^ 64 = r at *
      obtain ⟨s, c', hs, hsl, hc', hr⟩ := add_ex r vk cc l2 l1 hcc
      have HS := Lib.hid (And.intro (hstep s c' hs) (And.intro (hlt2 s hsl) (And.intro (hset s hsl) hc')))
      clear hstep hlt2 hset hs hsl hc'
      have hkm : k < m := by omega
      go_wp2
      go_roundw
      case rel =>
        refine ⟨k + 1, c', _, by omega, by go_num, rfl, HS.out.2.2.2, Lib.hid ⟨HS.out.1, HS.out.2.1⟩, ?_, hD.far (by simp only; omega) _, hO.trans (Only.setCell wr ⟨bR, j + k, none⟩ _)⟩
        rw [← HS.out.2.2.1]
        exact hR.set _ _
      case measure => simp [intOf]; omega
    · obtain rfl : k = n := by omega
      have hd1 : decide (k < k) = false := by simp
      have g2 := hR.cell (dig_get (show j + k < 9 by omega))
      have f2 := hR.free (j + k)
      have l2 := lm_lt Uk (j + k)
      have hend := fun s c' hs => back_end (U := U) (V := V) (j := j) (n := k) (c := cc) (Uk := Uk) (s := s) (c' := c') HV.out.1 hs HI.out.1
      have hlt2 := fun s hs => dput_lt (v := Uk) (k := j + k) (s := s) (m := j + k + 1) HI.out.2 (by omega) hs
      have hset := fun s hs => dig_put (n := 9) (v := Uk) (k := j + k) (s := s) (by omega) hs
      simp only [lm] at l2 hend
      generalize Uk / 2 ^ (64 * (j + k)) % 2 ^ 64 = r at *
      obtain ⟨s, b', hs, hsl, hb', hr0⟩ := add_ex r 0 cc l2 (by omega) hcc
      have hr : ∀ w : World, (callFunc 98 #[.int .u64 r, .int .u64 0, .int .u64 cc]).run Try.prog w = .ok (.value (.tuple #[.int .u64 s, .int .u64 b'])) w := hr0
      have HF := Lib.hid (And.intro (hend s b' (by omega)) (And.intro (hlt2 s hsl) (hset s hsl)))
      clear hend hlt2 hset hs hsl hr0
      have hb2 : b' = 0 ∨ b' = 1 := by omega
      clear hb'
      rcases hb2 with rfl | rfl
      · go_wp2
        go_ret
        refine ⟨false, _, rfl, by rw [← HF.out.1]; rfl, HF.out.2.1, ?_, hO.trans (Only.setCell wr ⟨bR, j + k, none⟩ _)⟩
        rw [← HF.out.2.2]
        exact hR.set _ _
      · go_wp2
        go_ret
        refine ⟨true, _, rfl, by rw [← HF.out.1]; rfl, HF.out.2.1, ?_, hO.trans (Only.setCell wr ⟨bR, j + k, none⟩ _)⟩
        rw [← HF.out.2.2]
        exact hR.set _ _
end Go.Proofs.Ytcdjinjeogodfaa
