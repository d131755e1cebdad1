/- A digit's multiple taken off. -/
import Derived.Test.YtcdjinjeogodfaaDT
import Derived.StillTailTactics
namespace Go.Proofs.Ytcdjinjeogodfaa
open Go.RowKit

def TakePost (bR : Nat) (tR : TypeId) (d U V j n : Nat) (w : World) (e : Ending) (w' : World) : Prop := ∃ (t : Bool) (U' : Nat), e = .returned (.bool t) ∧ U' + d * V * 2 ^ (64 * j) = U + t.toNat * 2 ^ (64 * (j + n + 1)) ∧ U' < 2 ^ (64 * (j + n + 1)) ∧ Blk w' bR tR (dig 9 U') ∧ Only bR w w'
def BackPost (bR : Nat) (tR : TypeId) (U V j n : Nat) (w : World) (e : Ending) (w' : World) : Prop := ∃ (t : Bool) (U' : Nat), e = .returned (.bool t) ∧ U' + t.toNat * 2 ^ (64 * (j + n + 1)) = U + V * 2 ^ (64 * j) ∧ U' < 2 ^ (64 * (j + n + 1)) ∧ Blk w' bR tR (dig 9 U') ∧ Only bR w w'
set_option maxHeartbeats 4000000 in
set_option maxRecDepth 100000 in
theorem takeOff_any (bR bD j n m cR cD U V d : Nat) (tR tD : TypeId) (w : World) (hm : m = n + 1) (hn4 : n ≤ 4) (hj : j + n ≤ 8) (hne : bR ≠ bD) (hR : Blk w bR tR (dig 9 U)) (hD : Blk w bD tD (dig 4 V)) (hV : V < 2 ^ (64 * n)) (hU : U < 2 ^ (64 * (j + n + 1))) (hd : d < 18446744073709551616) :
    Calls Try.prog 112 #[.slice (some ⟨bR, j, none⟩) m cR, .slice (some ⟨bD, 0, none⟩) n cD, .int .u64 (d : Int)] w (TakePost bR tR d U V j n w) := by
  have HV := Lib.hid (And.intro hV hU)
  have hnm : n < m := by omega
  have hm2 : m ≤ 5 := by omega
  have HM := Lib.hid hm
  clear hV hU hm
  go_enter Try.func112, Try.ntmps112
  go_wp2
  go_loopw [7, 8, 15] (fun c b i wr => ∃ k cc bb Uk : Nat, k ≤ n ∧ i = .int .i64 k ∧ c = .int .u64 cc ∧ b = .int .u64 bb ∧ cc < 18446744073709551616 ∧ bb ≤ 1 ∧ Hid (Uk + d * (V % 2 ^ (64 * k)) * 2 ^ (64 * j) = U + (bb + cc) * 2 ^ (64 * (j + k)) ∧ Uk < 2 ^ (64 * (j + n + 1))) ∧ Blk wr bR tR (dig 9 Uk) ∧ Blk wr bD tD (dig 4 V) ∧ Only bR w wr) (fun _ _ i _ => n - (intOf i).toNat)
  case atStart => exact ⟨0, 0, 0, U, by omega, rfl, rfl, rfl, by omega, by omega, Lib.hid ⟨by simp [Nat.mod_one], HV.out.2⟩, hR, hD, Only.refl _ _⟩
  case round =>
    clear hR hD
    obtain ⟨k, cc, bb, Uk, hk, rfl, rfl, rfl, hcc, hbb, HI, hR, hD, hO⟩ := hrel
    by_cases hlt : k < n
    · have hd1 : decide (k < n) = true := by simpa using hlt
      have g1 := hD.cell (dig_get (show k < 4 by omega))
      have g2 := hR.cell (dig_get (show j + k < 9 by omega))
      have f2 := hR.free (j + k)
      have l1 := lm_lt V k
      have l2 := lm_lt Uk (j + k)
      have hstep := fun lo hi s b' hT hs => off_step (U := U) (V := V) (d := d) (j := j) (k := k) (c := cc) (b := bb) (Uk := Uk) (lo := lo) (hi := hi) (s := s) (b' := b') hT hs HI.out.1
      have hlt2 := fun s hs => dput_lt (v := Uk) (k := j + k) (s := s) (m := j + n + 1) HI.out.2 (by omega) hs
      have hset := fun s hs => dig_put (n := 9) (v := Uk) (k := j + k) (s := s) (by omega) hs
      simp only [lm] at l1 l2 hstep
      generalize V / 2 ^ (64 * k) % 2 ^ 64 = vk at *
      generalize Uk / 2 ^ (64 * (j + k)) % 2 ^ 64 = r at *
      have HS := Lib.hid (And.intro hstep (And.intro hlt2 hset))
      clear hstep hlt2 hset
      have hkm : k < m := by omega
      go_wp2_with (go_at_call 101; refine (mulAdd0 vk d cc _ l1 hd hcc).mono ?_; rintro e w' ⟨lo, hi, hT, hlo, hhi, rfl, rfl⟩; obtain ⟨s, b', hs, hsl, hb', hr⟩ := sub_ex r lo bb l2 hlo hbb; have HT := Lib.hid (And.intro hT (And.intro hs (And.intro hsl (And.intro hb' hhi)))); clear hT hs hsl hb' hhi)
      go_roundw
      case rel =>
        refine ⟨k + 1, hi, b', _, by omega, by go_num, rfl, rfl, HT.out.2.2.2.2, HT.out.2.2.2.1, Lib.hid ⟨HS.out.1 lo hi s b' HT.out.1 HT.out.2.1, HS.out.2.1 s HT.out.2.2.1⟩, ?_, hD.far (by simp only; omega) _, hO.trans (Only.setCell wr ⟨bR, j + k, none⟩ _)⟩
        rw [← HS.out.2.2 s HT.out.2.2.1]
        exact hR.set _ _
      case measure => simp [intOf]; omega
    · obtain rfl : k = n := by omega
      have hd1 : decide (k < k) = false := by simp
      have g2 := hR.cell (dig_get (show j + k < 9 by omega))
      have f2 := hR.free (j + k)
      have l2 := lm_lt Uk (j + k)
      have hend := fun s b' hs => off_end (U := U) (V := V) (d := d) (j := j) (n := k) (c := cc) (b := bb) (Uk := Uk) (s := s) (b' := b') HV.out.1 hs HI.out.1
      have hlt2 := fun s hs => dput_lt (v := Uk) (k := j + k) (s := s) (m := j + k + 1) HI.out.2 (by omega) hs
      have hset := fun s hs => dig_put (n := 9) (v := Uk) (k := j + k) (s := s) (by omega) hs
      simp only [lm] at l2 hend
      generalize Uk / 2 ^ (64 * (j + k)) % 2 ^ 64 = r at *
      obtain ⟨s, b', hs, hsl, hb', hr⟩ := sub_ex r cc bb l2 hcc hbb
      have HF := Lib.hid (And.intro (hend s b' hs) (And.intro (hlt2 s hsl) (hset s hsl)))
      clear hend hlt2 hset hs hsl
      have hb2 : b' = 0 ∨ b' = 1 := by omega
      clear hb'
      rcases hb2 with rfl | rfl
      · go_wp2
        go_ret
        refine ⟨false, _, rfl, by rw [HF.out.1]; rfl, HF.out.2.1, ?_, hO.trans (Only.setCell wr ⟨bR, j + k, none⟩ _)⟩
        rw [← HF.out.2.2]
        exact hR.set _ _
      · go_wp2
        go_ret
        refine ⟨true, _, rfl, by rw [HF.out.1]; rfl, HF.out.2.1, ?_, hO.trans (Only.setCell wr ⟨bR, j + k, none⟩ _)⟩
        rw [← HF.out.2.2]
        exact hR.set _ _
end Go.Proofs.Ytcdjinjeogodfaa
