/- The hash's end. -/
import Derived.Test.YtopfmaoeebgjmaaGreatDoorM01
import Derived.Test.YtopfmaoeebgjmaaGreatDoorM08
set_option linter.unusedVariables false
set_option linter.unusedSimpArgs false
namespace Go.Proofs.YtopfmaoeebgjmaaGreatDoor
open Go.RowKit
theorem wf_zeros : wf (fun _ => 0) = #[.int .u8 0, .int .u8 0, .int .u8 0, .int .u8 0, .int .u8 0, .int .u8 0, .int .u8 0, .int .u8 0, .int .u8 0, .int .u8 0, .int .u8 0, .int .u8 0, .int .u8 0, .int .u8 0, .int .u8 0, .int .u8 0, .int .u8 0, .int .u8 0, .int .u8 0, .int .u8 0, .int .u8 0, .int .u8 0, .int .u8 0, .int .u8 0, .int .u8 0, .int .u8 0, .int .u8 0, .int .u8 0, .int .u8 0, .int .u8 0, .int .u8 0, .int .u8 0] := by kernel_rfl
theorem word_zero : (Tryz.prog.info? 25).bind (·.zero) = some (.agg (wf (fun _ => 0))) := by rw [wf_zeros]; kernel_rfl
theorem out_bits {x s : Nat} : (x : Int) / 2 ^ s % 256 = ((x / 2 ^ s % 256 : Nat) : Int) := by
  rw [show (x : Int) / 2 ^ s = ((x / 2 ^ s : Nat) : Int) by rw [Int.natCast_ediv, Int.natCast_pow]; rfl]
  generalize x / 2 ^ s = y
  omega
theorem wf_next {g : Nat → Nat} {i v : Nat} (hi : i < 32) (hv : v = g i) : (wf fun j => if j < i then g j else 0).setIfInBounds i (.int .u8 (v : Int)) = wf fun j => if j < i + 1 then g j else 0 := by
  rw [wf_set hi]
  refine wf_congr fun j _ => ?_
  by_cases h : j = i
  · rw [if_pos h, if_pos (by omega), hv, h]
  · rw [if_neg h]
    by_cases h2 : j < i
    · rw [if_pos h2, if_pos (by omega)]
    · rw [if_neg h2, if_neg (by omega)]
set_option maxHeartbeats 4000000 in
set_option maxRecDepth 100000 in
theorem finish_any (b t : Nat) (A : Nat → Nat) (w : World) (hA : Lan A) (ht : t < 136) (hB : Blk w b 173 (spn A t)) :
    Calls Tryz.prog 91 #[.pointer (some ⟨b, 0, none⟩)] w fun e w' => e = .returned (.agg (wf (outN (finN ⟨A, t⟩)))) ∧ Tch [b] w w' := by
  obtain ⟨A1, hA1⟩ : ∃ A1, A1 = xorAt A t 1 := ⟨_, rfl⟩
  obtain ⟨A2, hA2⟩ : ∃ A2, A2 = xorAt A1 135 128 := ⟨_, rfl⟩
  obtain ⟨P, hP⟩ : ∃ P, P = permN A2 := ⟨_, rfl⟩
  have hf : finN ⟨A, t⟩ = P := by rw [hP, hA2, hA1]; rfl
  rw [hf]
  have l1 : Lan A1 := by rw [hA1]; exact xorAt_lan hA (by decide)
  have l2 : Lan A2 := by rw [hA2]; exact xorAt_lan l1 (by decide)
  have lP : Lan P := by rw [hP]; exact perm_lan l2
  have R1 : ∀ w : World, Blk w b 173 (spn A t) → Calls Tryz.prog 109 #[.pointer (some ⟨b, 0, none⟩), .int .u8 1, .int .i64 (t : Int)] w fun e w' => e = .returned (.tuple #[]) ∧ Tch [b] w w' ∧ Blk w' b 173 (spn A1 t) := fun w h => by rw [hA1]; exact add_any b t 1 t A w hA (by decide) ht h
  have R2 : ∀ w : World, Blk w b 173 (spn A1 t) → Calls Tryz.prog 109 #[.pointer (some ⟨b, 0, none⟩), .int .u8 128, .int .i64 135] w fun e w' => e = .returned (.tuple #[]) ∧ Tch [b] w w' ∧ Blk w' b 173 (spn A2 t) := fun w h => by rw [hA2]; exact add_any b 135 128 t A1 w l1 (by decide) (by decide) h
  have R3 : ∀ w : World, Blk w b 173 (spn A2 t) → Calls Tryz.prog 110 #[.pointer (some ⟨b, 0, none⟩)] w fun e w' => e = .returned (.tuple #[]) ∧ Tch [b] w w' ∧ Blk w' b 173 (spn P t) := fun w h => by rw [hP]; exact permute_any b 173 (tk t) A2 w h (by rw [tk_size]; decide) l2
  have HR := hQz (And.intro R1 (And.intro R2 (And.intro R3 lP)))
  have hS := St.one hB
  clear hf hA1 hA2 hP l1 l2 lP R1 R2 R3 hB hA
  skip
  go_enter Tryz.func91, Tryz.ntmps91
  go_wp2_with (first | (have _t := hM2; clear _t; go_at_call 109; refine (HR.out.2.1 _ (hS.get (.tail .head))).mono ?_; rintro e w1 ⟨rfl, hT, hB⟩; replace hS := hS.on1 (.tail .head) hT hB; clear hT hB hM2; have hM3 := trivial) | (go_at_call 109; refine (HR.out.1 _ (hS.get (.tail .head))).mono ?_; rintro e w1 ⟨rfl, hT, hB⟩; replace hS := hS.on1 (.tail .head) hT hB; clear hT hB; have hM2 := trivial) | (have _t := hM3; clear _t; go_at_call 110; refine (HR.out.2.2.1 _ (hS.get (.tail .head))).mono ?_; rintro e w1 ⟨rfl, hT, hB⟩; replace hS := hS.on1 (.tail .head) hT hB; clear hT hB hM3) | (have _t := b2; clear _t; refine st_new hS rfl 25 rfl word_zero ?_; clear hS; intro w1 b3 hS) | (refine st_new hS rfl 25 rfl word_zero ?_; clear hS; intro w1 b2 hS) | (refine st_cell (j := 25) hS rfl 3 _ rfl rfl (by repeat (first | exact At.head | apply At.tail)) (spn_t _ _) int_agg ?_))
  go_loopw [17] (fun i wr => ∃ k : Nat, k ≤ 32 ∧ i = .int .i64 (k : Int) ∧ St [b] w wr [(b3, 25, wf fun j => if j < k then outN P j else 0), (b2, 25, wf fun _ => 0), (b, 173, spn P t)]) (fun i _ => 32 - (intOf i).toNat)
  case atStart =>
    refine ⟨0, by omega, rfl, ?_⟩
    rw [show (wf fun j => if j < 0 then outN P j else 0) = wf fun _ => 0 from wf_congr fun j _ => if_neg (by omega)]
    exact hS
  case round =>
    clear hS
    obtain ⟨k, hk, rfl, hS⟩ := hrel
    by_cases hlt : k < 32
    · obtain ⟨q, hq⟩ : ∃ q, q = k / 8 := ⟨_, rfl⟩
      obtain ⟨r, hr⟩ : ∃ r, r = k % 8 := ⟨_, rfl⟩
      obtain ⟨s, hs⟩ : ∃ s, s = 8 * r := ⟨_, rfl⟩
      have hd : decide ((k : Int) < 32) = true := by simp; omega
      have t1 : (k : Int) / 8 = (q : Int) := by omega
      have t2 : (k : Int) % 8 = (r : Int) := by omega
      have t3 : 8 * (r : Int) = (s : Int) := by omega
      have hq2 : q < 25 := by omega
      have hq3 : (q : Int) < 25 := by omega
      have hs2 : s < 64 := by omega
      have hk3 : (k : Int) < 32 := by omega
      have g := spn_get (A := P) (t := t) hq2
      have hb := out_bits (x := P q) (s := s)
      have hn := wf_next (g := outN P) (v := P q / 2 ^ s % 256) hlt (by unfold outN; rw [hq, hs, hr])
      generalize P q = x at *
      have G := hQz (And.intro g (And.intro hb hn))
      clear g hb hn hq hr hs
      go_wp2_with (first | (refine st_cell (j := q) hS rfl 113 _ rfl rfl (by repeat (first | exact At.head | apply At.tail)) G.out.1 u64_agg ?_) | (refine st_store1 (j := k) hS rfl 5 _ _ rfl rfl rfl u8_size (by repeat (first | exact Upd.head | apply Upd.tail)) (by rw [wf_size]; omega) ?_; clear hS; intro w1 hS))
      rw [G.out.2.1, G.out.2.2] at hS
      go_roundw
      case rel => exact ⟨k + 1, by omega, by go_num, hS⟩
      case measure => simp [intOf]; omega
    · obtain rfl : k = 32 := by omega
      rw [show (wf fun j => if j < 32 then outN P j else 0) = wf (outN P) from wf_congr fun j hj => if_pos hj] at hS
      go_wp2_with (first | (refine st_load hS rfl 25 _ rfl rfl (by repeat (first | exact At.head | apply At.tail)) word_type rfl word_size (wf_size _) ?_) | (refine st_store hS rfl 25 _ _ rfl rfl rfl (by repeat (first | exact Upd.head | apply Upd.tail)) word_size (wf_size _) (wf_size _) (wf_one _) ?_; clear hS; intro w1 hS))
      exact st_post hS 2 25 rfl rfl rfl (by repeat (first | exact At.head | apply At.tail)) word_type rfl word_size (wf_size _) (fun hb => ⟨rfl, hb⟩)
end Go.Proofs.YtopfmaoeebgjmaaGreatDoor
