/- Words and rows of limbs: load, word, Of. -/
import Derived.Test.YtcdjinjeogodfaaB2
import Derived.Test.YtcdjinjeogodfaaB3
import Derived.Test.YtcdjinjeogodfaaB4
namespace Go.Proofs.Ytcdjinjeogodfaa
open Go.RowKit

theorem joinBytes_word (x k b o n c xk : Nat) (t : TypeId) (w : World) (hxk : x / 2 ^ (64 * k) % 2 ^ 64 = xk) (hk : k < 4) (ho : o = 24 - 8 * k) (hn : 8 ≤ n) (hb : Blk w b t (wcells x)) :
    Calls Try.prog 97 #[.slice (some ⟨b, o, none⟩) n c] w fun e w' => e = .returned (.int .u64 (xk : Int)) ∧ ∃ m, w' = w.drewN m := by
  subst ho hxk
  refine (joinBytes_any (fun j => byt x (24 - 8 * k + j)) b _ n c w hn (fun j => byt_lt _ _) (fun j hj => hb.cell (wf_get (by omega)))).mono fun e w' ⟨he, hw⟩ => ⟨?_, hw⟩
  rw [he]
  refine ret_int (congrArg _ ?_)
  have hl := limb_of_bytes (x / 2 ^ (64 * k) % 2 ^ 64) (Nat.mod_lt _ (by decide))
  rw [byt_limb hk (by omega), byt_limb hk (by omega), byt_limb hk (by omega), byt_limb hk (by omega), byt_limb hk (by omega), byt_limb hk (by omega), byt_limb hk (by omega), byt_limb hk (by omega)]
  simpa using hl

set_option maxHeartbeats 1000000 in
set_option maxRecDepth 100000 in
theorem load_any (x : Nat) (w : World) :
    Calls Try.prog 66 #[.agg (wcells x)] w fun e w' => e = .returned (.agg (dig 4 x)) ∧ Below w.heap.size w w' := by
  go_enter Try.func66, Try.ntmps66
  go_wp2
  go_loopw [5] (fun i wr => ∃ k : Nat, k ≤ 4 ∧ i = .int .i64 k ∧ Below w.heap.size w wr ∧
      Blk wr w.heap.size 23 (wcells x) ∧ Blk wr (w.heap.size + 1) 42 (dig 4 0) ∧ Blk wr (w.heap.size + 1 + 1) 42 (dig 4 (x % 2 ^ (64 * k)))) (fun i _ => 4 - (intOf i).toNat)
  case atStart =>
    obtain ⟨g0, g1, g2, g3⟩ := three_blocks w 23 42 42 (wcells x) (dig 4 0) (dig 4 0)
    exact ⟨0, by omega, rfl, by rw [← dig_zero4]; exact g0, by rw [← dig_zero4]; exact g1, by rw [← dig_zero4]; exact g2, by rw [← dig_zero4, show x % 2 ^ (64 * 0) = 0 by simp [Nat.mod_one]]; exact g3⟩
  case round =>
    obtain ⟨k, hk, rfl, hb, h0, h1, h2⟩ := hrel
    by_cases hlt : k < 4
    · obtain ⟨xk, hxk⟩ : ∃ xk, x / 2 ^ (64 * k) % 2 ^ 64 = xk := ⟨_, rfl⟩
      have sd := @dig_step 4 x k _ hlt hxk.symm
      have SD := Lib.hid (And.intro hxk sd)
      clear sd hxk
      have hsl := fun wx => word_slice (b := w.heap.size) (lo := 24 - 8 * (k : Int)) (by omega) (by omega) wx
      rw [show (24 - 8 * (k : Int)).toNat = 24 - 8 * k by omega] at hsl
      go_wp2_with (first | (go_at_call 97; refine (joinBytes_word x k _ _ _ _ _ _ _ SD.out.1 hlt (by omega) (by omega) h0).mono ?_; rintro e w' ⟨rfl, m, rfl⟩) | (refine arm_store_int rfl 40 _ _ rfl rfl rfl u64_size (Blk.drewN h2 _) (by rw [dig_size]; omega) ?_; intro w1 hB1 hO1))
      go_roundw
      case rel =>
        refine ⟨k + 1, by omega, by go_num, (below_drewN hb _).trans (hO1.below (by omega)), hO1.blk (by omega) (h0.drewN _), hO1.blk (by omega) (h1.drewN _), ?_⟩
        rw [← SD.out.2]; exact hB1
      case measure => simp [intOf]; omega
    · clear h0
      go_wp2_with (first | (refine arm_load rfl 42 _ rfl rfl (load_limbs (by assumption)) ?_) | (refine arm_store rfl 42 _ _ rfl rfl rfl (store_limbs h1) ?_))
      obtain rfl : k = 4 := by omega
      have e : dig 4 (x % 2 ^ (64 * 4)) = dig 4 x := dig_mod 4 x
      rw [← e]
      exact post_cell 2 42 rfl rfl rfl (h1.row _) limbs_type rfl limbs_size (dig_size _ _) ⟨rfl, below_row hb (by omega) _⟩

/-! ### Limbs to words -/
theorem word_step {x k xk : Nat} (hk : k < 4) (hx : x / 2 ^ (64 * k) % 2 ^ 64 = xk) :
    set8 (wcells (x % 2 ^ (64 * k))) (24 - 8 * k) (fun j => xk / 2 ^ (8 * (7 - j)) % 256) = wcells (x % 2 ^ (64 * (k + 1))) := by
  rw [wcells, set8_wf (by omega)]
  refine wf_congr fun i hi => ?_
  by_cases h : 24 - 8 * k ≤ i ∧ i < 24 - 8 * k + 8
  · rw [if_pos h, ← hx, ← byt_limb hk (by omega), show 24 - 8 * k + (i - (24 - 8 * k)) = i by omega, byt_mod_lo (by omega)]
  · rw [if_neg h]
    by_cases h2 : 31 - i < 8 * k
    · rw [byt_mod_lo h2, byt_mod_lo (by omega)]
    · rw [byt_mod_hi (by omega), byt_mod_hi (by omega)]
theorem dig_word (x k : Nat) (h : 0 < k) : wcells (x % 2 ^ (64 * (3 + k))) = wcells x := wf_congr fun i hi => byt_mod_lo (by omega)

set_option maxHeartbeats 1000000 in
set_option maxRecDepth 100000 in
theorem word_any (x : Nat) (w : World) :
    Calls Try.prog 68 #[.agg (dig 4 x)] w fun e w' => e = .returned (.agg (wcells x)) ∧ Below w.heap.size w w' := by
  go_enter Try.func68, Try.ntmps68
  go_wp2
  go_loopw [5] (fun i wr => ∃ k : Nat, k ≤ 4 ∧ i = .int .i64 k ∧ Below w.heap.size w wr ∧
      Blk wr w.heap.size 42 (dig 4 x) ∧ Blk wr (w.heap.size + 1) 23 (wcells 0) ∧ Blk wr (w.heap.size + 1 + 1) 23 (wcells (x % 2 ^ (64 * k)))) (fun i _ => 4 - (intOf i).toNat)
  case atStart =>
    obtain ⟨g0, g1, g2, g3⟩ := three_blocks w 42 23 23 (dig 4 x) (wcells 0) (wcells 0)
    exact ⟨0, by omega, rfl, by rw [← wf_zero]; exact g0, by rw [← wf_zero]; exact g1, by rw [← wf_zero]; exact g2, by rw [← wf_zero, show x % 2 ^ (64 * 0) = 0 by simp [Nat.mod_one]]; exact g3⟩
  case round =>
    obtain ⟨k, hk, rfl, hb, h0, h1, h2⟩ := hrel
    by_cases hlt : k < 4
    · obtain ⟨xk, hxk⟩ : ∃ xk, x / 2 ^ (64 * k) % 2 ^ 64 = xk := ⟨_, rfl⟩
      have sd := word_step hlt hxk
      have g0 := h0.cell (dig_get hlt)
      rw [hxk] at g0
      have lx : xk < 18446744073709551616 := by rw [← hxk]; exact Nat.mod_lt _ (by decide)
      have SD := Lib.hid (And.intro hxk sd)
      clear sd hxk
      have hsl := fun wx => word_slice (b := w.heap.size + 1 + 1) (lo := 24 - 8 * (k : Int)) (by omega) (by omega) wx
      rw [show (24 - 8 * (k : Int)).toNat = 24 - 8 * k by omega] at hsl
      go_wp2
      have e1 : IntKind.i64.wrap (8 * (k : Int)) = 8 * (k : Int) := IntWalk.i64_in _ (by omega)
      have e2 : IntKind.i64.wrap (24 - 8 * (k : Int)) = 24 - 8 * (k : Int) := IntWalk.i64_in _ (by omega)
      go_region_held3 (fun w' => w'.cell? ⟨w.heap.size, k, none⟩ = some (.int .u64 xk)) (first | exact g0 | exact (World.cell?_of_block (w := wr.drew) (hO.block w.heap.size (by omega))).trans g0) (first | (go_at_call 99; refine (splitBytes_any xk lx _ _ _ _ _ _ _ (by omega) (by rw [wf_size]; omega) h2.drew).mono ?_; rintro e w' ⟨rfl, hB, hO⟩))
      go_wp2
      go_roundw
      case rel =>
        refine ⟨k + 1, by omega, by go_num, hb.drew.trans (hO.below (by omega)), hO.blk (by omega) h0.drew, hO.blk (by omega) h1.drew, ?_⟩
        rw [← SD.out.2]; exact hB
      case measure => simp [intOf]; omega
    · clear h0
      go_wp2_with (first | (refine arm_load rfl 23 _ rfl rfl (load_wf (by assumption)) ?_) | (refine arm_store rfl 23 _ _ rfl rfl rfl (store_wf h1) ?_))
      obtain rfl : k = 4 := by omega
      have e : wcells (x % 2 ^ (64 * 4)) = wcells x := dig_word x 1 (by omega)
      rw [← e]
      exact post_cell 2 23 rfl rfl rfl (h1.row _) word_type rfl word_size (wf_size _) ⟨rfl, below_row hb (by omega) _⟩

end Go.Proofs.Ytcdjinjeogodfaa
