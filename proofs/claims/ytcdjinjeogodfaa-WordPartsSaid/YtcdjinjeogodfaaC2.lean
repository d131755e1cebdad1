/- Limbs: plus, minus, times, low, wide. -/
import Derived.Test.YtcdjinjeogodfaaB1
import Derived.Test.YtcdjinjeogodfaaB3
import Derived.Test.YtcdjinjeogodfaaV3
import Derived.Deep.RegionWith
namespace Go.Proofs.Ytcdjinjeogodfaa
open Go.RowKit

set_option maxHeartbeats 1000000 in
set_option maxRecDepth 100000 in
theorem plus_any (x y : Nat) (w : World) :
    Calls Try.prog 67 #[.agg (dig 4 x), .agg (dig 4 y)] w fun e w' => e = .returned (.tuple #[.agg (dig 4 ((x + y) % 2 ^ 256)), .int .u64 ((cry x y 4 : Nat) : Int)]) ∧ Below w.heap.size w w' := by
  go_enter Try.func67, Try.ntmps67
  go_wp2
  go_loopw [7, 9] (fun c i wr => ∃ k : Nat, k ≤ 4 ∧ i = .int .i64 k ∧ c = .int .u64 (cry x y k) ∧ Below w.heap.size w wr ∧
      Blk wr w.heap.size 42 (dig 4 x) ∧ Blk wr (w.heap.size + 1) 42 (dig 4 y) ∧ Blk wr (w.heap.size + 1 + 1) 42 (dig 4 0) ∧
      Blk wr (w.heap.size + 1 + 1 + 1) 42 (dig 4 ((x + y) % 2 ^ (64 * k)))) (fun _ i _ => 4 - (intOf i).toNat)
  case atStart =>
    refine ⟨0, by omega, rfl, by rw [cry_zero]; rfl, (((((Below.refl _ _).alloc (Nat.le_refl _) _).alloc (by simp) _).alloc (by simp; omega) _).alloc (by simp; omega) _), ?_, ?_, ?_, ?_⟩
    · exact (((Blk.new _ _ _).alloc _).alloc _).alloc _
    · simpa using (((Blk.new (w.alloc _) _ _).alloc _).alloc _)
    · rw [dig_zero4]; simpa using ((Blk.new ((w.alloc _).alloc _) _ _).alloc _)
    · rw [show (x + y) % 2 ^ (64 * 0) = 0 by simp [Nat.mod_one], dig_zero4]; simpa using (Blk.new (((w.alloc _).alloc _).alloc _) _ _)
  case round =>
    obtain ⟨k, hk, rfl, rfl, hb, h0, h1, h2, h3⟩ := hrel
    by_cases hlt : k < 4
    · have g0 := h0.cell (dig_get hlt)
      have g1 := h1.cell (dig_get hlt)
      have g3 := h3.cell (dig_get hlt)
      have f3 := h3.free k
      have hc := cry_le x y k
      have hadd := fun w => add64 (x / 2 ^ (64 * k) % 2 ^ 64) (y / 2 ^ (64 * k) % 2 ^ 64) (cry x y k) hc w
      have st := add_step x y k
      have sd := @dig_step 4 (x + y) k _ hlt rfl
      generalize x / 2 ^ (64 * k) % 2 ^ 64 = xk at *
      generalize y / 2 ^ (64 * k) % 2 ^ 64 = yk at *
      generalize cry x y k = ck at *
      rw [st.1] at sd
      have ST := Lib.hid (And.intro st.2 sd)
      clear st sd
      go_wp2
      go_region_held3 (fun w' => w'.cell? ⟨w.heap.size, k, none⟩ = some (.int .u64 xk) ∧ w'.cell? ⟨w.heap.size + 1, k, none⟩ = some (.int .u64 yk)) (first | exact ⟨g0, g1⟩ | exact ⟨(World.cell?_setCell_far _ _ _ _ (by simp only; omega)).trans g0, (World.cell?_setCell_far _ _ _ _ (by simp only; omega)).trans g1⟩) (first | fail)
      go_wp2
      go_roundw
      case rel =>
        refine ⟨k + 1, by omega, by go_num, ?_, ?_, ?_, ?_, ?_, ?_⟩
        · rw [ST.out.1]; rfl
        · exact (hb.setCell (by simp only; omega) _).drew
        · exact (h0.far (by simp only; omega) _).drew
        · exact (h1.far (by simp only; omega) _).drew
        · exact (h2.far (by simp only; omega) _).drew
        · rw [← ST.out.2]; exact (h3.set k _).drew
      case measure => simp [intOf]; omega
    · clear h0 h1
      go_wp2_with (first | (refine arm_load rfl 42 _ rfl rfl (load_limbs (by assumption)) ?_) | (refine arm_store rfl 42 _ _ rfl rfl rfl (store_limbs (by assumption)) ?_))
      obtain rfl : k = 4 := by omega
      exact post_cell_one 4 5 42 rfl rfl rfl rfl (h2.row _) limbs_type rfl limbs_size (dig_size _ _) ⟨rfl, below_row hb (by omega) _⟩


theorem sub64' (x y b : Nat) (hb : b ≤ 1) : ∃ s k : Nat, s = (x + 2 ^ 64 - y - b) % 2 ^ 64 ∧ k = (if x < y + b then 1 else 0) ∧ ∀ w : World,
    (callFunc 100 #[.int .u64 x, .int .u64 y, .int .u64 b]).run Try.prog w = .ok (.value (.tuple #[.int .u64 s, .int .u64 k])) w :=
  ⟨_, _, rfl, rfl, fun w => sub64 x y b hb w⟩

set_option maxHeartbeats 1000000 in
set_option maxRecDepth 100000 in
theorem minus_any (x y z : Nat) (hz : (z + y) % M256 = x % M256) (w : World) :
    Calls Try.prog 72 #[.agg (dig 4 x), .agg (dig 4 y)] w fun e w' => e = .returned (.agg (dig 4 z)) ∧ Below w.heap.size w w' := by
  have HZ := Lib.hid hz
  clear hz
  go_enter Try.func72, Try.ntmps72
  go_wp2
  go_loopw [6, 8] (fun c i wr => ∃ k : Nat, k ≤ 4 ∧ i = .int .i64 k ∧ c = .int .u64 (brw x y k) ∧ Below w.heap.size w wr ∧
      Blk wr w.heap.size 42 (dig 4 x) ∧ Blk wr (w.heap.size + 1) 42 (dig 4 y) ∧ Blk wr (w.heap.size + 1 + 1) 42 (dig 4 0) ∧
      Blk wr (w.heap.size + 1 + 1 + 1) 42 (dig 4 (z % 2 ^ (64 * k)))) (fun _ i _ => 4 - (intOf i).toNat)
  case atStart =>
    obtain ⟨g0, g1, g2, g3, g4⟩ := four_blocks w 42 42 42 42 (dig 4 x) (dig 4 y) (dig 4 0) (dig 4 0)
    refine ⟨0, by omega, rfl, by rw [brw_zero]; rfl, ?_⟩
    rw [show z % 2 ^ (64 * 0) = 0 by simp [Nat.mod_one], ← dig_zero4]
    exact ⟨g0, g1, g2, g3, g4⟩
  case round =>
    obtain ⟨k, hk, rfl, rfl, hb, h0, h1, h2, h3⟩ := hrel
    by_cases hlt : k < 4
    · have g0 := h0.cell (dig_get hlt)
      have g1 := h1.cell (dig_get hlt)
      have g3 := h3.cell (dig_get hlt)
      have f3 := h3.free k
      have st := sub_step HZ.out hlt
      have sd := @dig_step 4 z k _ hlt rfl
      have hc := brw_le x y k
      obtain ⟨d, bo, hd, hbo, hr⟩ := sub64' (x / 2 ^ (64 * k) % 2 ^ 64) (y / 2 ^ (64 * k) % 2 ^ 64) (brw x y k) hc
      generalize x / 2 ^ (64 * k) % 2 ^ 64 = xk at *
      generalize y / 2 ^ (64 * k) % 2 ^ 64 = yk at *
      generalize brw x y k = ck at *
      have e1 : z / 2 ^ (64 * k) % 2 ^ 64 = d := by rw [st.1, hd]
      have e2 : brw x y (k + 1) = bo := by rw [st.2, hbo]
      rw [e1] at sd
      have ST := Lib.hid (And.intro e2 sd)
      clear st sd hd hbo e1 e2
      go_wp2
      go_region_held3 (fun w' => w'.cell? ⟨w.heap.size, k, none⟩ = some (.int .u64 xk) ∧ w'.cell? ⟨w.heap.size + 1, k, none⟩ = some (.int .u64 yk)) (first | exact ⟨g0, g1⟩ | exact ⟨(World.cell?_setCell_far _ _ _ _ (by simp only; omega)).trans g0, (World.cell?_setCell_far _ _ _ _ (by simp only; omega)).trans g1⟩) (first | fail)
      go_wp2
      go_roundw
      case rel =>
        refine ⟨k + 1, by omega, by go_num, ?_, ?_, ?_, ?_, ?_, ?_⟩
        · rw [ST.out.1]
        · exact (hb.setCell (by simp only; omega) _).drew
        · exact (h0.far (by simp only; omega) _).drew
        · exact (h1.far (by simp only; omega) _).drew
        · exact (h2.far (by simp only; omega) _).drew
        · rw [← ST.out.2]; exact (h3.set k _).drew
      case measure => simp [intOf]; omega
    · clear h0 h1
      go_wp2_with (first | (refine arm_load rfl 42 _ rfl rfl (load_limbs (by assumption)) ?_) | (refine arm_store rfl 42 _ _ rfl rfl rfl (store_limbs (by assumption)) ?_))
      obtain rfl : k = 4 := by omega
      rw [dig_mod 4 z] at *
      exact post_cell 4 42 rfl rfl rfl (h2.row _) limbs_type rfl limbs_size (dig_size _ _) ⟨rfl, below_row hb (by omega) _⟩
end Go.Proofs.Ytcdjinjeogodfaa
