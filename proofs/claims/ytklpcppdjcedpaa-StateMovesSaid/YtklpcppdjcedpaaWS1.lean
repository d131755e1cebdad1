/- Limbs: sums and differences; word.Add, word.Sub. -/
import Derived.Test.YtklpcppdjcedpaaN12
import Derived.Deep.RegionWith
import Derived.Deep.RegionHeld
import Derived.Laws.Externs
namespace Go.Proofs.Ytklpcppdjcedpaa
open Go.RowKit
set_option linter.unusedVariables false
set_option linter.unusedSimpArgs false
set_option maxRecDepth 100000
/-- The carry of x + y behind k limbs. -/
def cry (x y k : Nat) : Nat := (x % 2 ^ (64 * k) + y % 2 ^ (64 * k)) / 2 ^ (64 * k)
theorem cry_zero (x y : Nat) : cry x y 0 = 0 := by simp [cry, Nat.mod_one]
theorem cry_le (x y k : Nat) : cry x y k ≤ 1 := by
  unfold cry
  have h : 0 < 2 ^ (64 * k) := Nat.two_pow_pos _
  have h1 := Nat.mod_lt x h
  have h2 := Nat.mod_lt y h
  apply Nat.le_of_lt_succ
  rw [Nat.div_lt_iff_lt_mul h]
  omega
theorem mod3 (a b c B : Nat) : (a + b + c) % B = (a % B + b % B + c) % B := by
  rw [Nat.add_mod (a + b), Nat.add_mod a b, Nat.add_mod (a % B + b % B) c]
theorem add_step (x y k : Nat) :
    ((x + y) / 2 ^ (64 * k)) % 2 ^ 64 = (x / 2 ^ (64 * k) % 2 ^ 64 + y / 2 ^ (64 * k) % 2 ^ 64 + cry x y k) % 2 ^ 64 ∧
    cry x y (k + 1) = (x / 2 ^ (64 * k) % 2 ^ 64 + y / 2 ^ (64 * k) % 2 ^ 64 + cry x y k) / 2 ^ 64 := by
  have hP : 0 < 2 ^ (64 * k) := Nat.two_pow_pos _
  have e : 2 ^ (64 * (k + 1)) = 2 ^ (64 * k) * 2 ^ 64 := by rw [← Nat.pow_add]; congr 1
  constructor
  · rw [Nat.add_div hP]
    unfold cry
    have h1 := Nat.mod_lt x hP
    have h2 := Nat.mod_lt y hP
    have h3 : (if 2 ^ (64 * k) ≤ x % 2 ^ (64 * k) + y % 2 ^ (64 * k) then 1 else 0) = (x % 2 ^ (64 * k) + y % 2 ^ (64 * k)) / 2 ^ (64 * k) := by
      split
      · rename_i h
        symm
        rw [Nat.div_eq_iff hP]
        omega
      · symm
        apply Nat.div_eq_of_lt
        omega
    rw [h3]
    exact mod3 _ _ _ _
  · unfold cry
    rw [e, mod_step, mod_step]
    have e2 : x % 2 ^ (64 * k) + 2 ^ (64 * k) * (x / 2 ^ (64 * k) % 2 ^ 64) + (y % 2 ^ (64 * k) + 2 ^ (64 * k) * (y / 2 ^ (64 * k) % 2 ^ 64)) =
        (x % 2 ^ (64 * k) + y % 2 ^ (64 * k)) + 2 ^ (64 * k) * (x / 2 ^ (64 * k) % 2 ^ 64 + y / 2 ^ (64 * k) % 2 ^ 64) := by
      rw [Nat.mul_add]; omega
    rw [e2, ← Nat.div_div_eq_div_mul, Nat.add_mul_div_left _ _ hP, Nat.add_comm]

/-- The borrow of x - y behind k limbs. -/
def brw (x y k : Nat) : Nat := if x % 2 ^ (64 * k) < y % 2 ^ (64 * k) then 1 else 0
theorem brw_zero (x y : Nat) : brw x y 0 = 0 := by simp [brw, Nat.mod_one]
theorem brw_le (x y k : Nat) : brw x y k ≤ 1 := by unfold brw; split <;> omega
theorem pow_dvd_M256 {k : Nat} (hk : k ≤ 4) : 2 ^ (64 * k) ∣ M256 := by
  unfold M256
  exact Nat.pow_dvd_pow 2 (by omega)
theorem brw_sum {x y z k : Nat} (hz : (z + y) % M256 = x % M256) (hk : k ≤ 4) : z % 2 ^ (64 * k) + y % 2 ^ (64 * k) = x % 2 ^ (64 * k) + 2 ^ (64 * k) * brw x y k := by
  have hd := pow_dvd_M256 hk
  have h1 : (z + y) % 2 ^ (64 * k) = x % 2 ^ (64 * k) := by
    rw [← Nat.mod_mod_of_dvd (z + y) hd, hz, Nat.mod_mod_of_dvd x hd]
  have hP : 0 < 2 ^ (64 * k) := Nat.two_pow_pos _
  unfold brw
  rw [Nat.add_mod] at h1
  generalize 2 ^ (64 * k) = P at *
  have l1 := Nat.mod_lt x hP
  have l2 := Nat.mod_lt y hP
  have l3 := Nat.mod_lt z hP
  generalize x % P = a at *
  generalize y % P = b at *
  generalize z % P = c at *
  by_cases h : c + b < P
  · rw [Nat.mod_eq_of_lt h] at h1
    rw [if_neg (by omega)]; omega
  · have e : (c + b) % P = c + b - P := by
      rw [Nat.mod_eq_sub_mod (by omega), Nat.mod_eq_of_lt (by omega)]
    rw [e] at h1
    rw [if_pos (by omega)]; omega
theorem sub_step {x y z k : Nat} (hz : (z + y) % M256 = x % M256) (hk : k < 4) :
    z / 2 ^ (64 * k) % 2 ^ 64 = (x / 2 ^ (64 * k) % 2 ^ 64 + 2 ^ 64 - y / 2 ^ (64 * k) % 2 ^ 64 - brw x y k) % 2 ^ 64 ∧
    brw x y (k + 1) = if x / 2 ^ (64 * k) % 2 ^ 64 < y / 2 ^ (64 * k) % 2 ^ 64 + brw x y k then 1 else 0 := by
  have s0 := brw_sum hz (Nat.le_of_lt hk)
  have s1 := brw_sum hz (show k + 1 ≤ 4 by omega)
  have e : 2 ^ (64 * (k + 1)) = 2 ^ (64 * k) * 2 ^ 64 := by rw [← Nat.pow_add]; congr 1
  have b0 := brw_le x y k
  have b1 := brw_le x y (k + 1)
  have hP : 0 < 2 ^ (64 * k) := Nat.two_pow_pos _
  rw [e, mod_step, mod_step, mod_step] at s1
  have l1 := Nat.mod_lt (x / 2 ^ (64 * k)) (show 0 < 2 ^ 64 by decide)
  have l2 := Nat.mod_lt (y / 2 ^ (64 * k)) (show 0 < 2 ^ 64 by decide)
  have l3 := Nat.mod_lt (z / 2 ^ (64 * k)) (show 0 < 2 ^ 64 by decide)
  generalize brw x y k = b at *
  generalize brw x y (k + 1) = b' at *
  generalize x / 2 ^ (64 * k) % 2 ^ 64 = xk at *
  generalize y / 2 ^ (64 * k) % 2 ^ 64 = yk at *
  generalize z / 2 ^ (64 * k) % 2 ^ 64 = zk at *
  have key : 2 ^ (64 * k) * (b + zk + yk) = 2 ^ (64 * k) * (xk + 2 ^ 64 * b') := by
    rw [Nat.mul_add, Nat.mul_add, Nat.mul_add, ← Nat.mul_assoc]
    omega
  have key2 := Nat.eq_of_mul_eq_mul_left hP key
  have hb' : b' = 0 ∨ b' = 1 := by omega
  rcases hb' with rfl | rfl
  · refine ⟨by omega, by rw [if_neg (by omega)]⟩
  · refine ⟨by omega, by rw [if_pos (by omega)]⟩

def sub64E : Array Value → Sem Value := fun args => do
  let (x, y, b) ← Extern.MathBitsCarry.three "Sub64" args
  pure (Extern.MathBitsCarry.pair ((x + Extern.MathBitsCarry.m64 - y - b) % Extern.MathBitsCarry.m64) (if x < y + b then 1 else 0))
theorem run_sub64E {P : Program} (x y b : Nat) (hb : b ≤ 1) (w : World) :
    (sub64E #[.int .u64 x, .int .u64 y, .int .u64 b]).run P w =
      .ok (.tuple #[.int .u64 (((x + 18446744073709551616 - y - b) % 18446744073709551616 : Nat) : Int), .int .u64 ((if x < y + b then 1 else 0 : Nat) : Int)]) w := by
  have : b = 0 ∨ b = 1 := by omega
  rcases this with rfl | rfl <;> rfl
theorem add64 (x y c : Nat) (hc : c ≤ 1) (w : World) :
    (callFunc 59 #[.int .u64 x, .int .u64 y, .int .u64 c]).run Try.prog w =
      .ok (.value (.tuple #[.int .u64 (((x + y + c) % 18446744073709551616 : Nat) : Int), .int .u64 (((x + y + c) / 18446744073709551616 : Nat) : Int)])) w := by
  rw [run_callFunc_extern Try.func59 (by kernel_rfl) (by kernel_rfl) (by kernel_rfl) (e := add64Entry) (by kernel_rfl), run_add64 x y c (by omega) (by omega) (by omega) (by omega)]
  simp only [Result.andThen]
  congr 5 <;> omega
theorem sub64 (x y b : Nat) (hb : b ≤ 1) (w : World) :
    (callFunc 61 #[.int .u64 x, .int .u64 y, .int .u64 b]).run Try.prog w =
      .ok (.value (.tuple #[.int .u64 (((x + 18446744073709551616 - y - b) % 18446744073709551616 : Nat) : Int), .int .u64 ((if x < y + b then 1 else 0 : Nat) : Int)])) w := by
  rw [run_callFunc_extern Try.func61 (by kernel_rfl) (by kernel_rfl) (by kernel_rfl) (e := sub64E) (by kernel_rfl), run_sub64E x y b hb]
  rfl
theorem four_blocks (w : World) (t1 t2 t3 t4 : TypeId) (c1 c2 c3 c4 : Array Value) :
    Below w.heap.size w ((((w.alloc (.cells c1 t1)).alloc (.cells c2 t2)).alloc (.cells c3 t3)).alloc (.cells c4 t4)) ∧ Blk ((((w.alloc (.cells c1 t1)).alloc (.cells c2 t2)).alloc (.cells c3 t3)).alloc (.cells c4 t4)) w.heap.size t1 c1 ∧
    Blk ((((w.alloc (.cells c1 t1)).alloc (.cells c2 t2)).alloc (.cells c3 t3)).alloc (.cells c4 t4)) (w.heap.size + 1) t2 c2 ∧ Blk ((((w.alloc (.cells c1 t1)).alloc (.cells c2 t2)).alloc (.cells c3 t3)).alloc (.cells c4 t4)) (w.heap.size + 1 + 1) t3 c3 ∧
    Blk ((((w.alloc (.cells c1 t1)).alloc (.cells c2 t2)).alloc (.cells c3 t3)).alloc (.cells c4 t4)) (w.heap.size + 1 + 1 + 1) t4 c4 := by
  obtain ⟨h0, h1, h2, h3⟩ := three_blocks w t1 t2 t3 c1 c2 c3
  exact ⟨h0.alloc (by simp; omega) _, h1.alloc _, h2.alloc _, h3.alloc _, by simpa using (Blk.new (((w.alloc _).alloc _).alloc _) _ _)⟩

set_option maxHeartbeats 1000000 in
set_option maxRecDepth 100000 in
theorem plus_b (x y : Nat) (w : World) :
    Calls Try.prog 45 #[.agg (dig 4 x), .agg (dig 4 y)] w fun e w' => e = .returned (.tuple #[.agg (dig 4 ((x + y) % 2 ^ 256)), .int .u64 ((cry x y 4 : Nat) : Int)]) ∧ Below w.heap.size w w' := by
  go_enter Try.func45, Try.ntmps45
  go_wp2
  go_loopw [7, 9] (fun c i wr => ∃ k : Nat, k ≤ 4 ∧ i = .int .i64 k ∧ c = .int .u64 (cry x y k) ∧ Below w.heap.size w wr ∧
      Blk wr w.heap.size 96 (dig 4 x) ∧ Blk wr (w.heap.size + 1) 96 (dig 4 y) ∧ Blk wr (w.heap.size + 1 + 1) 96 (dig 4 0) ∧
      Blk wr (w.heap.size + 1 + 1 + 1) 96 (dig 4 ((x + y) % 2 ^ (64 * k)))) (fun _ i _ => 4 - (intOf i).toNat)
  case atStart =>
    refine ⟨0, by omega, rfl, by rw [cry_zero]; rfl, (((((Below.refl _ _).alloc (Nat.le_refl _) _).alloc (by simp) _).alloc (by simp; omega) _).alloc (by simp; omega) _), ?_, ?_, ?_, ?_⟩
    · exact (((Blk.new _ _ _).alloc _).alloc _).alloc _
    · simpa using (((Blk.new (w.alloc _) _ _).alloc _).alloc _)
    · rw [dig_zero4]; simpa using ((Blk.new ((w.alloc _).alloc _) _ _).alloc _)
    · rw [show (x + y) % 2 ^ (64 * 0) = 0 by simp [Nat.mod_one], dig_zero4]; simpa using (Blk.new (((w.alloc _).alloc _).alloc _) _ _)
  case round =>
    obtain ⟨k, hk, rfl, rfl, hb, h0, h1, h2, h3⟩ := hrel
    by_cases hlt : k < 4
    · have g0 := h0.cell (dig_get hlt)
      have g1 := h1.cell (dig_get hlt)
      have g3 := h3.cell (dig_get hlt)
      have f3 := h3.free k
      have hc := cry_le x y k
      have hadd := fun w => add64 (x / 2 ^ (64 * k) % 2 ^ 64) (y / 2 ^ (64 * k) % 2 ^ 64) (cry x y k) hc w
      have st := add_step x y k
      have sd := @dig_step 4 (x + y) k _ hlt rfl
      generalize x / 2 ^ (64 * k) % 2 ^ 64 = xk at *
      generalize y / 2 ^ (64 * k) % 2 ^ 64 = yk at *
      generalize cry x y k = ck at *
      rw [st.1] at sd
      have ST := Lib.hid (And.intro st.2 sd)
      clear st sd
      go_wp2
      go_region_held3 (fun w' => w'.cell? ⟨w.heap.size, k, none⟩ = some (.int .u64 xk) ∧ w'.cell? ⟨w.heap.size + 1, k, none⟩ = some (.int .u64 yk)) (first | exact ⟨g0, g1⟩ | exact ⟨(World.cell?_setCell_far _ _ _ _ (by simp only; omega)).trans g0, (World.cell?_setCell_far _ _ _ _ (by simp only; omega)).trans g1⟩) (first | fail)
      go_wp2
      go_roundw
      case rel =>
        refine ⟨k + 1, by omega, by go_num, ?_, ?_, ?_, ?_, ?_, ?_⟩
        · rw [ST.out.1]; rfl
        · exact (hb.setCell (by simp only; omega) _).drew
        · exact (h0.far (by simp only; omega) _).drew
        · exact (h1.far (by simp only; omega) _).drew
        · exact (h2.far (by simp only; omega) _).drew
        · rw [← ST.out.2]; exact (h3.set k _).drew
      case measure => simp [intOf]; omega
    · clear h0 h1
      go_wp2_with (first | (refine arm_load rfl 96 _ rfl rfl (load_limbs (by assumption)) ?_) | (refine arm_store rfl 96 _ _ rfl rfl rfl (store_limbs (by assumption)) ?_))
      obtain rfl : k = 4 := by omega
      exact post_cell_one 4 5 96 rfl rfl rfl rfl (h2.row _) limbs_type rfl limbs_size (dig_size _ _) ⟨rfl, below_row hb (by omega) _⟩


theorem sub64' (x y b : Nat) (hb : b ≤ 1) : ∃ s k : Nat, s = (x + 2 ^ 64 - y - b) % 2 ^ 64 ∧ k = (if x < y + b then 1 else 0) ∧ ∀ w : World,
    (callFunc 61 #[.int .u64 x, .int .u64 y, .int .u64 b]).run Try.prog w = .ok (.value (.tuple #[.int .u64 s, .int .u64 k])) w :=
  ⟨_, _, rfl, rfl, fun w => sub64 x y b hb w⟩

set_option maxHeartbeats 1000000 in
set_option maxRecDepth 100000 in
theorem minus_b (x y z : Nat) (hz : (z + y) % M256 = x % M256) (w : World) :
    Calls Try.prog 47 #[.agg (dig 4 x), .agg (dig 4 y)] w fun e w' => e = .returned (.agg (dig 4 z)) ∧ Below w.heap.size w w' := by
  have HZ := Lib.hid hz
  clear hz
  go_enter Try.func47, Try.ntmps47
  go_wp2
  go_loopw [6, 8] (fun c i wr => ∃ k : Nat, k ≤ 4 ∧ i = .int .i64 k ∧ c = .int .u64 (brw x y k) ∧ Below w.heap.size w wr ∧
      Blk wr w.heap.size 96 (dig 4 x) ∧ Blk wr (w.heap.size + 1) 96 (dig 4 y) ∧ Blk wr (w.heap.size + 1 + 1) 96 (dig 4 0) ∧
      Blk wr (w.heap.size + 1 + 1 + 1) 96 (dig 4 (z % 2 ^ (64 * k)))) (fun _ i _ => 4 - (intOf i).toNat)
  case atStart =>
    obtain ⟨g0, g1, g2, g3, g4⟩ := four_blocks w 96 96 96 96 (dig 4 x) (dig 4 y) (dig 4 0) (dig 4 0)
    refine ⟨0, by omega, rfl, by rw [brw_zero]; rfl, ?_⟩
    rw [show z % 2 ^ (64 * 0) = 0 by simp [Nat.mod_one], ← dig_zero4]
    exact ⟨g0, g1, g2, g3, g4⟩
  case round =>
    obtain ⟨k, hk, rfl, rfl, hb, h0, h1, h2, h3⟩ := hrel
    by_cases hlt : k < 4
    · have g0 := h0.cell (dig_get hlt)
      have g1 := h1.cell (dig_get hlt)
      have g3 := h3.cell (dig_get hlt)
      have f3 := h3.free k
      have st := sub_step HZ.out hlt
      have sd := @dig_step 4 z k _ hlt rfl
      have hc := brw_le x y k
      obtain ⟨d, bo, hd, hbo, hr⟩ := sub64' (x / 2 ^ (64 * k) % 2 ^ 64) (y / 2 ^ (64 * k) % 2 ^ 64) (brw x y k) hc
      generalize x / 2 ^ (64 * k) % 2 ^ 64 = xk at *
      generalize y / 2 ^ (64 * k) % 2 ^ 64 = yk at *
      generalize brw x y k = ck at *
      have e1 : z / 2 ^ (64 * k) % 2 ^ 64 = d := by rw [st.1, hd]
      have e2 : brw x y (k + 1) = bo := by rw [st.2, hbo]
      rw [e1] at sd
      have ST := Lib.hid (And.intro e2 sd)
      clear st sd hd hbo e1 e2
      go_wp2
      go_region_held3 (fun w' => w'.cell? ⟨w.heap.size, k, none⟩ = some (.int .u64 xk) ∧ w'.cell? ⟨w.heap.size + 1, k, none⟩ = some (.int .u64 yk)) (first | exact ⟨g0, g1⟩ | exact ⟨(World.cell?_setCell_far _ _ _ _ (by simp only; omega)).trans g0, (World.cell?_setCell_far _ _ _ _ (by simp only; omega)).trans g1⟩) (first | fail)
      go_wp2
      go_roundw
      case rel =>
        refine ⟨k + 1, by omega, by go_num, ?_, ?_, ?_, ?_, ?_, ?_⟩
        · rw [ST.out.1]
        · exact (hb.setCell (by simp only; omega) _).drew
        · exact (h0.far (by simp only; omega) _).drew
        · exact (h1.far (by simp only; omega) _).drew
        · exact (h2.far (by simp only; omega) _).drew
        · rw [← ST.out.2]; exact (h3.set k _).drew
      case measure => simp [intOf]; omega
    · clear h0 h1
      go_wp2_with (first | (refine arm_load rfl 96 _ rfl rfl (load_limbs (by assumption)) ?_) | (refine arm_store rfl 96 _ _ rfl rfl rfl (store_limbs (by assumption)) ?_))
      obtain rfl : k = 4 := by omega
      rw [dig_mod 4 z] at *
      exact post_cell 4 96 rfl rfl rfl (h2.row _) limbs_type rfl limbs_size (dig_size _ _) ⟨rfl, below_row hb (by omega) _⟩
theorem plus_any (x y : Nat) (w : World) :
    Calls Try.prog 45 #[.agg (dig 4 x), .agg (dig 4 y)] w fun e w' => e = .returned (.tuple #[.agg (dig 4 ((x + y) % 2 ^ 256)), .int .u64 ((cry x y 4 : Nat) : Int)]) ∧ Tch [] w w' := (plus_b x y w).mono fun e w' h => ⟨h.1, Tch.of_below h.2⟩
theorem minus_any (x y z : Nat) (hz : (z + y) % M256 = x % M256) (w : World) :
    Calls Try.prog 47 #[.agg (dig 4 x), .agg (dig 4 y)] w fun e w' => e = .returned (.agg (dig 4 z)) ∧ Tch [] w w' := (minus_b x y z hz w).mono fun e w' h => ⟨h.1, Tch.of_below h.2⟩
theorem load_t (x : Nat) (w : World) : Calls Try.prog 44 #[.agg (wcells x)] w fun e w' => e = .returned (.agg (dig 4 x)) ∧ Tch [] w w' := (load_any x w).mono fun e w' h => ⟨h.1, Tch.of_below h.2⟩
theorem word_t (x : Nat) (w : World) : Calls Try.prog 46 #[.agg (dig 4 x)] w fun e w' => e = .returned (.agg (wcells x)) ∧ Tch [] w w' := (word_any x w).mono fun e w' h => ⟨h.1, Tch.of_below h.2⟩
theorem limbs_zero : (Try.prog.info? 96).bind (·.zero) = some (.agg (dig 4 0)) := by rw [dig_zero4]; kernel_rfl
/-- Sums and differences of words. -/
def wadd (x y : Nat) : Nat := (x + y) % M256
def wsub (x y : Nat) : Nat := (x + (M256 - y)) % M256
theorem M256_pos : 0 < M256 := by unfold M256; decide
theorem wadd_lt (x y : Nat) : wadd x y < M256 := Nat.mod_lt _ M256_pos
theorem wsub_lt (x y : Nat) : wsub x y < M256 := Nat.mod_lt _ M256_pos
theorem wsub_spec {x y : Nat} (hy : y < M256) : (wsub x y + y) % M256 = x % M256 := by
  unfold wsub
  rw [Nat.mod_add_mod, Nat.add_assoc, Nat.sub_add_cancel (Nat.le_of_lt hy), Nat.add_mod_right]
theorem wadd_eq (x y : Nat) : (x + y) % 2 ^ 256 = wadd x y := rfl
theorem plus_w (x y z c : Nat) (hz : z = wadd x y ∧ c = cry x y 4) (w : World) :
    Calls Try.prog 45 #[.agg (dig 4 x), .agg (dig 4 y)] w fun e w' => e = .returned (.tuple #[.agg (dig 4 z), .int .u64 (c : Int)]) ∧ Tch [] w w' := by
  rw [hz.1, hz.2, ← wadd_eq]; exact plus_any x y w

set_option maxHeartbeats 1000000 in
set_option maxRecDepth 100000 in
theorem add_any (x y : Nat) (w : World) :
    Calls Try.prog 26 #[.agg (wcells x), .agg (wcells y)] w fun e w' => e = .returned (.agg (wcells (wadd x y))) ∧ Tch [] w w' := by
  obtain ⟨z, c, hz⟩ : ∃ z c : Nat, z = wadd x y ∧ c = cry x y 4 := ⟨_, _, rfl, rfl⟩
  have HC := Lib.hid hz
  clear hz
  have hS := St.start w
  go_enter Try.func26, Try.ntmps26
  go_wp2_with (first | (refine st_box hS rfl _ _ rfl rfl ?_; clear hS; intro w1 b1 hS) | (refine st_new hS rfl 25 rfl word_zero' ?_; clear hS; intro w1 b1 hS) | (refine st_load hS rfl 25 _ rfl rfl (by repeat (first | exact At.head | apply At.tail)) wordN_type rfl wordN_size (bc_size _ _) ?_) | (refine st_store hS rfl 25 _ _ rfl rfl rfl (by repeat (first | exact Upd.head | apply Upd.tail)) wordN_size (bc_size _ _) (bc_size _ _) (bc_one _ _) ?_; clear hS; intro w1 hS) | (refine st_new hS rfl 96 rfl limbs_zero ?_; clear hS; intro w1 b1 hS) | (refine st_load hS rfl 96 _ rfl rfl (by repeat (first | exact At.head | apply At.tail)) limbs_type rfl limbs_size (dig_size _ _) ?_) | (refine st_store hS rfl 96 _ _ rfl rfl rfl (by repeat (first | exact Upd.head | apply Upd.tail)) limbs_size (dig_size _ _) (dig_size _ _) (dig_one _ _) ?_; clear hS; intro w1 hS))
  refine wp_region_held_drew (S := fun w' => St [] w w' _) (by kernel_rfl) hS.drew fun _ => ?_
  replace hS := hS.drew
  simp only [List.size_toArray, List.length_cons, List.length_nil, Nat.reduceAdd, Array.replicate_succ, Array.replicate_zero, List.push_toArray, List.nil_append, List.cons_append]
  refine wpAnyH_take (i := 0) rfl (by kernel_rfl) (by kernel_rfl) (by kernel_rfl) (fun _ _ _ h => h) (y_load rfl 25 _ rfl rfl (by repeat (first | exact At.head | apply At.tail)) wordN_type rfl wordN_size (bc_size _ _)) hS ?_; simp only [Act.put, List.getElem_toArray, List.getElem_cons_succ, List.getElem_cons_zero, List.setIfInBounds_toArray, List.set_cons_zero, List.set_cons_succ]
  refine wpAnyH_take (i := 2) rfl (by kernel_rfl) (by kernel_rfl) (by kernel_rfl) (fun _ _ _ h => h) (y_load rfl 25 _ rfl rfl (by repeat (first | exact At.head | apply At.tail)) wordN_type rfl wordN_size (bc_size _ _)) hS ?_; simp only [Act.put, List.getElem_toArray, List.getElem_cons_succ, List.getElem_cons_zero, List.setIfInBounds_toArray, List.set_cons_zero, List.set_cons_succ]
  refine wpAnyH_all (rs := [1, 8]) (by kernel_rfl) (by simp) ?_
  intro i hi
  have hi2 : i = 1 ∨ i = 8 := by simpa using hi
  rcases hi2 with rfl | rfl
  ·
    refine o_call rfl rfl (by kernel_rfl) (load_t x _) hS fun w1 hS => ⟨hS, ?_⟩
    simp only [Act.put, List.getElem_toArray, List.getElem_cons_succ, List.getElem_cons_zero, List.setIfInBounds_toArray, List.set_cons_zero, List.set_cons_succ]
    refine wpAnyH_all (rs := [3, 8]) (by kernel_rfl) (by simp) ?_
    intro i hi
    have hi2 : i = 3 ∨ i = 8 := by simpa using hi
    rcases hi2 with rfl | rfl
    ·
      refine o_call rfl rfl (by kernel_rfl) (load_t y _) hS fun w1 hS => ⟨hS, ?_⟩
      simp only [Act.put, List.getElem_toArray, List.getElem_cons_succ, List.getElem_cons_zero, List.setIfInBounds_toArray, List.set_cons_zero, List.set_cons_succ]
      refine wpAnyH_all (rs := [4, 8]) (by kernel_rfl) (by simp) ?_
      intro i hi
      have hi2 : i = 4 ∨ i = 8 := by simpa using hi
      rcases hi2 with rfl | rfl
      ·
        refine o_call rfl rfl (by kernel_rfl) (plus_w x y z c HC.out _) hS fun w1 hS => ⟨hS, ?_⟩
        simp only [Act.put, List.getElem_toArray, List.getElem_cons_succ, List.getElem_cons_zero, List.setIfInBounds_toArray, List.set_cons_zero, List.set_cons_succ]
        refine wpAnyH_take (i := 5) rfl (by kernel_rfl) (by kernel_rfl) (by kernel_rfl) (fun _ _ _ h => h) (y_move (v := .tuple #[.agg (dig 4 z), .int .u64 (c : Int)]) rfl _ (.inl rfl) rfl) hS ?_; simp only [Act.put, List.getElem_toArray, List.getElem_cons_succ, List.getElem_cons_zero, List.setIfInBounds_toArray, List.set_cons_zero, List.set_cons_succ]
        refine wpAnyH_take (i := 6) rfl (by kernel_rfl) (by kernel_rfl) (by kernel_rfl) (fun _ _ _ h => h) (y_extract (v := .agg (dig 4 z)) (vs := #[.agg (dig 4 z), .int .u64 (c : Int)]) rfl _ 0 rfl rfl rfl) hS ?_; simp only [Act.put, List.getElem_toArray, List.getElem_cons_succ, List.getElem_cons_zero, List.setIfInBounds_toArray, List.set_cons_zero, List.set_cons_succ]
        refine wpAnyH_take (i := 7) rfl (by kernel_rfl) (by kernel_rfl) (by kernel_rfl) (fun _ _ _ h => h) (y_extract (v := .int .u64 (c : Int)) (vs := #[.agg (dig 4 z), .int .u64 (c : Int)]) rfl _ 1 rfl rfl rfl) hS ?_; simp only [Act.put, List.getElem_toArray, List.getElem_cons_succ, List.getElem_cons_zero, List.setIfInBounds_toArray, List.set_cons_zero, List.set_cons_succ]
        refine wpAnyH_all (rs := [8]) (by kernel_rfl) (by simp) ?_
        intro i hi
        obtain rfl : i = 8 := by simpa using hi
        refine o_new rfl rfl 96 rfl limbs_zero hS fun w1 bs hS => ⟨hS.drop, ?_⟩
        simp only [Act.put, List.getElem_toArray, List.getElem_cons_succ, List.getElem_cons_zero, List.setIfInBounds_toArray, List.set_cons_zero, List.set_cons_succ]
        refine wpAnyH_all (rs := [9]) (by kernel_rfl) (by simp) ?_
        intro i hi
        obtain rfl : i = 9 := by simpa using hi
        refine o_store (c' := dig 4 z) rfl rfl hS 96 _ _ rfl rfl rfl (by repeat (first | exact Upd.head | apply Upd.tail)) limbs_size (dig_size _ _) (dig_size _ _) (dig_one _ _) fun w1 hS => ⟨hS.drop, ?_⟩
        simp only [Act.put, List.getElem_toArray, List.getElem_cons_succ, List.getElem_cons_zero, List.setIfInBounds_toArray, List.set_cons_zero, List.set_cons_succ]
        refine wpAnyH_take (i := 10) rfl (by kernel_rfl) (by kernel_rfl) (by kernel_rfl) (fun _ _ _ h => h) (y_move (v := .int .u64 (c : Int)) rfl _ (.inr rfl) rfl) hS.drop ?_; simp only [Act.put, List.getElem_toArray, List.getElem_cons_succ, List.getElem_cons_zero, List.setIfInBounds_toArray, List.set_cons_zero, List.set_cons_succ]
        refine wpAnyH_done (by kernel_rfl) ?_ _
        go_wp2_with (first | (refine st_box hS rfl _ _ rfl rfl ?_; clear hS; intro w1 b1 hS) | (refine st_new hS rfl 25 rfl word_zero' ?_; clear hS; intro w1 b1 hS) | (refine st_load hS rfl 25 _ rfl rfl (by repeat (first | exact At.head | apply At.tail)) wordN_type rfl wordN_size (bc_size _ _) ?_) | (refine st_store hS rfl 25 _ _ rfl rfl rfl (by repeat (first | exact Upd.head | apply Upd.tail)) wordN_size (bc_size _ _) (bc_size _ _) (bc_one _ _) ?_; clear hS; intro w1 hS) | (refine st_new hS rfl 96 rfl limbs_zero ?_; clear hS; intro w1 b1 hS) | (refine st_load hS rfl 96 _ rfl rfl (by repeat (first | exact At.head | apply At.tail)) limbs_type rfl limbs_size (dig_size _ _) ?_) | (refine st_store hS rfl 96 _ _ rfl rfl rfl (by repeat (first | exact Upd.head | apply Upd.tail)) limbs_size (dig_size _ _) (dig_size _ _) (dig_one _ _) ?_; clear hS; intro w1 hS) | (go_at_call 46; refine (word_t _ _).mono ?_; rintro e w1 ⟨rfl, hb⟩; replace hS := hS.call hb; clear hb))
        rw [← HC.out.1]
        exact st_post hS 4 25 rfl rfl rfl (by repeat (first | exact At.head | apply At.tail)) wordN_type rfl wordN_size (bc_size _ _) (fun hb => ⟨rfl, hb⟩)
      ·
        refine o_new rfl rfl 96 rfl limbs_zero hS fun w1 bs hS => ⟨hS.drop, ?_⟩
        simp only [Act.put, List.getElem_toArray, List.getElem_cons_succ, List.getElem_cons_zero, List.setIfInBounds_toArray, List.set_cons_zero, List.set_cons_succ]
        refine wpAnyH_all (rs := [4]) (by kernel_rfl) (by simp) ?_
        intro i hi
        obtain rfl : i = 4 := by simpa using hi
        refine o_call rfl rfl (by kernel_rfl) (plus_w x y z c HC.out _) hS fun w1 hS => ⟨hS.drop, ?_⟩
        simp only [Act.put, List.getElem_toArray, List.getElem_cons_succ, List.getElem_cons_zero, List.setIfInBounds_toArray, List.set_cons_zero, List.set_cons_succ]
        refine wpAnyH_take (i := 5) rfl (by kernel_rfl) (by kernel_rfl) (by kernel_rfl) (fun _ _ _ h => h) (y_move (v := .tuple #[.agg (dig 4 z), .int .u64 (c : Int)]) rfl _ (.inl rfl) rfl) hS.drop ?_; simp only [Act.put, List.getElem_toArray, List.getElem_cons_succ, List.getElem_cons_zero, List.setIfInBounds_toArray, List.set_cons_zero, List.set_cons_succ]
        refine wpAnyH_take (i := 6) rfl (by kernel_rfl) (by kernel_rfl) (by kernel_rfl) (fun _ _ _ h => h) (y_extract (v := .agg (dig 4 z)) (vs := #[.agg (dig 4 z), .int .u64 (c : Int)]) rfl _ 0 rfl rfl rfl) hS.drop ?_; simp only [Act.put, List.getElem_toArray, List.getElem_cons_succ, List.getElem_cons_zero, List.setIfInBounds_toArray, List.set_cons_zero, List.set_cons_succ]
        refine wpAnyH_take (i := 7) rfl (by kernel_rfl) (by kernel_rfl) (by kernel_rfl) (fun _ _ _ h => h) (y_extract (v := .int .u64 (c : Int)) (vs := #[.agg (dig 4 z), .int .u64 (c : Int)]) rfl _ 1 rfl rfl rfl) hS.drop ?_; simp only [Act.put, List.getElem_toArray, List.getElem_cons_succ, List.getElem_cons_zero, List.setIfInBounds_toArray, List.set_cons_zero, List.set_cons_succ]
        refine wpAnyH_all (rs := [9]) (by kernel_rfl) (by simp) ?_
        intro i hi
        obtain rfl : i = 9 := by simpa using hi
        refine o_store (c' := dig 4 z) rfl rfl hS 96 _ _ rfl rfl rfl (by repeat (first | exact Upd.head | apply Upd.tail)) limbs_size (dig_size _ _) (dig_size _ _) (dig_one _ _) fun w1 hS => ⟨hS.drop, ?_⟩
        simp only [Act.put, List.getElem_toArray, List.getElem_cons_succ, List.getElem_cons_zero, List.setIfInBounds_toArray, List.set_cons_zero, List.set_cons_succ]
        refine wpAnyH_take (i := 10) rfl (by kernel_rfl) (by kernel_rfl) (by kernel_rfl) (fun _ _ _ h => h) (y_move (v := .int .u64 (c : Int)) rfl _ (.inr rfl) rfl) hS.drop ?_; simp only [Act.put, List.getElem_toArray, List.getElem_cons_succ, List.getElem_cons_zero, List.setIfInBounds_toArray, List.set_cons_zero, List.set_cons_succ]
        refine wpAnyH_done (by kernel_rfl) ?_ _
        go_wp2_with (first | (refine st_box hS rfl _ _ rfl rfl ?_; clear hS; intro w1 b1 hS) | (refine st_new hS rfl 25 rfl word_zero' ?_; clear hS; intro w1 b1 hS) | (refine st_load hS rfl 25 _ rfl rfl (by repeat (first | exact At.head | apply At.tail)) wordN_type rfl wordN_size (bc_size _ _) ?_) | (refine st_store hS rfl 25 _ _ rfl rfl rfl (by repeat (first | exact Upd.head | apply Upd.tail)) wordN_size (bc_size _ _) (bc_size _ _) (bc_one _ _) ?_; clear hS; intro w1 hS) | (refine st_new hS rfl 96 rfl limbs_zero ?_; clear hS; intro w1 b1 hS) | (refine st_load hS rfl 96 _ rfl rfl (by repeat (first | exact At.head | apply At.tail)) limbs_type rfl limbs_size (dig_size _ _) ?_) | (refine st_store hS rfl 96 _ _ rfl rfl rfl (by repeat (first | exact Upd.head | apply Upd.tail)) limbs_size (dig_size _ _) (dig_size _ _) (dig_one _ _) ?_; clear hS; intro w1 hS) | (go_at_call 46; refine (word_t _ _).mono ?_; rintro e w1 ⟨rfl, hb⟩; replace hS := hS.call hb; clear hb))
        rw [← HC.out.1]
        exact st_post hS 4 25 rfl rfl rfl (by repeat (first | exact At.head | apply At.tail)) wordN_type rfl wordN_size (bc_size _ _) (fun hb => ⟨rfl, hb⟩)
    ·
      refine o_new rfl rfl 96 rfl limbs_zero hS fun w1 bs hS => ⟨hS.drop, ?_⟩
      simp only [Act.put, List.getElem_toArray, List.getElem_cons_succ, List.getElem_cons_zero, List.setIfInBounds_toArray, List.set_cons_zero, List.set_cons_succ]
      refine wpAnyH_all (rs := [3]) (by kernel_rfl) (by simp) ?_
      intro i hi
      obtain rfl : i = 3 := by simpa using hi
      refine o_call rfl rfl (by kernel_rfl) (load_t y _) hS fun w1 hS => ⟨hS.drop, ?_⟩
      simp only [Act.put, List.getElem_toArray, List.getElem_cons_succ, List.getElem_cons_zero, List.setIfInBounds_toArray, List.set_cons_zero, List.set_cons_succ]
      refine wpAnyH_all (rs := [4]) (by kernel_rfl) (by simp) ?_
      intro i hi
      obtain rfl : i = 4 := by simpa using hi
      refine o_call rfl rfl (by kernel_rfl) (plus_w x y z c HC.out _) hS fun w1 hS => ⟨hS.drop, ?_⟩
      simp only [Act.put, List.getElem_toArray, List.getElem_cons_succ, List.getElem_cons_zero, List.setIfInBounds_toArray, List.set_cons_zero, List.set_cons_succ]
      refine wpAnyH_take (i := 5) rfl (by kernel_rfl) (by kernel_rfl) (by kernel_rfl) (fun _ _ _ h => h) (y_move (v := .tuple #[.agg (dig 4 z), .int .u64 (c : Int)]) rfl _ (.inl rfl) rfl) hS.drop ?_; simp only [Act.put, List.getElem_toArray, List.getElem_cons_succ, List.getElem_cons_zero, List.setIfInBounds_toArray, List.set_cons_zero, List.set_cons_succ]
      refine wpAnyH_take (i := 6) rfl (by kernel_rfl) (by kernel_rfl) (by kernel_rfl) (fun _ _ _ h => h) (y_extract (v := .agg (dig 4 z)) (vs := #[.agg (dig 4 z), .int .u64 (c : Int)]) rfl _ 0 rfl rfl rfl) hS.drop ?_; simp only [Act.put, List.getElem_toArray, List.getElem_cons_succ, List.getElem_cons_zero, List.setIfInBounds_toArray, List.set_cons_zero, List.set_cons_succ]
      refine wpAnyH_take (i := 7) rfl (by kernel_rfl) (by kernel_rfl) (by kernel_rfl) (fun _ _ _ h => h) (y_extract (v := .int .u64 (c : Int)) (vs := #[.agg (dig 4 z), .int .u64 (c : Int)]) rfl _ 1 rfl rfl rfl) hS.drop ?_; simp only [Act.put, List.getElem_toArray, List.getElem_cons_succ, List.getElem_cons_zero, List.setIfInBounds_toArray, List.set_cons_zero, List.set_cons_succ]
      refine wpAnyH_all (rs := [9]) (by kernel_rfl) (by simp) ?_
      intro i hi
      obtain rfl : i = 9 := by simpa using hi
      refine o_store (c' := dig 4 z) rfl rfl hS 96 _ _ rfl rfl rfl (by repeat (first | exact Upd.head | apply Upd.tail)) limbs_size (dig_size _ _) (dig_size _ _) (dig_one _ _) fun w1 hS => ⟨hS.drop, ?_⟩
      simp only [Act.put, List.getElem_toArray, List.getElem_cons_succ, List.getElem_cons_zero, List.setIfInBounds_toArray, List.set_cons_zero, List.set_cons_succ]
      refine wpAnyH_take (i := 10) rfl (by kernel_rfl) (by kernel_rfl) (by kernel_rfl) (fun _ _ _ h => h) (y_move (v := .int .u64 (c : Int)) rfl _ (.inr rfl) rfl) hS.drop ?_; simp only [Act.put, List.getElem_toArray, List.getElem_cons_succ, List.getElem_cons_zero, List.setIfInBounds_toArray, List.set_cons_zero, List.set_cons_succ]
      refine wpAnyH_done (by kernel_rfl) ?_ _
      go_wp2_with (first | (refine st_box hS rfl _ _ rfl rfl ?_; clear hS; intro w1 b1 hS) | (refine st_new hS rfl 25 rfl word_zero' ?_; clear hS; intro w1 b1 hS) | (refine st_load hS rfl 25 _ rfl rfl (by repeat (first | exact At.head | apply At.tail)) wordN_type rfl wordN_size (bc_size _ _) ?_) | (refine st_store hS rfl 25 _ _ rfl rfl rfl (by repeat (first | exact Upd.head | apply Upd.tail)) wordN_size (bc_size _ _) (bc_size _ _) (bc_one _ _) ?_; clear hS; intro w1 hS) | (refine st_new hS rfl 96 rfl limbs_zero ?_; clear hS; intro w1 b1 hS) | (refine st_load hS rfl 96 _ rfl rfl (by repeat (first | exact At.head | apply At.tail)) limbs_type rfl limbs_size (dig_size _ _) ?_) | (refine st_store hS rfl 96 _ _ rfl rfl rfl (by repeat (first | exact Upd.head | apply Upd.tail)) limbs_size (dig_size _ _) (dig_size _ _) (dig_one _ _) ?_; clear hS; intro w1 hS) | (go_at_call 46; refine (word_t _ _).mono ?_; rintro e w1 ⟨rfl, hb⟩; replace hS := hS.call hb; clear hb))
      rw [← HC.out.1]
      exact st_post hS 4 25 rfl rfl rfl (by repeat (first | exact At.head | apply At.tail)) wordN_type rfl wordN_size (bc_size _ _) (fun hb => ⟨rfl, hb⟩)
  ·
    refine o_new rfl rfl 96 rfl limbs_zero hS fun w1 bs hS => ⟨hS.drop, ?_⟩
    simp only [Act.put, List.getElem_toArray, List.getElem_cons_succ, List.getElem_cons_zero, List.setIfInBounds_toArray, List.set_cons_zero, List.set_cons_succ]
    refine wpAnyH_all (rs := [1]) (by kernel_rfl) (by simp) ?_
    intro i hi
    obtain rfl : i = 1 := by simpa using hi
    refine o_call rfl rfl (by kernel_rfl) (load_t x _) hS fun w1 hS => ⟨hS.drop, ?_⟩
    simp only [Act.put, List.getElem_toArray, List.getElem_cons_succ, List.getElem_cons_zero, List.setIfInBounds_toArray, List.set_cons_zero, List.set_cons_succ]
    refine wpAnyH_all (rs := [3]) (by kernel_rfl) (by simp) ?_
    intro i hi
    obtain rfl : i = 3 := by simpa using hi
    refine o_call rfl rfl (by kernel_rfl) (load_t y _) hS fun w1 hS => ⟨hS.drop, ?_⟩
    simp only [Act.put, List.getElem_toArray, List.getElem_cons_succ, List.getElem_cons_zero, List.setIfInBounds_toArray, List.set_cons_zero, List.set_cons_succ]
    refine wpAnyH_all (rs := [4]) (by kernel_rfl) (by simp) ?_
    intro i hi
    obtain rfl : i = 4 := by simpa using hi
    refine o_call rfl rfl (by kernel_rfl) (plus_w x y z c HC.out _) hS fun w1 hS => ⟨hS.drop, ?_⟩
    simp only [Act.put, List.getElem_toArray, List.getElem_cons_succ, List.getElem_cons_zero, List.setIfInBounds_toArray, List.set_cons_zero, List.set_cons_succ]
    refine wpAnyH_take (i := 5) rfl (by kernel_rfl) (by kernel_rfl) (by kernel_rfl) (fun _ _ _ h => h) (y_move (v := .tuple #[.agg (dig 4 z), .int .u64 (c : Int)]) rfl _ (.inl rfl) rfl) hS.drop ?_; simp only [Act.put, List.getElem_toArray, List.getElem_cons_succ, List.getElem_cons_zero, List.setIfInBounds_toArray, List.set_cons_zero, List.set_cons_succ]
    refine wpAnyH_take (i := 6) rfl (by kernel_rfl) (by kernel_rfl) (by kernel_rfl) (fun _ _ _ h => h) (y_extract (v := .agg (dig 4 z)) (vs := #[.agg (dig 4 z), .int .u64 (c : Int)]) rfl _ 0 rfl rfl rfl) hS.drop ?_; simp only [Act.put, List.getElem_toArray, List.getElem_cons_succ, List.getElem_cons_zero, List.setIfInBounds_toArray, List.set_cons_zero, List.set_cons_succ]
    refine wpAnyH_take (i := 7) rfl (by kernel_rfl) (by kernel_rfl) (by kernel_rfl) (fun _ _ _ h => h) (y_extract (v := .int .u64 (c : Int)) (vs := #[.agg (dig 4 z), .int .u64 (c : Int)]) rfl _ 1 rfl rfl rfl) hS.drop ?_; simp only [Act.put, List.getElem_toArray, List.getElem_cons_succ, List.getElem_cons_zero, List.setIfInBounds_toArray, List.set_cons_zero, List.set_cons_succ]
    refine wpAnyH_all (rs := [9]) (by kernel_rfl) (by simp) ?_
    intro i hi
    obtain rfl : i = 9 := by simpa using hi
    refine o_store (c' := dig 4 z) rfl rfl hS 96 _ _ rfl rfl rfl (by repeat (first | exact Upd.head | apply Upd.tail)) limbs_size (dig_size _ _) (dig_size _ _) (dig_one _ _) fun w1 hS => ⟨hS.drop, ?_⟩
    simp only [Act.put, List.getElem_toArray, List.getElem_cons_succ, List.getElem_cons_zero, List.setIfInBounds_toArray, List.set_cons_zero, List.set_cons_succ]
    refine wpAnyH_take (i := 10) rfl (by kernel_rfl) (by kernel_rfl) (by kernel_rfl) (fun _ _ _ h => h) (y_move (v := .int .u64 (c : Int)) rfl _ (.inr rfl) rfl) hS.drop ?_; simp only [Act.put, List.getElem_toArray, List.getElem_cons_succ, List.getElem_cons_zero, List.setIfInBounds_toArray, List.set_cons_zero, List.set_cons_succ]
    refine wpAnyH_done (by kernel_rfl) ?_ _
    go_wp2_with (first | (refine st_box hS rfl _ _ rfl rfl ?_; clear hS; intro w1 b1 hS) | (refine st_new hS rfl 25 rfl word_zero' ?_; clear hS; intro w1 b1 hS) | (refine st_load hS rfl 25 _ rfl rfl (by repeat (first | exact At.head | apply At.tail)) wordN_type rfl wordN_size (bc_size _ _) ?_) | (refine st_store hS rfl 25 _ _ rfl rfl rfl (by repeat (first | exact Upd.head | apply Upd.tail)) wordN_size (bc_size _ _) (bc_size _ _) (bc_one _ _) ?_; clear hS; intro w1 hS) | (refine st_new hS rfl 96 rfl limbs_zero ?_; clear hS; intro w1 b1 hS) | (refine st_load hS rfl 96 _ rfl rfl (by repeat (first | exact At.head | apply At.tail)) limbs_type rfl limbs_size (dig_size _ _) ?_) | (refine st_store hS rfl 96 _ _ rfl rfl rfl (by repeat (first | exact Upd.head | apply Upd.tail)) limbs_size (dig_size _ _) (dig_size _ _) (dig_one _ _) ?_; clear hS; intro w1 hS) | (go_at_call 46; refine (word_t _ _).mono ?_; rintro e w1 ⟨rfl, hb⟩; replace hS := hS.call hb; clear hb))
    rw [← HC.out.1]
    exact st_post hS 4 25 rfl rfl rfl (by repeat (first | exact At.head | apply At.tail)) wordN_type rfl wordN_size (bc_size _ _) (fun hb => ⟨rfl, hb⟩)

set_option maxHeartbeats 1000000 in
set_option maxRecDepth 100000 in
theorem sub_any (x y : Nat) (hy : y < M256) (w : World) :
    Calls Try.prog 27 #[.agg (wcells x), .agg (wcells y)] w fun e w' => e = .returned (.agg (wcells (wsub x y))) ∧ Tch [] w w' := by
  have HY := Lib.hid hy
  clear hy
  have hS := St.start w
  go_enter Try.func27, Try.ntmps27
  go_wp2_with (first | (refine st_box hS rfl _ _ rfl rfl ?_; clear hS; intro w1 b1 hS) | (refine st_new hS rfl 25 rfl word_zero' ?_; clear hS; intro w1 b1 hS) | (refine st_load hS rfl 25 _ rfl rfl (by repeat (first | exact At.head | apply At.tail)) wordN_type rfl wordN_size (bc_size _ _) ?_) | (refine st_store hS rfl 25 _ _ rfl rfl rfl (by repeat (first | exact Upd.head | apply Upd.tail)) wordN_size (bc_size _ _) (bc_size _ _) (bc_one _ _) ?_; clear hS; intro w1 hS) | (refine st_new hS rfl 96 rfl limbs_zero ?_; clear hS; intro w1 b1 hS) | (refine st_load hS rfl 96 _ rfl rfl (by repeat (first | exact At.head | apply At.tail)) limbs_type rfl limbs_size (dig_size _ _) ?_) | (refine st_store hS rfl 96 _ _ rfl rfl rfl (by repeat (first | exact Upd.head | apply Upd.tail)) limbs_size (dig_size _ _) (dig_size _ _) (dig_one _ _) ?_; clear hS; intro w1 hS))
  refine wp_region_head (C := fun w' => St [] w w' _) 6 (by kernel_rfl) (by kernel_rfl) hS.drew ?_
  simp only [List.take_succ_cons, List.take_zero, List.drop_succ_cons, List.drop_zero]
  repeat (first | (refine q_load rfl 25 _ rfl rfl (by repeat (first | exact At.head | apply At.tail)) wordN_type rfl wordN_size (bc_size _ _) ?_; try simp only [Act.put, List.setIfInBounds_toArray, List.set_cons_zero, List.set_cons_succ]) | (refine wpQuiet_step (fun K hK => ?_); go_simp; first | (refine hK _ ?_; clear hK K) | (apply Exists.intro; refine ⟨fun w hw => ?_, hK _ ?_⟩; (first | (go_at_call 44; exact q_of hw (load_t _ _)) | (go_at_call 47; exact q_of hw (minus_any _ _ _ (wsub_spec HY.out) _)) | (go_at_call 46; exact q_of hw (word_t _ _))); clear hK K)))
  refine wpQuiet_nil ?_
  clear hS
  intro w1 hS
  go_wp2_with (first | (refine st_box hS rfl _ _ rfl rfl ?_; clear hS; intro w1 b1 hS) | (refine st_new hS rfl 25 rfl word_zero' ?_; clear hS; intro w1 b1 hS) | (refine st_load hS rfl 25 _ rfl rfl (by repeat (first | exact At.head | apply At.tail)) wordN_type rfl wordN_size (bc_size _ _) ?_) | (refine st_store hS rfl 25 _ _ rfl rfl rfl (by repeat (first | exact Upd.head | apply Upd.tail)) wordN_size (bc_size _ _) (bc_size _ _) (bc_one _ _) ?_; clear hS; intro w1 hS) | (refine st_new hS rfl 96 rfl limbs_zero ?_; clear hS; intro w1 b1 hS) | (refine st_load hS rfl 96 _ rfl rfl (by repeat (first | exact At.head | apply At.tail)) limbs_type rfl limbs_size (dig_size _ _) ?_) | (refine st_store hS rfl 96 _ _ rfl rfl rfl (by repeat (first | exact Upd.head | apply Upd.tail)) limbs_size (dig_size _ _) (dig_size _ _) (dig_one _ _) ?_; clear hS; intro w1 hS))
  exact st_post hS 4 25 rfl rfl rfl (by repeat (first | exact At.head | apply At.tail)) wordN_type rfl wordN_size (bc_size _ _) (fun hb => ⟨rfl, hb⟩)
end Go.Proofs.Ytklpcppdjcedpaa
