/- The rounds' numbers. -/
import Derived.Test.YthchmnhoombecaaGreatKa4
namespace Go.Proofs.YthchmnhoombecaaGreat
open Go.RowKit

/-- The rounds' numbers in memory. -/
def rcells : Array Value := ((List.range 24).map fun i => Value.int .u64 ((rc i : Nat) : Int)).toArray
theorem rcells_size : rcells.size = 24 := by simp [rcells]
theorem rcells_get {i : Nat} (h : i < 24) : rcells[i]? = some (.int .u64 ((rc i : Nat) : Int)) := by simp [rcells, h]
theorem rcells_lit : rcells = #[.int .u64 1, .int .u64 32898, .int .u64 9223372036854808714, .int .u64 9223372039002292224, .int .u64 32907, .int .u64 2147483649, .int .u64 9223372039002292353, .int .u64 9223372036854808585, .int .u64 138, .int .u64 136, .int .u64 2147516425, .int .u64 2147483658, .int .u64 2147516555, .int .u64 9223372036854775947, .int .u64 9223372036854808713, .int .u64 9223372036854808579, .int .u64 9223372036854808578, .int .u64 9223372036854775936, .int .u64 32778, .int .u64 9223372039002259466, .int .u64 9223372039002292353, .int .u64 9223372036854808704, .int .u64 2147483649, .int .u64 9223372039002292232] := by kernel_rfl
theorem zeros_lit : lay (Array.replicate 25 undef) (fun _ => 0) = #[.int .u64 0, .int .u64 0, .int .u64 0, .int .u64 0, .int .u64 0, .int .u64 0, .int .u64 0, .int .u64 0, .int .u64 0, .int .u64 0, .int .u64 0, .int .u64 0, .int .u64 0, .int .u64 0, .int .u64 0, .int .u64 0, .int .u64 0, .int .u64 0, .int .u64 0, .int .u64 0, .int .u64 0, .int .u64 0, .int .u64 0, .int .u64 0, .int .u64 0] := by kernel_rfl
theorem nums_zero : (Tryz.prog.info? 229).bind (·.zero) = some (.agg #[.int .u64 0, .int .u64 0, .int .u64 0, .int .u64 0, .int .u64 0, .int .u64 0, .int .u64 0, .int .u64 0, .int .u64 0, .int .u64 0, .int .u64 0, .int .u64 0, .int .u64 0, .int .u64 0, .int .u64 0, .int .u64 0, .int .u64 0, .int .u64 0, .int .u64 0, .int .u64 0, .int .u64 0, .int .u64 0, .int .u64 0, .int .u64 0]) := by kernel_rfl
theorem lanes_zero : (Tryz.prog.info? 132).bind (·.zero) = some (.agg (lay (Array.replicate 25 undef) (fun _ => 0))) := by rw [zeros_lit]; kernel_rfl
theorem rcells_one : rcells.all (·.oneCell') = true := by
  rw [Array.all_eq_true_iff_forall_mem]
  intro v hv
  simp only [rcells, List.mem_toArray, List.mem_map] at hv
  obtain ⟨i, _, rfl⟩ := hv
  rfl
set_option maxHeartbeats 4000000 in
set_option maxRecDepth 100000 in
theorem numbers_any (w : World) : Calls Tryz.prog 126 #[] w fun e w' => e = .returned (.agg rcells) ∧ Tch [] w w' := by
  have hS := St.start w
  go_enter Tryz.func126, Tryz.ntmps126
  go_wp2_with (first | (refine st_new hS rfl 229 rfl nums_zero ?_; clear hS; intro w1 b1 hS) | (refine st_store (c' := rcells) hS rfl 229 _ _ rfl rfl (by rw [rcells_lit]; rfl) (by repeat (first | exact Upd.head | apply Upd.tail)) nums_size rfl rcells_size rcells_one ?_; clear hS; intro w1 hS))
  exact st_post hS 0 229 rfl rfl rfl (by repeat (first | exact At.head | apply At.tail)) nums_type rfl nums_size rcells_size (fun hb => ⟨rfl, hb⟩)
end Go.Proofs.YthchmnhoombecaaGreat
