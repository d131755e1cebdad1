/- One bit of a row of limbs. -/
import Derived.Test.YtcdjinjeogodfaaI1
namespace Go.Proofs.Ytcdjinjeogodfaa
open Go.RowKit

set_option maxHeartbeats 1000000 in
set_option maxRecDepth 100000 in
theorem bit_any (x i : Nat) (hi : i < 256) (w : World) :
    Calls Try.prog 85 #[.agg (dig 4 x), .int .u64 i] w fun e w' => e = .returned (.bool (x.testBit i)) ∧ Below w.heap.size w w' := by
  have B := Blk.new w 42 (dig 4 x)
  have hq : i / 64 < 4 := by omega
  have g := B.cell (dig_get hq)
  have hlx : x / 2 ^ (64 * (i / 64)) % 2 ^ 64 < 18446744073709551616 := Nat.mod_lt _ (by decide)
  obtain ⟨q, hqd⟩ : ∃ q, q = i / 64 := ⟨_, rfl⟩
  obtain ⟨r, hrd⟩ : ∃ r, r = i % 64 := ⟨_, rfl⟩
  have t1 : (i : Int) / 64 = (q : Int) := by omega
  have t2 : (i : Int) % 64 = (r : Int) := by omega
  rw [← hqd] at g hlx hq
  obtain ⟨v, hv⟩ : ∃ v, v = x / 2 ^ (64 * q) % 2 ^ 64 := ⟨_, rfl⟩
  rw [← hv] at g hlx
  have hr : r < 64 := by omega
  have H := Lib.hid (And.intro hqd (And.intro hrd hv))
  clear hqd hrd hv
  have hb0 := (Below.refl w.heap.size w).alloc (Nat.le_refl _) (.cells (dig 4 x) 42)
  go_enter Try.func85, Try.ntmps85
  go_wp2
  go_ret
  refine ⟨ret_bool ?_, hb0⟩
  obtain ⟨e1, e2, e3⟩ := H.out
  show (bits BinOp.and IntKind.u64 ((v : Int) / 2 ^ r) 1 == 1) = _
  have e4 : (v : Int) / 2 ^ r = ((v / 2 ^ r : Nat) : Int) := by simp
  have e5 := u64_and_nat (v / 2 ^ r) 1 (Nat.lt_of_le_of_lt (Nat.div_le_self _ _) hlx) (by decide)
  rw [e4]
  have e6 : bits BinOp.and IntKind.u64 ((v / 2 ^ r : Nat) : Int) 1 = ((v / 2 ^ r % 2 : Nat) : Int) := by rw [← nat_mask1]; exact e5
  rw [e6]
  have e7 : x.testBit i = v.testBit r := by
    rw [e3, Nat.testBit_mod_two_pow, Nat.testBit_div_two_pow]
    simp only [hr, decide_true, Bool.true_and]
    congr 1; omega
  rw [e7, Nat.testBit_eq_decide_div_mod_eq, Bool.eq_iff_iff]
  simp only [beq_iff_eq, decide_eq_true_eq]
  omega
end Go.Proofs.Ytcdjinjeogodfaa
