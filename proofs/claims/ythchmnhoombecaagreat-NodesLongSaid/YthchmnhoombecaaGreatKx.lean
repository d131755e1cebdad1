/- Single operations: quotients, rests, turns of bytes into lanes. -/
import Derived.Test.YthchmnhoombecaaGreatKa14
import Derived.Test.YthchmnhoombecaaGreatKm
namespace Go.Proofs.YthchmnhoombecaaGreat
open Go.RowKit

section
variable {a : Act} {w : World} {o : Oper} {x y : Operand} {ty yt : TypeId}
theorem x_val {v : Value} (ho : o.op = .move x ∨ o.op = .assign x) (hx : a.eval x = v) : (execOp a.eval o).run Tryz.prog w = .ok (.value v) w := by
  unfold execOp; rcases ho with ho | ho <;> simp only [ho, hx] <;> rfl
theorem x_quo8 {i : Nat} (hi : i < 1000000000) (ho : o.op = .binOp .quo 3 x y yt) (hx : a.eval x = .int .i64 (i : Int)) (hy : a.eval y = .int .i64 8) : (execOp a.eval o).run Tryz.prog w = .ok (.value (.int .i64 ((i / 8 : Nat) : Int))) w := by
  have h : IntKind.i64.wrap ((i : Int).tdiv 8) = ((i / 8 : Nat) : Int) := by rw [Int.tdiv_eq_ediv_of_nonneg (by omega), IntWalk.i64_in _ (by omega)]; omega
  unfold execOp; simp only [ho, hx, hy]; show Sem.run _ _ w = _; simp [eqGuard, binOp, Op.intArith, Op.intDiv, h]; exact IntWalk.i64_in _ (by omega)
theorem x_rem8 {i : Nat} (hi : i < 1000000000) (ho : o.op = .binOp .rem 3 x y yt) (hx : a.eval x = .int .i64 (i : Int)) (hy : a.eval y = .int .i64 8) : (execOp a.eval o).run Tryz.prog w = .ok (.value (.int .i64 ((i % 8 : Nat) : Int))) w := by
  have h : IntKind.i64.wrap ((i : Int).tmod 8) = ((i % 8 : Nat) : Int) := by rw [Int.tmod_eq_emod_of_nonneg (by omega), IntWalk.i64_in _ (by omega)]; omega
  unfold execOp; simp only [ho, hx, hy]; show Sem.run _ _ w = _; simp [eqGuard, binOp, Op.intArith, Op.intDiv, h]; exact Int.tmod_eq_emod_of_nonneg (by omega)
theorem x_mul8 {r : Nat} (hr : r < 8) (ho : o.op = .binOp .mul 3 x y yt) (hx : a.eval x = .int .i64 (r : Int)) (hy : a.eval y = .int .i64 8) : (execOp a.eval o).run Tryz.prog w = .ok (.value (.int .i64 ((8 * r : Nat) : Int))) w := by
  have h : IntKind.i64.wrap ((r : Int) * 8) = ((8 * r : Nat) : Int) := by rw [IntWalk.i64_in _ (by omega)]; omega
  unfold execOp; simp only [ho, hx, hy]; show Sem.run _ _ w = _; simp [eqGuard, binOp, Op.intArith, h]
theorem x_addN {m n : Nat} (hm : m + n < 1000000000) (ho : o.op = .binOp .add 3 x y yt) (hx : a.eval x = .int .i64 (m : Int)) (hy : a.eval y = .int .i64 (n : Int)) : (execOp a.eval o).run Tryz.prog w = .ok (.value (.int .i64 ((m + n : Nat) : Int))) w := by
  have h : IntKind.i64.wrap ((m : Int) + (n : Int)) = ((m + n : Nat) : Int) := by rw [IntWalk.i64_in _ (by omega)]; omega
  unfold execOp; simp only [ho, hx, hy]; show Sem.run _ _ w = _; simp [eqGuard, binOp, Op.intArith, h]
theorem x_convI {s : Nat} (hs : s < 1000000000) (ho : o.op = .convert 3 113 x) (hx : a.eval x = .int .i64 (s : Int)) : (execOp a.eval o).run Tryz.prog w = .ok (.value (.int .u64 (s : Int))) w := by
  have h : IntKind.u64.wrap (s : Int) = (s : Int) := by rw [IntKind.wrap_u64]; omega
  have h1 : Tryz.prog.underlying 3 = some (.int .i64) := by kernel_rfl
  have h2 : Tryz.prog.underlying 113 = some (.int .u64) := by kernel_rfl
  unfold execOp; simp only [ho, hx]; show Sem.run _ _ w = _; simp [convert, run_underlying h1, run_underlying h2, Conv.intToInt, h]
theorem x_conv8 {v : Nat} (hv : v < 256) (ho : o.op = .convert 5 111 x) (hx : a.eval x = .int .u8 (v : Int)) : (execOp a.eval o).run Tryz.prog w = .ok (.value (.int .u64 (v : Int))) w := by
  have h : IntKind.u64.wrap (v : Int) = (v : Int) := by rw [IntKind.wrap_u64]; omega
  have h1 : Tryz.prog.underlying 5 = some (.int .u8) := by kernel_rfl
  have h2 : Tryz.prog.underlying 111 = some (.int .u64) := by kernel_rfl
  unfold execOp; simp only [ho, hx]; show Sem.run _ _ w = _; simp [convert, run_underlying h1, run_underlying h2, Conv.intToInt, h]
theorem x_shlB {v r : Nat} (hv : v < 256) (hr : r < 8) (ho : o.op = .binOp .shl 111 x y 113) (hx : a.eval x = .int .u64 (v : Int)) (hy : a.eval y = .int .u64 ((8 * r : Nat) : Int)) : (execOp a.eval o).run Tryz.prog w = .ok (.value (.int .u64 ((v * 2 ^ (8 * r) : Nat) : Int))) w := by
  have hlt := shifted_lt hv hr
  have e : (v : Int) * 2 ^ (8 * r) = ((v * 2 ^ (8 * r) : Nat) : Int) := by rw [Int.natCast_mul, Int.natCast_pow]; rfl
  have h : IntKind.u64.wrap ((v : Int) * 2 ^ (8 * r)) = (v : Int) * 2 ^ (8 * r) := by
    rw [IntKind.wrap_u64, e]
    generalize v * 2 ^ (8 * r) = z at *
    omega
  have e2 : (8 * (r : Int)).toNat = 8 * r := by omega
  unfold execOp; simp only [ho, hx, hy]; show Sem.run _ _ w = _; simp [eqGuard, binOp, Op.shift, e2, h]
theorem x_shrB {n r : Nat} (hr : r < 8) (ho : o.op = .binOp .shr 111 x y 113) (hx : a.eval x = .int .u64 (n : Int)) (hy : a.eval y = .int .u64 ((8 * r : Nat) : Int)) : (execOp a.eval o).run Tryz.prog w = .ok (.value (.int .u64 ((n / 2 ^ (8 * r) : Nat) : Int))) w := by
  have e2 : (8 * (r : Int)).toNat = 8 * r := by omega
  unfold execOp; simp only [ho, hx, hy]; show Sem.run _ _ w = _; simp [eqGuard, binOp, Op.shift, e2]
theorem x_and255 {n : Nat} (hn : n < 18446744073709551616) (ho : o.op = .binOp .and 111 x y yt) (hx : a.eval x = .int .u64 (n : Int)) (hy : a.eval y = .int .u64 255) : (execOp a.eval o).run Tryz.prog w = .ok (.value (.int .u64 ((n % 256 : Nat) : Int))) w := by
  have h : bits BinOp.and IntKind.u64 (n : Int) 255 = ((n % 256 : Nat) : Int) := by
    rw [show (255 : Int) = ((255 : Nat) : Int) from rfl, u64_and_nat n 255 hn (by decide), show (255 : Nat) = 2 ^ 8 - 1 from rfl, Nat.and_two_pow_sub_one_eq_mod]
  unfold execOp; simp only [ho, hx, hy]; show Sem.run _ _ w = _; simp [eqGuard, binOp, Op.intBits]; exact h
theorem x_convB {n : Nat} (hn : n < 256) (ho : o.op = .convert 111 5 x) (hx : a.eval x = .int .u64 (n : Int)) : (execOp a.eval o).run Tryz.prog w = .ok (.value (.int .u8 (n : Int))) w := by
  have h : IntKind.u8.wrap (n : Int) = (n : Int) := by rw [IntKind.wrap_u8]; omega
  have h1 : Tryz.prog.underlying 5 = some (.int .u8) := by kernel_rfl
  have h2 : Tryz.prog.underlying 111 = some (.int .u64) := by kernel_rfl
  unfold execOp; simp only [ho, hx]; show Sem.run _ _ w = _; simp [convert, run_underlying h1, run_underlying h2, Conv.intToInt, h]
end
end Go.Proofs.YthchmnhoombecaaGreat
