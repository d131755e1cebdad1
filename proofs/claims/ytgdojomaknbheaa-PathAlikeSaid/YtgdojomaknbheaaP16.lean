/- What is packed is read again; PathBack: the walk. -/
import Derived.Test.YtgdojomaknbheaaP14
namespace Go.Proofs.Ytgdojomaknbheaa
open Go.RowKit

theorem joinL_nibs {B : List Nat} (h : ∀ x ∈ B, x < 256) : joinL (nibs B) = some B := by
  unfold joinL
  rw [if_pos ⟨by rw [nibs_length]; omega, allN_iff.2 (nibs_lt h)⟩, jn_nibs]
theorem packL_some {l : List Nat} (leaf : Bool) (h : allN l = true) : packL l leaf = some (jn (fr l leaf ++ l)) := by
  unfold packL joinL
  have e1 : allN (fr l leaf ++ l) = true := by
    rw [allN_append, h, Bool.and_true]
    exact allN_iff.2 fun x hx => Nat.lt_of_lt_of_le (fr_lt l leaf x hx) (by decide)
  have e2 : (fr l leaf ++ l).length % 2 = 0 := by
    rw [List.length_append]
    rcases Nat.mod_two_eq_zero_or_one l.length with hp | hp
    · rw [fr_even _ hp]; simp; omega
    · rw [fr_odd _ hp]; simp; omega
  rw [if_pos ⟨e2, e1⟩]
theorem pack_len (l : List Nat) (leaf : Bool) : (jn (fr l leaf ++ l)).length = l.length / 2 + 1 := by
  rw [jn_length, List.length_append]
  rcases Nat.mod_two_eq_zero_or_one l.length with hp | hp
  · rw [fr_even _ hp]; simp <;> omega
  · rw [fr_odd _ hp]; simp <;> omega
theorem read_pack {l : List Nat} (leaf : Bool) (h : allN l = true) : readL (jn (fr l leaf ++ l)) = some (l, leaf) := by
  rcases Nat.mod_two_eq_zero_or_one l.length with hp | hp
  · rw [fr_even _ hp]
    show readL ((16 * (bif leaf then 2 else 0) + 0) :: jn l) = _
    rw [readL_cons]
    cases leaf
    · show (if _ then _ else _) = _
      rw [if_neg (by simp), if_neg (by simp), nibs_jn l hp h]; rfl
    · show (if _ then _ else _) = _
      rw [if_neg (by simp), if_neg (by simp), nibs_jn l hp h]; rfl
  · match l, hp, h with
    | y :: r, hp, h =>
      rw [fr_odd _ hp]
      have hr : r.length % 2 = 0 := by simp only [List.length_cons] at hp; omega
      rw [allN_cons, Bool.and_eq_true] at h
      have hy : y < 16 := by simpa using h.1
      show readL ((16 * (bif leaf then 3 else 1) + y) :: jn r) = _
      rw [readL_cons, nibs_jn r hr h.2]
      cases leaf
      · show (if _ then _ else _) = _
        rw [if_neg (by simp; omega), if_pos (by simp; omega)]
        simp only [cond_false]
        rw [show (16 * 1 + y) % 16 = y by omega, decide_eq_false (by omega)]; rfl
      · show (if _ then _ else _) = _
        rw [if_neg (by simp; omega), if_pos (by simp; omega)]
        simp only [cond_true]
        rw [show (16 * 3 + y) % 16 = y by omega, decide_eq_true (by omega)]; rfl
theorem slice_toP (p : Option Addr) (n c k : Nat) (hk : k ≤ n) (hc : n ≤ c) (w : World) : (Instr.sliceAt 22 (.slice p n c) none (some (.int .i64 (k : Int))) none).run Try.prog w = .ok (.slice p k c) w := by
  have hel : Try.prog.elem 22 = 5 := by kernel_rfl
  have ht : Try.prog.underlying 22 = some (.slice (Try.prog.elem 22)) := by rw [hel]; exact bytes_ty
  have e1 := run_sliceAt_slice (P := Try.prog) (w := w) 22 (.slice p n c) none (some (.int .i64 (k : Int))) none ht
  have e2 := run_slice_h (P := Try.prog) (w := w) 22 p n c ht .i64 (k : Int) (by omega) (by omega)
  rw [e1, e2, hel, sizeOf_u8]
  cases p <;> simp [Result.andThen, sliced, Addr.add]
theorem st_to {P : Program} {ops : Array Oper} {rest : List Oper} {o : Oper} {a : Act} {w : World} {Q : Exit → Act → World → Prop} {v l r : Value} (hgd : o.guard = none) (ty : TypeId) (x hi : Operand) (ho : o.op = .slice ty x none (some hi) none) (hx : a.eval x = v) (hl : a.eval hi = l)
    (hr : ∀ w, (Instr.sliceAt ty v none (some l) none).run P w = .ok r w) (h : wpList P ops Q rest (a.put o.dst r) w) : wpList P ops Q (o :: rest) a w :=
  wpList_plain hgd fun K hK => by
    unfold Oper.wp execOp
    simp only [ho, hx, hl, Option.map_some, Option.map_none, Sem.run_bind, hr, Result.andThen_ok, Sem.run_pure]
    exact hK _ _ h
section
variable {o : Oper} {a : Act} {ops : Array Oper} {rest : List Oper} {C : World → Prop} {Q : Act → Prop}
theorem k_quo2 {m n : Nat} (hw : Region.wanted o (yielded ops a.tmps) = true) (ty yt : TypeId) (xo yo : Operand) (ho : o.op = .binOp .quo ty xo yo yt) (hx : a.eval xo = .int .i64 (m : Int)) (hy : a.eval yo = .int .i64 2) (hm : m ≤ 1000000) (he : m / 2 = n)
    (h : KQ ops C Q rest (a.put o.dst (.int .i64 (n : Int)))) : KQ ops C Q (o :: rest) a :=
  k_pure hw (fun w => by
    have e : IntKind.i64.wrap ((m : Int) / 2) = (n : Int) := by
      rw [IntKind.wrap_i64, ← he]; omega
    unfold execOp; simp only [ho, hx, hy]; show Sem.run _ _ w = _; simp [eqGuard, binOp, Op.intArith, Op.intDiv, e]) h
end
end Go.Proofs.Ytgdojomaknbheaa
