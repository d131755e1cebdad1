/- Zeros in front are struck: bytes.TrimLeft at a single byte, rlp.Big. -/
import Derived.Test.YtklpcppdjcedpaaN0
set_option linter.unusedVariables false
set_option linter.unusedSimpArgs false
namespace Go.Proofs.Ytklpcppdjcedpaa
open Go.RowKit

/-- How long a slice is. -/
def slLen : Value → Nat
  | .slice _ n _ => n
  | _ => 0
/-- Bytes without the zeros in front. -/
def stripZ : List Nat → List Nat
  | [] => []
  | x :: r => if x = 0 then stripZ r else x :: r
theorem stripZ_zero (r : List Nat) : stripZ (0 :: r) = stripZ r := by show (if 0 = 0 then _ else _) = _; rw [if_pos rfl]
theorem stripZ_pos {x : Nat} (r : List Nat) (h : x ≠ 0) : stripZ (x :: r) = x :: r := by show (if x = 0 then _ else _) = _; rw [if_neg h]
theorem stripZ_mem : ∀ {l : List Nat} {x : Nat}, x ∈ stripZ l → x ∈ l
  | [], _, h => h
  | y :: r, x, h => by
    by_cases hy : y = 0
    · subst hy; rw [stripZ_zero] at h; exact List.mem_cons_of_mem _ (stripZ_mem h)
    · rw [stripZ_pos r hy] at h; exact h
theorem at_ofN {X : List Nat} {w : World} {p : Option Addr} {n c : Nat} {l : List Nat} (h : RdA X w (.slice p n c) l) (hl : l ≠ []) : ∃ b o, p = some ⟨b, o, none⟩ ∧ b < w.heap.size ∧ ∀ i, i < l.length → w.cell? ⟨b, o + i, none⟩ = some (.int .u8 ((l.getD i 0 : Nat) : Int)) := by
  obtain ⟨_, _, h1, _, _, h4⟩ := h
  cases h1
  obtain ⟨b, o, h5, h6, _, h7⟩ := h4 hl
  exact ⟨b, o, h5, h6, h7⟩
theorem RdA.none_ (X : List Nat) (w : World) (p : Option Addr) (c : Nat) : RdA X w (.slice p 0 c) [] := ⟨p, c, rfl, Nat.zero_le _, by simp, fun h => absurd rfl h⟩
theorem st_fromN {P : Program} {ops : Array Oper} {rest : List Oper} {o : Oper} {a : Act} {w : World} {Q : Exit → Act → World → Prop} {v l r : Value} (hgd : o.guard = none) (ty : TypeId) (x lo : Operand) (ho : o.op = .slice ty x (some lo) none none) (hx : a.eval x = v) (hl : a.eval lo = l)
    (hr : ∀ w, (Instr.sliceAt ty v (some l) none none).run P w = .ok r w) (h : wpList P ops Q rest (a.put o.dst r) w) : wpList P ops Q (o :: rest) a w :=
  wpList_plain hgd fun K hK => by
    unfold Oper.wp execOp
    simp only [ho, hx, hl, Option.map_some, Option.map_none, Sem.run_bind, hr, Result.andThen_ok, Sem.run_pure]
    exact hK _ _ h
end Go.Proofs.Ytklpcppdjcedpaa
