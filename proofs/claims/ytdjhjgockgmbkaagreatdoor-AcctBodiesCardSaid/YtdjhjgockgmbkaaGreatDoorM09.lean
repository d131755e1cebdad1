/- rlp.Read at any bytes. -/
import Derived.Test.YtdjhjgockgmbkaaGreatDoorM08
set_option linter.unusedVariables false
set_option linter.unusedSimpArgs false
namespace Go.Proofs.YtdjhjgockgmbkaaGreatDoor
open Go.RowKit

def rdItem (l : List Nat) : It := match rd l with | .ok t => t | .error _ => .str []
def rdErr (l : List Nat) : Nat := match rd l with | .ok _ => 0 | .error c => c
theorem rd_error {l : List Nat} {c : Nat} (h : rd l = .error c) : c = 3 ∨ c = 4 := by
  unfold rd at h
  split at h
  · cases h; omega
  · split at h
    · rename_i e he; cases h; exact dec_error he
    · split at h
      · cases h
      · cases h; omega
theorem rd_back {l : List Nat} (hb : ∀ x ∈ l, x < 256) (h : rdErr l = 0) : l = enc (rdItem l) := by
  unfold rdErr at h
  unfold rdItem
  cases hr : rd l with
  | ok t => exact rd_enc hb hr
  | error c =>
    rw [hr] at h
    have := rd_error hr
    simp only at h
    omega
/-- What Read answers. -/
def ReadPost (l : List Nat) (w : World) (e : Ending) (w' : World) : Prop :=
  Tch [] w w' ∧ ∃ d p1 n1 c1 p2 n2 c2, e = .returned (.tuple #[.agg #[.bool d, .slice p1 n1 c1, .slice p2 n2 c2], .int .i64 (rdErr l : Int)]) ∧ ItF w w' 34 (.bool d) (.slice p1 n1 c1) (.slice p2 n2 c2) (rdItem l)
theorem readpost_no {l : List Nat} {c : Nat} {w w' : World} {n : Int} (h : rd l = .error c) (hn : n = (c : Int)) (hT : Tch [] w w') : ReadPost l w (.returned (.tuple #[.agg #[.bool false, .slice none 0 0, .slice none 0 0], .int .i64 n])) w' := by
  have e1 : rdErr l = c := by unfold rdErr; rw [h]
  have e2 : rdItem l = .str [] := by unfold rdItem; rw [h]
  refine ⟨hT, _, _, _, _, _, _, _, by rw [e1, hn], fun X _ => ?_⟩
  rw [e2]
  unfold ItC
  exact ⟨rfl, (RdB.nil w').rdA' X, by simp⟩
theorem readpost_yes {l : List Nat} {t : It} {w w' : World} {d : Bool} {p1 p2 : Option Addr} {n1 c1 n2 c2 k : Nat} (h : rd l = .ok t) (hT : Tch [] w w') (hk : k ≤ 34) (hI : ∀ X, (∀ x ∈ X, x < w.heap.size) → ItC X w' k (.bool d) (.slice p1 n1 c1) (.slice p2 n2 c2) t) : ReadPost l w (.returned (.tuple #[.agg #[.bool d, .slice p1 n1 c1, .slice p2 n2 c2], .int .i64 0])) w' := by
  have e1 : rdErr l = 0 := by unfold rdErr; rw [h]
  have e2 : rdItem l = t := by unfold rdItem; rw [h]
  exact ⟨hT, _, _, _, _, _, _, _, by rw [e1]; rfl, fun X hX => by rw [e2]; exact (hI X hX).up hk⟩
end Go.Proofs.YtdjhjgockgmbkaaGreatDoor

/- SameItem at any two items. -/
namespace Go.Proofs.YtdjhjgockgmbkaaGreatDoor
open Go.RowKit

/-- The cells of a list's items. -/
def Cl (w : World) (k : Nat) (p : Option Addr) (ts : List It) : Prop := ts ≠ [] → ∃ b o, p = some ⟨b, o, none⟩ ∧ b < w.heap.size ∧ ∀ i (h : i < ts.length), ∃ y0 yb yl, w.cell? ⟨b, o + i * 3, none⟩ = some y0 ∧ w.cell? ⟨b, o + i * 3 + 1, none⟩ = some yb ∧ w.cell? ⟨b, o + i * 3 + 2, none⟩ = some yl ∧ ItC [] w k y0 yb yl ts[i]
theorem ItC.cl {w : World} {k : Nat} {x0 xb xl : Value} {ts : List It} (h : ItC [] w (k + 1) x0 xb xl (.lst ts)) : x0 = .bool true ∧ ∃ p c, xl = .slice p ts.length c ∧ ts.length < 4611686018427387904 ∧ Cl w k p ts := by
  unfold ItC at h
  obtain ⟨h0, p, c, h1, h2, h3⟩ := h
  refine ⟨h0, p, c, h1, h2.2, fun hne => ?_⟩
  obtain ⟨b, o, h4, h5, _, h6⟩ := h3 hne
  exact ⟨b, o, h4, h5, h6⟩
end Go.Proofs.YtdjhjgockgmbkaaGreatDoor

/- RlpInside: the walk. -/
namespace Go.Proofs.YtdjhjgockgmbkaaGreatDoor
open Go.RowKit
set_option maxRecDepth 100000
section
variable {o : Oper} {a : Act} {ops : Array Oper} {rest : List Oper} {C : World → Prop} {Q : Act → Prop}
/-- The place of an item in a list. -/
theorem k_idx3 {b off j n c : Nat} (hw : Region.wanted o (yielded ops a.tmps) = true) (x y : Operand) (ho : o.op = .indexAddr 66 x y) (hx : a.eval x = .slice (some ⟨b, off, none⟩) n c) (hy : a.eval y = .int .i64 (j : Int)) (hj : j < n)
    (h : KQ ops C Q rest (a.put o.dst (.pointer (some ⟨b, off + j * 3, none⟩)))) : KQ ops C Q (o :: rest) a :=
  k_pure hw (fun w => by
    have hadd : (⟨b, off, none⟩ : Addr).add (j * 3) = ⟨b, off + j * 3, none⟩ := by unfold Addr.add; split <;> simp_all
    unfold execOp
    simp [ho, hx, hy, Instr.indexAt, run_underlying items_ty, Instr.sureAddr, asIntOf, sizeOf_one item_size, hj, hadd]) h
theorem item_load {w : World} {b o' : Nat} {z0 zb zl : Value} (h0 : w.cell? ⟨b, o', none⟩ = some z0) (h1 : w.cell? ⟨b, o' + 1, none⟩ = some zb) (h2 : w.cell? ⟨b, o' + 2, none⟩ = some zl) : (Instr.loadAt 68 (.pointer (some ⟨b, o', none⟩))).run Tryz.prog w = .ok (.agg #[z0, zb, zl]) w := by
  go_simp
end
/-- Two integers, the first one the greater. -/
theorem k_gtr {o : Oper} {a : Act} {ops : Array Oper} {rest : List Oper} {C : World → Prop} {Q : Act → Prop} {t : Bool} {m n : Int} (hw : Region.wanted o (yielded ops a.tmps) = true) (xo yo : Operand) (yt : TypeId) (ho : o.op = .binOp .gtr 3 xo yo yt)
    (hxe : a.eval xo = .int .i64 m) (hye : a.eval yo = .int .i64 n) (hxy : decide (n < m) = t) (h : KQ ops C Q rest (a.put o.dst (.bool t))) : KQ ops C Q (o :: rest) a :=
  k_pure hw (fun w => by unfold execOp; simp only [ho, hxe, hye]; show Sem.run _ _ w = _; simp [eqGuard, binOp, Op.intCmp, hxy]) h
theorem deep_lt {d : Nat} (h : d ≤ 32) : deepN 32 d = d := by unfold deepN; rw [if_pos h]

end Go.Proofs.YtdjhjgockgmbkaaGreatDoor

/- Steps of regions in the text's order, for the numbers. -/
namespace Go.Proofs.YtdjhjgockgmbkaaGreatDoor
open Go.RowKit

section
variable {o : Oper} {a : Act} {ops : Array Oper} {rest : List Oper} {C : World → Prop} {Q : Act → Prop}
end
section
variable {o : Oper} {a : Act} {ops : Array Oper} {rest : List Oper} {C : World → Prop} {Q : Act → Prop}
/-- Passed by, whatever the reason. -/
theorem k_skipN (hw : Region.wanted o (yielded ops a.tmps) = false) (h : KQ ops C Q rest (a.put o.dst undef)) : KQ ops C Q (o :: rest) a := ⟨q_skip hw h.go⟩
/-- A field's place. -/
theorem k_fld {b j j' : Nat} (hw : Region.wanted o (yielded ops a.tmps) = true) (ty : TypeId) (x : Operand) (f : Nat) (ho : o.op = .fieldAddr ty x f) (hx : a.eval x = .pointer (some ⟨b, j, none⟩)) (hf : ∀ w, (Instr.fieldAt ty (.pointer (some ⟨b, j, none⟩)) f).run Tryz.prog w = .ok (.pointer (some ⟨b, j', none⟩)) w)
    (h : KQ ops C Q rest (a.put o.dst (.pointer (some ⟨b, j', none⟩)))) : KQ ops C Q (o :: rest) a :=
  k_pure hw (fun w => by unfold execOp; simp only [ho, hx]; show Sem.run _ _ w = _; simp only [Sem.run_bind, hf w, Result.andThen_ok]; rfl) h
theorem k_eq8 {t : Bool} {m n : Int} (hw : Region.wanted o (yielded ops a.tmps) = true) (xo yo : Operand) (yt : TypeId) (ho : o.op = .binOp .eql 5 xo yo yt)
    (hxe : a.eval xo = .int .u8 m) (hye : a.eval yo = .int .u8 n) (hxy : (m == n) = t) (h : KQ ops C Q rest (a.put o.dst (.bool t))) : KQ ops C Q (o :: rest) a :=
  k_pure hw (fun w => by unfold execOp; simp only [ho, hxe, hye]; show Sem.run _ _ w = _; simp [eqGuard, binOp, Op.intCmp, hxy]) h
end
theorem item_f0 (b : Nat) (w : World) : (Instr.fieldAt 68 (.pointer (some ⟨b, 0, none⟩)) 0).run Tryz.prog w = .ok (.pointer (some ⟨b, 0, none⟩)) w := by kernel_rfl
theorem item_f1 (b : Nat) (w : World) : (Instr.fieldAt 68 (.pointer (some ⟨b, 0, none⟩)) 1).run Tryz.prog w = .ok (.pointer (some ⟨b, 1, none⟩)) w := by kernel_rfl
theorem bool_aggN (w : World) : (isAgg 4).run Tryz.prog w = .ok false w := by simp [isAgg, run_underlying bool_ty]
theorem bytes_aggN (w : World) : (isAgg 26).run Tryz.prog w = .ok false w := by simp [isAgg, run_underlying bytes_ty]
theorem u8_aggN (w : World) : (isAgg 5).run Tryz.prog w = .ok false w := by simp [isAgg, run_underlying byte_ty]
end Go.Proofs.YtdjhjgockgmbkaaGreatDoor
