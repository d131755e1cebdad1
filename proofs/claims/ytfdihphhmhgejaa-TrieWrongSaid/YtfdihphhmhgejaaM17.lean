/- bytes.Clone; stores of any one value, and of a whole item among items. -/
import Derived.Test.YtfdihphhmhgejaaM14
import Derived.Test.YtfdihphhmhgejaaM01
import Derived.Test.YtfdihphhmhgejaaM15
import Derived.Test.YtfdihphhmhgejaaM16
import Derived.Test.YtfdihphhmhgejaaM02
set_option linter.unusedVariables false
set_option linter.unusedSimpArgs false
namespace Go.Proofs.Ytfdihphhmhgejaa
open Go.RowKit

end Go.Proofs.Ytfdihphhmhgejaa

/- Steps of a law's regions, in the text's order: quiet in a class of worlds. -/
namespace Go.Proofs.Ytfdihphhmhgejaa
open Go.RowKit

section
variable {o : Oper} {a : Act} {ops : Array Oper} {rest : List Oper} {C : World → Prop} {Q : Act → Prop}
/-- A struct is loaded whole, in worlds that hold it. -/
theorem k_loadS {b n : Nat} {t : TypeId} {fs : Array Field} {c : Array Value} (hw : Region.wanted o (yielded ops a.tmps) = true) (ty : TypeId) (x : Operand) (ho : o.op = .load ty x) (hx : a.eval x = .pointer (some ⟨b, 0, none⟩)) (hB : ∀ w, C w → Blk w b t c)
    (hu : Try.prog.underlying ty = some (.struct fs)) (hi : (Try.prog.info? ty).map (·.size) = some n) (hn : c.size = n)
    (h : KQ ops C Q rest (a.put o.dst (.agg c))) : KQ ops C Q (o :: rest) a :=
  k_in hw (fun w hC => by
    have hl := (hB w hC).load (P := Try.prog) hu rfl hi hn
    unfold execOp
    simp only [ho, hx, Sem.run_bind, hl, Result.andThen_ok, Sem.run_pure]) h
end
section
variable {o : Oper} {a : Act} {ops : Array Oper} {rest : List Oper} {C : World → Prop} {Q : Act → Prop}
end
end Go.Proofs.Ytfdihphhmhgejaa

/- RlpInside: the walk. -/
namespace Go.Proofs.Ytfdihphhmhgejaa
open Go.RowKit
set_option maxRecDepth 100000
theorem item_size : (Try.prog.info? 27).map (·.size) = some 3 := by kernel_rfl

section
variable {o : Oper} {a : Act} {ops : Array Oper} {rest : List Oper} {C : World → Prop} {Q : Act → Prop}
/-- A reslice. -/
theorem k_sl {ty : TypeId} {x : Operand} {lo hi mx : Option Operand} {v r : Value} {l h m : Option Value} (hw : Region.wanted o (yielded ops a.tmps) = true) (ho : o.op = .slice ty x lo hi mx) (hx : a.eval x = v) (hl : lo.map a.eval = l) (hh : hi.map a.eval = h) (hmx : mx.map a.eval = m)
    (hr : ∀ w, (Instr.sliceAt ty v l h m).run Try.prog w = .ok r w) (hk : KQ ops C Q rest (a.put o.dst r)) : KQ ops C Q (o :: rest) a :=
  k_pure hw (fun w => by
    unfold execOp
    simp only [ho, hx, hl, hh, hmx, Sem.run_bind, hr, Result.andThen_ok, Sem.run_pure]) hk
/-- The place of an item in a list. -/
theorem k_idx3 {b off j n c : Nat} (hw : Region.wanted o (yielded ops a.tmps) = true) (x y : Operand) (ho : o.op = .indexAddr 25 x y) (hx : a.eval x = .slice (some ⟨b, off, none⟩) n c) (hy : a.eval y = .int .i64 (j : Int)) (hj : j < n)
    (h : KQ ops C Q rest (a.put o.dst (.pointer (some ⟨b, off + j * 3, none⟩)))) : KQ ops C Q (o :: rest) a :=
  k_pure hw (fun w => by
    have hadd : (⟨b, off, none⟩ : Addr).add (j * 3) = ⟨b, off + j * 3, none⟩ := by unfold Addr.add; split <;> simp_all
    unfold execOp
    simp [ho, hx, hy, Instr.indexAt, run_underlying items_ty, Instr.sureAddr, asIntOf, sizeOf_one item_size, hj, hadd]) h
theorem item_load {w : World} {b o' : Nat} {z0 zb zl : Value} (h0 : w.cell? ⟨b, o', none⟩ = some z0) (h1 : w.cell? ⟨b, o' + 1, none⟩ = some zb) (h2 : w.cell? ⟨b, o' + 2, none⟩ = some zl) : (Instr.loadAt 27 (.pointer (some ⟨b, o', none⟩))).run Try.prog w = .ok (.agg #[z0, zb, zl]) w := by
  go_simp
/-- An item is loaded out of a list. -/
theorem k_load3 {b o' : Nat} {z0 zb zl : Value} (hw : Region.wanted o (yielded ops a.tmps) = true) (x : Operand) (ho : o.op = .load 27 x) (hx : a.eval x = .pointer (some ⟨b, o', none⟩)) (hv : ∀ w, C w → w.cell? ⟨b, o', none⟩ = some z0 ∧ w.cell? ⟨b, o' + 1, none⟩ = some zb ∧ w.cell? ⟨b, o' + 2, none⟩ = some zl)
    (h : KQ ops C Q rest (a.put o.dst (.agg #[z0, zb, zl]))) : KQ ops C Q (o :: rest) a :=
  k_in hw (fun w hC => by
    obtain ⟨h0, h1, h2⟩ := hv w hC
    unfold execOp
    simp only [ho, hx, Sem.run_bind, item_load h0 h1 h2, Result.andThen_ok, Sem.run_pure]) h
theorem k_leq {t : Bool} {m n : Int} (hw : Region.wanted o (yielded ops a.tmps) = true) (xo yo : Operand) (yt : TypeId) (ho : o.op = .binOp .leq 3 xo yo yt)
    (hxe : a.eval xo = .int .i64 m) (hye : a.eval yo = .int .i64 n) (hxy : decide (m ≤ n) = t) (h : KQ ops C Q rest (a.put o.dst (.bool t))) : KQ ops C Q (o :: rest) a :=
  k_pure hw (fun w => by unfold execOp; simp only [ho, hxe, hye]; show Sem.run _ _ w = _; simp [eqGuard, binOp, Op.intCmp, hxy]) h
end
/-- What is guarded by a test that was itself passed by is passed by. -/
theorem k_skipU {o : Oper} {a : Act} {ops : Array Oper} {rest : List Oper} {C : World → Prop} {Q : Act → Prop} {j d : Nat} {want : Bool} {p : Oper} (hg : o.guard = some (j, want)) (hp : ops[j]? = some p) (hd : p.dst = some d) (ht : a.tmps[d]? = some undef)
    (h : KQ ops C Q rest (a.put o.dst undef)) : KQ ops C Q (o :: rest) a := by
  refine ⟨q_skip ?_ h.go⟩
  have hy : yielded ops a.tmps j = none := by unfold yielded; simp only [hp, Option.bind_some, hd, ht]; rfl
  have hw : Region.wanted o (yielded ops a.tmps) = (yielded ops a.tmps j == some want) := by unfold Region.wanted; simp only [hg]
  rw [hw, hy]; rfl
/-- Two integers, the first one the greater. -/
theorem k_gtr {o : Oper} {a : Act} {ops : Array Oper} {rest : List Oper} {C : World → Prop} {Q : Act → Prop} {t : Bool} {m n : Int} (hw : Region.wanted o (yielded ops a.tmps) = true) (xo yo : Operand) (yt : TypeId) (ho : o.op = .binOp .gtr 3 xo yo yt)
    (hxe : a.eval xo = .int .i64 m) (hye : a.eval yo = .int .i64 n) (hxy : decide (n < m) = t) (h : KQ ops C Q rest (a.put o.dst (.bool t))) : KQ ops C Q (o :: rest) a :=
  k_pure hw (fun w => by unfold execOp; simp only [ho, hxe, hye]; show Sem.run _ _ w = _; simp [eqGuard, binOp, Op.intCmp, hxy]) h
theorem own_keep {w w1 w2 : World} {v : Value} {n : Nat} {l : List Value} (h : w1.ownsRow w.heap.size 5 1 v n l) (hT : Tch [] w1 w2) : w2.ownsRow w.heap.size 5 1 v n l := by
  refine ⟨h.1, ?_⟩
  rcases h.2 with h0 | ⟨g, cap, cur, hv, hg, hb, rest⟩
  · exact .inl h0
  · exact .inr ⟨g, cap, cur, hv, hg, by rw [hT.block g (Array.getElem?_eq_some_iff.1 hb).1 (by simp)]; exact hb, rest⟩
theorem hsz_four {n : Nat} (h : n < 16777216) : hsz n ≤ 4 := by
  unfold hsz
  split
  · omega
  · rename_i h55
    have : lsz n ≤ 3 := by
      rcases Nat.lt_or_ge n 256 with h1 | h1
      · rw [lsz_one (by omega) h1]; omega
      rcases Nat.lt_or_ge n 65536 with h2 | h2
      · rw [lsz_two h1 h2]; omega
      · rw [lsz_three h2 h]; omega
    omega
theorem packpost_yes' {it : It} {w w' : World} {e : Ending} (h : dep it ≤ 32 ∧ (enc it).length ≤ 16777216) (hp : PackPost it w e w') : Tch [] w w' ∧ ∃ b, w.heap.size ≤ b ∧ e = .returned (.tuple #[.slice (some ⟨b, 0, none⟩) (enc it).length (enc it).length, .int .i64 0]) ∧ Blk w' b 5 (bc (enc it).length fun i => (enc it).getD i 0) := by
  unfold PackPost at hp; rwa [if_pos h] at hp
theorem packpost_no' {it : It} {w w' : World} {e : Ending} (h : ¬ (dep it ≤ 32 ∧ (enc it).length ≤ 16777216)) (hp : PackPost it w e w') : Tch [] w w' ∧ e = .returned (.tuple #[.slice none 0 0, .int .i64 3]) := by
  unfold PackPost at hp; rwa [if_neg h] at hp
theorem deep_lt {d : Nat} (h : d ≤ 32) : deepN 32 d = d := by unfold deepN; rw [if_pos h]

end Go.Proofs.Ytfdihphhmhgejaa
