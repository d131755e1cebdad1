/- ops.single: the table of the program, asked on the spot. -/
import Derived.Test.YtjbjjiibldlipaaO5
namespace Go.Proofs.Ytjbjjiibldlipaa
open Go.RowKit

section
variable {ops : Array Oper} {rest : List Oper} {o : Oper} {a : Act} {w : World} {Q : Exit → Act → World → Prop}
/-- A struct or an array is built. -/
theorem st_bldO {ty : TypeId} {parts : Array (Nat × Operand)} {v : Value} (vals : Array (Nat × Value)) (hgd : o.guard = none) (ho : o.op = .build ty parts)
    (hv : (parts.map fun (i, x) => (i, a.eval x)) = vals) (hr : ∀ w, (Instr.build ty vals).run Try.prog w = .ok v w) (h : wpList Try.prog ops Q rest (a.put o.dst v) w) : wpList Try.prog ops Q (o :: rest) a w :=
  wpList_plain hgd fun K hK => by
    subst hv
    unfold Oper.wp execOp
    simp only [ho, Sem.run_bind, hr, Result.andThen_ok, Sem.run_pure]
    exact hK _ _ h
/-- An element of an array that is at hand. -/
theorem st_idxO {ty : TypeId} {x y : Operand} {vx vy v : Value} (hgd : o.guard = none) (ho : o.op = .index ty x y) (hx : a.eval x = vx) (hy : a.eval y = vy) (hr : ∀ w, (Instr.index ty vx vy).run Try.prog w = .ok v w) (h : wpList Try.prog ops Q rest (a.put o.dst v) w) : wpList Try.prog ops Q (o :: rest) a w :=
  wpList_plain hgd fun K hK => by
    unfold Oper.wp execOp
    simp only [ho, hx, hy, Sem.run_bind, hr, Result.andThen_ok, Sem.run_pure]
    exact hK _ _ h
end
theorem tab_ty : Try.prog.underlying 86 = some (.array 256 70) := by kernel_rfl
theorem ins_agg (w : World) : (isAgg 70).run Try.prog w = .ok true w := by kernel_rfl
theorem ins_sizeOf (w : World) : (sizeOf 70).run Try.prog w = .ok 4 w := by kernel_rfl
theorem ins_size : (Try.prog.info? 70).map (·.size) = some 4 := by kernel_rfl
theorem ins_type : (Try.prog.underlying 70).map (fun d => match d with | .struct _ => true | _ => false) = some true := by kernel_rfl
theorem ins_type' : ∃ fs, Try.prog.underlying 70 = some (.struct fs) := by
  have h := ins_type
  cases hq : Try.prog.underlying 70 with
  | none => rw [hq] at h; cases h
  | some d =>
    rw [hq] at h
    cases d <;> first | exact ⟨_, rfl⟩ | simp at h
theorem index_tab (x : Nat) (hx : x < 256) (w : World) : (Instr.index 86 (.agg tabA) (.int .u8 (x : Int))).run Try.prog w = .ok (.agg (rowA (opRow x))) w := by
  have h1 : (0 : Int) ≤ (x : Int) ∧ (x : Int) < (256 : Nat) := by omega
  have e : tabA.extract (x * 4) (x * 4 + 4) = rowA (opRow x) := by
    rw [← tabA_get x hx]
    apply Array.ext'
    simp [List.take_drop]
  have h2 : ¬ 256 ≤ x := by omega
  simp [Instr.index, asIntOf, run_underlying tab_ty, ins_sizeOf, part, ins_agg, e, hx, h2]
def insZ : Array Value := #[.string ⟨#[]⟩, .int .i64 0, .int .i64 0, .int .i64 0]
theorem ins_zero : (Try.prog.info? 70).bind (·.zero) = some (.agg insZ) := by kernel_rfl
set_option maxHeartbeats 4000000 in
set_option maxRecDepth 100000 in
theorem single_any (x : Nat) (hx : x < 256) (w : World) : Calls Try.prog 42 #[.int .u8 (x : Int)] w fun e w' => e = .returned (.agg (rowA (opRow x))) ∧ Tch [] w w' := by
  have HI := Lib.hid (index_tab x hx)
  obtain ⟨fs, hu⟩ := ins_type'
  have HU := Lib.hid hu
  clear hu
  have hS := St.start w
  go_enter Try.func42, Try.ntmps42
  go_wp2_with (first
    | (refine st_bldO (ty := 86) (v := .agg tabA) _ rfl rfl rfl (fun w => by kernel_rfl) ?_)
    | (refine st_new (c := insZ) hS rfl 70 rfl ins_zero ?_; clear hS; intro w1 b1 hS)
    | (refine st_idxO (vx := .agg tabA) (vy := .int .u8 (x : Int)) rfl rfl rfl rfl HI.out ?_)
    | (refine st_store (b := b1) (c' := rowA (opRow x)) hS rfl 70 _ _ rfl rfl rfl .head ins_size rfl rfl (rowA_one _) ?_; clear hS; intro w2 hS))
  exact st_post hS 2 70 rfl rfl rfl .head HU.out rfl ins_size rfl (fun hT => ⟨rfl, hT⟩)
end Go.Proofs.Ytjbjjiibldlipaa
