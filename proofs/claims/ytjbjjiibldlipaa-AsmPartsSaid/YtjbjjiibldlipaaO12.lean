/- The document's table of instructions, whole. -/
import Derived.Test.YtjbjjiibldlipaaO11
import Derived.Test.YtjbjjiibldlipaaO9
import Derived.Deep.MidRow
namespace Go.Proofs.Ytjbjjiibldlipaa
open Go.RowKit

/-- A row of the document's struct. -/
def mkR (r : Nat × List Nat × Nat × Nat × Nat) : Array Value := #[.int .u8 (r.1 : Int), .string (strB r.2.1), .int .i64 (r.2.2.1 : Int), .int .i64 (r.2.2.2.1 : Int), .int .i64 (r.2.2.2.2 : Int)]
def rowZ : Nat × List Nat × Nat × Nat × Nat := (0, [], 0, 0, 0)
def infD (x : Nat) : Nat × List Nat × Nat × Nat × Nat := if nm x = [] then rowZ else (x, nm x, ins x |>.2)
def rngD (x : Nat) : Nat × List Nat × Nat × Nat × Nat := if num x = none then rowZ else infD x
theorem inf_mk (x : Nat) : inf x = mkR (infD x) := by unfold inf infD; split <;> rfl
theorem rng_mk (x : Nat) : rng x = mkR (rngD x) := by unfold rng rngD; split; rfl; exact inf_mk x
theorem mkR_size (r : Nat × List Nat × Nat × Nat × Nat) : (mkR r).size = 5 := rfl
theorem mkR_one (r : Nat × List Nat × Nat × Nat × Nat) : (mkR r).all (·.oneCell') = true := by simp [mkR, Value.oneCell']
def tabR (m : Nat) : Nat × List Nat × Nat × Nat × Nat := opTab.getD m rowZ
theorem tabR_lt : ∀ m : Fin 69, (tabR m.val).1 < 256 := by decide +kernel
/-- What the array holds behind m rows of the table. -/
def d2 : Nat → Nat → Nat × List Nat × Nat × Nat × Nat
  | 0, j => rngD j
  | m + 1, j => if j = (tabR m).1 then tabR m else d2 m j
theorem d2_end : ∀ j : Fin 256, d2 69 j.val = infD j.val := by decide +kernel
theorem fl_congr {f g : Nat → Array Value} {N : Nat} (h : ∀ i, i < N → f i = g i) : fl f N = fl g N := by
  unfold fl
  have : (List.range N).flatMap (fun i => (f i).toList) = (List.range N).flatMap (fun i => (g i).toList) := by
    rw [List.flatMap_def, List.flatMap_def]
    congr 1
    exact List.map_congr_left fun i hi => by rw [h i (List.mem_range.1 hi)]
  rw [this]
def tblA : Array Value := fl (fun i => mkR (tabR i)) 69
def allZ : Array Value := fl (fun _ => infZ) 256
def allF (f : Nat → Nat × List Nat × Nat × Nat × Nat) : Array Value := fl (fun i => mkR (f i)) 256
/-- All of the document's table. -/
def allA : Array Value := allF infD
def f1 (k j : Nat) : Nat × List Nat × Nat × Nat × Nat := if j < k then rngD j else rowZ
theorem allF_zero : allF (f1 0) = allZ := fl_congr fun i _ => by unfold f1; rw [if_neg (by omega)]; rfl
theorem allF_one (k : Nat) (hk : k < 256) : splO (allF (f1 k)) (k * 5) (rng k) = allF (f1 (k + 1)) := by
  unfold allF
  rw [splO_fl (m := 5) (fun i => rfl) hk (rng k) (rng_size k) (by decide)]
  refine fl_congr fun i hi => ?_
  show (if i = k then rng k else mkR (f1 k i)) = mkR (f1 (k + 1) i)
  unfold f1
  by_cases h : i = k
  · subst h; rw [if_pos rfl, if_pos (by omega), rng_mk]
  · rw [if_neg h]
    by_cases h2 : i < k
    · rw [if_pos h2, if_pos (by omega)]
    · rw [if_neg h2, if_neg (by omega)]
theorem allF_two (m : Nat) (hm : m < 69) : splO (allF (d2 m)) ((tabR m).1 * 5) (mkR (tabR m)) = allF (d2 (m + 1)) := by
  unfold allF
  rw [splO_fl (m := 5) (fun i => rfl) (tabR_lt ⟨m, hm⟩) (mkR (tabR m)) rfl (by decide)]
  refine fl_congr fun i hi => ?_
  show (if i = (tabR m).1 then mkR (tabR m) else mkR (d2 m i)) = mkR (if i = (tabR m).1 then tabR m else d2 m i)
  by_cases h : i = (tabR m).1
  · rw [if_pos h, if_pos h]
  · rw [if_neg h, if_neg h]
theorem allF_turn : allF (f1 256) = allF (d2 0) := fl_congr fun i hi => by unfold f1; rw [if_pos hi]; rfl
theorem allF_end : allF (d2 69) = allA := fl_congr fun i hi => by rw [d2_end ⟨i, hi⟩]
theorem allF_size (f : Nat → Nat × List Nat × Nat × Nat × Nat) : (allF f).size = 1280 := fl_size (m := 5) (fun i => rfl) 256
theorem tblA_size : tblA.size = 345 := fl_size (m := 5) (fun i => rfl) 69
theorem all_ty : Try.prog.underlying 52 = some (.array 256 51) := by kernel_rfl
theorem tbl_ty : Try.prog.underlying 66 = some (.slice 51) := by kernel_rfl
theorem all_zero : (Try.prog.info? 52).bind (·.zero) = some (.agg allZ) := by kernel_rfl
theorem all_tsize : (Try.prog.info? 52).map (·.size) = some 1280 := by kernel_rfl
theorem allF_one' (f : Nat → Nat × List Nat × Nat × Nat × Nat) : (allF f).all (·.oneCell') = true := by
  rw [Array.all_eq_true_iff_forall_mem]
  intro v hv
  unfold allF fl at hv
  rw [List.mem_toArray] at hv
  obtain ⟨i, _, hv⟩ := List.mem_flatMap.1 hv
  exact (Array.all_eq_true_iff_forall_mem.1 (mkR_one (f i))) v (by simpa using hv)
section
variable {ops : Array Oper} {rest : List Oper} {o : Oper} {a : Act} {bs : List Nat} {w0 w : World} {Q : Exit → Act → World → Prop} {L : List Ent}
/-- A slice is built. -/
theorem st_bsO {n : Nat} {ty t : TypeId} {c : Array Value} {k : Nat} {parts : Array (Nat × Operand)} (hS : St bs w0 w L) (hgd : o.guard = none) (ho : o.op = .buildSlice ty k parts)
    (hr : ∀ w : World, (execOp a.eval o).run Try.prog w = .ok (.value (.slice (some ⟨w.heap.size, 0, none⟩) n n)) (w.alloc (.cells c t)))
    (h : ∀ w' b, St bs w0 w' ((b, t, c) :: L) → wpList Try.prog ops Q rest (a.put o.dst (.slice (some ⟨b, 0, none⟩) n n)) w') : wpList Try.prog ops Q (o :: rest) a w :=
  wpList_plain hgd fun K hK => by
    unfold Oper.wp
    rw [hr w]
    exact hK _ _ (h _ _ (hS.new t c))
end
set_option maxHeartbeats 4000000 in
set_option maxRecDepth 100000 in
theorem table_any (w : World) : Calls Try.prog 30 #[] w fun e w' => ∃ b, e = .returned (.slice (some ⟨b, 0, none⟩) 69 69) ∧ St [] w w' [(b, 51, tblA)] := by
  have hS := St.start w
  go_enter Try.func30, Try.ntmps30
  go_wp2_with (refine st_bsO (c := tblA) (t := 51) (n := 69) (ty := 66) hS rfl rfl (fun w => by kernel_rfl) ?_; clear hS; intro w2 b2 hS)
  go_ret
  exact ⟨b2, rfl, hS⟩
theorem idx_all (b x : Nat) (hx : x < 256) (k : IntKind) (w : World) : (Instr.indexAt 52 (.pointer (some ⟨b, 0, none⟩)) (.int k (x : Int))).run Try.prog w = .ok (.pointer (some ⟨b, x * 5, none⟩)) w := by
  have hadd : (⟨b, 0, none⟩ : Addr).add (x * 5) = ⟨b, x * 5, none⟩ := by unfold Addr.add; split <;> simp_all
  simp [Instr.indexAt, run_underlying all_ty, Instr.sureAddr, asIntOf, inf_sizeOf, hx, hadd]
theorem idx_tbl (b m : Nat) (hm : m < 69) (w : World) : (Instr.indexAt 66 (.slice (some ⟨b, 0, none⟩) 69 69) (.int .i64 (m : Int))).run Try.prog w = .ok (.pointer (some ⟨b, m * 5, none⟩)) w := by
  have hadd : (⟨b, 0, none⟩ : Addr).add (m * 5) = ⟨b, m * 5, none⟩ := by unfold Addr.add; split <;> simp_all
  simp [Instr.indexAt, run_underlying tbl_ty, Instr.sureAddr, asIntOf, inf_sizeOf, hm, hadd]
theorem inf_fa0 (b o : Nat) (w : World) : (Instr.fieldAt 51 (.pointer (some ⟨b, o, none⟩)) 0).run Try.prog w = .ok (.pointer (some ⟨b, o + 0, none⟩)) w := by kernel_rfl
theorem inf_fa1 (b o : Nat) (w : World) : (Instr.fieldAt 51 (.pointer (some ⟨b, o, none⟩)) 1).run Try.prog w = .ok (.pointer (some ⟨b, o + 1, none⟩)) w := by kernel_rfl
theorem inf_fa2 (b o : Nat) (w : World) : (Instr.fieldAt 51 (.pointer (some ⟨b, o, none⟩)) 2).run Try.prog w = .ok (.pointer (some ⟨b, o + 2, none⟩)) w := by kernel_rfl
theorem inf_fa3 (b o : Nat) (w : World) : (Instr.fieldAt 51 (.pointer (some ⟨b, o, none⟩)) 3).run Try.prog w = .ok (.pointer (some ⟨b, o + 3, none⟩)) w := by kernel_rfl
theorem inf_fa4 (b o : Nat) (w : World) : (Instr.fieldAt 51 (.pointer (some ⟨b, o, none⟩)) 4).run Try.prog w = .ok (.pointer (some ⟨b, o + 4, none⟩)) w := by kernel_rfl
section
variable {o : Oper} {a : Act} {ops : Array Oper} {rest : List Oper} {C : World → Prop} {Q : Act → Prop}
/-- An element's place. -/
theorem k_idxG {ty : TypeId} {x y : Operand} {vx vy u : Value} (hw : Region.wanted o (yielded ops a.tmps) = true) (ho : o.op = .indexAddr ty x y) (hx : a.eval x = vx) (hy : a.eval y = vy) (hr : ∀ w, (Instr.indexAt ty vx vy).run Try.prog w = .ok u w)
    (h : KQ ops C Q rest (a.put o.dst u)) : KQ ops C Q (o :: rest) a :=
  k_pure hw (fun w => by unfold execOp; simp only [ho, hx, hy, Sem.run_bind, hr, Result.andThen_ok, Sem.run_pure]) h
/-- A struct is loaded out of the middle of a block. -/
theorem k_ldMid {bs : List Nat} {w0 : World} {L : List Ent} {b q : Nat} {ty t : TypeId} {c cs : Array Value} {d : TypeDesc} {x : Operand} (hw : Region.wanted o (yielded ops a.tmps) = true) (ho : o.op = .load ty x) (hx : a.eval x = .pointer (some ⟨b, q, none⟩)) (m : At L b t cs) (hr : ∀ j u, c.toList[j]? = some u → cs[q + j]? = some u) (hu : Try.prog.underlying ty = some d) (hd : d.isRow = true) (hs : (Try.prog.info? ty).map (·.size) = some c.size)
    (h : KQ ops (fun w' => St bs w0 w' L) Q rest (a.put o.dst (.agg c))) : KQ ops (fun w' => St bs w0 w' L) Q (o :: rest) a :=
  k_in hw (fun w hC => by
    have h := run_loadAt_mid (P := Try.prog) w b q ty c.toList d (fun j u hu => (hC.get m).cell (hr j u hu)) hu hd (by rw [Array.length_toList]; exact hs)
    rw [Array.toArray_toList] at h
    unfold execOp
    simp only [ho, hx, Sem.run_bind, h, Result.andThen_ok, Sem.run_pure]) h
end
theorem tbl_mid (m : Nat) (hm : m < 69) (j : Nat) (u : Value) (h : (mkR (tabR m)).toList[j]? = some u) : tblA[m * 5 + j]? = some u := by
  have hj : j < 5 := (List.getElem?_eq_some_iff.1 h).1
  unfold tblA
  rw [fl_at (m := 5) (fun i => rfl) hm hj, ← Array.getElem?_toList]
  exact h
theorem all_mid (f : Nat → Nat × List Nat × Nat × Nat × Nat) (m : Nat) (hm : m < 256) (j : Nat) (u : Value) (h : (mkR (f m)).toList[j]? = some u) : (allF f)[m * 5 + j]? = some u := by
  have hj : j < 5 := (List.getElem?_eq_some_iff.1 h).1
  unfold allF
  rw [fl_at (m := 5) (fun i => rfl) hm hj, ← Array.getElem?_toList]
  exact h
end Go.Proofs.Ytjbjjiibldlipaa
