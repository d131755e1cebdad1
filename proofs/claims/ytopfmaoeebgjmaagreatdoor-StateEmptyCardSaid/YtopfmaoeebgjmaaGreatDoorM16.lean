/- Steps for trees of nodes: type assertions, calls of several arguments, words held against each other. -/
import Derived.Test.YtopfmaoeebgjmaaGreatDoorM01
import Derived.Test.YtopfmaoeebgjmaaGreatDoorM02
import Derived.Test.YtopfmaoeebgjmaaGreatDoorM03
import Derived.Test.YtopfmaoeebgjmaaGreatDoorM13
import Derived.Test.YtopfmaoeebgjmaaGreatDoorM15
set_option linter.unusedVariables false
set_option linter.unusedSimpArgs false
namespace Go.Proofs.YtopfmaoeebgjmaaGreatDoor
section
open Go.RowKit
section
variable {ops : Array Oper} {md : Region.Mode} {Q : Exit → Act → World → Prop} {a : Act} {w : World} {o : Oper}
theorem x_cell {v : Value} {b j : Nat} (ty : TypeId) (x : Operand) (ho : o.op = .load ty x) (hx : a.eval x = .pointer (some ⟨b, j, none⟩)) (hl : w.cell? ⟨b, j, none⟩ = some v) (hu : ∀ w, (isAgg ty).run Tryz.prog w = .ok false w) :
    (execOp a.eval o).run Tryz.prog w = .ok (.value v) w := by
  unfold execOp
  simp only [ho, hx, Instr.loadAt, Instr.sureAddr, loadVar, Sem.run_bind, hu, Result.andThen_ok, Sem.run_pure, Bool.false_eq_true, if_false, run_load, hl]
theorem x_nilck {p : Addr} (x : Operand) (ho : o.op = .nilCheck x) (hx : a.eval x = .pointer (some p)) : (execOp a.eval o).run Tryz.prog w = .ok (.value (.pointer (some p))) w := by
  unfold execOp; simp only [ho, hx]; rfl
end
def hz : Array Value := (bc 32 fun _ => 0).push .nilIface
end
section
open Go.RowKit
set_option maxHeartbeats 2000000 in
theorem ins_none (p : Option Addr) (cap : Nat) (fv : Value) (w : World) :
    Calls Tryz.prog 152 #[.slice p 0 cap, .int .i64 0, .int .i64 0, fv] w fun e w' => e = .returned (.tuple #[]) ∧ w' = w := by
  go_enter Tryz.func152, Tryz.ntmps152
  go_wp2
  refine wp_loop_rounds 1 ?_
  rw [rounds_succ]
  go_wp2
  go_end0
  exact ⟨rfl, rfl⟩
set_option maxHeartbeats 2000000 in
theorem pdq_none (p : Option Addr) (cap : Nat) (lim : Int) (fv : Value) (w : World) :
    Calls Tryz.prog 141 #[.slice p 0 cap, .int .i64 0, .int .i64 0, .int .i64 lim, fv] w fun e w' => e = .returned (.tuple #[]) ∧ w' = w := by
  go_enter Tryz.func141, Tryz.ntmps141
  go_wp2
  refine wp_loop_rounds 1 ?_
  rw [rounds_succ]
  go_wp2_with (go_at_call 152; refine (ins_none _ _ _ _).mono ?_; rintro e w' ⟨rfl, rfl⟩)
  (try simp only [Exit.inBlock, Exit.then]); refine bodyPost_ret (results_none rfl _ _ _) rfl ?_
  exact ⟨rfl, rfl⟩
set_option maxHeartbeats 2000000 in
theorem sortE_none (p : Option Addr) (cap : Nat) (fv : Value) (w : World) :
    Calls Tryz.prog 114 #[.slice p 0 cap, fv] w fun e w' => e = .returned (.tuple #[]) ∧ w' = w := by
  have hl := fun W => len_any 0 W (by decide)
  rw [show ((0 : Nat) : Int) = 0 from rfl] at hl
  go_enter Tryz.func114, Tryz.ntmps114
  go_wp2_with (first
    | (go_at_call 41; refine (hl _).mono ?_; rintro e w' ⟨rfl, rfl⟩)
    | (go_at_call 141; refine (pdq_none _ _ _ _ _).mono ?_; rintro e w' ⟨rfl, rfl⟩))
  go_end0
  exact ⟨rfl, rfl⟩
theorem idxP_none (p : Option Addr) (cap : Nat) (fv : Value) (w : World) :
    Calls Tryz.prog 139 #[.slice p 0 cap, fv] w fun e w' => e = .returned (.int .i64 (-1)) ∧ w' = w := by
  go_enter Tryz.func139, Tryz.ntmps139
  go_wp2
  refine wp_loop_rounds 1 ?_
  rw [rounds_succ]
  go_wp2
  go_ret
  exact ⟨rfl, rfl⟩
theorem idxE_none (p : Option Addr) (cap : Nat) (fv : Value) (w : World) :
    Calls Tryz.prog 142 #[.slice p 0 cap, fv] w fun e w' => e = .returned (.int .i64 (-1)) ∧ w' = w := by
  go_enter Tryz.func142, Tryz.ntmps142
  go_wp2
  refine wp_loop_rounds 1 ?_
  rw [rounds_succ]
  go_wp2
  go_ret
  exact ⟨rfl, rfl⟩
theorem hasP_none (p : Option Addr) (cap : Nat) (fv : Value) (w : World) :
    Calls Tryz.prog 111 #[.slice p 0 cap, fv] w fun e w' => e = .returned (.bool false) ∧ w' = w := by
  go_enter Tryz.func111, Tryz.ntmps111
  go_wp2_with (go_at_call 139; refine (idxP_none _ _ _ _).mono ?_; rintro e w' ⟨rfl, rfl⟩)
  go_ret
  exact ⟨rfl, rfl⟩
theorem hasE_none (p : Option Addr) (cap : Nat) (fv : Value) (w : World) :
    Calls Tryz.prog 116 #[.slice p 0 cap, fv] w fun e w' => e = .returned (.bool false) ∧ w' = w := by
  go_enter Tryz.func116, Tryz.ntmps116
  go_wp2_with (go_at_call 142; refine (idxE_none _ _ _ _).mono ?_; rintro e w' ⟨rfl, rfl⟩)
  go_ret
  exact ⟨rfl, rfl⟩
theorem hasEmpty_none (p : Option Addr) (cap : Nat) (w : World) : Calls Tryz.prog 94 #[.slice p 0 cap] w fun e w' => e = .returned (.bool false) ∧ w' = w := by
  go_enter Tryz.func94, Tryz.ntmps94
  go_wp2_with (go_at_call 116; refine (hasE_none _ _ _ _).mono ?_; rintro e w' ⟨rfl, rfl⟩)
  go_ret
  exact ⟨rfl, rfl⟩
theorem hasTwice_none (p : Option Addr) (cap : Nat) (w : World) : Calls Tryz.prog 95 #[.slice p 0 cap] w fun e w' => e = .returned (.bool false) ∧ w' = w := by
  go_enter Tryz.func95, Tryz.ntmps95
  go_wp2
  refine wp_loop_rounds 1 ?_
  rw [rounds_succ]
  go_wp2
  go_ret
  exact ⟨rfl, rfl⟩
theorem build_none (p : Option Addr) (cap : Nat) (d : Int) (w : World) : Calls Tryz.prog 96 #[.slice p 0 cap, .int .i64 d] w fun e w' => e = .returned .nilIface ∧ w' = w := by
  go_enter Tryz.func96, Tryz.ntmps96
  go_wp2_with fail
  go_ret
  exact ⟨rfl, rfl⟩
theorem entry_info : (Tryz.prog.info? 210).map (fun i => (i.zero, i.size, i.bytes)) = some (some (.agg #[.slice none 0 0, .slice none 0 0]), 2, 48) := by kernel_rfl
theorem entries_ty : Tryz.prog.underlying 176 = some (.slice 210) := by kernel_rfl
theorem item_zero : (Tryz.prog.info? 166).bind (·.zero) = some (.agg #[.bool false, .slice none 0 0, .slice none 0 0]) := by kernel_rfl
theorem item_sizeT : (Tryz.prog.info? 166).map (·.size) = some 3 := by kernel_rfl
theorem item3_one (x : Bool) (p q : Option Addr) (n c m d : Nat) : (#[Value.bool x, .slice p n c, .slice q m d]).all (·.oneCell') = true := by simp [Value.oneCell']
def isSt (o : Option TypeDesc) : Bool := match o with | some (.struct _) => true | _ => false
theorem struct_of {o : Option TypeDesc} (h : isSt o = true) : ∃ d, o = some (.struct d) := by
  match o, h with
  | some (.struct d), _ => exact ⟨d, rfl⟩
theorem item_tyS : ∃ d, Tryz.prog.underlying 166 = some (.struct d) := struct_of (by kernel_rfl)
set_option maxHeartbeats 1000000 in
theorem item_none (fv : Value) (w : World) : Calls Tryz.prog 98 #[.nilIface, fv] w fun e w' => e = .returned (.agg #[.bool false, .slice none 0 0, .slice none 0 0]) ∧ Tch [] w w' := by
  have hS := St.start w
  go_enter Tryz.func98, Tryz.ntmps98
  go_wp2_with (first
    | (refine st_new hS rfl 166 rfl item_zero ?_; clear hS; intro w1 b1 hS)
    | (refine st_store (b := b1) (c' := #[.bool false, .slice none 0 0, .slice none 0 0]) hS rfl 166 _ _ rfl rfl rfl .head item_sizeT rfl rfl (item3_one _ _ _ _ _ _ _) ?_; clear hS; intro w2 hS))
  obtain ⟨d, hd⟩ := item_tyS
  exact st_post hS 4 166 rfl rfl rfl .head hd rfl item_sizeT rfl (fun hT => ⟨rfl, hT⟩)
end
section
open Go.RowKit
theorem st_buildV {ops : Array Oper} {rest : List Oper} {o : Oper} {a : Act} {bs : List Nat} {w0 w : World} {Q : Exit → Act → World → Prop} {L : List Ent} {n : Nat} {ty t : TypeId} {c : Array Value} {parts : Array (Nat × Operand)} (vals : Array (Nat × Value)) (hS : St bs w0 w L) (hgd : o.guard = none) (ho : o.op = .buildSlice ty n parts)
    (hv : (parts.map fun (i, x) => (i, a.eval x)) = vals) (hr : ∀ w : World, (Instr.buildSlice ty n vals).run Tryz.prog w = .ok (.slice (some ⟨w.heap.size, 0, none⟩) n n) (w.alloc (.cells c t)))
    (h : ∀ w' b, St bs w0 w' ((b, t, c) :: L) → wpList Tryz.prog ops Q rest (a.put o.dst (.slice (some ⟨b, 0, none⟩) n n)) w') : wpList Tryz.prog ops Q (o :: rest) a w :=
  wpList_plain hgd fun K hK => by
    subst hv
    have hr2 := hr w
    unfold Oper.wp execOp
    simp only [ho, Sem.run_bind, hr2, Result.andThen_ok, Sem.run_pure]
    exact hK _ _ (h _ _ (hS.new t c))
theorem buildB1 (p1 : Option Addr) (n1 c1 : Nat) (w : World) : (Instr.buildSlice 170 1 #[(0, .slice p1 n1 c1)]).run Tryz.prog w = .ok (.slice (some ⟨w.heap.size, 0, none⟩) 1 1) (w.alloc (.cells #[.slice p1 n1 c1] 26)) := by kernel_rfl
theorem packpost_ok {it : It} {w w' : World} {e : Ending} (h : dep it ≤ 32 ∧ (enc it).length ≤ 16777216) (hp : PackPost it w e w') : Tch [] w w' ∧ ∃ b, w.heap.size ≤ b ∧ e = .returned (.tuple #[.slice (some ⟨b, 0, none⟩) (enc it).length (enc it).length, .int .i64 0]) ∧ Blk w' b 5 (bc (enc it).length fun i => (enc it).getD i 0) := by
  unfold PackPost at hp; rwa [if_pos h] at hp
def PkV (l : List Nat) (w : World) (e : Ending) (w' : World) : Prop :=
  Tch [] w w' ∧ ∃ b, w.heap.size ≤ b ∧ e = .returned (.slice (some ⟨b, 0, none⟩) l.length l.length) ∧ Blk w' b 5 (bc l.length fun i => l.getD i 0)
set_option maxHeartbeats 1000000 in
theorem tpack_any (k : Nat) (x0 vb vl : Value) (it : It) (w : World) (hit : ItC [] w k x0 vb vl it) (h : dep it ≤ 32 ∧ (enc it).length ≤ 16777216) :
    Calls Tryz.prog 97 #[.agg #[x0, vb, vl]] w (PkV (enc it) w) := by
  have hS := St.start w
  obtain ⟨d, hd⟩ := item_tyS
  have hcall := fun (w1 : World) (hT : Tch [] w w1) => (pack_any k x0 vb vl it w1 (hit.tch hT)).mono fun e w' hp => packpost_ok h hp
  generalize enc it = L at hcall ⊢
  have HC := hQz hcall
  clear hcall hit h
  go_enter Tryz.func97, Tryz.ntmps97
  go_wp2_with (first
    | (refine st_box hS rfl 166 _ rfl rfl ?_; clear hS; intro w1 b1 hS)
    | (refine st_load (b := b1) hS rfl 166 _ rfl rfl .head hd rfl item_sizeT rfl ?_)
    | (go_at_call 87; refine (HC.out _ hS.frame).mono ?_; rintro e w2 ⟨hT, b, hb, rfl, hB⟩))
  go_ret
  exact ⟨hS.frame.trans hT, b, Nat.le_trans hS.frame.size hb, rfl, hB⟩
theorem PkV.rd {l : List Nat} {w w' : World} {e : Ending} (h : PkV l w e w') (hl : ∀ x ∈ l, x < 256) : Tch [] w w' ∧ ∃ b, w.heap.size ≤ b ∧ e = .returned (.slice (some ⟨b, 0, none⟩) l.length l.length) ∧ RdB w' (.slice (some ⟨b, 0, none⟩) l.length l.length) l := by
  obtain ⟨h1, b, h2, h3, h4⟩ := h
  exact ⟨h1, b, h2, h3, (RdA.ofBlk (X := []) h4 hl (by simp)).rdB⟩
theorem rsum_any (v : Value) (l : List Nat) (w : World) (hv : RdB w v l) (hl : l.length < 1000000) :
    Calls Tryz.prog 69 #[v] w fun e w' => e = .returned (.agg (wf (hashN l))) ∧ Tch [] w w' := by
  have hS := St.start w
  obtain ⟨pa, n, ca, rfl⟩ : ∃ p n c, v = .slice p n c := ⟨_, _, _, hv.choose_spec.choose_spec.1⟩
  have HC := hQz (fun (w1 : World) (b : Nat) (hT : Tch [] w w1) (hB : Blk w1 b 26 #[.slice pa n ca]) => sum_one b _ l w1 (hB.cell (j := 0) rfl) hB.lt (hv.tch hT (by simp)) hl)
  clear hv hl
  go_enter Tryz.func69, Tryz.ntmps69
  go_wp2_with (first
    | (refine st_new hS rfl 25 rfl word_zero ?_; clear hS; intro w1 b1 hS)
    | (refine st_buildV #[(0, .slice pa n ca)] hS rfl rfl (by simp only [List.map_toArray, List.map_cons, List.map_nil]; rfl) (buildB1 _ _ _) ?_; clear hS; intro w2 b2 hS)
    | (go_at_call 67; refine (HC.out _ _ hS.frame (hS.get .head)).mono ?_; rintro e w3 ⟨rfl, hT⟩; replace hS := hS.call hT; clear hT)
    | (refine st_store (b := b1) (c' := wf (hashN l)) hS rfl 25 _ _ rfl rfl rfl (.tail .head) word_size (wf_size _) (wf_size _) (wf_one _) ?_; clear hS; intro w4 hS))
  exact st_post hS 2 25 rfl rfl rfl (.tail .head) word_type rfl word_size (wf_size _) (fun hT => ⟨rfl, hT⟩)
theorem enc_empty : enc (.str []) = [128] := by rw [enc_str]; decide
theorem dep_empty : dep (.str []) = 0 := dep_str _
theorem itc_empty (w : World) : ItC [] w 1 (.bool false) (.slice none 0 0) (.slice none 0 0) (.str []) := by
  unfold ItC
  exact ⟨rfl, (RdB.nil w).rdA (by simp), by simp⟩
theorem encode_none (fv : Value) (w : World) : Calls Tryz.prog 70 #[.nilIface, fv] w (PkV [128] w) := by
  have HC := hQz (fun (w1 : World) => tpack_any 1 _ _ _ _ w1 (itc_empty w1) (by rw [enc_empty, dep_empty]; simp))
  rw [enc_empty] at HC
  go_enter Tryz.func70, Tryz.ntmps70
  go_wp2_with (first
    | (go_at_call 98; refine (item_none _ _).mono ?_; rintro e w1 ⟨rfl, hT1⟩)
    | (go_at_call 97; refine (HC.out w1).mono ?_; rintro e w2 ⟨hT, b, hb, rfl, hB⟩))
  go_ret
  exact ⟨hT1.trans hT, b, Nat.le_trans hT1.size hb, rfl, hB⟩
end
end Go.Proofs.YtopfmaoeebgjmaaGreatDoor
