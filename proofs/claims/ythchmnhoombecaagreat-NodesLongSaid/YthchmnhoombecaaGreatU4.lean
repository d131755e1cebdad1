/- A new store of nothing; a tree without a root; what Put and Get do at a tree of no pair or of one. -/
import Derived.Test.YthchmnhoombecaaGreatU3
import Derived.MapKept
namespace Go.Proofs.YthchmnhoombecaaGreat
open Go.RowKit

section
variable {P : Program} {ops : Array Oper} {rest : List Oper} {o : Oper} {a : Act} {bs : List Nat} {w0 w : World} {Q : Exit → Act → World → Prop} {L L' : List Ent} {b : Nat} {t : TypeId} {c : Array Value}
/-- Any value of one cell is stored. -/
theorem st_storeV {v : Value} {j : Nat} (hS : St bs w0 w L) (hgd : o.guard = none) (ty : TypeId) (x y : Operand) (ho : o.op = .store ty x y) (hx : a.eval x = .pointer (some ⟨b, j, none⟩)) (hy : a.eval y = v) (hv : v.oneCell' = true) (hi : (P.info? ty).map (·.size) = some 1)
    (m : Upd L b t c (c.setIfInBounds j v) L') (hj : j < c.size)
    (h : ∀ w', St bs w0 w' L' → Only b w w' → wpList P ops Q rest (a.put o.dst undef) w') : wpList P ops Q (o :: rest) a w :=
  arm_store1 hgd ty x y ho hx hy hv hi (hS.get m.at_) hj fun w' hB hO => h w' (hS.upd m hO hB) hO
/-- A map is made. -/
theorem st_makeMap {ty : TypeId} (hS : St bs w0 w L) (hgd : o.guard = none) (ho : o.op = .makeMap ty none)
    (h : ∀ w' r, St bs w0 w' L → w'.heap[r]? = some (.map #[] 0) → w0.heap.size ≤ r → (∀ e ∈ L, e.1 ≠ r) → wpList P ops Q rest (a.put o.dst (.map (some r))) w') : wpList P ops Q (o :: rest) a w :=
  wpList_plain hgd fun K hK => by
    have hr : (Instr.makeMap ty none).run P w = .ok (.map (some w.heap.size)) (w.alloc (.map #[] 0)) := rfl
    unfold Oper.wp execOp
    simp only [ho, Option.map_none, Sem.run_bind, hr, Result.andThen_ok, Sem.run_pure]
    exact hK _ _ (h _ _ (hS.alloc _) (Go.heap_alloc_new w _) hS.frame.size (fun e he => Nat.ne_of_lt (hS.blk e he).1.lt))
end
theorem map_size : (Tryz.prog.info? 54).map (·.size) = some 1 := by kernel_rfl
theorem map_agg (w : World) : (isAgg 54).run Tryz.prog w = .ok false w := by kernel_rfl
theorem node_size : (Tryz.prog.info? 62).map (·.size) = some 1 := by kernel_rfl
theorem node_agg (w : World) : (isAgg 62).run Tryz.prog w = .ok false w := by kernel_rfl
theorem bytes_agg (w : World) : (isAgg 31).run Tryz.prog w = .ok false w := by kernel_rfl
theorem len_map0 {w : World} {r : Nat} (ty : TypeId) (h : w.heap[r]? = some (.map #[] 0)) : (Builtin.len_ #[54] ty #[.map (some r)]).run Tryz.prog w = .ok (.int .i64 0) w := by
  have hu : Tryz.prog.underlying 54 = some (.map 35 31) := by kernel_rfl
  simp [Builtin.len_, run_underlying hu, MapKept.run_getObj_map h, goInt, Result.andThen]
theorem eql_map_nil (w : World) : (binOp .eql 54 (.map none) (.map none)).run Tryz.prog w = .ok (.bool true) w := by kernel_rfl
set_option maxHeartbeats 1000000 in
set_option maxRecDepth 100000 in
/-- Nothing is put into a store that was just made. -/
theorem storePut_none (b : Nat) (w : World) (hB : Blk w b 56 #[.map none]) : Calls Tryz.prog 8 #[.pointer (some ⟨b, 0, none⟩), .slice none 0 0] w fun e w' => e = .returned (.int .i64 0) ∧ Tch [b] w w' := by
  have hS := St.one hB
  have k1 := eql_map_nil
  go_enter Tryz.func8, Tryz.ntmps8
  go_wp2_with (first
    | (refine st_cell1 (b := b) (j := 0) (v := .map none) hS rfl 54 _ rfl rfl .head rfl map_agg ?_)
    | (refine st_makeMap hS rfl rfl ?_; clear hS; intro w1 r hS hr hr0 hne; replace hne := (hne _ List.mem_cons_self).symm; dsimp only at hne)
    | (refine st_storeV (b := b) (j := 0) (v := .map (some r)) hS rfl 54 _ _ rfl rfl rfl rfl map_size .head (show 0 < 1 by decide) ?_; clear hS; intro w2 hS hO; replace hr := only_heap hO hr hne; have hl := fun ty => len_map0 ty hr)
    | (refine st_cell1 (b := b) (j := 0) (v := .map (some r)) hS rfl 54 _ rfl rfl .head rfl map_agg ?_))
  refine wp_loop_rounds 1 ?_
  rw [rounds_succ]
  go_wp2_with (refine st_cell1 (b := b) (j := 0) (v := .map (some r)) hS rfl 54 _ rfl rfl .head rfl map_agg ?_)
  go_ret
  exact ⟨rfl, hS.frame⟩
set_option maxHeartbeats 1000000 in
set_option maxRecDepth 100000 in
theorem newStore_none (w : World) : Calls Tryz.prog 6 #[.slice none 0 0] w fun e w' => (∃ b, e = .returned (.pointer (some ⟨b, 0, none⟩))) ∧ Tch [] w w' := by
  have hS := St.start w
  go_enter Tryz.func6, Tryz.ntmps6
  go_wp2_with (first
    | (refine st_box (c := #[.map none]) hS rfl 56 _ rfl rfl ?_; clear hS; intro w1 b1 hS)
    | (go_at_call 8; refine (storePut_none b1 _ (hS.get .head)).mono ?_; rintro e w2 ⟨rfl, hT⟩; replace hS := hS.lose hT; clear hT))
  go_ret
  exact ⟨⟨_, rfl⟩, hS.frame⟩
theorem word0 : wf (fun _ => 0) = bc 32 (fun _ => 0) := rfl
theorem eql_word0 (w : World) : (binOp .eql 35 (.agg (wf fun _ => 0)) (.agg (wf fun _ => 0))).run Tryz.prog w = .ok (.bool true) w := by
  have := run_eql_bytes (P := Tryz.prog) w 35 5 32 word_type byteN_ty (fun w => sizeOf_u8 w) (bytesOfN 32 (fun _ => 0)) (bytesOfN 32 (fun _ => 0)) (by simp [bytesOfN]) (by simp [bytesOfN])
  rw [← bc_bytesN 32 (fun _ => 0) (fun i _ => by decide), beq_self_eq_true, bc_wf] at this
  exact this
theorem build_word0 (w : World) : (Instr.build 35 #[]).run Tryz.prog w = .ok (.agg (wf fun _ => 0)) w := by
  rw [show (wf fun _ => 0) = wf (fun _ => 0) from rfl, wf_zeros]; kernel_rfl
section
variable {o : Oper} {a : Act} {ops : Array Oper} {rest : List Oper} {C : World → Prop} {Q : Act → Prop}
theorem k_build0 (hw : Region.wanted o (yielded ops a.tmps) = true) (ho : o.op = .build 35 #[]) (h : KQ ops C Q rest (a.put o.dst (.agg (wf fun _ => 0)))) : KQ ops C Q (o :: rest) a :=
  k_pure hw (fun w => by
    unfold execOp
    simp only [ho, Array.map_empty, Sem.run_bind, build_word0, Result.andThen_ok, Sem.run_pure]) h
theorem k_eql0 (hw : Region.wanted o (yielded ops a.tmps) = true) (xo yo : Operand) (yt : TypeId) (ho : o.op = .binOp .eql 35 xo yo yt) (hxe : a.eval xo = .agg (wf fun _ => 0)) (hye : a.eval yo = .agg (wf fun _ => 0)) (h : KQ ops C Q rest (a.put o.dst (.bool true))) : KQ ops C Q (o :: rest) a :=
  k_pure hw (fun w => by
    have := eql_word0 w
    unfold execOp
    simp only [ho, hxe, hye]
    show Sem.run _ _ w = _
    simp [eqGuard, this]) h
end
theorem tree_info : (Tryz.prog.info? 64).map (·.size) = some 2 := by kernel_rfl
set_option maxHeartbeats 1000000 in
set_option maxRecDepth 100000 in
/-- Open of the zero word. -/
theorem open_zero (s : Addr) (w : World) : Calls Tryz.prog 15 #[.pointer (some s), .agg (wf fun _ => 0)] w fun e w' => ∃ b, e = .returned (.tuple #[.pointer (some ⟨b, 0, none⟩), .int .i64 0]) ∧ Tch [] w w' ∧ w.heap.size ≤ b ∧ Blk w' b 64 #[.pointer (some s), .nilIface] := by
  have hS := St.start w
  go_enter Tryz.func15, Tryz.ntmps15
  go_upto_region 4 with (first
    | (refine st_box (L := []) (c := wf fun _ => 0) hS rfl 35 _ rfl rfl ?_; clear hS; intro w1 b1 hS)
    | (refine st_box (c := #[.pointer (some s), .nilIface]) hS rfl 64 _ rfl rfl ?_; clear hS; intro w2 b2 hS))
  refine k_region (C := fun w' => St [] w w' [(b2, 64, #[.pointer (some s), .nilIface]), (b1, 35, wf fun _ => 0)]) (by kernel_rfl) (by kernel_rfl) hS.drew ?_
  refine k_load rfl 35 _ rfl rfl (.tail .head) word_type word_size (wf_size _) ?_; try simp only [Act.put, List.setIfInBounds_toArray, List.set_cons_zero, List.set_cons_succ]
  refine k_build0 rfl rfl ?_; try simp only [Act.put, List.setIfInBounds_toArray, List.set_cons_zero, List.set_cons_succ]
  refine k_eql0 rfl _ _ _ rfl rfl rfl ?_; try simp only [Act.put, List.setIfInBounds_toArray, List.set_cons_zero, List.set_cons_succ]
  refine k_boolm rfl _ rfl rfl ?_; try simp only [Act.put, List.setIfInBounds_toArray, List.set_cons_zero, List.set_cons_succ]
  refine k_skip rfl rfl rfl rfl rfl ?_; try simp only [Act.put, List.setIfInBounds_toArray, List.set_cons_zero, List.set_cons_succ]
  refine k_skip rfl rfl rfl rfl rfl ?_; try simp only [Act.put, List.setIfInBounds_toArray, List.set_cons_zero, List.set_cons_succ]
  refine k_skip rfl rfl rfl rfl rfl ?_; try simp only [Act.put, List.setIfInBounds_toArray, List.set_cons_zero, List.set_cons_succ]
  refine k_pickT rfl _ _ _ rfl rfl rfl ?_; try simp only [Act.put, List.setIfInBounds_toArray, List.set_cons_zero, List.set_cons_succ]
  refine k_end ?_
  intro w3 hS
  go_wp2
  go_ret2
  exact ⟨b2, rfl, hS.frame, (hS.own .head).resolve_right (by simp), hS.get .head⟩
theorem len_nil_go (w : World) : True := trivial
/-- What a tree of one pair is. -/
def LeafAt (w : World) (v p u : Value) : Prop := ∃ b, v = .iface 87 (.pointer (some ⟨b, 0, none⟩)) ∧ Blk w b 95 #[p, u]
theorem LeafAt.tch {bs : List Nat} {w w' : World} {v p u : Value} (h : LeafAt w v p u) (hT : Tch bs w w') (hb : ∀ x ∈ bs, ∀ t c, Blk w x t c → t ≠ 95) : LeafAt w' v p u := by
  obtain ⟨b, h1, h2⟩ := h
  exact ⟨b, h1, hT.blk h2 (fun hm => hb b hm _ _ h2 rfl)⟩
set_option maxHeartbeats 1000000 in
set_option maxRecDepth 100000 in
theorem set_new (tp : Value) (pp : Option Addr) (np cp : Nat) (pv : Option Addr) (n c : Nat) (w : World) (hn : 0 < n) : Calls Tryz.prog 28 #[tp, .nilIface, .slice pp np cp, .slice pv n c] w fun e w' => ∃ v, e = .returned (.tuple #[v, .int .i64 0]) ∧ Tch [] w w' ∧ LeafAt w' v (.slice pp np cp) (.slice pv n c) ∧ ∃ b, v = .iface 87 (.pointer (some ⟨b, 0, none⟩)) ∧ w.heap.size ≤ b := by
  have hS := St.start w
  have k1 := ta_nil_l
  have k2 := ta_nil_e
  have k3 := ta_nil_b
  have d1 : ((n : Int) == 0) = false := beq_eq_false_iff_ne.2 (by omega)
  go_enter Tryz.func28, Tryz.ntmps28
  go_wp2_with (first
    | (go_at_call 27; refine (look_nil _ _).mono ?_; rintro e w1 ⟨rfl, hT⟩; replace hS := hS.call hT; clear hT)
    | (refine st_box (c := #[.slice pp np cp, .slice pv n c]) hS rfl 95 _ rfl rfl ?_; clear hS; intro w2 b1 hS))
  go_ret2
  exact ⟨_, rfl, hS.frame, ⟨b1, rfl, hS.get .head⟩, b1, rfl, (hS.own .head).resolve_right (by simp)⟩
set_option maxHeartbeats 1000000 in
set_option maxRecDepth 100000 in
theorem set_none (tp p : Value) (pv : Option Addr) (c : Nat) (w : World) : Calls Tryz.prog 28 #[tp, .nilIface, p, .slice pv 0 c] w fun e w' => e = .returned (.tuple #[.nilIface, .int .i64 0]) ∧ Tch [] w w' := by
  have k1 := ta_nil_l
  have k2 := ta_nil_e
  have k3 := ta_nil_b
  go_enter Tryz.func28, Tryz.ntmps28
  go_wp2_with (go_at_call 27; refine (look_nil _ _).mono ?_; rintro e w1 ⟨rfl, hT⟩)
  go_ret2
  exact ⟨rfl, hT⟩
theorem leaf_cells_size : (Tryz.prog.info? 95).map (·.size) = some 2 := by kernel_rfl
/-- The one pair is taken back. -/
theorem setsNothing_any (b : Nat) (p0 v0 p v : Value) (lp0 lv0 lp lv : List Nat) (w : World) (hB : Blk w b 95 #[p0, v0]) (h1 : RdB w p0 lp0) (h2 : RdB w v0 lv0) (h3 : RdB w p lp) (h4 : RdB w v lv) (hp : lp0 = lp) :
    Calls Tryz.prog 43 #[.pointer (some ⟨b, 0, none⟩), p, v] w fun e w' => e = .returned (.bool (lv0 == lv)) ∧ Tch [] w w' := by
  obtain ⟨q1, n1, c1, rfl⟩ : ∃ q n c, p0 = .slice q n c := ⟨_, _, _, h1.choose_spec.choose_spec.1⟩
  obtain ⟨q2, n2, c2, rfl⟩ : ∃ q n c, v0 = .slice q n c := ⟨_, _, _, h2.choose_spec.choose_spec.1⟩
  obtain ⟨q3, n3, c3, rfl⟩ : ∃ q n c, p = .slice q n c := ⟨_, _, _, h3.choose_spec.choose_spec.1⟩
  obtain ⟨q4, n4, c4, rfl⟩ : ∃ q n c, v = .slice q n c := ⟨_, _, _, h4.choose_spec.choose_spec.1⟩
  have hc0 := hB.cell (j := 0) rfl
  have E1 := Lib.hid (equal_any _ _ lp0 lp w h1 h3)
  have E2 := Lib.hid (fun (w1 : World) (hT : Tch [] w w1) => equal_any _ _ lv0 lv w1 (h2.tch hT (by simp)) (h4.tch hT (by simp)))
  rw [hp, beq_self_eq_true] at E1
  have HB := Lib.hid hB
  clear hB h1 h2 h3 h4 hp
  go_enter Tryz.func43, Tryz.ntmps43
  go_wp2_with (first
    | (have _t := E1; clear _t; go_at_call 48; refine E1.out.mono ?_; rintro e w1 ⟨rfl, hT⟩; clear E1; have hc1 := (hT.blk HB.out (by simp)).cell (j := 1) rfl)
    | (go_at_call 48; refine (E2.out _ hT).mono ?_; rintro e w2 ⟨rfl, hT2⟩))
  go_ret
  exact ⟨rfl, hT.trans hT2⟩
end Go.Proofs.YthchmnhoombecaaGreat
