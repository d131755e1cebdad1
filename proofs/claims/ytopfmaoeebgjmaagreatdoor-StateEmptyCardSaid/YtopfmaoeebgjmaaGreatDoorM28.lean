/- States: what is noted: none, note, a Nonce set behind a Mark. -/
import Derived.Test.YtopfmaoeebgjmaaGreatDoorM01
import Derived.Test.YtopfmaoeebgjmaaGreatDoorM03
import Derived.Test.YtopfmaoeebgjmaaGreatDoorM20
import Derived.Test.YtopfmaoeebgjmaaGreatDoorM27
set_option linter.unusedVariables false
set_option linter.unusedSimpArgs false
namespace Go.Proofs.YtopfmaoeebgjmaaGreatDoor
section
open Go.RowKit Go.WideMaps Go.ChangeMaps Go.MapKept
set_option maxRecDepth 100000
set_option maxHeartbeats 2000000
abbrev zA : List Nat := List.replicate 20 0
theorem zA_ok : Ad zA := ⟨by decide, by decide⟩
abbrev oldP : Value := .iface 60 (.agg (nonC zA 0))
theorem bld_non0 (A : List Nat) (w : World) : (Instr.build 60 #[(0, .agg (av A))]).run Tryz.prog w = .ok (.agg (nonC A 0)) w := by kernel_rfl
theorem bld_non5 (A : List Nat) (w : World) : (Instr.build 60 #[(0, .agg (av A)), (1, .int .i64 5)]).run Tryz.prog w = .ok (.agg (nonC A 5)) w := by kernel_rfl
theorem parts_ty : Tryz.prog.underlying 73 = some (.slice 92) := by kernel_rfl
theorem part_infos : (Tryz.prog.info? 92).map (fun i => (i.zero, i.size, i.bytes)) = some (some .nilIface, 1, 16) := by kernel_rfl
theorem bld_part1 (w : World) : (Instr.buildSlice 73 1 #[(0, oldP)]).run Tryz.prog w = .ok (.slice (some ⟨w.heap.size, 0, none⟩) 1 1) (w.alloc (.cells #[oldP] 92)) := by kernel_rfl
theorem places_ty : Tryz.prog.underlying 74 = some (.map 92 134) := by kernel_rfl
theorem look_places (w : World) : (Instr.lookup 74 (.map none) oldP true).run Tryz.prog w = .ok (.tuple #[.agg #[], .bool false]) w := by kernel_rfl
theorem check_places (w : World) : (Instr.checkKey false 10000 92 oldP).run Tryz.prog w = .ok () w := by kernel_rfl
theorem find_places (w : World) : (Instr.findKey 92 oldP []).run Tryz.prog w = .ok none w := by kernel_rfl
theorem upd_places {w : World} {r : Nat} (hb : w.heap[r]? = some (.map #[] 0)) : ∃ es, (Instr.mapUpdate 74 (.map (some r)) oldP (.agg #[])).run Tryz.prog w = .ok () (setBlock w r (.map es 1)) := by
  refine ⟨#[{ key := oldP, val := .agg #[], born := 0 }], ?_⟩
  simp [Instr.mapUpdate, run_underlying places_ty, MapKept.run_getObj_map hb, check_places, find_places, MapKept.run_setObj_map _ hb, Result.andThen, setBlock]
theorem mk_places (w : World) : (Instr.makeMap 74 none).run Tryz.prog w = .ok (.map (some w.heap.size)) (w.alloc (.map #[] 0)) := rfl
theorem eqPl_none (w : World) : (binOp .eql 74 (.map none) (.map none)).run Tryz.prog w = .ok (.bool true) w := by kernel_rfl
theorem neP_on (w : World) : (binOp .neq 92 oldP (.iface 60 (.agg (nonC zA 5)))).run Tryz.prog w = .ok (.bool true) w := by kernel_rfl
theorem unit_zero : (Tryz.prog.info? 134).bind (·.zero) = some (.agg #[]) := by kernel_rfl
theorem unit_size : (Tryz.prog.info? 134).map (·.size) = some 0 := by kernel_rfl
theorem bld_unit (w : World) : (Instr.build 134 #[]).run Tryz.prog w = .ok (.agg #[]) w := by kernel_rfl
theorem fa_re (b i o : Nat) (h : (i = 0 ∧ o = 0) ∨ (i = 1 ∧ o = 1) ∨ (i = 2 ∧ o = 2)) (w : World) : (Instr.fieldAt 76 (.pointer (some ⟨b, 0, none⟩)) i).run Tryz.prog w = .ok (.pointer (some ⟨b, o, none⟩)) w := by
  rcases h with ⟨rfl, rfl⟩ | ⟨rfl, rfl⟩ | ⟨rfl, rfl⟩ <;> kernel_rfl
theorem pl_agg (w : World) : (isAgg 74).run Tryz.prog w = .ok false w := by kernel_rfl
theorem pa_agg (w : World) : (isAgg 73).run Tryz.prog w = .ok false w := by kernel_rfl
theorem one_pl : (Tryz.prog.info? 74).map (·.size) = some 1 := by kernel_rfl
theorem one_pa : (Tryz.prog.info? 73).map (·.size) = some 1 := by kernel_rfl
def RecB (w : World) (g : Nat) (n : Int) (pv lv : Value) : Prop := ∃ cur, Blk w g 76 cur ∧ 3 ≤ cur.size ∧ cur[0]? = some (.int .i64 n) ∧ cur[1]? = some pv ∧ cur[2]? = some lv
theorem RecB.far {S : Nat → Prop} {w w' : World} {g : Nat} {n : Int} {pv lv : Value} (h : RecB w g n pv lv) (hT : PT S w w') (hS : ¬ S g) : RecB w' g n pv lv := by
  obtain ⟨cur, h1, h2⟩ := h
  exact ⟨cur, hT.blk h1 hS, h2⟩
theorem RecB.lt {w : World} {g : Nat} {n : Int} {pv lv : Value} (h : RecB w g n pv lv) : g < w.heap.size := by obtain ⟨cur, h1, _⟩ := h; exact h1.lt
theorem RecB.of {w : World} {B g cap : Nat} {n : Int} {pv lv : Value} (h : w.ownsRow B 76 3 (.slice (some ⟨g, 0, none⟩) 1 cap) 1 [.int .i64 n, pv, lv]) : RecB w g n pv lv := by
  obtain ⟨_, ⟨h1, _⟩ | ⟨g', cap', cur, he, hB, hb, hnc, hcm, hsz, htk⟩⟩ := h
  · cases h1
  injection he with e1 _ e3
  injection e1 with e1
  injection e1 with e1
  subst e1 e3
  have h3 : 3 ≤ cur.size := by omega
  have ha : ∀ i u, ([Value.int .i64 n, pv, lv] : List Value)[i]? = some u → cur[i]? = some u := fun i u hu => by
    rw [← htk, List.getElem?_take] at hu
    split at hu
    · rw [Array.getElem?_toList] at hu; exact hu
    · cases hu
  exact ⟨cur, hb, h3, ha 0 _ rfl, ha 1 _ rfl, ha 2 _ rfl⟩
theorem none_any (A : List Nat) (n : Nat) (w : World) (hA : Ad A) : Calls Tryz.prog 183 #[.agg (nonC A n)] w fun e w' => e = .returned (.iface 60 (.agg (nonC A 0))) ∧ Tch [] w w' := by
  clear hA
  have hS := St.start w
  go_enter Tryz.func183, Tryz.ntmps183
  go_upto_region 1 with (refine st_box hS rfl 60 _ rfl rfl ?_; clear hS; intro w1 b1 hS)
  try simp only [Act.put, ppA, ppB, ppC]
  refine wp_region_lit ?_
  refine st_x (v := .pointer (some ⟨b1, 0, none⟩)) rfl (x_fa _ _ _ rfl rfl (fa_n0 _ _)) ?_; try simp only [Act.put, ppA, ppB, ppC]
  refine st_x (v := .agg (av A)) rfl (x_ldIn (n := 20) _ rfl rfl (hS.get .head) (arrV_size _ _) (fun j hj => nonC_a A n j hj) addr_tyY rfl addr_sizeY) ?_; try simp only [Act.put, ppA, ppB, ppC]
  refine st_x (v := .agg (nonC A 0)) rfl (x_bld (vals := #[(0, .agg (av A))]) rfl (by simp only [List.map_toArray, List.map_cons, List.map_nil]; rfl) (bld_non0 _ _)) ?_; try simp only [Act.put, ppA, ppB, ppC]
  refine st_x (v := .iface 60 (.agg (nonC A 0))) rfl (x_mkI _ _ rfl rfl (mkN _ _)) ?_; try simp only [Act.put, ppA, ppB, ppC]
  refine st_x (v := .iface 60 (.agg (nonC A 0))) rfl (x_val _ (.inr rfl) rfl) ?_; try simp only [Act.put, ppA, ppB, ppC]
  refine st_end14 ?_
  go_wp2
  go_ret
  exact ⟨rfl, hS.frame⟩
section
variable {o : Oper} {a : Act} {w : World}
theorem x_lookPl (mo xo : Operand) (ho : o.op = .lookup 74 mo xo true) (hm : a.eval mo = .map none) (hx : a.eval xo = oldP) : (execOp a.eval o).run Tryz.prog w = .ok (.value (.tuple #[.agg #[], .bool false])) w := by
  have hr := look_places w
  unfold execOp
  simp [ho, hm, hx, hr]
theorem r_updPl {w' : World} {r : Nat} (mo xo vo : Operand) (ho : o.op = .mapUpdate 74 mo xo vo) (hm : a.eval mo = .map (some r)) (hx : a.eval xo = oldP) (hv : a.eval vo = .agg #[]) (hr : (Instr.mapUpdate 74 (.map (some r)) oldP (.agg #[])).run Tryz.prog w = .ok () w') : (execOp a.eval o).run Tryz.prog w = .ok .skip w' := by
  unfold execOp
  simp [ho, hm, hx, hv, hr]
end
section
variable {ops : Array Oper} {rest : List Oper} {o : Oper} {a : Act} {w : World} {Q : Exit → Act → World → Prop}
theorem st_inv {x : Operand} {R : Ending → World → Prop} (hgd : o.guard = none) (hop : o.op = .call { callee := .invoke x "muniments/state.none", args := #[], argTypes := #[] }) (h1 : a.eval x = oldP)
    (hc : Calls Tryz.prog 183 #[.agg (nonC zA 0)] w R) (h : ∀ e w', R e w' → ∃ v, e = .returned v ∧ wpList Tryz.prog ops Q rest (a.put o.dst v) w') : wpList Tryz.prog ops Q (o :: rest) a w :=
  wpList_plain hgd fun K hK => by
    have hr : (execOp a.eval o).run Tryz.prog w = .ok (.enter 183 #[.agg (nonC zA 0)]) w := by
      unfold execOp
      simp only [hop, resolve, h1, List.map_toArray, List.map_nil]
      kernel_rfl
    unfold Oper.wp
    rw [hr]
    exact hc.mono fun e w' hR => by
      obtain ⟨v, rfl, hk⟩ := h e w' hR
      exact hK _ _ hk
theorem st_bldPa {x1 : Operand} (hgd : o.guard = none) (hop : o.op = .buildSlice 73 1 #[(0, x1)]) (h1 : a.eval x1 = oldP)
    (h : ∀ w' b, Tch [] w w' → Blk w' b 92 #[oldP] → wpList Tryz.prog ops Q rest (a.put o.dst (.slice (some ⟨b, 0, none⟩) 1 1)) w') : wpList Tryz.prog ops Q (o :: rest) a w := by
  have hr : (execOp a.eval o).run Tryz.prog w = .ok (.value (.slice (some ⟨w.heap.size, 0, none⟩) 1 1)) (w.alloc (.cells #[oldP] 92)) := by
    have := bld_part1 w
    unfold execOp
    simp only [hop, List.map_toArray, List.map_cons, List.map_nil, h1, Sem.run_bind, this, Result.andThen_ok, Sem.run_pure]
  exact st_run hgd hr (h _ _ ((Tch.refl _ _).alloc _) (heap_alloc_new w _))
theorem st_appPa {b : Nat} {s x : Operand} (hgd : o.guard = none) (ho : o.op = .call { callee := .builtin .append, args := #[s, x], argTypes := #[73, 73] }) (hs : a.eval s = .slice none 0 0) (hx : a.eval x = .slice (some ⟨b, 0, none⟩) 1 1) (hB : Blk w b 92 #[oldP])
    (h : ∀ g cap w', w'.ownsRow w.heap.size 92 1 (.slice (some ⟨g, 0, none⟩) 1 cap) 1 [oldP] → Tch [] w w' → wpList Tryz.prog ops Q rest (a.put o.dst (.slice (some ⟨g, 0, none⟩) 1 cap)) w') : wpList Tryz.prog ops Q (o :: rest) a w := by
  obtain ⟨i0, hi, hz0, hz1, hz2⟩ := info_parts part_infos
  obtain ⟨v', w', hr, h2, hgrow, _, h3⟩ := run_append_own_at (P := Tryz.prog) w w.heap.size 73 o.type 92 i0 _ 1 16 parts_ty hi hz0 hz1 hz2 rfl (by decide) (.slice none 0 0) 0 [] (World.ownsRow_nil _ _ _ _) ⟨b, 0, none⟩ 1 1 [oldP] rfl (fun j u hu => by
    have hadd : (⟨b, 0, none⟩ : Addr).add j = ⟨b, j, none⟩ := by unfold Addr.add; split <;> simp_all
    rw [hadd]
    exact hB.cell (by rw [← Array.getElem?_toList]; exact hu)) (by intro u hu; rw [List.mem_singleton.1 hu]; rfl) (by unfold maxLen; omega) (by omega) (Nat.le_refl _)
  rw [List.nil_append, Nat.zero_add] at h2
  obtain ⟨g, cap, rfl, hg, hgl⟩ := h2.form (by decide)
  refine st_run hgd ?_ (h g cap w' h2 (tch_grow hgrow))
  unfold execOp
  simp only [ho, resolve, invoke, builtin, Sem.run_bind, Sem.run_pure, Result.andThen_ok, List.map_toArray, List.map_cons, List.map_nil, hs, hx, hr]
end
theorem note_any (w : World) (g : Nat) (h : RecB w g 1 (.slice none 0 0) (.map none)) :
    Calls Tryz.prog 43 #[.pointer (some ⟨g, 0, none⟩), oldP] w fun e w' => e = .returned (.tuple #[]) ∧ ∃ gp cp r, RecB w' g 1 (.slice (some ⟨gp, 0, none⟩) 1 cp) (.map (some r)) ∧
      w'.cell? ⟨gp, 0, none⟩ = some oldP ∧ w.heap.size ≤ gp ∧ gp < w'.heap.size ∧ PT (fun j => j = g) w w' := by
  obtain ⟨cur, hB, hsz, hc0, hc1, hc2⟩ := h
  have hN := fun w => none_any zA 0 w zA_ok
  go_enter Tryz.func43, Tryz.ntmps43
  go_upto_region 0 with (fail)
  try simp only [Act.put, ppA, ppB, ppC]
  refine wp_region_lit ?_
  refine st_x (v := oldP) rfl (x_val _ (.inl rfl) rfl) ?_; try simp only [Act.put, ppA, ppB, ppC]
  refine st_inv rfl rfl rfl (hN _) ?_
  rintro e w1 ⟨rfl, hT1⟩
  refine ⟨_, rfl, ?_⟩
  try simp only [Act.put, ppA, ppB, ppC]
  refine st_x (v := oldP) rfl (x_val _ (.inr rfl) rfl) ?_; try simp only [Act.put, ppA, ppB, ppC]
  refine st_end14 ?_
  go_upto_region 1 with (fail)
  try simp only [Act.put, ppA, ppB, ppC]
  have hB1 := hT1.blk hB (by simp)
  refine wp_region_lit ?_
  refine st_x (v := .pointer (some ⟨g, 0, none⟩)) rfl (x_val _ (.inl rfl) rfl) ?_; try simp only [Act.put, ppA, ppB, ppC]
  refine st_x (v := .pointer (some ⟨g, 0, none⟩)) rfl (x_nilck _ rfl rfl) ?_; try simp only [Act.put, ppA, ppB, ppC]
  refine st_x (v := .pointer (some ⟨g, 2, none⟩)) rfl (x_fa _ _ _ rfl rfl (fa_re _ _ _ (by simp) _)) ?_; try simp only [Act.put, ppA, ppB, ppC]
  refine st_x (v := .map none) rfl (x_cell _ _ rfl rfl (hB1.cell hc2) pl_agg) ?_; try simp only [Act.put, ppA, ppB, ppC]
  refine st_x (v := oldP) rfl (x_val _ (.inl rfl) rfl) ?_; try simp only [Act.put, ppA, ppB, ppC]
  refine st_x (v := .tuple #[.agg #[], .bool false]) rfl (x_lookPl _ _ rfl rfl rfl) ?_; try simp only [Act.put, ppA, ppB, ppC]
  refine st_x (v := .tuple #[.agg #[], .bool false]) rfl (x_val _ (.inl rfl) rfl) ?_; try simp only [Act.put, ppA, ppB, ppC]
  refine st_x (v := .agg #[]) rfl (x_ext _ _ rfl rfl rfl) ?_; try simp only [Act.put, ppA, ppB, ppC]
  refine st_x (v := .bool false) rfl (x_ext _ _ rfl rfl rfl) ?_; try simp only [Act.put, ppA, ppB, ppC]
  have hS := (St.start w).call hT1
  refine st_new hS rfl 134 rfl unit_zero ?_; clear hS; intro w2 b5 hS; try simp only [Act.put, ppA, ppB, ppC]
  refine st_store (b := b5) (c' := #[]) hS rfl 134 _ _ rfl rfl rfl .head unit_size rfl rfl (by simp) ?_; clear hS; intro w3 hS; try simp only [Act.put, ppA, ppB, ppC]
  refine st_x (v := .bool false) rfl (x_val _ (.inr rfl) rfl) ?_; try simp only [Act.put, ppA, ppB, ppC]
  refine st_end14 ?_
  have hT3 := hS.frame
  have hB3 := hT3.blk hB (by simp)
  clear hS hB1 hT1
  go_upto_region 3 with (fail)
  try simp only [Act.put, ppA, ppB, ppC]
  refine wp_region_lit ?_
  refine st_x (v := .pointer (some ⟨g, 0, none⟩)) rfl (x_val _ (.inl rfl) rfl) ?_; try simp only [Act.put, ppA, ppB, ppC]
  refine st_x (v := .pointer (some ⟨g, 0, none⟩)) rfl (x_nilck _ rfl rfl) ?_; try simp only [Act.put, ppA, ppB, ppC]
  refine st_x (v := .pointer (some ⟨g, 2, none⟩)) rfl (x_fa _ _ _ rfl rfl (fa_re _ _ _ (by simp) _)) ?_; try simp only [Act.put, ppA, ppB, ppC]
  refine st_x (v := .map none) rfl (x_cell _ _ rfl rfl (hB3.cell hc2) pl_agg) ?_; try simp only [Act.put, ppA, ppB, ppC]
  refine st_x (v := .bool true) rfl (x_bin _ _ _ _ rfl rfl rfl rfl (eqPl_none _)) ?_; try simp only [Act.put, ppA, ppB, ppC]
  refine st_end14 ?_
  go_upto_region 4 with (fail)
  try simp only [Act.put, ppA, ppB, ppC]
  refine wp_region_lit ?_
  refine st_x (v := .pointer (some ⟨g, 0, none⟩)) rfl (x_val _ (.inl rfl) rfl) ?_; try simp only [Act.put, ppA, ppB, ppC]
  obtain ⟨r, hr⟩ : ∃ r, r = w3.heap.size := ⟨_, rfl⟩
  obtain ⟨w4, hw4⟩ : ∃ w4, w4 = w3.alloc (.map #[] 0) := ⟨_, rfl⟩
  refine st_run (v := .map (some r)) (w' := w4) rfl (by rw [hr, hw4]; unfold execOp; simp only [Option.map_none, Sem.run_bind, mk_places, Result.andThen_ok, Sem.run_pure]) ?_; try simp only [Act.put, ppA, ppB, ppC]
  have hT4 : Tch [] w3 w4 := by rw [hw4]; exact (Tch.refl [] w3).alloc _
  have hr4 : w4.heap[r]? = some (.map #[] 0) := by rw [hw4, hr]; exact Go.heap_alloc_new w3 _
  clear hw4
  have hB4 := hT4.blk hB3 (by simp)
  refine st_x (v := .pointer (some ⟨g, 0, none⟩)) rfl (x_nilck _ rfl rfl) ?_; try simp only [Act.put, ppA, ppB, ppC]
  refine st_x (v := .pointer (some ⟨g, 2, none⟩)) rfl (x_fa _ _ _ rfl rfl (fa_re _ _ _ (by simp) _)) ?_; try simp only [Act.put, ppA, ppB, ppC]
  obtain ⟨w5, hw5⟩ : ∃ w5, w5 = World.setCell w4 ⟨g, 2, none⟩ (.map (some r)) := ⟨_, rfl⟩
  refine st_skip (w' := w5) rfl (by rw [hw5]; exact r_store1 _ _ rfl rfl rfl hB4 one_pl (by omega) rfl) ?_; try simp only [Act.put, ppA, ppB, ppC]
  have hO5 : Only g w4 w5 := by rw [hw5]; exact Only.setCell w4 ⟨g, 2, none⟩ _
  have hB5 : Blk w5 g 76 (cur.setIfInBounds 2 (.map (some r))) := by rw [hw5]; exact hB4.set 2 _
  clear hw5
  refine st_end14 ?_
  have hgr : g ≠ r := by have := hB3.lt; omega
  have hr5 : w5.heap[r]? = some (.map #[] 0) := (hO5.block r (fun e => hgr e.symm)).trans hr4
  obtain ⟨cu2, hcu2⟩ : ∃ cu2, cu2 = cur.setIfInBounds 2 (.map (some r)) := ⟨_, rfl⟩
  have hd0 : cu2[0]? = some (.int .i64 1) := by rw [hcu2, Array.getElem?_setIfInBounds_ne (by decide)]; exact hc0
  have hd1 : cu2[1]? = some (.slice none 0 0) := by rw [hcu2, Array.getElem?_setIfInBounds_ne (by decide)]; exact hc1
  have hd2 : cu2[2]? = some (.map (some r)) := by rw [hcu2, Array.getElem?_setIfInBounds_self_of_lt (by omega)]
  have hds : 3 ≤ cu2.size := by rw [hcu2, Array.size_setIfInBounds]; exact hsz
  rw [← hcu2] at hB5
  clear hcu2
  go_upto_region 5 with (fail)
  try simp only [Act.put, ppA, ppB, ppC]
  refine wp_region_lit ?_
  refine st_x (v := .pointer (some ⟨g, 0, none⟩)) rfl (x_val _ (.inl rfl) rfl) ?_; try simp only [Act.put, ppA, ppB, ppC]
  refine st_x (v := .pointer (some ⟨g, 0, none⟩)) rfl (x_nilck _ rfl rfl) ?_; try simp only [Act.put, ppA, ppB, ppC]
  refine st_x (v := .pointer (some ⟨g, 2, none⟩)) rfl (x_fa _ _ _ rfl rfl (fa_re _ _ _ (by simp) _)) ?_; try simp only [Act.put, ppA, ppB, ppC]
  refine st_x (v := .map (some r)) rfl (x_cell _ _ rfl rfl (hB5.cell hd2) pl_agg) ?_; try simp only [Act.put, ppA, ppB, ppC]
  refine st_x (v := oldP) rfl (x_val _ (.inl rfl) rfl) ?_; try simp only [Act.put, ppA, ppB, ppC]
  refine st_x (v := .agg #[]) rfl (x_bld (vals := #[]) rfl (by simp only [List.map_toArray, List.map_nil]) (bld_unit _)) ?_; try simp only [Act.put, ppA, ppB, ppC]
  obtain ⟨es, hup⟩ := upd_places hr5
  obtain ⟨w6, hw6⟩ : ∃ w6, w6 = setBlock w5 r (.map es 1) := ⟨_, rfl⟩
  rw [← hw6] at hup
  refine st_skip (w' := w6) rfl (r_updPl _ _ _ rfl rfl rfl rfl hup) ?_; try simp only [Act.put, ppA, ppB, ppC]
  refine st_end14 ?_
  have hO6 : ∀ j, j ≠ r → w6.heap[j]? = w5.heap[j]? := fun j hj => by rw [hw6]; exact heap_setBlock_other hr5 _ hj
  have hP6 : PT (fun j => j = r) w5 w6 := ⟨by rw [hw6]; rfl, by rw [hw6]; rfl, by rw [hw6]; rfl, by rw [hw6]; simp [setBlock], fun j _ hj => hO6 j hj⟩
  have hB6 := hP6.blk hB5 hgr
  clear hw6 hup
  go_upto_region 6 with (fail)
  try simp only [Act.put, ppA, ppB, ppC]
  refine wp_region_lit ?_
  refine st_x (v := .pointer (some ⟨g, 0, none⟩)) rfl (x_val _ (.inl rfl) rfl) ?_; try simp only [Act.put, ppA, ppB, ppC]
  refine st_x (v := .pointer (some ⟨g, 0, none⟩)) rfl (x_val _ (.inl rfl) rfl) ?_; try simp only [Act.put, ppA, ppB, ppC]
  refine st_x (v := .pointer (some ⟨g, 0, none⟩)) rfl (x_nilck _ rfl rfl) ?_; try simp only [Act.put, ppA, ppB, ppC]
  refine st_x (v := .pointer (some ⟨g, 1, none⟩)) rfl (x_fa _ _ _ rfl rfl (fa_re _ _ _ (by simp) _)) ?_; try simp only [Act.put, ppA, ppB, ppC]
  refine st_x (v := .slice none 0 0) rfl (x_cell _ _ rfl rfl (hB6.cell hd1) pa_agg) ?_; try simp only [Act.put, ppA, ppB, ppC]
  refine st_x (v := oldP) rfl (x_val _ (.inl rfl) rfl) ?_; try simp only [Act.put, ppA, ppB, ppC]
  refine st_bldPa rfl rfl rfl ?_
  intro w7 b7 hT7 hb7
  try simp only [Act.put, ppA, ppB, ppC]
  refine st_appPa (b := b7) rfl rfl rfl rfl hb7 ?_
  intro gp cp w8 hown8 hT8
  try simp only [Act.put, ppA, ppB, ppC]
  have hT68 := hT7.trans hT8
  have hB8 := hT68.blk hB6 (by simp)
  refine st_x (v := .pointer (some ⟨g, 0, none⟩)) rfl (x_nilck _ rfl rfl) ?_; try simp only [Act.put, ppA, ppB, ppC]
  refine st_x (v := .pointer (some ⟨g, 1, none⟩)) rfl (x_fa _ _ _ rfl rfl (fa_re _ _ _ (by simp) _)) ?_; try simp only [Act.put, ppA, ppB, ppC]
  obtain ⟨w9, hw9⟩ : ∃ w9, w9 = World.setCell w8 ⟨g, 1, none⟩ (.slice (some ⟨gp, 0, none⟩) 1 cp) := ⟨_, rfl⟩
  refine st_skip (w' := w9) rfl (by rw [hw9]; exact r_store1 _ _ rfl rfl rfl hB8 one_pa (by omega) rfl) ?_; try simp only [Act.put, ppA, ppB, ppC]
  have hO9 : Only g w8 w9 := by rw [hw9]; exact Only.setCell w8 ⟨g, 1, none⟩ _
  have hB9 : Blk w9 g 76 (cu2.setIfInBounds 1 (.slice (some ⟨gp, 0, none⟩) 1 cp)) := by rw [hw9]; exact hB8.set 1 _
  clear hw9
  refine st_end14 ?_
  go_wp2
  go_end0
  have hgl := hown8.lt gp rfl
  have hsz6 : w.heap.size ≤ w6.heap.size := Nat.le_trans hT3.size (Nat.le_trans hT4.size (Nat.le_trans (Nat.le_of_eq hO5.size.symm) hP6.size))
  have hgg : gp ≠ g := by have := hB.lt; have := hT7.size; omega
  refine ⟨rfl, gp, cp, r, ⟨_, hB9, by rw [Array.size_setIfInBounds]; exact hds, by rw [Array.getElem?_setIfInBounds_ne (by decide)]; exact hd0, by rw [Array.getElem?_setIfInBounds_self_of_lt (by omega)], by rw [Array.getElem?_setIfInBounds_ne (by decide)]; exact hd2⟩, ?_, by have := hT7.size; omega, by rw [hO9.size]; exact hgl.2, ?_⟩
  · have hc8 : w8.cell? ⟨gp, 0, none⟩ = some oldP := by
      have := hown8.cells (g := gp) rfl 0 oldP rfl
      have hadd : (⟨gp, 0, none⟩ : Addr).add 0 = ⟨gp, 0, none⟩ := by unfold Addr.add; simp
      rwa [hadd] at this
    exact (World.cell?_of_block (w := w8) (hO9.block gp hgg)).trans hc8
  · refine ⟨hO9.os.trans (hT68.os.trans (hP6.os.trans (hO5.os.trans (hT4.os.trans hT3.os)))), hO9.tape.trans (hT68.tape.trans (hP6.tape.trans (hO5.tape.trans (hT4.tape.trans hT3.tape)))), hO9.output.trans (hT68.output.trans (hP6.output.trans (hO5.output.trans (hT4.output.trans hT3.output)))), Nat.le_trans hsz6 (Nat.le_trans hT68.size (Nat.le_of_eq hO9.size.symm)), fun j hj hn => ?_⟩
    have h3 : j < w3.heap.size := Nat.lt_of_lt_of_le hj hT3.size
    have h4 : j < w4.heap.size := Nat.lt_of_lt_of_le h3 hT4.size
    have h6 : j < w6.heap.size := Nat.lt_of_lt_of_le hj hsz6
    exact (hO9.block j hn).trans ((hT68.block j h6 (by simp)).trans ((hO6 j (by omega)).trans ((hO5.block j hn).trans ((hT4.block j h3 (by simp)).trans (hT3.block j hj (by simp))))))
end
section
open Go.RowKit Go.WideMaps Go.ChangeMaps Go.MapKept
set_option maxRecDepth 100000
set_option maxHeartbeats 2000000
theorem len_recs1 (ty : TypeId) (g c : Nat) (w : World) : (Builtin.len_ #[44] ty #[.slice (some ⟨g, 0, none⟩) 1 c]).run Tryz.prog w = .ok (.int .i64 1) w := by
  simp [Builtin.len_, run_underlying recs_ty, goInt, Result.andThen, Builtin.lenOf]
theorem max5 (ty : TypeId) (w : World) : (Builtin.max_ #[3, 3] ty #[.int .i64 5, .int .i64 0]).run Tryz.prog w = .ok (.int .i64 5) w := by kernel_rfl
section
variable {o : Oper} {a : Act} {w w' : World}
theorem x_lenR1 {g c : Nat} (xo : Operand) (ho : o.op = .call { callee := .builtin .len, args := #[xo], argTypes := #[44] }) (hx : a.eval xo = .slice (some ⟨g, 0, none⟩) 1 c) : (execOp a.eval o).run Tryz.prog w = .ok (.value (.int .i64 1)) w := by
  unfold execOp
  simp [ho, resolve, invoke, builtin, hx, len_recs1]
theorem x_max5 (xo yo : Operand) (ho : o.op = .call { callee := .builtin .max, args := #[xo, yo], argTypes := #[3, 3] }) (hx : a.eval xo = .int .i64 5) (hy : a.eval yo = .int .i64 0) : (execOp a.eval o).run Tryz.prog w = .ok (.value (.int .i64 5)) w := by
  unfold execOp
  simp [ho, resolve, invoke, builtin, hx, hy, max5]
end
def NonP (B N : Nat) (bS : Nat) (g cap : Nat) (mv : Value) (F : List Nat → Option Nat) (E : List Nat → Nat × Nat) (w w' : World) : Prop :=
  ∃ mv' F' gp cp r, StP B N w' bS mv' (.slice (some ⟨g, 0, none⟩) 1 cap) 1 F' (upE E zA (5, 0)) ∧ RecB w' g 1 (.slice (some ⟨gp, 0, none⟩) 1 cp) (.map (some r)) ∧ w'.cell? ⟨gp, 0, none⟩ = some oldP ∧ w.heap.size ≤ gp ∧ gp < w'.heap.size ∧ ¬ foot bS mv' F' g ∧ ¬ foot bS mv' F' gp ∧ PT (fun j => foot bS mv F j ∨ j = g) w w'
theorem change_non1 (B N : Nat) (w : World) (bS g cap : Nat) (mv : Value) (F : List Nat → Option Nat) (E : List Nat → Nat × Nat) (h : StP B N w bS mv (.slice (some ⟨g, 0, none⟩) 1 cap) 1 F E) (hR : RecB w g 1 (.slice none 0 0) (.map none)) (hg : ¬ foot bS mv F g) (hE : E zA = (0, 0)) (hN : N < 1000000000) :
    Calls Tryz.prog 24 #[.pointer (some ⟨bS, 0, none⟩), .iface 60 (.agg (nonC zA 5))] w fun e w' => e = .returned (.tuple #[]) ∧ NonP B (N + 1) bS g cap mv F E w w' := by
  have hc := put_non B N w bS mv (.slice (some ⟨g, 0, none⟩) 1 cap) 1 F E zA 5 h zA_ok hN (by decide)
  rw [hE] at hc
  have HR := hQz hR
  have HG := hQz hg
  clear h hE hN hR hg
  go_enter Tryz.func24, Tryz.ntmps24
  go_upto_region 0 with (fail)
  try simp only [Act.put, ppA, ppB, ppC]
  refine wp_region_lit ?_
  refine st_x (v := .pointer (some ⟨bS, 0, none⟩)) rfl (x_val _ (.inl rfl) rfl) ?_; try simp only [Act.put, ppA, ppB, ppC]
  refine st_x (v := .iface 60 (.agg (nonC zA 5))) rfl (x_val _ (.inl rfl) rfl) ?_; try simp only [Act.put, ppA, ppB, ppC]
  refine st_callS (args := #[.pointer (some ⟨bS, 0, none⟩), .iface 60 (.agg (nonC zA 5))]) rfl rfl (by simp only [List.map_toArray, List.map_cons, List.map_nil]; rfl) Tryz.call33 (hc) ?_
  rintro e w1 ⟨rfl, hstep⟩
  refine ⟨_, rfl, ?_⟩
  try simp only [Act.put, ppA, ppB, ppC]
  refine st_x (v := oldP) rfl (x_val _ (.inr rfl) rfl) ?_; try simp only [Act.put, ppA, ppB, ppC]
  refine st_end14 ?_
  obtain ⟨mv', FF, h1, h2, h3⟩ := hstep
  have hB := h1.blk
  have hR1 := HR.out.far h2 HG.out
  have hg1 : ¬ foot bS mv' FF g := fun hf => (h3 g hf).elim HG.out (fun hh => by have := HR.out.lt; omega)
  have hfl : ∀ j, foot bS mv' FF j → j < w1.heap.size := fun j hj => (h1.lt hj).2
  have H1 := hQz h1
  have H2 := hQz h2
  clear h1 h2 h3 hc
  generalize hcv : (#[mv', .slice (some ⟨g, 0, none⟩) 1 cap, .int .i64 1] : Array Value) = cv at hB
  have hc1 : cv[1]? = some (.slice (some ⟨g, 0, none⟩) 1 cap) := by rw [← hcv]; rfl
  clear hcv
  go_upto_region 1 with (fail)
  try simp only [Act.put, ppA, ppB, ppC]
  refine wp_region_lit ?_
  refine st_x (v := .pointer (some ⟨bS, 0, none⟩)) rfl (x_val _ (.inl rfl) rfl) ?_; try simp only [Act.put, ppA, ppB, ppC]
  refine st_x (v := .pointer (some ⟨bS, 0, none⟩)) rfl (x_nilck _ rfl rfl) ?_; try simp only [Act.put, ppA, ppB, ppC]
  refine st_x (v := .pointer (some ⟨bS, 1, none⟩)) rfl (x_fa _ _ _ rfl rfl (fa_s1 _ _)) ?_; try simp only [Act.put, ppA, ppB, ppC]
  refine st_x (v := .slice (some ⟨g, 0, none⟩) 1 cap) rfl (x_cell _ _ rfl rfl (hB.cell hc1) recs_agg) ?_; try simp only [Act.put, ppA, ppB, ppC]
  refine st_x (v := .int .i64 1) rfl (x_lenR1 _ rfl rfl) ?_; try simp only [Act.put, ppA, ppB, ppC]
  refine st_x (v := .int .i64 1) rfl (x_val _ (.inr rfl) rfl) ?_; try simp only [Act.put, ppA, ppB, ppC]
  refine st_end14 ?_
  go_upto_region 2 with (fail)
  try simp only [Act.put, ppA, ppB, ppC]
  refine k_seq (C := fun w' => w' = w1) rfl ?_
  refine k_in (v := .int .i64 1) rfl (fun w' hw' => x_val _ (.inl rfl) rfl) ?_; try simp only [Act.put, ppA, ppB, ppC]
  refine k_in (v := .bool true) rfl (fun w' hw' => x_gtrI rfl _ _ _ _ rfl rfl rfl) ?_; try simp only [Act.put, ppA, ppB, ppC]
  refine k_in (v := .bool true) rfl (fun w' hw' => x_val _ (.inl rfl) rfl) ?_; try simp only [Act.put, ppA, ppB, ppC]
  refine k_in (v := oldP) rfl (fun w' hw' => x_val _ (.inl rfl) rfl) ?_; try simp only [Act.put, ppA, ppB, ppC]
  refine k_in (v := .iface 60 (.agg (nonC zA 5))) rfl (fun w' hw' => x_val _ (.inl rfl) rfl) ?_; try simp only [Act.put, ppA, ppB, ppC]
  refine k_in (v := .bool true) rfl (fun w' hw' => x_bin _ _ _ _ rfl rfl rfl rfl (neP_on _)) ?_; try simp only [Act.put, ppA, ppB, ppC]
  refine k_in (v := .bool true) rfl (fun w' hw' => x_pickS (c := true) rfl _ _ _ rfl rfl rfl rfl) ?_; try simp only [Act.put, ppA, ppB, ppC]
  refine k_end ?_
  intro w2 hw2
  subst hw2
  go_upto_region 3 with (fail)
  try simp only [Act.put, ppA, ppB, ppC]
  refine wp_region_lit ?_
  refine st_x (v := .pointer (some ⟨bS, 0, none⟩)) rfl (x_val _ (.inl rfl) rfl) ?_; try simp only [Act.put, ppA, ppB, ppC]
  refine st_x (v := .pointer (some ⟨bS, 0, none⟩)) rfl (x_nilck _ rfl rfl) ?_; try simp only [Act.put, ppA, ppB, ppC]
  refine st_x (v := .pointer (some ⟨bS, 1, none⟩)) rfl (x_fa _ _ _ rfl rfl (fa_s1 _ _)) ?_; try simp only [Act.put, ppA, ppB, ppC]
  refine st_x (v := .slice (some ⟨g, 0, none⟩) 1 cap) rfl (x_cell _ _ rfl rfl (hB.cell hc1) recs_agg) ?_; try simp only [Act.put, ppA, ppB, ppC]
  refine st_x (v := .int .i64 1) rfl (x_val _ (.inl rfl) rfl) ?_; try simp only [Act.put, ppA, ppB, ppC]
  refine st_x (v := .int .i64 0) rfl (x_subI _ _ _ _ rfl rfl rfl rfl) ?_; try simp only [Act.put, ppA, ppB, ppC]
  refine st_x (v := .pointer (some ⟨g, 0 + 0 * 3, none⟩)) rfl (x_idxS _ _ rfl rfl rfl recs_ty rec_size (by decide)) ?_; try simp only [Act.put, ppA, ppB, ppC]
  refine st_x (v := oldP) rfl (x_val _ (.inl rfl) rfl) ?_; try simp only [Act.put, ppA, ppB, ppC]
  refine st_callS (args := #[.pointer (some ⟨g, 0, none⟩), oldP]) rfl rfl (by simp only [List.map_toArray, List.map_cons, List.map_nil]; rfl) Tryz.call43 (note_any w2 g hR1) ?_
  rintro e w3 ⟨rfl, gp, cp, r, hR3, hcp, hgp, hgl, hP3⟩
  refine ⟨_, rfl, ?_⟩
  try simp only [Act.put, ppA, ppB, ppC]
  refine st_end14 ?_
  go_wp2
  go_end0
  refine ⟨rfl, mv', FF, gp, cp, r, H1.out.far hP3 (fun j hj e => hg1 (by rw [← e]; exact hj)), hR3, hcp, Nat.le_trans H2.out.size hgp, hgl, hg1, fun hj => by have := hfl gp hj; omega, ?_⟩
  exact (H2.out.mono (fun j _ hj => .inl hj)).trans (hP3.mono (fun j _ hj => .inr hj))
theorem setNonce5 (B N : Nat) (w : World) (bS g cap : Nat) (mv : Value) (F : List Nat → Option Nat) (E : List Nat → Nat × Nat) (h : StP B N w bS mv (.slice (some ⟨g, 0, none⟩) 1 cap) 1 F E) (hR : RecB w g 1 (.slice none 0 0) (.map none)) (hg : ¬ foot bS mv F g) (hE : E zA = (0, 0)) (hN : N < 1000000000) :
    Calls Tryz.prog 8 #[.pointer (some ⟨bS, 0, none⟩), .agg (av zA), .int .i64 5] w fun e w' => e = .returned (.tuple #[]) ∧ NonP B (N + 1) bS g cap mv F E w w' := by
  have hc := fun w' (hT : Tch [] w w') => change_non1 B N w' bS g cap mv F E (h.call hT) (hR.far (PT.nil (S := fun _ => False) hT) (fun h => h)) hg hE hN
  clear h hR hg hE hN
  have hS := St.start w
  go_enter Tryz.func8, Tryz.ntmps8
  go_upto_region 1 with (refine st_box hS rfl 23 _ rfl rfl ?_; clear hS; intro w1 b1 hS)
  try simp only [Act.put, ppA, ppB, ppC]
  refine wp_region_lit ?_
  refine st_x (v := .pointer (some ⟨bS, 0, none⟩)) rfl (x_val _ (.inl rfl) rfl) ?_; try simp only [Act.put, ppA, ppB, ppC]
  refine st_x (v := .agg (av zA)) rfl (x_ld _ rfl rfl (hS.get .head) addr_tyY rfl (by rw [arrV_size]; exact addr_sizeY)) ?_; try simp only [Act.put, ppA, ppB, ppC]
  refine st_x (v := .int .i64 5) rfl (x_val _ (.inl rfl) rfl) ?_; try simp only [Act.put, ppA, ppB, ppC]
  refine st_x (v := .int .i64 5) rfl (x_max5 _ _ rfl rfl rfl) ?_; try simp only [Act.put, ppA, ppB, ppC]
  refine st_x (v := .agg (nonC zA 5)) rfl (x_bld (vals := #[(0, .agg (av zA)), (1, .int .i64 5)]) rfl (by simp only [List.map_toArray, List.map_cons, List.map_nil]; rfl) (bld_non5 _ _)) ?_; try simp only [Act.put, ppA, ppB, ppC]
  refine st_x (v := .iface 60 (.agg (nonC zA 5))) rfl (x_mkI _ _ rfl rfl (mkN _ _)) ?_; try simp only [Act.put, ppA, ppB, ppC]
  refine st_callS (args := #[.pointer (some ⟨bS, 0, none⟩), .iface 60 (.agg (nonC zA 5))]) rfl rfl (by simp only [List.map_toArray, List.map_cons, List.map_nil]; rfl) Tryz.call24 (hc w1 hS.frame) ?_
  rintro e w3 ⟨rfl, mv', FF, gp, cp, r, k1, k2, k3, k4, k5, k6, k7, k8⟩
  refine ⟨_, rfl, ?_⟩
  try simp only [Act.put, ppA, ppB, ppC]
  refine st_end14 ?_
  go_wp2
  go_end0
  exact ⟨rfl, mv', FF, gp, cp, r, k1, k2, k3, Nat.le_trans hS.frame.size k4, k5, k6, k7, (PT.nil hS.frame).trans k8⟩
end
section
open Go.RowKit Go.WideMaps Go.ChangeMaps Go.MapKept
set_option maxRecDepth 100000
set_option maxHeartbeats 2000000
section
variable {ops : Array Oper} {rest : List Oper} {o : Oper} {a : Act} {w w' : World} {Q : Exit → Act → World → Prop}
theorem st_xw {v : Value} (hgd : Region.wanted o (yielded ops a.tmps) = true) (hr : (execOp a.eval o).run Tryz.prog w = .ok (.value v) w) (h : wpList Tryz.prog ops Q rest (a.put o.dst v) w) : wpList Tryz.prog ops Q (o :: rest) a w :=
  BigFrame.wpList_want hgd fun K hK => by
    unfold Oper.wp
    rw [hr]
    exact hK _ _ h
theorem st_callVw {f : FuncId} {ts : Array TypeId} {x : Operand} {xs : Array Operand} {args : Array Value} {R : Ending → World → Prop} (hgd : Region.wanted o (yielded ops a.tmps) = true) (hop : o.op = .call { callee := .value x, args := xs, argTypes := ts }) (hx : a.eval x = .func (.func f) #[] #[]) (ha : xs.map a.eval = args) (hf : ∀ args w, (callFunc f args).run Tryz.prog w = .ok (.enter f args) w)
    (hc : Calls Tryz.prog f args w R) (h : ∀ e w', R e w' → ∃ v, e = .returned v ∧ wpList Tryz.prog ops Q rest (a.put o.dst v) w') : wpList Tryz.prog ops Q (o :: rest) a w :=
  BigFrame.wpList_want hgd fun K hK => by
    subst ha
    have hr : (execOp a.eval o).run Tryz.prog w = .ok (.enter f (xs.map a.eval)) w := by unfold execOp; simp [hop, resolve, invoke, hf, hx, Deferred.ofValue]
    unfold Oper.wp
    rw [hr]
    exact hc.mono fun e w' hR => by
      obtain ⟨v, rfl, hk⟩ := h e w' hR
      exact hK _ _ hk
end
theorem isNaN1 (w : World) : Calls Tryz.prog 50 #[.int .i64 1] w fun e w' => e = .returned (.bool false) ∧ w' = w := by
  go_enter Tryz.func50, Tryz.ntmps50
  go_upto_region 1 with (fail)
  try simp only [Act.put, ppA, ppB, ppC]
  refine wp_region_lit ?_
  refine st_x (v := .int .i64 1) rfl (x_val _ (.inl rfl) rfl) ?_; try simp only [Act.put, ppA, ppB, ppC]
  refine st_x (v := .int .i64 1) rfl (x_val _ (.inl rfl) rfl) ?_; try simp only [Act.put, ppA, ppB, ppC]
  refine st_x (v := .bool false) rfl (by kernel_rfl) ?_; try simp only [Act.put, ppA, ppB, ppC]
  refine st_x (v := .bool false) rfl (x_val _ (.inr rfl) rfl) ?_; try simp only [Act.put, ppA, ppB, ppC]
  refine st_end14 ?_
  go_wp2
  go_ret
  exact ⟨rfl, rfl⟩
theorem compare1 (w : World) : Calls Tryz.prog 30 #[.int .i64 1, .int .i64 1] w fun e w' => e = .returned (.int .i64 0) ∧ w' = w := by
  go_enter Tryz.func30, Tryz.ntmps30
  go_upto_region 1 with (fail)
  try simp only [Act.put, ppA, ppB, ppC]
  refine wp_region_lit ?_
  refine st_x (v := .int .i64 1) rfl (x_val _ (.inl rfl) rfl) ?_; try simp only [Act.put, ppA, ppB, ppC]
  refine st_callS (args := #[.int .i64 1]) rfl rfl (by simp only [List.map_toArray, List.map_cons, List.map_nil]; rfl) Tryz.call50 (isNaN1 _) ?_
  rintro e w1 ⟨rfl, rfl⟩
  refine ⟨_, rfl, ?_⟩
  try simp only [Act.put, ppA, ppB, ppC]
  refine st_x (v := .bool false) rfl (x_val _ (.inr rfl) rfl) ?_; try simp only [Act.put, ppA, ppB, ppC]
  refine st_end14 ?_
  go_upto_region 2 with (fail)
  try simp only [Act.put, ppA, ppB, ppC]
  refine wp_region_lit ?_
  refine st_x (v := .int .i64 1) rfl (x_val _ (.inl rfl) rfl) ?_; try simp only [Act.put, ppA, ppB, ppC]
  refine st_callS (args := #[.int .i64 1]) rfl rfl (by simp only [List.map_toArray, List.map_cons, List.map_nil]; rfl) Tryz.call50 (isNaN1 _) ?_
  rintro e w2 ⟨rfl, rfl⟩
  refine ⟨_, rfl, ?_⟩
  try simp only [Act.put, ppA, ppB, ppC]
  refine st_x (v := .bool false) rfl (x_val _ (.inr rfl) rfl) ?_; try simp only [Act.put, ppA, ppB, ppC]
  refine st_end14 ?_
  go_upto_region 9 with (fail)
  try simp only [Act.put, ppA, ppB, ppC]
  refine wp_region_lit ?_
  refine st_x (v := .int .i64 1) rfl (x_val _ (.inl rfl) rfl) ?_; try simp only [Act.put, ppA, ppB, ppC]
  refine st_x (v := .int .i64 1) rfl (x_val _ (.inl rfl) rfl) ?_; try simp only [Act.put, ppA, ppB, ppC]
  refine st_x (v := .bool false) rfl (by kernel_rfl) ?_; try simp only [Act.put, ppA, ppB, ppC]
  refine st_end14 ?_
  go_upto_region 11 with (fail)
  try simp only [Act.put, ppA, ppB, ppC]
  refine wp_region_lit ?_
  refine st_x (v := .int .i64 1) rfl (x_val _ (.inl rfl) rfl) ?_; try simp only [Act.put, ppA, ppB, ppC]
  refine st_x (v := .int .i64 1) rfl (x_val _ (.inl rfl) rfl) ?_; try simp only [Act.put, ppA, ppB, ppC]
  refine st_x (v := .bool false) rfl (by kernel_rfl) ?_; try simp only [Act.put, ppA, ppB, ppC]
  refine st_end14 ?_
  go_wp2
  go_ret
  exact ⟨rfl, rfl⟩
abbrev recV (pv lv : Value) : Array Value := #[.int .i64 1, pv, lv]
theorem back1_any (pv lv : Value) (w : World) : Calls Tryz.prog 29 #[.agg (recV pv lv), .int .i64 1] w fun e w' => e = .returned (.int .i64 0) ∧ Tch [] w w' := by
  have hS := St.start w
  go_enter Tryz.func29, Tryz.ntmps29
  go_upto_region 1 with (refine st_box hS rfl 76 _ rfl rfl ?_; clear hS; intro w1 b1 hS)
  try simp only [Act.put, ppA, ppB, ppC]
  refine wp_region_lit ?_
  refine st_x (v := .pointer (some ⟨b1, 0, none⟩)) rfl (x_fa _ _ _ rfl rfl (fa_re _ _ _ (by simp) _)) ?_; try simp only [Act.put, ppA, ppB, ppC]
  refine st_x (v := .int .i64 1) rfl (x_cell _ _ rfl rfl ((hS.get .head).cell rfl) int_agg) ?_; try simp only [Act.put, ppA, ppB, ppC]
  refine st_x (v := .int .i64 1) rfl (x_val _ (.inl rfl) rfl) ?_; try simp only [Act.put, ppA, ppB, ppC]
  refine st_callS (args := #[.int .i64 1, .int .i64 1]) rfl rfl (by simp only [List.map_toArray, List.map_cons, List.map_nil]; rfl) Tryz.call30 (compare1 _) ?_
  rintro e w2 ⟨rfl, rfl⟩
  refine ⟨_, rfl, ?_⟩
  try simp only [Act.put, ppA, ppB, ppC]
  refine st_x (v := .int .i64 0) rfl (x_val _ (.inr rfl) rfl) ?_; try simp only [Act.put, ppA, ppB, ppC]
  refine st_end14 ?_
  go_wp2
  go_ret
  exact ⟨rfl, hS.frame⟩
end
end Go.Proofs.YtopfmaoeebgjmaaGreatDoor
