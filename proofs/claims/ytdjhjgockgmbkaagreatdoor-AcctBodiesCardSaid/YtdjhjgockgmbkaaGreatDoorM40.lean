/- The root of no pairs, whichever slice holds none. -/
import Derived.Test.YtdjhjgockgmbkaaGreatDoorM39
import Derived.MapKept
import Derived.Laws.StructEq
set_option linter.unusedVariables false
set_option linter.unusedSimpArgs false
namespace Go.Proofs.YtdjhjgockgmbkaaGreatDoor
open Go.RowKit

theorem tooLong_noneP (p0 : Option Addr) (c0 : Nat) (w : World) : Calls Tryz.prog 97 #[.slice p0 0 c0] w fun e w' => e = .returned (.bool false) ∧ w' = w := by
  go_enter Tryz.func97, Tryz.ntmps97
  go_wp2_with (go_at_call 123; refine (hasP_none _ _ _ _).mono ?_; rintro e w' ⟨rfl, rfl⟩)
  go_ret
  exact ⟨rfl, rfl⟩
set_option maxHeartbeats 2000000 in
theorem sorted_noneP (p0 : Option Addr) (c0 : Nat) (w : World) : Calls Tryz.prog 98 #[.slice p0 0 c0] w fun e w' => (∃ p, e = .returned (.slice p 0 0)) ∧ Tch [] w w' := by
  obtain ⟨i, hi, hz, hs, hb⟩ := info_parts entry_info
  have hr := run_makeSlice (P := Tryz.prog) w 188 217 i _ entries_ty hi hz .i64 .i64 0 0 (by omega) (by omega) (by rw [hs]; simp) (by rw [hb]; simp) (by omega)
  rw [hs] at hr
  simp only [Int.toNat_zero, Nat.zero_mul] at hr
  go_enter Tryz.func98, Tryz.ntmps98
  go_wp2
  refine wp_loop_rounds 1 ?_
  rw [rounds_succ]
  go_wp2_with (go_at_call 126; refine (sortE_none _ _ _ _).mono ?_; rintro e w' ⟨rfl, rfl⟩)
  go_ret
  exact ⟨⟨_, rfl⟩, (Tch.refl _ _).alloc _⟩
theorem grow_noneP (p0 : Option Addr) (c0 : Nat) (w : World) : Calls Tryz.prog 69 #[.slice p0 0 c0] w fun e w' => e = .returned (.tuple #[.nilIface, .int .i64 0]) ∧ Tch [] w w' := by
  go_enter Tryz.func69, Tryz.ntmps69
  go_wp2_with (first
    | (go_at_call 97; refine (tooLong_noneP p0 c0 _).mono ?_; rintro e w' ⟨rfl, rfl⟩)
    | (go_at_call 98; refine (sorted_noneP p0 c0 _).mono ?_; rintro e w1 ⟨⟨p, rfl⟩, hT⟩)
    | (go_at_call 99; refine (hasEmpty_none _ _ _).mono ?_; rintro e w' ⟨rfl, rfl⟩)
    | (go_at_call 100; refine (hasTwice_none _ _ _).mono ?_; rintro e w' ⟨rfl, rfl⟩)
    | (go_at_call 101; refine (build_none _ _ _ _).mono ?_; rintro e w' ⟨rfl, rfl⟩))
  go_ret2
  exact ⟨rfl, hT⟩
theorem root_noneP (p0 : Option Addr) (c0 : Nat) (w : World) : Calls Tryz.prog 41 #[.slice p0 0 c0] w fun e w' => e = .returned (.tuple #[.agg (wf (hashN [128])), .int .i64 0]) ∧ Tch [] w w' := by
  have hS := St.start w
  have HE := Lib.hid (fun (w1 : World) => (encode_none (.func (.func 70) #[] #[]) w1).mono fun e w' h => h.rd (by decide))
  go_enter Tryz.func41, Tryz.ntmps41
  go_wp2_with (first
    | (refine st_new hS rfl 23 rfl word_zero ?_; clear hS; intro w1 b1 hS)
    | (go_at_call 69; refine (grow_noneP p0 c0 _).mono ?_; rintro e w2 ⟨rfl, hT⟩; replace hS := hS.call hT; clear hT)
    | (go_at_call 71; refine (HE.out _).mono ?_; rintro e w3 ⟨hT, b, hb, rfl, hr⟩; replace hS := hS.call hT; clear hT)
    | (go_at_call 70; refine (rsum_any _ [128] _ hr (by decide)).mono ?_; rintro e w4 ⟨rfl, hT⟩; replace hS := hS.call hT; clear hT)
    | (refine st_store (b := b1) (c' := wf (hashN [128])) hS rfl 23 _ _ rfl rfl rfl .head word_size (wf_size _) (wf_size _) (wf_one _) ?_; clear hS; intro w5 hS))
  exact post_cell_one 2 3 23 rfl rfl rfl rfl (hS.get .head) word_type rfl word_size (wf_size _) ⟨rfl, hS.frame⟩
end Go.Proofs.YtdjhjgockgmbkaaGreatDoor

/- The root of no accounts; the example of the law. -/
namespace Go.Proofs.YtdjhjgockgmbkaaGreatDoor
open Go.RowKit
set_option linter.unusedVariables false
set_option maxRecDepth 100000

section
variable {P : Program} {ops : Array Oper} {rest : List Oper} {o : Oper} {a : Act} {bs : List Nat} {w0 w : World} {Q : Exit → Act → World → Prop} {L : List Ent}
/-- A map is made, with room for so many. -/
theorem st_makeMapN {ty kt et : TypeId} {x : Operand} {n : Int} (hu : P.underlying ty = some (.map kt et)) (hS : St bs w0 w L) (hgd : o.guard = none) (ho : o.op = .makeMap ty (some x)) (hx : a.eval x = .int .i64 n)
    (h : ∀ w' r, St bs w0 w' L → w'.heap[r]? = some (.map #[] 0) → w0.heap.size ≤ r → wpList P ops Q rest (a.put o.dst (.map (some r))) w') : wpList P ops Q (o :: rest) a w :=
  wpList_plain hgd fun K hK => by
    have hr : (Instr.makeMap ty (some (.int .i64 n))).run P w = .ok (.map (some w.heap.size)) (w.alloc (.map #[] 0)) := by
      simp [Instr.makeMap, run_underlying hu, asInt, asIntOf, Result.andThen]
    unfold Oper.wp execOp
    simp only [ho, Option.map_some, hx, Sem.run_bind, hr, Result.andThen_ok, Sem.run_pure]
    exact hK _ _ (h _ _ (hS.alloc _) (Go.heap_alloc_new w _) hS.frame.size)
end
theorem mapA_ty : Tryz.prog.underlying 133 = some (.map 50 134) := by kernel_rfl
theorem len_mapA {w : World} {r : Nat} (ty : TypeId) (h : w.heap[r]? = some (.map #[] 0)) : (Builtin.len_ #[133] ty #[.map (some r)]).run Tryz.prog w = .ok (.int .i64 0) w := by
  simp [Builtin.len_, run_underlying mapA_ty, MapKept.run_getObj_map h, goInt, Result.andThen]
theorem x_lenMapA {a : Act} {w : World} {o : Oper} {r : Nat} (x : Operand) (ho : o.op = .call { callee := .builtin .len, args := #[x], argTypes := #[133] }) (hx : a.eval x = .map (some r)) (h : w.heap[r]? = some (.map #[] 0)) : (execOp a.eval o).run Tryz.prog w = .ok (.value (.int .i64 0)) w := by
  have hr := len_mapA o.type h
  unfold execOp
  simp only [ho, resolve, invoke, builtin, Sem.run_bind, Sem.run_pure, Result.andThen_ok, List.map_toArray, List.map_cons, List.map_nil, hx, hr]
set_option maxHeartbeats 2000000 in
theorem twice_nil (f : Value) (w : World) : Calls Tryz.prog 37 #[.slice none 0 0, f] w fun e w' => e = .returned (.bool false) ∧ Tch [] w w' := by
  have hS := St.start w
  go_enter Tryz.func37, Tryz.ntmps37
  go_wp2_with (first
    | (refine st_makeMapN (n := 0) mapA_ty hS rfl rfl rfl ?_; clear hS; intro w1 r hS hr hr0))
  go_loopw [13] (fun i wr => i = .int .i64 0 ∧ Hid (Tch [] w wr ∧ wr.heap[r]? = some (.map #[] 0))) (fun i _ => (intOf i).toNat)
  case atStart => exact ⟨rfl, Lib.hid ⟨hS.frame, hr⟩⟩
  case round =>
    obtain ⟨rfl, HI⟩ := hrel
    go_wp2_with (first
      | (refine st_x (v := .int .i64 0) rfl (x_lenMapA _ rfl rfl HI.out.2) ?_))
    go_ret
    exact ⟨rfl, HI.out.1⟩
theorem pairsQ_ty : Tryz.prog.underlying 87 = some (.slice 91) := by kernel_rfl
theorem pairQ_infos : (Tryz.prog.info? 91).map (fun i => (i.zero, i.size, i.bytes)) = some (some (.agg #[.slice none 0 0, .slice none 0 0]), 2, 48) := by kernel_rfl
theorem st_makePr0 {ops : Array Oper} {rest : List Oper} {o : Oper} {a : Act} {bs : List Nat} {w0 w : World} {Q : Exit → Act → World → Prop} {L : List Ent} (hS : St bs w0 w L) (hgd : o.guard = none) (x y : Operand) (ho : o.op = .makeSlice 87 x y) (hx : a.eval x = .int .i64 0) (hy : a.eval y = .int .i64 0)
    (h : ∀ w' b, St bs w0 w' L → wpList Tryz.prog ops Q rest (a.put o.dst (.slice (some ⟨b, 0, none⟩) 0 0)) w') : wpList Tryz.prog ops Q (o :: rest) a w :=
  wpList_plain hgd fun K hK => by
    obtain ⟨i, hi, hz, hs, hb⟩ := info_parts pairQ_infos
    have hr := run_makeSlice (P := Tryz.prog) w 87 91 i _ pairsQ_ty hi hz .i64 .i64 0 0 (by decide) (by decide) (by rw [hs]; decide) (by rw [hb]; decide) (by decide)
    unfold Oper.wp execOp
    simp only [ho, hx, hy, Sem.run_bind, hr, Result.andThen_ok, Sem.run_pure]
    exact hK _ _ (h _ _ (hS.alloc _))
theorem root_nil (v : Value) (hv : ∃ p c, v = .slice p 0 c) (w : World) : Calls Tryz.prog 41 #[v] w fun e w' => e = .returned (.tuple #[.agg (wf (hashN [128])), .int .i64 0]) ∧ Tch [] w w' := by
  obtain ⟨p, c, rfl⟩ := hv
  exact root_noneP p c w
set_option maxHeartbeats 4000000 in
theorem aroot_nil (w : World) : Calls Tryz.prog 14 #[.slice none 0 0] w fun e w' => e = .returned (.tuple #[.agg (wf (hashN [128])), .int .i64 0]) ∧ Tch [] w w' := by
  have hS := St.start w
  go_enter Tryz.func14, Tryz.ntmps14
  go_wp2_with (first
    | (refine st_new (L := []) hS rfl 23 rfl word_zero ?_; clear hS; intro w2 b2 hS)
    | (go_at_call 37; refine (twice_nil _ _).mono ?_; rintro e w3 ⟨rfl, hT3⟩; replace hS := hS.call hT3; clear hT3)
    | (refine st_makePr0 hS rfl _ _ rfl rfl rfl ?_; clear hS; intro w4 b4 hS))
  go_loopw [4, 17] (fun v i wr => i = .int .i64 0 ∧ (∃ b, v = .slice (some ⟨b, 0, none⟩) 0 0) ∧ Hid (St [] w wr [(b2, 23, wf fun _ => 0)])) (fun _ i _ => (intOf i).toNat)
  case atStart => exact ⟨rfl, ⟨b4, rfl⟩, Lib.hid hS⟩
  case round =>
    obtain ⟨rfl, ⟨b, rfl⟩, HI⟩ := hrel
    have hS := HI.out
    clear HI
    go_wp2_with (first
      | (go_at_call 41; refine (root_nil _ ⟨_, _, rfl⟩ _).mono ?_; rintro e w5 ⟨rfl, hT5⟩; replace hS := hS.call hT5; clear hT5)
      | (refine st_store (b := b2) (c' := wf (hashN [128])) hS rfl 23 _ _ rfl rfl rfl .head word_size (wf_size _) (wf_size _) (wf_one _) ?_; clear hS; intro w6 hS))
    exact post_cell_one 2 3 23 rfl rfl rfl rfl (hS.get .head) word_type rfl word_size (wf_size _) ⟨rfl, hS.frame⟩
theorem build128 (w : World) : (Instr.buildSlice 26 1 #[(0, .int .u8 128)]).run Tryz.prog w = .ok (.slice (some ⟨w.heap.size, 0, none⟩) 1 1) (w.alloc (.cells #[.int .u8 128] 5)) := by kernel_rfl
theorem empty_anyL (l : List Nat) (hl : l = [128]) (w : World) : Calls Tryz.prog 24 #[] w fun e w' => e = .returned (.agg (wf (hashN l))) ∧ Tch [] w w' := by
  have hS := St.start w
  have HL := Lib.hid hl
  clear hl
  go_enter Tryz.func24, Tryz.ntmps24
  go_wp2_with (first
    | (refine st_new (L := []) hS rfl 23 rfl word_zero ?_; clear hS; intro w2 b2 hS)
    | (refine st_buildC #[(0, .int .u8 128)] rfl rfl (by simp only [List.map_toArray, List.map_cons, List.map_nil]; rfl) build128 ?_; intro w3 hw3; replace hS := hS.new 5 (bc 1 fun _ => 128); rw [show (bc 1 fun _ => 128) = #[Value.int .u8 128] from rfl, ← hw3] at hS; clear hw3; have hr3 : RdB w3 (.slice (some ⟨w2.heap.size, 0, none⟩) 1 1) l := by rw [HL.out]; exact RdB.blk (n := 1) (f := fun _ => 128) (hS.get .head) (fun _ _ => by decide))
    | (go_at_call 56; refine (keccak_any _ l _ (by rw [HL.out]; decide) (hr3.rdA (by simp))).mono ?_; rintro e w4 ⟨rfl, hT4⟩; replace hS := hS.call hT4; clear hT4)
    | (refine st_store (b := b2) (c' := wf (hashN l)) hS rfl 23 _ _ rfl rfl rfl (.tail .head) word_size (wf_size _) (wf_size _) (wf_one _) ?_; clear hS; intro w5 hS))
  exact st_post hS 0 23 rfl rfl rfl (.tail .head) word_type rfl word_size (wf_size _) (fun hT => ⟨rfl, hT⟩)
theorem empty_any (w : World) : Calls Tryz.prog 24 #[] w fun e w' => e = .returned (.agg (wf (hashN [128]))) ∧ Tch [] w w' := empty_anyL _ rfl w
theorem num9_any (n : Int) (w : World) : Calls Tryz.prog 12 #[.int .i64 n] w fun e w' => e = .returned (.int .i64 n) ∧ Tch [] w w' := by
  go_enter Tryz.func12, Tryz.ntmps12
  go_wp2
  go_ret
  exact ⟨rfl, Tch.refl _ _⟩
set_option maxHeartbeats 4000000 in
theorem alive9_any (w : World) : Calls Tryz.prog 7 #[] w fun e w' => e = .returned (.bool true) ∧ Tch [] w w' := by
  have hS := St.start w
  go_enter Tryz.func7, Tryz.ntmps7
  go_upto_region 2 with (first
    | (go_at_call 14; refine (aroot_nil _).mono ?_; rintro e w1 ⟨rfl, hT1⟩; replace hS := hS.call hT1; clear hT1)
    | (refine st_new (L := []) hS rfl 23 rfl word_zero ?_; clear hS; intro w2 b1 hS)
    | (refine st_store (b := b1) (c' := wf (hashN [128])) hS rfl 23 _ _ rfl rfl rfl .head word_size (wf_size _) (wf_size _) (wf_one _) ?_; clear hS; intro w3 hS))
  have HB := Lib.hid (fun (w' : World) (h : Tch [] w3 w') => h.blk (hS.get .head) (by simp))
  have HF := Lib.hid hS.frame
  clear hS
  refine k_region (C := fun w' => Tch [] w3 w') (by kernel_rfl) (by kernel_rfl) ((Tch.refl _ _).drew) ?_
  refine k_intm rfl _ rfl rfl ?_; try simp only [Act.put, List.setIfInBounds_toArray, List.set_cons_zero, List.set_cons_succ]
  refine k_callC1 rfl rfl rfl Tryz.call12 (fun w' h => (num9_any _ w').mono fun e w'' h2 => ⟨h2.1, h.trans h2.2⟩) ?_; try simp only [Act.put, List.setIfInBounds_toArray, List.set_cons_zero, List.set_cons_succ]
  refine k_ints rfl _ _ _ rfl rfl rfl rfl ?_; try simp only [Act.put, List.setIfInBounds_toArray, List.set_cons_zero, List.set_cons_succ]
  refine k_boolm rfl _ rfl rfl ?_; try simp only [Act.put, List.setIfInBounds_toArray, List.set_cons_zero, List.set_cons_succ]
  refine k_loadW rfl _ rfl rfl HB.out (wf_size _) ?_; try simp only [Act.put, List.setIfInBounds_toArray, List.set_cons_zero, List.set_cons_succ]
  refine k_callC0 rfl rfl Tryz.call24 (fun w' h => (empty_any w').mono fun e w'' h2 => ⟨h2.1, h.trans h2.2⟩) ?_; try simp only [Act.put, List.setIfInBounds_toArray, List.set_cons_zero, List.set_cons_succ]
  refine k_hash rfl _ _ _ rfl rfl rfl ?_; try simp only [Act.put, List.setIfInBounds_toArray, List.set_cons_zero, List.set_cons_succ]
  refine k_pickT rfl _ _ _ rfl rfl rfl ?_; try simp only [Act.put, List.setIfInBounds_toArray, List.set_cons_zero, List.set_cons_succ]
  refine k_boola rfl _ rfl rfl ?_; try simp only [Act.put, List.setIfInBounds_toArray, List.set_cons_zero, List.set_cons_succ]
  refine k_end ?_
  intro w5 h5
  go_wp2
  go_ret
  exact ⟨rfl, HF.out.trans h5⟩
end Go.Proofs.YtdjhjgockgmbkaaGreatDoor

/- Two bodies held against each other, which are one. -/
namespace Go.Proofs.YtdjhjgockgmbkaaGreatDoor
open Go.RowKit
set_option linter.unusedVariables false
set_option maxRecDepth 100000

theorem eqF_step {P : Program} {d : Nat} {xs : Array Value} {f : Field} {fs : List Field} {w : World} {v : Value} (hp : (part f.type xs f.offset).run P w = .ok v w) (he : (Op.equalIn d f.type v v).run P w = .ok true w) (ih : (Op.eqFields d xs xs fs).run P w = .ok true w) : (Op.eqFields d xs xs (f :: fs)).run P w = .ok true w := by
  unfold Op.eqFields
  split
  · simp only [Sem.run_bind, hp, he, Result.andThen_ok, Bool.not_true, Bool.false_eq_true, if_false]
    exact ih
  · exact ih
theorem word_aggQ (w : World) : (isAgg 23).run Tryz.prog w = .ok true w := by kernel_rfl
theorem part_intQ {c : Array Value} {n : Int} (h : c[0]? = some (.int .i64 n)) (w : World) : (part 3 c 0).run Tryz.prog w = .ok (.int .i64 n) w := by
  unfold part
  simp only [Sem.run_bind, int_aggQ, Result.andThen_ok, Bool.false_eq_true, if_false, h, Sem.run_pure]
theorem part_wordQ {c : Array Value} {W : List Nat} {o : Nat} (h : c.extract o (o + 32) = wv W) (w : World) : (part 23 c o).run Tryz.prog w = .ok (.agg (wv W)) w := by
  unfold part
  simp only [Sem.run_bind, word_aggQ, Result.andThen_ok, if_true, sizeOf_one wordN_size, Sem.run_pure, h]
theorem ext_of {c : Array Value} {W : List Nat} {o : Nat} (hs : o + 32 ≤ c.size) (h : ∀ i, i < 32 → c[o + i]? = (wv W)[i]?) : c.extract o (o + 32) = wv W := by
  apply Array.ext_getElem?
  intro i
  rw [Array.getElem?_extract]
  by_cases hi : i < 32
  · rw [if_pos (by omega)]
    exact h i hi
  · rw [if_neg (by omega)]
    unfold wv
    rw [bc_none (by omega)]
theorem equal_word (d : Nat) (W : List Nat) (h : ∀ x ∈ W, x < 256) (w : World) : (Op.equalIn (d + 2) 23 (.agg (wv W)) (.agg (wv W))).run Tryz.prog w = .ok true w := by
  have hb : ∀ i, i < 32 → W.getD i 0 < 256 := fun i _ => by
    rw [List.getD_eq_getElem?_getD]
    cases hq : W[i]? with
    | none => decide
    | some y => exact h y (List.mem_of_getElem? hq)
  have := run_equalIn_bytes (P := Tryz.prog) w d 23 5 32 wordN_type byteN_ty (fun w => sizeOf_u8 w) (bytesOfN 32 (fun i => W.getD i 0)) (bytesOfN 32 (fun i => W.getD i 0)) (by simp [bytesOfN]) (by simp [bytesOfN])
  rw [← bc_bytesN 32 (fun i => W.getD i 0) hb, beq_self_eq_true] at this
  exact this
theorem body_equal (n : Int) (B R H : List Nat) (hB : ∀ x ∈ B, x < 256) (hR : ∀ x ∈ R, x < 256) (hH : ∀ x ∈ H, x < 256) (w : World) : (Op.equalIn 10000 25 (.agg (bodyC n B R H)) (.agg (bodyC n B R H))).run Tryz.prog w = .ok true w := by
  obtain ⟨f0, f1, f2, f3, hty, ⟨t0, o0⟩, ⟨t1, o1⟩, ⟨t2, o2⟩, t3, o3⟩ := body_ty
  have hf : Tryz.prog.underlying 25 = some (.struct (Tryz.prog.fieldsOf 25)) := by kernel_rfl
  have hfs : Tryz.prog.fieldsOf 25 = #[f0, f1, f2, f3] := by
    rw [hty] at hf
    injection hf with h
    injection h with h
    exact h.symm
  rw [run_equalIn_struct w 9999 25 _ _ hf (by kernel_rfl), hfs]
  have hsz := bodyC_size n B R H
  refine eqF_step (v := .int .i64 n) (by rw [t0, o0]; exact part_intQ (bodyC_0 _ _ _ _) w) (by rw [t0, run_equalIn_int w 9998 _ _ .i64 _ _ int_tyQ]; simp) ?_
  refine eqF_step (v := .agg (wv B)) (by rw [t1, o1]; exact part_wordQ (ext_of (by omega) (fun i hi => bodyC_b _ _ _ _ hi)) w) (by rw [t1]; exact equal_word 9997 B hB w) ?_
  refine eqF_step (v := .agg (wv R)) (by rw [t2, o2]; exact part_wordQ (ext_of (by omega) (fun i hi => bodyC_r _ _ _ _ hi)) w) (by rw [t2]; exact equal_word 9997 R hR w) ?_
  refine eqF_step (v := .agg (wv H)) (by rw [t3, o3]; exact part_wordQ (ext_of (by omega) (fun i hi => bodyC_h _ _ _ _ hi)) w) (by rw [t3]; exact equal_word 9997 H hH w) ?_
  rfl
theorem body_guard (op : BinOp) (x y : Operand) (c d : Array Value) (w : World) : (eqGuard op 25 x y (.agg c) (.agg d)).run Tryz.prog w = .ok () w := run_eqGuard_agg w op _ x y c d (by kernel_rfl)
section
variable {o : Oper} {a : Act} {w : World}
theorem x_bodyN {n : Int} {B R H : List Nat} (hB : ∀ x ∈ B, x < 256) (hR : ∀ x ∈ R, x < 256) (hH : ∀ x ∈ H, x < 256) (xo yo : Operand) (yt : TypeId) (ho : o.op = .binOp .neq 25 xo yo yt) (hxe : a.eval xo = .agg (bodyC n B R H)) (hye : a.eval yo = .agg (bodyC n B R H)) : (execOp a.eval o).run Tryz.prog w = .ok (.value (.bool false)) w := by
  have h := run_neq_struct (P := Tryz.prog) w 25 (bodyC n B R H) (bodyC n B R H)
  rw [body_equal n B R H hB hR hH w] at h
  unfold execOp
  simp only [ho, hxe, hye]
  show Sem.run _ _ w = _
  simp only [Sem.run_bind, body_guard, Result.andThen_ok, h, Bool.not_true, Sem.run_pure]
theorem x_bodyE {n : Int} {B R H : List Nat} (hB : ∀ x ∈ B, x < 256) (hR : ∀ x ∈ R, x < 256) (hH : ∀ x ∈ H, x < 256) (xo yo : Operand) (yt : TypeId) (ho : o.op = .binOp .eql 25 xo yo yt) (hxe : a.eval xo = .agg (bodyC n B R H)) (hye : a.eval yo = .agg (bodyC n B R H)) : (execOp a.eval o).run Tryz.prog w = .ok (.value (.bool true)) w := by
  have h := run_eql_struct (P := Tryz.prog) w 25 (bodyC n B R H) (bodyC n B R H)
  rw [body_equal n B R H hB hR hH w] at h
  unfold execOp
  simp only [ho, hxe, hye]
  show Sem.run _ _ w = _
  simp only [Sem.run_bind, body_guard, Result.andThen_ok, h, Sem.run_pure]
theorem x_boolN {s : Bool} (xo yo : Operand) (yt : TypeId) (ho : o.op = .binOp .neq 4 xo yo yt) (hxe : a.eval xo = .bool s) (hye : a.eval yo = .bool s) : (execOp a.eval o).run Tryz.prog w = .ok (.value (.bool false)) w := by
  unfold execOp
  simp only [ho, hxe, hye]
  show Sem.run _ _ w = _
  simp [eqGuard, binOp]
  show ((Sem.run Tryz.prog (Op.equalIn (9999 + 1) 4 (.bool s) (.bool s)) w).andThen _) = _
  unfold Op.equalIn
  simp [run_underlying bool_ty]
theorem x_bodyL {b : Nat} {c : Array Value} (xo : Operand) (ho : o.op = .load 25 xo) (hx : a.eval xo = .pointer (some ⟨b, 0, none⟩)) (hB : Blk w b 25 c) (hn : c.size = 97) : (execOp a.eval o).run Tryz.prog w = .ok (.value (.agg c)) w := by
  obtain ⟨f0, f1, f2, f3, hty, -⟩ := body_ty
  have hr := hB.load (P := Tryz.prog) hty rfl body_size hn
  unfold execOp
  simp only [ho, hx, Sem.run_bind, hr, Result.andThen_ok, Sem.run_pure]
end
end Go.Proofs.YtdjhjgockgmbkaaGreatDoor

/- The document's example, that each law begins with; texts of bytes held against each other. -/
namespace Go.Proofs.YtdjhjgockgmbkaaGreatDoor
open Go.RowKit

section
variable {o : Oper} {a : Act} {ops : Array Oper} {rest : List Oper} {C : World → Prop} {Q : Act → Prop}
theorem k_strN {l m : List Nat} {t : Bool} (hw : Region.wanted o (yielded ops a.tmps) = true) (x y : Operand) (yt : TypeId) (ho : o.op = .binOp .neq 9 x y yt) (hx : a.eval x = .string (strB l)) (hy : a.eval y = .string (strB m)) (hl : ∀ x ∈ l, x < 256) (hm : ∀ x ∈ m, x < 256) (ht : (l != m) = t)
    (h : KQ ops C Q rest (a.put o.dst (.bool t))) : KQ ops C Q (o :: rest) a :=
  k_pure hw (fun w => by
    have e : ((strB l).toList == (strB m).toList) = (l == m) := strB_eq hl hm
    unfold execOp; simp only [ho, hx, hy]; show Sem.run _ _ w = _; simp [eqGuard, binOp, Op.stringOp, e, ← ht, bne]) h
end
end Go.Proofs.YtdjhjgockgmbkaaGreatDoor
