/- The root of no accounts, whichever slice holds none; the root of nothing. -/
import Derived.Test.YtopfmaoeebgjmaaGreatDoorM01
import Derived.Test.YtopfmaoeebgjmaaGreatDoorM12
import Derived.Test.YtopfmaoeebgjmaaGreatDoorM17
import Derived.Test.YtopfmaoeebgjmaaGreatDoorM26
import Derived.Test.YtopfmaoeebgjmaaGreatDoorM28
import Derived.Test.YtopfmaoeebgjmaaGreatDoorM31
import Derived.Test.YtopfmaoeebgjmaaGreatDoorM32
import Derived.MapKept
set_option linter.unusedVariables false
set_option linter.unusedSimpArgs false
namespace Go.Proofs.YtopfmaoeebgjmaaGreatDoor
section
open Go.RowKit
set_option maxRecDepth 100000
section
variable {P : Program} {ops : Array Oper} {rest : List Oper} {o : Oper} {a : Act} {bs : List Nat} {w0 w : World} {Q : Exit → Act → World → Prop} {L : List Ent}
theorem st_makeMapN {ty kt et : TypeId} {x : Operand} {n : Int} (hu : P.underlying ty = some (.map kt et)) (hS : St bs w0 w L) (hgd : o.guard = none) (ho : o.op = .makeMap ty (some x)) (hx : a.eval x = .int .i64 n)
    (h : ∀ w' r, St bs w0 w' L → w'.heap[r]? = some (.map #[] 0) → w0.heap.size ≤ r → wpList P ops Q rest (a.put o.dst (.map (some r))) w') : wpList P ops Q (o :: rest) a w :=
  wpList_plain hgd fun K hK => by
    have hr : (Instr.makeMap ty (some (.int .i64 n))).run P w = .ok (.map (some w.heap.size)) (w.alloc (.map #[] 0)) := by
      simp [Instr.makeMap, run_underlying hu, asInt, asIntOf, Result.andThen]
    unfold Oper.wp execOp
    simp only [ho, Option.map_some, hx, Sem.run_bind, hr, Result.andThen_ok, Sem.run_pure]
    exact hK _ _ (h _ _ (hS.alloc _) (Go.heap_alloc_new w _) hS.frame.size)
end
theorem mapAu_ty : Tryz.prog.underlying 136 = some (.map 23 134) := by kernel_rfl
theorem len_mapA {w : World} {r : Nat} (ty : TypeId) (h : w.heap[r]? = some (.map #[] 0)) : (Builtin.len_ #[136] ty #[.map (some r)]).run Tryz.prog w = .ok (.int .i64 0) w := by
  simp [Builtin.len_, run_underlying mapAu_ty, MapKept.run_getObj_map h, goInt, Result.andThen]
theorem x_lenMapA {a : Act} {w : World} {o : Oper} {r : Nat} (x : Operand) (ho : o.op = .call { callee := .builtin .len, args := #[x], argTypes := #[136] }) (hx : a.eval x = .map (some r)) (h : w.heap[r]? = some (.map #[] 0)) : (execOp a.eval o).run Tryz.prog w = .ok (.value (.int .i64 0)) w := by
  have hr := len_mapA o.type h
  unfold execOp
  simp only [ho, resolve, invoke, builtin, Sem.run_bind, Sem.run_pure, Result.andThen_ok, List.map_toArray, List.map_cons, List.map_nil, hx, hr]
set_option maxHeartbeats 2000000 in
theorem twice_no (p0 : Option Addr) (c0 : Nat) (f : Value) (w : World) : Calls Tryz.prog 44 #[.slice p0 0 c0, f] w fun e w' => e = .returned (.bool false) ∧ Tch [] w w' := by
  have hS := St.start w
  go_enter Tryz.func44, Tryz.ntmps44
  go_wp2_with (first
    | (refine st_makeMapN (n := 0) mapAu_ty hS rfl rfl rfl ?_; clear hS; intro w1 r hS hr hr0))
  go_loopw [13] (fun i wr => i = .int .i64 0 ∧ Hid (Tch [] w wr ∧ wr.heap[r]? = some (.map #[] 0))) (fun i _ => (intOf i).toNat)
  case atStart => exact ⟨rfl, hQz ⟨hS.frame, hr⟩⟩
  case round =>
    obtain ⟨rfl, HI⟩ := hrel
    go_wp2_with (first
      | (refine st_x (v := .int .i64 0) rfl (x_lenMapA _ rfl rfl HI.out.2) ?_))
    go_ret
    exact ⟨rfl, HI.out.1⟩
theorem pairsQ_ty : Tryz.prog.underlying 106 = some (.slice 110) := by kernel_rfl
theorem pairQ_infos : (Tryz.prog.info? 110).map (fun i => (i.zero, i.size, i.bytes)) = some (some (.agg #[.slice none 0 0, .slice none 0 0]), 2, 48) := by kernel_rfl
theorem st_makePr0 {ops : Array Oper} {rest : List Oper} {o : Oper} {a : Act} {bs : List Nat} {w0 w : World} {Q : Exit → Act → World → Prop} {L : List Ent} (hS : St bs w0 w L) (hgd : o.guard = none) (x y : Operand) (ho : o.op = .makeSlice 106 x y) (hx : a.eval x = .int .i64 0) (hy : a.eval y = .int .i64 0)
    (h : ∀ w' b, St bs w0 w' L → wpList Tryz.prog ops Q rest (a.put o.dst (.slice (some ⟨b, 0, none⟩) 0 0)) w') : wpList Tryz.prog ops Q (o :: rest) a w :=
  wpList_plain hgd fun K hK => by
    obtain ⟨i, hi, hz, hs, hb⟩ := info_parts pairQ_infos
    have hr := run_makeSlice (P := Tryz.prog) w 106 110 i _ pairsQ_ty hi hz .i64 .i64 0 0 (by decide) (by decide) (by rw [hs]; decide) (by rw [hb]; decide) (by decide)
    unfold Oper.wp execOp
    simp only [ho, hx, hy, Sem.run_bind, hr, Result.andThen_ok, Sem.run_pure]
    exact hK _ _ (h _ _ (hS.alloc _))
theorem rootP_nil (v : Value) (hv : ∃ p c, v = .slice p 0 c) (w : World) : Calls Tryz.prog 48 #[v] w fun e w' => e = .returned (.tuple #[.agg (wf (hashN [128])), .int .i64 0]) ∧ Tch [] w w' := by
  obtain ⟨p, c, rfl⟩ := hv
  exact root_noneP p c w
set_option maxHeartbeats 4000000 in
theorem aroot_no (p0 : Option Addr) (c0 : Nat) (w : World) : Calls Tryz.prog 25 #[.slice p0 0 c0] w fun e w' => e = .returned (.tuple #[.agg (wf (hashN [128])), .int .i64 0]) ∧ Tch [] w w' := by
  have hS := St.start w
  go_enter Tryz.func25, Tryz.ntmps25
  go_wp2_with (first
    | (refine st_new (L := []) hS rfl 25 rfl word_zero ?_; clear hS; intro w2 b2 hS)
    | (go_at_call 44; refine (twice_no p0 c0 _ _).mono ?_; rintro e w3 ⟨rfl, hT3⟩; replace hS := hS.call hT3; clear hT3)
    | (refine st_makePr0 hS rfl _ _ rfl rfl rfl ?_; clear hS; intro w4 b4 hS))
  go_loopw [4, 17] (fun v i wr => i = .int .i64 0 ∧ (∃ b, v = .slice (some ⟨b, 0, none⟩) 0 0) ∧ Hid (St [] w wr [(b2, 25, wf fun _ => 0)])) (fun _ i _ => (intOf i).toNat)
  case atStart => exact ⟨rfl, ⟨b4, rfl⟩, hQz hS⟩
  case round =>
    obtain ⟨rfl, ⟨b, rfl⟩, HI⟩ := hrel
    have hS := HI.out
    clear HI
    go_wp2_with (first
      | (go_at_call 48; refine (rootP_nil _ ⟨_, _, rfl⟩ _).mono ?_; rintro e w5 ⟨rfl, hT5⟩; replace hS := hS.call hT5; clear hT5)
      | (refine st_store (b := b2) (c' := wf (hashN [128])) hS rfl 25 _ _ rfl rfl rfl .head word_size (wf_size _) (wf_size _) (wf_one _) ?_; clear hS; intro w6 hS))
    exact post_cell_one 2 3 25 rfl rfl rfl rfl (hS.get .head) word_type rfl word_size (wf_size _) ⟨rfl, hS.frame⟩
theorem build128 (w : World) : (Instr.buildSlice 26 1 #[(0, .int .u8 128)]).run Tryz.prog w = .ok (.slice (some ⟨w.heap.size, 0, none⟩) 1 1) (w.alloc (.cells #[.int .u8 128] 5)) := by kernel_rfl
theorem rempty_anyL (l : List Nat) (hl : l = [128]) (w : World) : Calls Tryz.prog 14 #[] w fun e w' => e = .returned (.agg (wf (hashN l))) ∧ Tch [] w w' := by
  have hS := St.start w
  have HL := hQz hl
  clear hl
  go_enter Tryz.func14, Tryz.ntmps14
  go_wp2_with (first
    | (refine st_new (L := []) hS rfl 25 rfl word_zero ?_; clear hS; intro w2 b2 hS)
    | (refine st_buildC #[(0, .int .u8 128)] rfl rfl (by simp only [List.map_toArray, List.map_cons, List.map_nil]; rfl) build128 ?_; intro w3 hw3; replace hS := hS.new 5 (bc 1 fun _ => 128); rw [show (bc 1 fun _ => 128) = #[Value.int .u8 128] from rfl, ← hw3] at hS; clear hw3; have hr3 : RdB w3 (.slice (some ⟨w2.heap.size, 0, none⟩) 1 1) l := by rw [HL.out]; exact RdB.blk (n := 1) (f := fun _ => 128) (hS.get .head) (fun _ _ => by decide))
    | (go_at_call 26; refine (keccak_any _ l _ (by rw [HL.out]; decide) (hr3.rdA (by simp))).mono ?_; rintro e w4 ⟨rfl, hT4⟩; replace hS := hS.call hT4; clear hT4)
    | (refine st_store (b := b2) (c' := wf (hashN l)) hS rfl 25 _ _ rfl rfl rfl (.tail .head) word_size (wf_size _) (wf_size _) (wf_one _) ?_; clear hS; intro w5 hS))
  exact st_post hS 0 25 rfl rfl rfl (.tail .head) word_type rfl word_size (wf_size _) (fun hT => ⟨rfl, hT⟩)
theorem rempty_any (w : World) : Calls Tryz.prog 14 #[] w fun e w' => e = .returned (.agg (wf (hashN [128]))) ∧ Tch [] w w' := rempty_anyL _ rfl w
end
section
open Go.RowKit Go.WideMaps Go.ChangeMaps Go.MapKept
set_option maxRecDepth 100000
set_option maxHeartbeats 2000000
theorem bld_codG (A : List Nat) (c : List Nat) (w : World) : (Instr.build 66 #[(0, .agg (av A)), (1, .string (strB c))]).run Tryz.prog w = .ok (.agg (codC A c)) w := by kernel_rfl
theorem setCodeG (B N : Nat) (w : World) (bS : Nat) (mv : Value) (k : Int) (F : List Nat → Option (Nat × Value)) (E : List Nat → Ac) (A : List Nat) (cv : Value) (c : List Nat) (h : GsP B N w bS mv (.slice none 0 0) k F E) (hA : Ad A) (hN : N < 100000000) (hc : RdB w cv c) (hb : ∀ x ∈ c, x < 256) :
    Calls Tryz.prog 11 #[.pointer (some ⟨bS, 0, none⟩), .agg (av A), cv] w fun e w' => e = .returned (.tuple #[]) ∧ StepG B (N + 1) bS mv F (.slice none 0 0) k (upQ E A ⟨(E A).n, (E A).x, c, (E A).S⟩) w w' := by
  have hS := St.start w
  go_enter Tryz.func11, Tryz.ntmps11
  go_upto_region 0 with (fail)
  try simp only [Act.put, ppA, ppB, ppC]
  refine wp_region_lit ?_
  refine st_box hS rfl 23 _ rfl rfl ?_; clear hS; intro w1 b1 hS; try simp only [Act.put, ppA, ppB, ppC]
  refine st_end14 ?_
  have hT := hS.frame
  have g1 : Blk w1 b1 23 (av A) := hS.get .head
  have hg := h.call hT
  clear hS
  go_upto_region 1 with (fail)
  try simp only [Act.put, ppA, ppB, ppC]
  refine wp_region_lit ?_
  refine st_x (v := .pointer (some ⟨bS, 0, none⟩)) rfl (x_val _ (.inl rfl) rfl) ?_; try simp only [Act.put, ppA, ppB, ppC]
  refine st_x (v := .agg (av A)) rfl (x_ld _ rfl rfl (g1) addr_tyY rfl (by rw [arrV_size]; exact addr_sizeY)) ?_; try simp only [Act.put, ppA, ppB, ppC]
  refine st_x (v := cv) rfl (x_val _ (.inl rfl) rfl) ?_; try simp only [Act.put, ppA, ppB, ppC]
  refine st_x (v := .string (strB c)) rfl (x_convS _ rfl rfl (hc.tch hT (by simp))) ?_; try simp only [Act.put, ppA, ppB, ppC]
  refine st_x (v := .agg (codC A c)) rfl (x_bld (vals := #[(0, .agg (av A)), (1, .string (strB c))]) rfl (by simp only [List.map_toArray, List.map_cons, List.map_nil]; rfl) (bld_codG _ _ _)) ?_; try simp only [Act.put, ppA, ppB, ppC]
  refine st_x (v := .iface 66 (.agg (codC A c))) rfl (x_mkI _ _ rfl rfl (mkC _ _)) ?_; try simp only [Act.put, ppA, ppB, ppC]
  refine st_callS (args := #[.pointer (some ⟨bS, 0, none⟩), .iface 66 (.agg (codC A c))]) rfl rfl (by simp only [List.map_toArray, List.map_cons, List.map_nil]; rfl) Tryz.call24 (changeG0 B (N + 1) w1 bS mv _ (.iface 66 (.agg (codC A (E A).c))) k F _ (put_codeG B N w1 bS mv _ k F E A c hg hA (by omega) hb)) ?_
  rintro e wz ⟨rfl, hstep⟩
  refine ⟨_, rfl, ?_⟩
  try simp only [Act.put, ppA, ppB, ppC]
  refine st_end14 ?_
  go_wp2
  go_end0
  exact ⟨rfl, StepG.of hT hstep (Tch.refl _ _)⟩
theorem existsG (B N : Nat) (w : World) (bS : Nat) (mv : Value) (k : Int) (F : List Nat → Option (Nat × Value)) (E : List Nat → Ac) (A : List Nat) (rv : Value) (h : GsP B N w bS mv rv k F E) (hA : Ad A) :
    Calls Tryz.prog 6 #[.pointer (some ⟨bS, 0, none⟩), .agg (av A)] w fun e w' => e = .returned (.bool ((F A).map (·.1)).isSome) ∧ Tch [] w w' := by
  have hS := St.start w
  go_enter Tryz.func6, Tryz.ntmps6
  go_upto_region 0 with (fail)
  try simp only [Act.put, ppA, ppB, ppC]
  refine wp_region_lit ?_
  refine st_box hS rfl 23 _ rfl rfl ?_; clear hS; intro w2 b1 hS; try simp only [Act.put, ppA, ppB, ppC]
  refine st_x (v := .bool false) rfl (x_val _ (.inr rfl) rfl) ?_; try simp only [Act.put, ppA, ppB, ppC]
  refine st_end14 ?_
  have g1 : Blk w2 b1 23 (av A) := hS.get .head
  have h2 := h.call hS.frame
  go_upto_region 1 with (fail)
  try simp only [Act.put, ppA, ppB, ppC]
  refine wp_region_held_drew (S := fun w' => Tch [] w2 w') (by kernel_rfl) ((Tch.refl _ _).drew) (fun hC => ?_)
  have hSd := hS.drew
  generalize World.drew w2 = u0 at hC hSd ⊢
  refine held_in (v := .pointer (some ⟨bS, 0, none⟩)) 0 rfl (by kernel_rfl) (by kernel_rfl) (by kernel_rfl) (fun _ _ _ h => h) hC rfl (fun w' hw' => x_val _ (.inl rfl) rfl) ?_; try simp only [Act.put, ppA, ppB, ppC]
  refine held_in (v := .pointer (some ⟨bS, 0, none⟩)) 1 rfl (by kernel_rfl) (by kernel_rfl) (by kernel_rfl) (fun _ _ _ h => h) hC rfl (fun w' hw' => x_nilck _ rfl rfl) ?_; try simp only [Act.put, ppA, ppB, ppC]
  refine held_in (v := .pointer (some ⟨bS, 0, none⟩)) 2 rfl (by kernel_rfl) (by kernel_rfl) (by kernel_rfl) (fun _ _ _ h => h) hC rfl (fun w' hw' => x_fa _ _ _ rfl rfl (fa_s0 _ _)) ?_; try simp only [Act.put, ppA, ppB, ppC]
  refine held_in (v := mv) 3 rfl (by kernel_rfl) (by kernel_rfl) (by kernel_rfl) (fun _ _ _ h => h) hC rfl (fun w' hw' => x_cell _ _ rfl rfl ((h2.call hw').blk.cell rfl) map_agg) ?_; try simp only [Act.put, ppA, ppB, ppC]
  refine held_in (v := .agg (av A)) 4 rfl (by kernel_rfl) (by kernel_rfl) (by kernel_rfl) (fun _ _ _ h => h) hC rfl (fun w' hw' => x_ld _ rfl rfl (hw'.blk g1 (by simp)) addr_tyY rfl (by rw [arrV_size]; exact addr_sizeY)) ?_; try simp only [Act.put, ppA, ppB, ppC]
  refine held_in (v := .tuple #[ptrV ((F A).map (·.1)), .bool ((F A).map (·.1)).isSome]) 5 rfl (by kernel_rfl) (by kernel_rfl) (by kernel_rfl) (fun _ _ _ h => h) hC rfl (fun w' hw' => x_look2 (h2.call hw').map hA _ _ rfl rfl rfl) ?_; try simp only [Act.put, ppA, ppB, ppC]
  refine held_in (v := .tuple #[ptrV ((F A).map (·.1)), .bool ((F A).map (·.1)).isSome]) 6 rfl (by kernel_rfl) (by kernel_rfl) (by kernel_rfl) (fun _ _ _ h => h) hC rfl (fun w' hw' => x_val _ (.inl rfl) rfl) ?_; try simp only [Act.put, ppA, ppB, ppC]
  refine held_in (v := ptrV ((F A).map (·.1))) 7 rfl (by kernel_rfl) (by kernel_rfl) (by kernel_rfl) (fun _ _ _ h => h) hC rfl (fun w' hw' => x_ext _ _ rfl rfl rfl) ?_; try simp only [Act.put, ppA, ppB, ppC]
  refine held_in (v := .bool ((F A).map (·.1)).isSome) 8 rfl (by kernel_rfl) (by kernel_rfl) (by kernel_rfl) (fun _ _ _ h => h) hC rfl (fun w' hw' => x_ext _ _ rfl rfl rfl) ?_; try simp only [Act.put, ppA, ppB, ppC]
  refine held_in (v := ptrV ((F A).map (·.1))) 9 rfl (by kernel_rfl) (by kernel_rfl) (by kernel_rfl) (fun _ _ _ h => h) hC rfl (fun w' hw' => x_val _ (.inr rfl) rfl) ?_; try simp only [Act.put, ppA, ppB, ppC]
  refine held_in (v := .bool ((F A).map (·.1)).isSome) 10 rfl (by kernel_rfl) (by kernel_rfl) (by kernel_rfl) (fun _ _ _ h => h) hC rfl (fun w' hw' => x_val _ (.inr rfl) rfl) ?_; try simp only [Act.put, ppA, ppB, ppC]
  refine wpAnyH_done (by kernel_rfl) ?_ _
  have hT := hSd.frame
  clear hS hSd hC g1 h2
  go_upto_region 2 with (fail)
  try simp only [Act.put, ppA, ppB, ppC]
  refine wp_region_lit ?_
  refine st_x (v := .bool ((F A).map (·.1)).isSome) rfl (x_val _ (.inl rfl) rfl) ?_; try simp only [Act.put, ppA, ppB, ppC]
  refine st_x (v := .bool ((F A).map (·.1)).isSome) rfl (x_val _ (.inr rfl) rfl) ?_; try simp only [Act.put, ppA, ppB, ppC]
  refine st_end14 ?_
  go_wp2
  go_ret
  exact ⟨rfl, hT⟩
theorem rootG_none (B N : Nat) (w : World) (bS : Nat) (mv rv : Value) (k : Int) (F : List Nat → Option (Nat × Value)) (E : List Nat → Ac) (h : GsP B N w bS mv rv k F E) (hE : ∀ A, Ad A → E A = Ac.nil) :
    Calls Tryz.prog 13 #[.pointer (some ⟨bS, 0, none⟩)] w fun e w' => e = .returned (.agg (wf (hashN [128]))) ∧ Tch [] w w' := by
  have hS := St.start w
  go_enter Tryz.func13, Tryz.ntmps13
  go_upto_region 0 with (fail)
  try simp only [Act.put, ppA, ppB, ppC]
  refine wp_region_lit ?_
  refine st_new (L := []) hS rfl 25 rfl word_zero ?_; clear hS; intro w1 b1 hS; try simp only [Act.put, ppA, ppB, ppC]
  refine st_end14 ?_
  have h1 := h.call hS.frame
  go_upto_region 1 with (fail)
  try simp only [Act.put, ppA, ppB, ppC]
  refine wp_region_lit ?_
  refine st_x (v := .pointer (some ⟨bS, 0, none⟩)) rfl (x_val _ (.inl rfl) rfl) ?_; try simp only [Act.put, ppA, ppB, ppC]
  refine st_callS (args := #[.pointer (some ⟨bS, 0, none⟩)]) rfl rfl (by simp only [List.map_toArray, List.map_cons, List.map_nil]; rfl) Tryz.call7 (accounts_none B N w1 bS mv rv k F E h1 hE) ?_
  rintro e w2 ⟨⟨b, rfl⟩, hT2⟩
  refine ⟨_, rfl, ?_⟩
  try simp only [Act.put, ppA, ppB, ppC]
  replace hS := hS.call hT2
  refine st_callS (args := #[.slice (some ⟨b, 0, none⟩) 0 0]) rfl rfl (by simp only [List.map_toArray, List.map_cons, List.map_nil]; rfl) Tryz.call25 (aroot_no _ _ _) ?_
  rintro e w3 ⟨rfl, hT3⟩
  refine ⟨_, rfl, ?_⟩
  try simp only [Act.put, ppA, ppB, ppC]
  replace hS := hS.call hT3
  refine st_x (v := .tuple #[.agg (wf (hashN [128])), .int .i64 0]) rfl (x_val _ (.inl rfl) rfl) ?_; try simp only [Act.put, ppA, ppB, ppC]
  refine st_x (v := .agg (wf (hashN [128]))) rfl (x_ext _ _ rfl rfl rfl) ?_; try simp only [Act.put, ppA, ppB, ppC]
  refine st_x (v := .int .i64 0) rfl (x_ext _ _ rfl rfl rfl) ?_; try simp only [Act.put, ppA, ppB, ppC]
  refine st_new hS rfl 25 rfl word_zero ?_; clear hS; intro w4 b4 hS; try simp only [Act.put, ppA, ppB, ppC]
  refine st_store (b := b4) (c' := wf (hashN [128])) hS rfl 25 _ _ rfl rfl rfl .head word_size (wf_size _) (wf_size _) (wf_one _) ?_; clear hS; intro w5 hS; try simp only [Act.put, ppA, ppB, ppC]
  refine st_x (v := .int .i64 0) rfl (x_val _ (.inr rfl) rfl) ?_; try simp only [Act.put, ppA, ppB, ppC]
  refine st_end14 ?_
  go_upto_region 2 with (fail)
  try simp only [Act.put, ppA, ppB, ppC]
  refine wp_region_lit ?_
  refine st_x (v := .agg (wf (hashN [128]))) rfl (x_ld _ rfl rfl (hS.get .head) word_type rfl (by rw [wf_size]; exact word_size)) ?_; try simp only [Act.put, ppA, ppB, ppC]
  refine st_store (b := b1) (c' := wf (hashN [128])) hS rfl 25 _ _ rfl rfl rfl (.tail .head) word_size (wf_size _) (wf_size _) (wf_one _) ?_; clear hS; intro w6 hS; try simp only [Act.put, ppA, ppB, ppC]
  refine st_end14 ?_
  go_wp2
  exact st_post hS 2 25 rfl rfl rfl (.tail .head) word_type rfl word_size (wf_size _) (fun hT => ⟨rfl, hT⟩)
end
section
open Go.RowKit Go.WideMaps Go.ChangeMaps Go.MapKept
set_option maxRecDepth 100000
set_option maxHeartbeats 2000000
theorem RecB.range {w : World} {g : Nat} {pv lv : Value} (h : RecB w g 1 pv lv) : w.rangeAt g 0 (recV pv lv).toList := fun j v hv => by
  obtain ⟨cur, hB, hs, h0, h1, h2⟩ := h
  rw [Nat.zero_add]
  refine hB.cell ?_
  match j with
  | 0 => rw [h0]; exact hv
  | 1 => rw [h1]; exact hv
  | 2 => rw [h2]; exact hv
  | j + 3 => cases hv
theorem RecB.call {w w' : World} {g : Nat} {n : Int} {pv lv : Value} (h : RecB w g n pv lv) (hT : Tch [] w w') : RecB w' g n pv lv := h.far (PT.nil (S := fun _ => False) hT) (fun h => h)
theorem search_any (w : World) (g cap : Nat) (pv lv : Value) (h : RecB w g 1 pv lv) : Calls Tryz.prog 28 #[.slice (some ⟨g, 0, none⟩) 1 cap, .int .i64 1, .func (.func 29) #[] #[]] w fun e w' => e = .returned (.tuple #[.int .i64 0, .bool true]) ∧ Tch [] w w' := by
  go_enter Tryz.func28, Tryz.ntmps28
  go_upto_region 1 with (fail)
  try simp only [Act.put, ppA, ppB, ppC]
  refine wp_region_lit ?_
  refine st_x (v := .slice (some ⟨g, 0, none⟩) 1 cap) rfl (x_val _ (.inl rfl) rfl) ?_; try simp only [Act.put, ppA, ppB, ppC]
  refine st_x (v := .int .i64 1) rfl (x_lenR1 _ rfl rfl) ?_; try simp only [Act.put, ppA, ppB, ppC]
  refine st_x (v := .int .i64 1) rfl (x_val _ (.inr rfl) rfl) ?_; try simp only [Act.put, ppA, ppB, ppC]
  refine st_end14 ?_
  go_upto_region 2 with (fail)
  try simp only [Act.put, ppA, ppB, ppC]
  refine wp_region_lit ?_
  refine st_x (v := .int .i64 1) rfl (x_val _ (.inl rfl) rfl) ?_; try simp only [Act.put, ppA, ppB, ppC]
  refine st_x (v := .int .i64 0) rfl (x_val _ (.inr rfl) rfl) ?_; try simp only [Act.put, ppA, ppB, ppC]
  refine st_x (v := .int .i64 1) rfl (x_val _ (.inr rfl) rfl) ?_; try simp only [Act.put, ppA, ppB, ppC]
  refine st_end14 ?_
  go_wp2
  go_loopw [9, 10] (fun i j wr => i = .int .i64 0 ∧ (j = .int .i64 1 ∨ j = .int .i64 0) ∧ Tch [] w wr) (fun _ j _ => (intOf j).toNat)
  case atStart => exact ⟨rfl, .inl rfl, Tch.refl _ _⟩
  case round =>
    obtain ⟨rfl, hj, hT⟩ := hrel
    have hR := h.call hT
    obtain rfl | rfl := hj
    · go_upto_region 3 with (fail)
      try simp only [Act.put, ppA, ppB, ppC]
      refine wp_region_lit ?_
      refine st_x (v := .int .i64 0) rfl (x_val _ (.inl rfl) rfl) ?_; try simp only [Act.put, ppA, ppB, ppC]
      refine st_x (v := .int .i64 1) rfl (x_val _ (.inl rfl) rfl) ?_; try simp only [Act.put, ppA, ppB, ppC]
      refine st_x (v := .bool true) rfl (by kernel_rfl) ?_; try simp only [Act.put, ppA, ppB, ppC]
      refine st_end14 ?_
      go_upto_region 4 with (fail)
      try simp only [Act.put, ppA, ppB, ppC]
      refine wp_region_lit ?_
      refine st_x (v := .int .i64 0) rfl (x_val _ (.inl rfl) rfl) ?_; try simp only [Act.put, ppA, ppB, ppC]
      refine st_x (v := .int .i64 1) rfl (x_val _ (.inl rfl) rfl) ?_; try simp only [Act.put, ppA, ppB, ppC]
      refine st_x (v := .int .i64 1) rfl (by kernel_rfl) ?_; try simp only [Act.put, ppA, ppB, ppC]
      refine st_x (v := .int .u64 1) rfl (by kernel_rfl) ?_; try simp only [Act.put, ppA, ppB, ppC]
      refine st_x (v := .int .u64 0) rfl (by kernel_rfl) ?_; try simp only [Act.put, ppA, ppB, ppC]
      refine st_x (v := .int .i64 0) rfl (by kernel_rfl) ?_; try simp only [Act.put, ppA, ppB, ppC]
      refine st_x (v := .int .i64 0) rfl (x_val _ (.inr rfl) rfl) ?_; try simp only [Act.put, ppA, ppB, ppC]
      refine st_end14 ?_
      go_upto_region 5 with (fail)
      try simp only [Act.put, ppA, ppB, ppC]
      refine wp_region_lit ?_
      refine st_x (v := .func (.func 29) #[] #[]) rfl (x_val _ (.inl rfl) rfl) ?_; try simp only [Act.put, ppA, ppB, ppC]
      refine st_x (v := .slice (some ⟨g, 0, none⟩) 1 cap) rfl (x_val _ (.inl rfl) rfl) ?_; try simp only [Act.put, ppA, ppB, ppC]
      refine st_x (v := .int .i64 0) rfl (x_val _ (.inl rfl) rfl) ?_; try simp only [Act.put, ppA, ppB, ppC]
      refine st_x (v := .pointer (some ⟨g, 0 + 0 * 3, none⟩)) rfl (x_idxS _ _ rfl rfl rfl recs_ty rec_size (by decide)) ?_; try simp only [Act.put, ppA, ppB, ppC]
      refine st_x (v := .agg (recV pv lv)) rfl (x_ldMid _ rfl rfl hR.range rec_ty rfl rec_size) ?_; try simp only [Act.put, ppA, ppB, ppC]
      refine st_x (v := .int .i64 1) rfl (x_val _ (.inl rfl) rfl) ?_; try simp only [Act.put, ppA, ppB, ppC]
      refine st_callVw (args := #[.agg (recV pv lv), .int .i64 1]) rfl rfl rfl (by simp only [List.map_toArray, List.map_cons, List.map_nil]; rfl) Tryz.call29 (back1_any pv lv _) ?_
      rintro e w2 ⟨rfl, hT2⟩
      refine ⟨_, rfl, ?_⟩
      try simp only [Act.put, ppA, ppB, ppC]
      refine st_x (v := .bool false) rfl (by kernel_rfl) ?_; try simp only [Act.put, ppA, ppB, ppC]
      refine st_end14 ?_
      go_upto_region 7 with (fail)
      try simp only [Act.put, ppA, ppB, ppC]
      refine wp_region_lit ?_
      refine st_x (v := .int .i64 0) rfl (x_val _ (.inl rfl) rfl) ?_; try simp only [Act.put, ppA, ppB, ppC]
      refine st_x (v := .int .i64 0) rfl (x_val _ (.inr rfl) rfl) ?_; try simp only [Act.put, ppA, ppB, ppC]
      refine st_end14 ?_
      go_wp2
      go_roundw
      case rel => exact ⟨rfl, .inr rfl, hT.trans hT2⟩
      case measure => decide
    · go_upto_region 3 with (fail)
      try simp only [Act.put, ppA, ppB, ppC]
      refine wp_region_lit ?_
      refine st_x (v := .int .i64 0) rfl (x_val _ (.inl rfl) rfl) ?_; try simp only [Act.put, ppA, ppB, ppC]
      refine st_x (v := .int .i64 0) rfl (x_val _ (.inl rfl) rfl) ?_; try simp only [Act.put, ppA, ppB, ppC]
      refine st_x (v := .bool false) rfl (by kernel_rfl) ?_; try simp only [Act.put, ppA, ppB, ppC]
      refine st_end14 ?_
      go_upto_region 8 with (fail)
      try simp only [Act.put, ppA, ppB, ppC]
      refine wp_region_lit ?_
      refine st_x (v := .int .i64 0) rfl (x_val _ (.inl rfl) rfl) ?_; try simp only [Act.put, ppA, ppB, ppC]
      refine st_x (v := .int .i64 0) rfl (x_val _ (.inl rfl) rfl) ?_; try simp only [Act.put, ppA, ppB, ppC]
      refine st_x (v := .int .i64 1) rfl (x_val _ (.inl rfl) rfl) ?_; try simp only [Act.put, ppA, ppB, ppC]
      refine st_x (v := .bool true) rfl (by kernel_rfl) ?_; try simp only [Act.put, ppA, ppB, ppC]
      refine st_x (v := .bool true) rfl (x_val _ (.inl rfl) rfl) ?_; try simp only [Act.put, ppA, ppB, ppC]
      refine st_xw (v := .func (.func 29) #[] #[]) rfl (x_val _ (.inl rfl) rfl) ?_; try simp only [Act.put, ppA, ppB, ppC]
      refine st_xw (v := .slice (some ⟨g, 0, none⟩) 1 cap) rfl (x_val _ (.inl rfl) rfl) ?_; try simp only [Act.put, ppA, ppB, ppC]
      refine st_xw (v := .int .i64 0) rfl (x_val _ (.inl rfl) rfl) ?_; try simp only [Act.put, ppA, ppB, ppC]
      refine st_xw (v := .pointer (some ⟨g, 0 + 0 * 3, none⟩)) rfl (x_idxS _ _ rfl rfl rfl recs_ty rec_size (by decide)) ?_; try simp only [Act.put, ppA, ppB, ppC]
      refine st_xw (v := .agg (recV pv lv)) rfl (x_ldMid _ rfl rfl hR.range rec_ty rfl rec_size) ?_; try simp only [Act.put, ppA, ppB, ppC]
      refine st_xw (v := .int .i64 1) rfl (x_val _ (.inl rfl) rfl) ?_; try simp only [Act.put, ppA, ppB, ppC]
      refine st_callVw (args := #[.agg (recV pv lv), .int .i64 1]) rfl rfl rfl (by simp only [List.map_toArray, List.map_cons, List.map_nil]; rfl) Tryz.call29 (back1_any pv lv _) ?_
      rintro e w2 ⟨rfl, hT2⟩
      refine ⟨_, rfl, ?_⟩
      try simp only [Act.put, ppA, ppB, ppC]
      refine st_xw (v := .bool true) rfl (by kernel_rfl) ?_; try simp only [Act.put, ppA, ppB, ppC]
      refine st_x (v := .bool true) rfl (by kernel_rfl) ?_; try simp only [Act.put, ppA, ppB, ppC]
      refine st_x (v := .int .i64 0) rfl (x_val _ (.inr rfl) rfl) ?_; try simp only [Act.put, ppA, ppB, ppC]
      refine st_x (v := .bool true) rfl (x_val _ (.inr rfl) rfl) ?_; try simp only [Act.put, ppA, ppB, ppC]
      refine st_end14 ?_
      go_wp2
      go_ret2
      exact ⟨rfl, hT.trans hT2⟩
end
end Go.Proofs.YtopfmaoeebgjmaaGreatDoor
