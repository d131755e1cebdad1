/- The example that the laws of nodes begin with. -/
import Derived.Test.YthchmnhoombecaaGreatU6
import Derived.Lib.SlBytesConst
namespace Go.Proofs.YthchmnhoombecaaGreat
open Go.RowKit

section
variable {ops : Array Oper} {rest : List Oper} {o : Oper} {a : Act} {bs : List Nat} {w0 w w1 : World} {Q : Exit → Act → World → Prop} {L : List Ent}
/-- A slice is built; the world behind it is told outright. -/
theorem st_buildC {n : Nat} {ty t : TypeId} {c : Array Value} {parts : Array (Nat × Operand)} (vals : Array (Nat × Value)) (hgd : o.guard = none) (ho : o.op = .buildSlice ty n parts)
    (hv : (parts.map fun (i, x) => (i, a.eval x)) = vals) (hr : ∀ w : World, (Instr.buildSlice ty n vals).run Tryz.prog w = .ok (.slice (some ⟨w.heap.size, 0, none⟩) n n) (w.alloc (.cells c t)))
    (h : ∀ w', w' = w.alloc (.cells c t) → wpList Tryz.prog ops Q rest (a.put o.dst (.slice (some ⟨w.heap.size, 0, none⟩) n n)) w') : wpList Tryz.prog ops Q (o :: rest) a w :=
  wpList_plain hgd fun K hK => by
    subst hv
    have hr2 := hr w
    unfold Oper.wp execOp
    simp only [ho, Sem.run_bind, hr2, Result.andThen_ok, Sem.run_pure]
    exact hK _ _ (h _ rfl)
/-- []byte of a constant. -/
theorem st_constB {C : Array Value} {x : Operand} {l : List Nat} (hS : St bs w0 w L) (hw : w1 = w.alloc (.cells C 5)) (hgd : o.guard = none) (ho : o.op = .convert 31 31 x) (hx : a.eval x = .slice (some ⟨w.heap.size, 0, none⟩) l.length l.length)
    (hC : C = (nb l).toArray) (hl : ∀ x ∈ l, x < 256)
    (h : ∀ w' b, St bs w0 w' L → RdB w' (.slice (some ⟨b, 0, none⟩) l.length l.length) l → Tch [] w w' → wpList Tryz.prog ops Q rest (a.put o.dst (.slice (some ⟨b, 0, none⟩) l.length l.length)) w') : wpList Tryz.prog ops Q (o :: rest) a w1 :=
  wpList_plain hgd fun K hK => by
    subst hw
    have hr := Lib.run_convert_bytes_const (P := Tryz.prog) w 31 5 C l.length l.length bytes_ty byte_ty
    unfold Oper.wp execOp
    simp only [ho, hx, Sem.run_bind, hr, Result.andThen_ok, Sem.run_pure]
    refine hK _ _ (h _ _ (hS.alloc _) ?_ ((Tch.refl _ _).alloc _))
    have hb : (w.alloc (.cells C 5 (C.size, C.size + 1))).heap[w.heap.size]? = some (.cells C 5 (C.size, C.size + 1)) := Go.heap_alloc_new w _
    refine ⟨_, _, rfl, Nat.le_refl _, hl, fun _ => ⟨_, _, rfl, (Array.getElem?_eq_some_iff.1 hb).1, fun i hi => ?_⟩⟩
    rw [Nat.zero_add, Lib.cell_of_heap hb, hC, List.getElem?_toArray]
    exact nb_get hi
end
section
variable {P : Program} {ops : Array Oper} {rest : List Oper} {o : Oper} {a : Act} {bs : List Nat} {w0 w : World} {Q : Exit → Act → World → Prop} {L L' : List Ent} {b : Nat} {t : TypeId} {c c' : Array Value}
theorem st_newT (hS : St bs w0 w L) (hgd : o.guard = none) (ty : TypeId) (ho : o.op = .alloc ty) (hz : (P.info? ty).bind (·.zero) = some (.agg c))
    (h : ∀ w' b, St bs w0 w' ((b, ty, c) :: L) → Tch [] w w' → w.heap.size ≤ b → wpList P ops Q rest (a.put o.dst (.pointer (some ⟨b, 0, none⟩))) w') : wpList P ops Q (o :: rest) a w :=
  wpList_plain hgd fun K hK => by
    have hr : (Instr.alloc ty true (.tuple #[])).run P w = .ok (.pointer (some ⟨w.heap.size, 0, none⟩)) (w.alloc (.cells c ty)) := by
      cases hq : P.info? ty with
      | none => simp [hq] at hz
      | some i =>
        have hz' : i.zero = some (.agg c) := by simpa [hq] using hz
        simp [Instr.alloc, zeroValue, typeInfo, hq, hz', newVar, newRow, Value.cells]
    unfold Oper.wp execOp
    simp only [ho, Sem.run_bind, hr, Result.andThen_ok, Sem.run_pure]
    exact hK _ _ (h _ _ (hS.new ty c) ((Tch.refl _ _).alloc _) (Nat.le_refl _))
theorem st_storeO (hS : St bs w0 w L) (hgd : o.guard = none) (ty : TypeId) (x y : Operand) (ho : o.op = .store ty x y) (hx : a.eval x = .pointer (some ⟨b, 0, none⟩)) (hy : a.eval y = .agg c') (m : Upd L b t c c' L')
    {n : Nat} (hi : (P.info? ty).map (·.size) = some n) (hn : c.size = n) (hn' : c'.size = n) (h1 : c'.all (·.oneCell') = true)
    (h : ∀ w', St bs w0 w' L' → Only b w w' → wpList P ops Q rest (a.put o.dst undef) w') : wpList P ops Q (o :: rest) a w :=
  arm_store hgd ty x y ho hx hy ((hS.get m.at_).store hi hn hn' h1) (h _ (hS.upd m (Only.setRow _ _ _) ((hS.get m.at_).row _)) (Only.setRow _ _ _))
end
theorem RdB.kept {w w1 w2 : World} {b : Nat} {v : Value} {l : List Nat} (h : RdB w v l) (hT : Tch [] w w1) (hb : w.heap.size ≤ b) (hO : Only b w1 w2) : RdB w2 v l := h.tch (bs := []) (hT.only hO (.inl hb)) (by simp)
theorem St.callNew' {bs : List Nat} {w0 w w' : World} {L : List Ent} {b : Nat} {t : TypeId} {c : Array Value} (h : St bs w0 w L) (hb : Tch [] w w') (hle : w.heap.size ≤ b) (hB : Blk w' b t c) : St bs w0 w' ((b, t, c) :: L) := h.callNew hb hB hle
theorem num_any (n : Int) (w : World) : Calls Tryz.prog 18 #[.int .i64 n] w fun e w' => e = .returned (.int .i64 n) ∧ Tch [] w w' := by
  go_enter Tryz.func18, Tryz.ntmps18
  go_wp2
  go_ret
  exact ⟨rfl, Tch.refl _ _⟩
def oneS : ByteArray := strB [49]
theorem ptr_tree_nil (b : Addr) (w : World) : (binOp .eql 42 (.pointer (some b)) (.pointer none)).run Tryz.prog w = .ok (.bool false) w := by kernel_rfl
theorem ptr_store_nil (b : Addr) (w : World) : (binOp .eql 25 (.pointer (some b)) (.pointer none)).run Tryz.prog w = .ok (.bool false) w := by kernel_rfl
section
variable {o : Oper} {a : Act} {ops : Array Oper} {rest : List Oper} {C : World → Prop} {Q : Act → Prop}
theorem k_hash {l : List Nat} (hw : Region.wanted o (yielded ops a.tmps) = true) (xo yo : Operand) (yt : TypeId) (ho : o.op = .binOp .eql 35 xo yo yt) (hxe : a.eval xo = .agg (wf (hashN l))) (hye : a.eval yo = .agg (wf (hashN l))) (h : KQ ops C Q rest (a.put o.dst (.bool true))) : KQ ops C Q (o :: rest) a :=
  k_pure hw (fun w => x_hash xo yo yt ho hxe hye) h
theorem k_loadW {b : Nat} {t : TypeId} {c : Array Value} (hw : Region.wanted o (yielded ops a.tmps) = true) (xo : Operand) (ho : o.op = .load 35 xo) (hx : a.eval xo = .pointer (some ⟨b, 0, none⟩)) (hB : ∀ w, C w → Blk w b t c) (hn : c.size = 32)
    (h : KQ ops C Q rest (a.put o.dst (.agg c))) : KQ ops C Q (o :: rest) a :=
  k_in hw (fun w hC => x_load _ xo ho hx (hB w hC) word_type word_size hn) h
theorem k_callC0 {v : Value} {f : FuncId} {ts : Array TypeId} (hw : Region.wanted o (yielded ops a.tmps) = true) (ho : o.op = .call { callee := .value (.func f), args := #[], argTypes := ts })
    (hf : ∀ args w, (callFunc f args).run Tryz.prog w = .ok (.enter f args) w) (hc : ∀ w, C w → Calls Tryz.prog f #[] w fun e w' => e = .returned v ∧ C w') (h : KQ ops C Q rest (a.put o.dst v)) : KQ ops C Q (o :: rest) a :=
  k_callC hw ho (by simp) hf hc h
end
theorem nodes_ty : Tryz.prog.underlying 22 = some (.slice 40) := by kernel_rfl
theorem k_lenN {o : Oper} {a : Act} {ops : Array Oper} {rest : List Oper} {C : World → Prop} {Q : Act → Prop} {p : Option Addr} {n c : Nat} (hw : Region.wanted o (yielded ops a.tmps) = true) (x : Operand) (ho : o.op = .call { callee := .builtin .len, args := #[x], argTypes := #[22] }) (hx : a.eval x = .slice p n c)
    (h : KQ ops C Q rest (a.put o.dst (.int .i64 (n : Int)))) : KQ ops C Q (o :: rest) a :=
  k_pure hw (fun w => by unfold execOp; simp [ho, resolve, invoke, builtin, hx, Builtin.len_, run_underlying nodes_ty, goInt]) h
set_option maxHeartbeats 4000000 in
set_option maxRecDepth 100000 in
theorem alive_any (w : World) : Calls Tryz.prog 5 #[] w fun e w' => e = .returned (.bool true) ∧ Tch [] w w' := by
  have hS := St.start w
  have kb := build_word0
  have kp := ptr_tree_nil
  have kq := ptr_store_nil
  have hnil : ∀ w1, RdB w1 (.slice none 0 0) [] := RdB.nil
  go_enter Tryz.func5, Tryz.ntmps5
  go_upto_region 5 with (first
    | (go_at_call 6; go_must (refine (newStore_none _).mono ?_; rintro e w1 ⟨⟨sb, rfl⟩, hT⟩; replace hS := hS.call hT; clear hT))
    | (go_at_call 15; go_must (refine (open_zero _ _).mono ?_; rintro e w2 ⟨bt, rfl, hT, hb, hB⟩; replace hS := hS.callNew' hT hb hB; clear hT hb hB))
    | (go_at_call 18; go_must (refine (num_any _ _).mono ?_; rintro e w3 ⟨rfl, hT⟩; replace hS := hS.call hT; clear hT)))
  go_upto_region 6 with (first
    | (refine st_buildC #[(0, .int .u8 97)] rfl rfl (by simp only [List.map_toArray, List.map_cons, List.map_nil]; rfl) (buildU1 _) ?_; intro w4' hw4') | (refine st_constB (l := [97]) hS hw4' rfl rfl rfl rfl (by decide) ?_; clear hS hw4'; intro w4 b4 hS hr1 hTc; clear hTc)
    | (refine st_buildC #[(0, .int .u8 49)] rfl rfl (by simp only [List.map_toArray, List.map_cons, List.map_nil]; rfl) (buildU1 _) ?_; intro w5' hw5') | (refine st_constB (l := [49]) hS hw5' rfl rfl rfl rfl (by decide) ?_; clear hS hw5'; intro w5 b5 hS hr2 hTc; replace hr1 := hr1.tch hTc (by simp); clear hTc)
    | (go_at_call 16; go_must (refine (put_new bt _ _ _ [97] [49] _ (hS.get .head) hr1 hr2 (by decide) (by decide) (by decide)).mono ?_; rintro e w6 ⟨rfl, hT, v, p, u, hB, ⟨bl, rfl, hL⟩, hp, hu⟩; replace hS := hS.on1 .head hT hB; clear hT hB hr1 hr2)))
  go_upto_region 7 with (first
    | (refine st_buildC #[(0, .int .u8 97)] rfl rfl (by simp only [List.map_toArray, List.map_cons, List.map_nil]; rfl) (buildU1 _) ?_; intro w7' hw7') | (refine st_constB (l := [97]) hS hw7' rfl rfl rfl rfl (by decide) ?_; clear hS hw7'; intro w7 b7 hS hr1 hTc; replace hL := hTc.blk hL (by simp); replace hp := hp.tch hTc (by simp); replace hu := hu.tch hTc (by simp); clear hTc)
    | (go_at_call 17; go_must (refine (get_of _ _ [97] [49] _ hr1 (by decide) (by decide) (fun w1 p1 c1 hT1 hq => (find_leaf bt bl _ p u _ (nibs [97]) [49] w1 (hT1.blk (hS.get .head) (by simp)) (hT1.blk hL (by simp)) (hp.tch hT1 (by simp)) (hu.tch hT1 (by simp)) hq).mono (fun e w' h => by obtain ⟨pu, cu, hs⟩ := hu.shape; subst hs; exact ⟨pu, cu, h.1, h.2, (hu.tch hT1 (by simp)).tch h.2 (by simp)⟩))).mono ?_; rintro e w8 ⟨hT, gp, gc, rfl, hg⟩; replace hS := hS.call hT; replace hL := hT.blk hL (by simp); replace hp := hp.tch hT (by simp); replace hu := hu.tch hT (by simp); clear hT hr1)))
  go_upto_region 8 with (first
    | (refine st_buildC #[(0, .int .u8 97)] rfl rfl (by simp only [List.map_toArray, List.map_cons, List.map_nil]; rfl) (buildU1 _) ?_; intro w9' hw9') | (refine st_constB (l := [97]) hS hw9' rfl rfl rfl rfl (by decide) ?_; clear hS hw9'; intro w9 b9 hS hr1 hTc; replace hL := hTc.blk hL (by simp); replace hp := hp.tch hTc (by simp); replace hu := hu.tch hTc (by simp); replace hg := hg.tch hTc (by simp); clear hTc)
    | (go_at_call 16; go_must (refine (put_gone bt bl _ _ _ p u [97] [] [49] _ (hS.get .head) hL hp hu (by decide) hr1 (hnil _) (by decide) rfl).mono ?_; rintro e w10 ⟨rfl, hT, hB⟩; have hg2 := (hg.off (hS.get .head) (tree_cells _ _ (by simp))).tch hT; replace hS := hS.on1 .head hT hB; replace hg := hg2.rdB; clear hT hB hr1 hg2 hL hp hu)))
  go_upto_region 9 with (first
    | (go_at_call 19; go_must (refine (commit_nil bt _ _ (hS.get .head)).mono ?_; rintro e w11 ⟨rfl, hT⟩; replace hS := hS.call hT; replace hg := hg.tch hT (by simp); clear hT))
    | (refine st_newT hS rfl 35 rfl word_zero ?_; clear hS; intro w12 b12 hS hTn hbn)
    | (refine st_storeO (b := b12) (c' := wf (hashN [128])) hS rfl 35 _ _ rfl rfl rfl .head word_size (wf_size _) (wf_size _) (wf_one _) ?_; clear hS; intro w13 hS hO; replace hg := hg.kept hTn hbn hO; clear hTn hbn hO))
  have HG := Lib.hid (fun (w' : World) (h : Tch [] w13 w') => hg.tch h (by simp))
  have HW := Lib.hid (fun (w' : World) (h : Tch [] w13 w') => h.blk (hS.get .head) (by simp))
  have HF := Lib.hid hS.frame
  clear hS hg kb kp kq hnil
  refine k_region (C := fun w' => Tch [] w13 w') (by kernel_rfl) (by kernel_rfl) ((Tch.refl _ _).drew) ?_
  refine k_intm rfl _ rfl rfl ?_; try simp only [Act.put, List.setIfInBounds_toArray, List.set_cons_zero, List.set_cons_succ]
  refine k_callC1 rfl rfl rfl Tryz.call18 (fun w' h => (num_any _ w').mono fun e w'' h2 => ⟨h2.1, h.trans h2.2⟩) ?_; try simp only [Act.put, List.setIfInBounds_toArray, List.set_cons_zero, List.set_cons_succ]
  refine k_ints rfl _ _ _ rfl rfl rfl rfl ?_; try simp only [Act.put, List.setIfInBounds_toArray, List.set_cons_zero, List.set_cons_succ]
  refine k_boolm rfl _ rfl rfl ?_; try simp only [Act.put, List.setIfInBounds_toArray, List.set_cons_zero, List.set_cons_succ]
  refine k_slice rfl _ rfl rfl ?_; try simp only [Act.put, List.setIfInBounds_toArray, List.set_cons_zero, List.set_cons_succ]
  refine k_conv (l := [49]) rfl _ rfl rfl (fun w' h => HG.out w' h) ?_; try simp only [Act.put, List.setIfInBounds_toArray, List.set_cons_zero, List.set_cons_succ]
  refine k_strS (s := oneS) rfl _ _ _ rfl rfl rfl ?_; try simp only [Act.put, List.setIfInBounds_toArray, List.set_cons_zero, List.set_cons_succ]
  refine k_pickT rfl _ _ _ rfl rfl rfl ?_; try simp only [Act.put, List.setIfInBounds_toArray, List.set_cons_zero, List.set_cons_succ]
  refine k_boolm rfl _ rfl rfl ?_; try simp only [Act.put, List.setIfInBounds_toArray, List.set_cons_zero, List.set_cons_succ]
  refine k_loadW (b := b12) rfl _ rfl rfl (fun w' h => HW.out w' h) (wf_size _) ?_; try simp only [Act.put, List.setIfInBounds_toArray, List.set_cons_zero, List.set_cons_succ]
  refine k_callC0 (v := .agg (wf (hashN [128]))) rfl rfl Tryz.call20 (fun w' h => (refEmpty_any w').mono fun e w'' h2 => ⟨h2.1, h.trans h2.2⟩) ?_; try simp only [Act.put, List.setIfInBounds_toArray, List.set_cons_zero, List.set_cons_succ]
  refine k_hash (l := [128]) rfl _ _ _ rfl rfl rfl ?_; try simp only [Act.put, List.setIfInBounds_toArray, List.set_cons_zero, List.set_cons_succ]
  refine k_pickT rfl _ _ _ rfl rfl rfl ?_; try simp only [Act.put, List.setIfInBounds_toArray, List.set_cons_zero, List.set_cons_succ]
  refine k_boolm rfl _ rfl rfl ?_; try simp only [Act.put, List.setIfInBounds_toArray, List.set_cons_zero, List.set_cons_succ]
  refine k_slice rfl _ rfl rfl ?_; try simp only [Act.put, List.setIfInBounds_toArray, List.set_cons_zero, List.set_cons_succ]
  refine k_lenN rfl _ rfl rfl ?_; try simp only [Act.put, List.setIfInBounds_toArray, List.set_cons_zero, List.set_cons_succ]
  refine k_ints rfl _ _ _ rfl rfl rfl rfl ?_; try simp only [Act.put, List.setIfInBounds_toArray, List.set_cons_zero, List.set_cons_succ]
  refine k_pickT rfl _ _ _ rfl rfl rfl ?_; try simp only [Act.put, List.setIfInBounds_toArray, List.set_cons_zero, List.set_cons_succ]
  refine k_boola rfl _ rfl rfl ?_; try simp only [Act.put, List.setIfInBounds_toArray, List.set_cons_zero, List.set_cons_succ]
  refine k_end ?_
  intro w14 hT14
  go_wp2
  go_ret
  exact ⟨rfl, HF.out.trans hT14⟩
end Go.Proofs.YthchmnhoombecaaGreat
