/- build, whole. -/
import Derived.Test.YtfdihphhmhgejaaM31
import Derived.Test.YtfdihphhmhgejaaM26
import Derived.Lib.SlBytesConst
set_option linter.unusedVariables false
set_option linter.unusedSimpArgs false
namespace Go.Proofs.Ytfdihphhmhgejaa
open Go.RowKit Tr

theorem lt_nil_right : ∀ a : List Nat, ¬ lt a []
  | [] => fun h => h
  | _ :: _ => fun h => h
theorem two_deep {D : Nat} {es : List En} (hs : Sorted (rests D es)) (h2 : 2 ≤ es.length) : ∃ e ∈ es, D < e.1.length := by
  match es, h2 with
  | e :: e2 :: l, _ =>
    refine ⟨e2, by simp, ?_⟩
    have h := (List.pairwise_cons.1 hs).1 (e2.1.drop D, e2.2) (by simp [rests])
    rcases Nat.lt_or_ge D e2.1.length with h3 | h3
    · exact h3
    · simp only [List.drop_eq_nil_of_le h3] at h
      exact absurd h (lt_nil_right _)
set_option maxHeartbeats 4000000 in
set_option maxRecDepth 100000 in
theorem build_br (T : TN) (v : Value) (es : List En) (D : Nat) (w : World) (hv : PairsAt w v es) (hg : GoodE D es) (h2 : 2 ≤ es.length) (e0 e1 : En) (he0 : e0 = es[0]'(by omega)) (he1 : e1 = es[es.length - 1]'(by omega))
    (hcp : cp (e0.1.drop D) (e1.1.drop D) = 0) (hfk : ∀ w', Tch [] w w' → Calls Try.prog 51 #[v, .int .i64 (D : Int)] w' (BuildPost T w')) :
    Calls Try.prog 33 #[v, .int .i64 (D : Int)] w (BuildPost T w) := by
  obtain ⟨p, c, rfl, hc, hcells⟩ := id hv
  obtain ⟨b, o, rfl, hbw, hcs⟩ := hcells (by intro e; subst e; simp at h2)
  obtain ⟨n, hnn⟩ : ∃ n, n = es.length := ⟨_, rfl⟩
  have hn2 : 2 ≤ n := by omega
  obtain ⟨kv, vv, g0, gx0, hkv, hvx0⟩ := hcs 0 (by omega)
  obtain ⟨kv1, vv1, g1, gx1, hkv1, hvx1⟩ := hcs (es.length - 1) (by omega)
  clear gx0 hvx0 gx1 hvx1
  rw [← he0] at hkv
  rw [← he1] at hkv1
  have hd0 := hg.dep e0 (by rw [he0]; exact List.getElem_mem _)
  have hd1 := hg.dep e1 (by rw [he1]; exact List.getElem_mem _)
  obtain ⟨p0, c0, hsl0, hfr0⟩ := from_rd hkv D hd0.1
  obtain ⟨p1, c1, hsl1, hfr1⟩ := from_rd hkv1 D hd1.1
  obtain ⟨q1, c2, rfl⟩ := hkv.shape'
  obtain ⟨q2, c3, rfl⟩ := hkv1.shape'
  rw [← hnn] at hc hv ⊢
  rw [← hnn] at g1
  have hm0 : cp (e0.1.drop D) (e1.1.drop D) = 0 := hcp
  clear hcp
  rw [← hnn] at hfk
  have HFK := Lib.hid hfk
  clear hfk
  have HC0 := Lib.hid (fun (w' : World) (hT : Tch [] w w') => (hT.cell (p := ⟨b, o + 0 * 2, none⟩) hbw (by simp)).trans g0)
  have HC1 := Lib.hid (fun (w' : World) (hT : Tch [] w w') => (hT.cell (p := ⟨b, o + (n - 1) * 2, none⟩) hbw (by simp)).trans g1)
  have HS0 := Lib.hid hsl0
  have HS1 := Lib.hid hsl1
  have HJ := Lib.hid (And.intro (show 0 < n by omega) (show n - 1 < n by omega))
  have HW := Lib.hid (show IntKind.i64.wrap ((n : Int) - 1) = ((n - 1 : Nat) : Int) by have := hg.len; rw [IntWalk.i64_in _ (by omega)]; omega)
  have HCM := Lib.hid (fun (w' : World) (hT : Tch [] w w') => common_any _ _ (e0.1.drop D) (e1.1.drop D) w' (by rw [List.length_drop]; omega) (by rw [List.length_drop]; omega) (hfr0.tch hT (by simp)).rdA0 (hfr1.tch hT (by simp)).rdA0)
  obtain ⟨m, hm⟩ : ∃ m, m = cp (e0.1.drop D) (e1.1.drop D) := ⟨_, rfl⟩
  have hm00 : m = 0 := hm.trans hm0
  clear hm0
  simp only [lcp_cp, ← hm] at HCM
  have d1 : ((n : Int) == 0) = false := beq_eq_false_iff_ne.2 (by omega)
  have d2 : ((n : Int) == 1) = false := beq_eq_false_iff_ne.2 (by omega)
  have hpi : ¬ (0 : Int) < (m : Int) := by omega
  have HNN := Lib.hid hnn
  clear hcells hcs g0 g1 hkv hkv1 hfr0 hfr1 hsl0 hsl1 hm he0 he1 hd0 hd1 hg hv hnn h2
  go_enter Try.func33, Try.ntmps33
  go_upto_region 6 with fail
  refine k_region (C := fun w' => Tch [] w w') (by kernel_rfl) (by kernel_rfl) ((Tch.refl _ _).drew) ?_
  refine k_slice rfl _ rfl rfl ?_; try simp only [Act.put, List.setIfInBounds_toArray, List.set_cons_zero, List.set_cons_succ]
  refine k_idxE (j := 0) rfl _ _ rfl rfl (by rfl) HJ.out.1 ?_; try simp only [Act.put, List.setIfInBounds_toArray, List.set_cons_zero, List.set_cons_succ]
  refine k_fa rfl _ _ _ rfl rfl (fa_ent0 _ _) ?_; try simp only [Act.put, List.setIfInBounds_toArray, List.set_cons_zero, List.set_cons_succ]
  refine k_cellC rfl _ _ rfl rfl (fun w' h => HC0.out w' h) bytes_agg ?_; try simp only [Act.put, List.setIfInBounds_toArray, List.set_cons_zero, List.set_cons_succ]
  refine k_intm rfl _ rfl rfl ?_; try simp only [Act.put, List.setIfInBounds_toArray, List.set_cons_zero, List.set_cons_succ]
  refine k_fromS rfl _ _ _ rfl rfl rfl HS0.out ?_; try simp only [Act.put, List.setIfInBounds_toArray, List.set_cons_zero, List.set_cons_succ]
  refine k_slice rfl _ rfl rfl ?_; try simp only [Act.put, List.setIfInBounds_toArray, List.set_cons_zero, List.set_cons_succ]
  refine k_slice rfl _ rfl rfl ?_; try simp only [Act.put, List.setIfInBounds_toArray, List.set_cons_zero, List.set_cons_succ]
  refine k_lenE rfl _ rfl rfl ?_; try simp only [Act.put, List.setIfInBounds_toArray, List.set_cons_zero, List.set_cons_succ]
  refine k_sub (s := ((n - 1 : Nat) : Int)) rfl _ _ _ _ rfl rfl rfl HW.out ?_; try simp only [Act.put, List.setIfInBounds_toArray, List.set_cons_zero, List.set_cons_succ]
  refine k_idxE (j := n - 1) rfl _ _ rfl rfl rfl HJ.out.2 ?_; try simp only [Act.put, List.setIfInBounds_toArray, List.set_cons_zero, List.set_cons_succ]
  refine k_fa rfl _ _ _ rfl rfl (fa_ent0 _ _) ?_; try simp only [Act.put, List.setIfInBounds_toArray, List.set_cons_zero, List.set_cons_succ]
  refine k_cellC rfl _ _ rfl rfl (fun w' h => HC1.out w' h) bytes_agg ?_; try simp only [Act.put, List.setIfInBounds_toArray, List.set_cons_zero, List.set_cons_succ]
  refine k_intm rfl _ rfl rfl ?_; try simp only [Act.put, List.setIfInBounds_toArray, List.set_cons_zero, List.set_cons_succ]
  refine k_fromS rfl _ _ _ rfl rfl rfl HS1.out ?_; try simp only [Act.put, List.setIfInBounds_toArray, List.set_cons_zero, List.set_cons_succ]
  refine k_val (v := .slice p0 (e0.1.length - D) c0) rfl _ (.inr rfl) rfl ?_; try simp only [Act.put, List.setIfInBounds_toArray, List.set_cons_zero, List.set_cons_succ]
  refine k_val (v := .slice p1 (e1.1.length - D) c1) rfl _ (.inr rfl) rfl ?_; try simp only [Act.put, List.setIfInBounds_toArray, List.set_cons_zero, List.set_cons_succ]
  refine k_end ?_
  intro w1 hT1
  go_upto_region 10 with (go_at_call 50; refine (HCM.out _ hT1).mono ?_; rintro e w2 ⟨rfl, hT2⟩; replace hT1 := hT1.trans hT2; clear hT2)
  clear HCM HC0 HC1 HS0 HS1 HJ HW
  go_wp2_with (go_at_call 51; refine (HFK.out _ hT1).mono ?_; rintro e w3 ⟨hT3, u, rfl, hTV⟩; have hfin : BuildPost T w (.returned u) w3 := ⟨hT1.trans hT3, u, rfl, hTV.low hT1.size⟩; clear hT3 hTV)
  go_ret
  exact hfin
theorem rests_last {D : Nat} {e e2 : En} {l : List En} : ((rests D (e2 :: l)).getLast (by simp [rests])).1 = ((e :: e2 :: l)[(e :: e2 :: l).length - 1]'(by simp)).1.drop D := by
  simp only [rests, List.getLast_map]
  rw [List.getLast_eq_getElem]
  simp
theorem build_all : ∀ f, BuildOK f
  | 0 => fun v es D w hv hg hD hlo => by omega
  | f + 1 => fun v es D w hv hg hD hlo => by
    have ih := build_all f
    match es, hv, hg, hlo with
    | [], hv, hg, hlo =>
      obtain ⟨p, c, rfl, _, _⟩ := hv
      refine (build_none p c (D : Int) w).mono ?_
      rintro e w' ⟨rfl, rfl⟩
      exact ⟨Tch.refl _ _, _, rfl, rfl⟩
    | [e], hv, hg, hlo => exact build_one v e D w hv (hg.dep e (by simp)).1 hD
    | e :: e2 :: l, hv, hg, hlo =>
      have h2 : 2 ≤ (e :: e2 :: l).length := by simp
      obtain ⟨x, hx, hxD⟩ := two_deep hg.srt h2
      have hx128 := (hg.dep x hx).2.1
      have hc := cp_last (e := (e.1.drop D, e.2)) (e2 := (e2.1.drop D, e2.2)) (l := rests D l) hg.srt
      have hf : 0 < f := by
        have := longest_le.1 (Nat.le_of_lt_succ hlo) (x.1.drop D, x.2) (List.mem_map.2 ⟨x, hx, rfl⟩)
        simp only [List.length_drop] at this
        omega
      have hl : (((e2.1.drop D, e2.2) :: rests D l).getLast (by simp)).1 = ((e :: e2 :: l)[(e :: e2 :: l).length - 1]'(by simp)).1.drop D := rests_last
      have hT : buildT (f + 1) (rests D (e :: e2 :: l)) = if 0 < cp (e.1.drop D) (((e :: e2 :: l)[(e :: e2 :: l).length - 1]'(by simp)).1.drop D) then .ext ((e.1.drop D).take (cp (e.1.drop D) (((e :: e2 :: l)[(e :: e2 :: l).length - 1]'(by simp)).1.drop D))) (buildT f (rests (cp (e.1.drop D) (((e :: e2 :: l)[(e :: e2 :: l).length - 1]'(by simp)).1.drop D)) (rests D (e :: e2 :: l)))) else .branch (fun d => buildT f (rests 1 (heads d (rests D (e :: e2 :: l))))) (if e.1.drop D = [] then e.2 else []) := by
        rw [← hl]
        rfl
      rw [hT]
      by_cases hn : 0 < cp (e.1.drop D) (((e :: e2 :: l)[(e :: e2 :: l).length - 1]'(by simp)).1.drop D)
      · rw [if_pos hn]
        have hsh : Share (rests D (e :: e2 :: l)) (cp (e.1.drop D) (((e :: e2 :: l)[(e :: e2 :: l).length - 1]'(by simp)).1.drop D)) := by
          rw [← hl, hc]
          exact share_iff.1 (Nat.le_refl _)
        exact build_ext f ih v _ D w hv hg h2 e _ rfl rfl hn hsh hlo
      · rw [if_neg hn]
        refine build_br _ v _ D w hv hg h2 e _ rfl rfl (by omega) fun w' hw' => ?_
        rcases Nat.lt_or_ge D e.1.length with h3 | h3
        · rw [if_neg (fun q => by have := congrArg List.length q; simp only [List.length_drop, List.length_nil] at this; omega)]
          exact fork_no f ih hf v _ D w' (hv.tch hw') hg (by omega) e rfl (by omega) hlo h3
        · rw [if_pos (List.drop_eq_nil_of_le h3)]
          have := (hg.dep e (by simp)).1
          exact fork_yes f ih hf v _ D w' (hv.tch hw') hg (by omega) e rfl (by omega) hlo (by omega)
end Go.Proofs.Ytfdihphhmhgejaa

/- A tree of no pair or of one: what is taken back, what is too long; Get, Commit. -/
namespace Go.Proofs.Ytfdihphhmhgejaa
open Go.RowKit

end Go.Proofs.Ytfdihphhmhgejaa

/- The example that the laws of nodes begin with. -/
namespace Go.Proofs.Ytfdihphhmhgejaa
open Go.RowKit

section
variable {ops : Array Oper} {rest : List Oper} {o : Oper} {a : Act} {bs : List Nat} {w0 w w1 : World} {Q : Exit → Act → World → Prop} {L : List Ent}
/-- A slice is built; the world behind it is told outright. -/
theorem st_buildC {n : Nat} {ty t : TypeId} {c : Array Value} {parts : Array (Nat × Operand)} (vals : Array (Nat × Value)) (hgd : o.guard = none) (ho : o.op = .buildSlice ty n parts)
    (hv : (parts.map fun (i, x) => (i, a.eval x)) = vals) (hr : ∀ w : World, (Instr.buildSlice ty n vals).run Try.prog w = .ok (.slice (some ⟨w.heap.size, 0, none⟩) n n) (w.alloc (.cells c t)))
    (h : ∀ w', w' = w.alloc (.cells c t) → wpList Try.prog ops Q rest (a.put o.dst (.slice (some ⟨w.heap.size, 0, none⟩) n n)) w') : wpList Try.prog ops Q (o :: rest) a w :=
  wpList_plain hgd fun K hK => by
    subst hv
    have hr2 := hr w
    unfold Oper.wp execOp
    simp only [ho, Sem.run_bind, hr2, Result.andThen_ok, Sem.run_pure]
    exact hK _ _ (h _ rfl)
/-- []byte of a constant. -/
theorem st_constB {C : Array Value} {x : Operand} {l : List Nat} (hS : St bs w0 w L) (hw : w1 = w.alloc (.cells C 5)) (hgd : o.guard = none) (ho : o.op = .convert 22 22 x) (hx : a.eval x = .slice (some ⟨w.heap.size, 0, none⟩) l.length l.length)
    (hC : C = (nb l).toArray) (hl : ∀ x ∈ l, x < 256)
    (h : ∀ w' b, St bs w0 w' L → RdB w' (.slice (some ⟨b, 0, none⟩) l.length l.length) l → Tch [] w w' → wpList Try.prog ops Q rest (a.put o.dst (.slice (some ⟨b, 0, none⟩) l.length l.length)) w') : wpList Try.prog ops Q (o :: rest) a w1 :=
  wpList_plain hgd fun K hK => by
    subst hw
    have hr := Lib.run_convert_bytes_const (P := Try.prog) w 22 5 C l.length l.length bytes_ty byte_ty
    unfold Oper.wp execOp
    simp only [ho, hx, Sem.run_bind, hr, Result.andThen_ok, Sem.run_pure]
    refine hK _ _ (h _ _ (hS.alloc _) ?_ ((Tch.refl _ _).alloc _))
    have hb : (w.alloc (.cells C 5 (C.size, C.size + 1))).heap[w.heap.size]? = some (.cells C 5 (C.size, C.size + 1)) := Go.heap_alloc_new w _
    refine ⟨_, _, rfl, Nat.le_refl _, hl, fun _ => ⟨_, _, rfl, (Array.getElem?_eq_some_iff.1 hb).1, fun i hi => ?_⟩⟩
    rw [Nat.zero_add, Lib.cell_of_heap hb, hC, List.getElem?_toArray]
    exact nb_get hi
end
section
variable {P : Program} {ops : Array Oper} {rest : List Oper} {o : Oper} {a : Act} {bs : List Nat} {w0 w : World} {Q : Exit → Act → World → Prop} {L L' : List Ent} {b : Nat} {t : TypeId} {c c' : Array Value}
theorem st_newT (hS : St bs w0 w L) (hgd : o.guard = none) (ty : TypeId) (ho : o.op = .alloc ty) (hz : (P.info? ty).bind (·.zero) = some (.agg c))
    (h : ∀ w' b, St bs w0 w' ((b, ty, c) :: L) → Tch [] w w' → w.heap.size ≤ b → wpList P ops Q rest (a.put o.dst (.pointer (some ⟨b, 0, none⟩))) w') : wpList P ops Q (o :: rest) a w :=
  wpList_plain hgd fun K hK => by
    have hr : (Instr.alloc ty true (.tuple #[])).run P w = .ok (.pointer (some ⟨w.heap.size, 0, none⟩)) (w.alloc (.cells c ty)) := by
      cases hq : P.info? ty with
      | none => simp [hq] at hz
      | some i =>
        have hz' : i.zero = some (.agg c) := by simpa [hq] using hz
        simp [Instr.alloc, zeroValue, typeInfo, hq, hz', newVar, newRow, Value.cells]
    unfold Oper.wp execOp
    simp only [ho, Sem.run_bind, hr, Result.andThen_ok, Sem.run_pure]
    exact hK _ _ (h _ _ (hS.new ty c) ((Tch.refl _ _).alloc _) (Nat.le_refl _))
theorem st_storeO (hS : St bs w0 w L) (hgd : o.guard = none) (ty : TypeId) (x y : Operand) (ho : o.op = .store ty x y) (hx : a.eval x = .pointer (some ⟨b, 0, none⟩)) (hy : a.eval y = .agg c') (m : Upd L b t c c' L')
    {n : Nat} (hi : (P.info? ty).map (·.size) = some n) (hn : c.size = n) (hn' : c'.size = n) (h1 : c'.all (·.oneCell') = true)
    (h : ∀ w', St bs w0 w' L' → Only b w w' → wpList P ops Q rest (a.put o.dst undef) w') : wpList P ops Q (o :: rest) a w :=
  arm_store hgd ty x y ho hx hy ((hS.get m.at_).store hi hn hn' h1) (h _ (hS.upd m (Only.setRow _ _ _) ((hS.get m.at_).row _)) (Only.setRow _ _ _))
end
theorem RdB.kept {w w1 w2 : World} {b : Nat} {v : Value} {l : List Nat} (h : RdB w v l) (hT : Tch [] w w1) (hb : w.heap.size ≤ b) (hO : Only b w1 w2) : RdB w2 v l := h.tch (bs := []) (hT.only hO (.inl hb)) (by simp)
theorem St.callNew' {bs : List Nat} {w0 w w' : World} {L : List Ent} {b : Nat} {t : TypeId} {c : Array Value} (h : St bs w0 w L) (hb : Tch [] w w') (hle : w.heap.size ≤ b) (hB : Blk w' b t c) : St bs w0 w' ((b, t, c) :: L) := h.callNew hb hB hle
def oneS : ByteArray := strB [49]
section
variable {o : Oper} {a : Act} {ops : Array Oper} {rest : List Oper} {C : World → Prop} {Q : Act → Prop}
theorem k_hash {l : List Nat} (hw : Region.wanted o (yielded ops a.tmps) = true) (xo yo : Operand) (yt : TypeId) (ho : o.op = .binOp .eql 33 xo yo yt) (hxe : a.eval xo = .agg (wf (hashN l))) (hye : a.eval yo = .agg (wf (hashN l))) (h : KQ ops C Q rest (a.put o.dst (.bool true))) : KQ ops C Q (o :: rest) a :=
  k_pure hw (fun w => x_hash xo yo yt ho hxe hye) h
theorem k_loadW {b : Nat} {t : TypeId} {c : Array Value} (hw : Region.wanted o (yielded ops a.tmps) = true) (xo : Operand) (ho : o.op = .load 33 xo) (hx : a.eval xo = .pointer (some ⟨b, 0, none⟩)) (hB : ∀ w, C w → Blk w b t c) (hn : c.size = 32)
    (h : KQ ops C Q rest (a.put o.dst (.agg c))) : KQ ops C Q (o :: rest) a :=
  k_in hw (fun w hC => x_load _ xo ho hx (hB w hC) word_type word_size hn) h
theorem k_callC0 {v : Value} {f : FuncId} {ts : Array TypeId} (hw : Region.wanted o (yielded ops a.tmps) = true) (ho : o.op = .call { callee := .value (.func f), args := #[], argTypes := ts })
    (hf : ∀ args w, (callFunc f args).run Try.prog w = .ok (.enter f args) w) (hc : ∀ w, C w → Calls Try.prog f #[] w fun e w' => e = .returned v ∧ C w') (h : KQ ops C Q rest (a.put o.dst v)) : KQ ops C Q (o :: rest) a :=
  k_callC hw ho (by simp) hf hc h
end
theorem nodes_ty : Try.prog.underlying 44 = some (.slice 64) := by kernel_rfl
theorem k_lenN {o : Oper} {a : Act} {ops : Array Oper} {rest : List Oper} {C : World → Prop} {Q : Act → Prop} {p : Option Addr} {n c : Nat} (hw : Region.wanted o (yielded ops a.tmps) = true) (x : Operand) (ho : o.op = .call { callee := .builtin .len, args := #[x], argTypes := #[44] }) (hx : a.eval x = .slice p n c)
    (h : KQ ops C Q rest (a.put o.dst (.int .i64 (n : Int)))) : KQ ops C Q (o :: rest) a :=
  k_pure hw (fun w => by unfold execOp; simp [ho, resolve, invoke, builtin, hx, Builtin.len_, run_underlying nodes_ty, goInt]) h
end Go.Proofs.Ytfdihphhmhgejaa
