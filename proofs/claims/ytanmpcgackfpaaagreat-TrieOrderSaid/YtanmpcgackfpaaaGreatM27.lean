/- build, whole. -/
import Derived.Test.YtanmpcgackfpaaaGreatM01
import Derived.Test.YtanmpcgackfpaaaGreatM10
import Derived.Test.YtanmpcgackfpaaaGreatM21
import Derived.Test.YtanmpcgackfpaaaGreatM26
import Derived.Lib.SlBytesConst
set_option linter.unusedVariables false
set_option linter.unusedSimpArgs false
namespace Go.Proofs.YtanmpcgackfpaaaGreat
section
open Go.RowKit Tr
theorem lt_nil_right : ∀ a : List Nat, ¬ lt a []
  | [] => fun h => h
  | _ :: _ => fun h => h
theorem two_deep {D : Nat} {es : List En} (hs : Sorted (rests D es)) (h2 : 2 ≤ es.length) : ∃ e ∈ es, D < e.1.length := by
  match es, h2 with
  | e :: e2 :: l, _ =>
    refine ⟨e2, by simp, ?_⟩
    have h := (List.pairwise_cons.1 hs).1 (e2.1.drop D, e2.2) (by simp [rests])
    rcases Nat.lt_or_ge D e2.1.length with h3 | h3
    · exact h3
    · simp only [List.drop_eq_nil_of_le h3] at h
      exact absurd h (lt_nil_right _)
set_option maxHeartbeats 4000000 in
set_option maxRecDepth 100000 in
theorem build_br (T : TN) (v : Value) (es : List En) (D : Nat) (w : World) (hv : PairsAt w v es) (hg : GoodE D es) (h2 : 2 ≤ es.length) (e0 e1 : En) (he0 : e0 = es[0]'(by omega)) (he1 : e1 = es[es.length - 1]'(by omega))
    (hcp : cp (e0.1.drop D) (e1.1.drop D) = 0) (hfk : ∀ w', Tch [] w w' → Calls Tryz.prog 79 #[v, .int .i64 (D : Int)] w' (BuildPost T w')) :
    Calls Tryz.prog 46 #[v, .int .i64 (D : Int)] w (BuildPost T w) := by
  obtain ⟨p, c, rfl, hc, hcells⟩ := id hv
  obtain ⟨b, o, rfl, hbw, hcs⟩ := hcells (by intro e; subst e; simp at h2)
  obtain ⟨n, hnn⟩ : ∃ n, n = es.length := ⟨_, rfl⟩
  have hn2 : 2 ≤ n := by omega
  obtain ⟨kv, vv, g0, gx0, hkv, hvx0⟩ := hcs 0 (by omega)
  obtain ⟨kv1, vv1, g1, gx1, hkv1, hvx1⟩ := hcs (es.length - 1) (by omega)
  clear gx0 hvx0 gx1 hvx1
  rw [← he0] at hkv
  rw [← he1] at hkv1
  have hd0 := hg.dep e0 (by rw [he0]; exact List.getElem_mem _)
  have hd1 := hg.dep e1 (by rw [he1]; exact List.getElem_mem _)
  obtain ⟨p0, c0, hsl0, hfr0⟩ := from_rd hkv D hd0.1
  obtain ⟨p1, c1, hsl1, hfr1⟩ := from_rd hkv1 D hd1.1
  obtain ⟨q1, c2, rfl⟩ := hkv.shape'
  obtain ⟨q2, c3, rfl⟩ := hkv1.shape'
  rw [← hnn] at hc hv ⊢
  rw [← hnn] at g1
  have hm0 : cp (e0.1.drop D) (e1.1.drop D) = 0 := hcp
  clear hcp
  rw [← hnn] at hfk
  have HFK := hQz hfk
  clear hfk
  have HC0 := hQz (fun (w' : World) (hT : Tch [] w w') => (hT.cell (p := ⟨b, o + 0 * 2, none⟩) hbw (by simp)).trans g0)
  have HC1 := hQz (fun (w' : World) (hT : Tch [] w w') => (hT.cell (p := ⟨b, o + (n - 1) * 2, none⟩) hbw (by simp)).trans g1)
  have HS0 := hQz hsl0
  have HS1 := hQz hsl1
  have HJ := hQz (And.intro (show 0 < n by omega) (show n - 1 < n by omega))
  have HW := hQz (show IntKind.i64.wrap ((n : Int) - 1) = ((n - 1 : Nat) : Int) by have := hg.len; rw [IntWalk.i64_in _ (by omega)]; omega)
  have HCM := hQz (fun (w' : World) (hT : Tch [] w w') => common_any _ _ (e0.1.drop D) (e1.1.drop D) w' (by rw [List.length_drop]; omega) (by rw [List.length_drop]; omega) (hfr0.tch hT (by simp)).rdA0 (hfr1.tch hT (by simp)).rdA0)
  obtain ⟨m, hm⟩ : ∃ m, m = cp (e0.1.drop D) (e1.1.drop D) := ⟨_, rfl⟩
  have hm00 : m = 0 := hm.trans hm0
  clear hm0
  simp only [lcp_cp, ← hm] at HCM
  have d1 : ((n : Int) == 0) = false := beq_eq_false_iff_ne.2 (by omega)
  have d2 : ((n : Int) == 1) = false := beq_eq_false_iff_ne.2 (by omega)
  have hpi : ¬ (0 : Int) < (m : Int) := by omega
  have HNN := hQz hnn
  clear hcells hcs g0 g1 hkv hkv1 hfr0 hfr1 hsl0 hsl1 hm he0 he1 hd0 hd1 hg hv hnn h2
  go_enter Tryz.func46, Tryz.ntmps46
  go_upto_region 6 with fail
  refine qb7 (C := fun w' => Tch [] w w') (by kernel_rfl) (by kernel_rfl) ((Tch.refl _ _).drew) ?_
  refine qb0 rfl _ rfl rfl ?_; try simp only [Act.put, ppA, ppB, ppC]
  refine k_idxE (j := 0) rfl _ _ rfl rfl (by rfl) HJ.out.1 ?_; try simp only [Act.put, ppA, ppB, ppC]
  refine k_fa rfl _ _ _ rfl rfl (fa_ent0 _ _) ?_; try simp only [Act.put, ppA, ppB, ppC]
  refine qc2 rfl _ _ rfl rfl (fun w' h => HC0.out w' h) qa9 ?_; try simp only [Act.put, ppA, ppB, ppC]
  refine qb8 rfl _ rfl rfl ?_; try simp only [Act.put, ppA, ppB, ppC]
  refine k_fromS rfl _ _ _ rfl rfl rfl HS0.out ?_; try simp only [Act.put, ppA, ppB, ppC]
  refine qb0 rfl _ rfl rfl ?_; try simp only [Act.put, ppA, ppB, ppC]
  refine qb0 rfl _ rfl rfl ?_; try simp only [Act.put, ppA, ppB, ppC]
  refine k_lenE rfl _ rfl rfl ?_; try simp only [Act.put, ppA, ppB, ppC]
  refine k_sub (s := ((n - 1 : Nat) : Int)) rfl _ _ _ _ rfl rfl rfl HW.out ?_; try simp only [Act.put, ppA, ppB, ppC]
  refine k_idxE (j := n - 1) rfl _ _ rfl rfl rfl HJ.out.2 ?_; try simp only [Act.put, ppA, ppB, ppC]
  refine k_fa rfl _ _ _ rfl rfl (fa_ent0 _ _) ?_; try simp only [Act.put, ppA, ppB, ppC]
  refine qc2 rfl _ _ rfl rfl (fun w' h => HC1.out w' h) qa9 ?_; try simp only [Act.put, ppA, ppB, ppC]
  refine qb8 rfl _ rfl rfl ?_; try simp only [Act.put, ppA, ppB, ppC]
  refine k_fromS rfl _ _ _ rfl rfl rfl HS1.out ?_; try simp only [Act.put, ppA, ppB, ppC]
  refine qh3 (v := .slice p0 (e0.1.length - D) c0) rfl _ (.inr rfl) rfl ?_; try simp only [Act.put, ppA, ppB, ppC]
  refine qh3 (v := .slice p1 (e1.1.length - D) c1) rfl _ (.inr rfl) rfl ?_; try simp only [Act.put, ppA, ppB, ppC]
  refine qc8 ?_
  intro w1 hT1
  go_upto_region 10 with (go_at_call 78; refine (HCM.out _ hT1).mono ?_; rintro e w2 ⟨rfl, hT2⟩; replace hT1 := hT1.trans hT2; clear hT2)
  clear HCM HC0 HC1 HS0 HS1 HJ HW
  go_wp2_with (go_at_call 79; refine (HFK.out _ hT1).mono ?_; rintro e w3 ⟨hT3, u, rfl, hTV⟩; have hfin : BuildPost T w (.returned u) w3 := ⟨hT1.trans hT3, u, rfl, hTV.low hT1.size⟩; clear hT3 hTV)
  go_ret
  exact hfin
theorem rests_last {D : Nat} {e e2 : En} {l : List En} : ((rests D (e2 :: l)).getLast (by simp [rests])).1 = ((e :: e2 :: l)[(e :: e2 :: l).length - 1]'(by simp)).1.drop D := by
  simp only [rests, List.getLast_map]
  rw [List.getLast_eq_getElem]
  simp
theorem build_all : ∀ f, BuildOK f
  | 0 => fun v es D w hv hg hD hlo => by omega
  | f + 1 => fun v es D w hv hg hD hlo => by
    have ih := build_all f
    match es, hv, hg, hlo with
    | [], hv, hg, hlo =>
      obtain ⟨p, c, rfl, _, _⟩ := hv
      refine (build_none p c (D : Int) w).mono ?_
      rintro e w' ⟨rfl, rfl⟩
      exact ⟨Tch.refl _ _, _, rfl, rfl⟩
    | [e], hv, hg, hlo => exact build_one v e D w hv (hg.dep e (by simp)).1 hD
    | e :: e2 :: l, hv, hg, hlo =>
      have h2 : 2 ≤ (e :: e2 :: l).length := by simp
      obtain ⟨x, hx, hxD⟩ := two_deep hg.srt h2
      have hx128 := (hg.dep x hx).2.1
      have hc := cp_last (e := (e.1.drop D, e.2)) (e2 := (e2.1.drop D, e2.2)) (l := rests D l) hg.srt
      have hf : 0 < f := by
        have := qd2.1 (Nat.le_of_lt_succ hlo) (x.1.drop D, x.2) (List.mem_map.2 ⟨x, hx, rfl⟩)
        simp only [List.length_drop] at this
        omega
      have hl : (((e2.1.drop D, e2.2) :: rests D l).getLast (by simp)).1 = ((e :: e2 :: l)[(e :: e2 :: l).length - 1]'(by simp)).1.drop D := rests_last
      have hT : buildT (f + 1) (rests D (e :: e2 :: l)) = if 0 < cp (e.1.drop D) (((e :: e2 :: l)[(e :: e2 :: l).length - 1]'(by simp)).1.drop D) then .ext ((e.1.drop D).take (cp (e.1.drop D) (((e :: e2 :: l)[(e :: e2 :: l).length - 1]'(by simp)).1.drop D))) (buildT f (rests (cp (e.1.drop D) (((e :: e2 :: l)[(e :: e2 :: l).length - 1]'(by simp)).1.drop D)) (rests D (e :: e2 :: l)))) else .branch (fun d => buildT f (rests 1 (heads d (rests D (e :: e2 :: l))))) (if e.1.drop D = [] then e.2 else []) := by
        rw [← hl]
        rfl
      rw [hT]
      by_cases hn : 0 < cp (e.1.drop D) (((e :: e2 :: l)[(e :: e2 :: l).length - 1]'(by simp)).1.drop D)
      · rw [if_pos hn]
        have hsh : Share (rests D (e :: e2 :: l)) (cp (e.1.drop D) (((e :: e2 :: l)[(e :: e2 :: l).length - 1]'(by simp)).1.drop D)) := by
          rw [← hl, hc]
          exact qg3.1 (Nat.le_refl _)
        exact build_ext f ih v _ D w hv hg h2 e _ rfl rfl hn hsh hlo
      · rw [if_neg hn]
        refine build_br _ v _ D w hv hg h2 e _ rfl rfl (by omega) fun w' hw' => ?_
        rcases Nat.lt_or_ge D e.1.length with h3 | h3
        · rw [if_neg (fun q => by have := congrArg List.length q; simp only [List.length_drop, List.length_nil] at this; omega)]
          exact fork_no f ih hf v _ D w' (hv.tch hw') hg (by omega) e rfl (by omega) hlo h3
        · rw [if_pos (List.drop_eq_nil_of_le h3)]
          have := (hg.dep e (by simp)).1
          exact fork_yes f ih hf v _ D w' (hv.tch hw') hg (by omega) e rfl (by omega) hlo (by omega)
end
section
open Go.RowKit
section
variable {ops : Array Oper} {rest : List Oper} {o : Oper} {a : Act} {bs : List Nat} {w0 w w1 : World} {Q : Exit → Act → World → Prop} {L : List Ent}
theorem st_buildC {n : Nat} {ty t : TypeId} {c : Array Value} {parts : Array (Nat × Operand)} (vals : Array (Nat × Value)) (hgd : o.guard = none) (ho : o.op = .buildSlice ty n parts)
    (hv : (parts.map fun (i, x) => (i, a.eval x)) = vals) (hr : ∀ w : World, (Instr.buildSlice ty n vals).run Tryz.prog w = .ok (.slice (some ⟨w.heap.size, 0, none⟩) n n) (w.alloc (.cells c t)))
    (h : ∀ w', w' = w.alloc (.cells c t) → wpList Tryz.prog ops Q rest (a.put o.dst (.slice (some ⟨w.heap.size, 0, none⟩) n n)) w') : wpList Tryz.prog ops Q (o :: rest) a w :=
  wpList_plain hgd fun K hK => by
    subst hv
    have hr2 := hr w
    unfold Oper.wp execOp
    simp only [ho, Sem.run_bind, hr2, Result.andThen_ok, Sem.run_pure]
    exact hK _ _ (h _ rfl)
end
section
variable {P : Program} {ops : Array Oper} {rest : List Oper} {o : Oper} {a : Act} {bs : List Nat} {w0 w : World} {Q : Exit → Act → World → Prop} {L L' : List Ent} {b : Nat} {t : TypeId} {c c' : Array Value}
theorem qi4 (hS : St bs w0 w L) (hgd : o.guard = none) (ty : TypeId) (ho : o.op = .alloc ty) (hz : (P.info? ty).bind (·.zero) = some (.agg c))
    (h : ∀ w' b, St bs w0 w' ((b, ty, c) :: L) → Tch [] w w' → w.heap.size ≤ b → wpList P ops Q rest (a.put o.dst (.pointer (some ⟨b, 0, none⟩))) w') : wpList P ops Q (o :: rest) a w :=
  wpList_plain hgd fun K hK => by
    have hr : (Instr.alloc ty true (.tuple #[])).run P w = .ok (.pointer (some ⟨w.heap.size, 0, none⟩)) (w.alloc (.cells c ty)) := by
      cases hq : P.info? ty with
      | none => simp [hq] at hz
      | some i =>
        have hz' : i.zero = some (.agg c) := by simpa [hq] using hz
        simp [Instr.alloc, zeroValue, typeInfo, hq, hz', newVar, newRow, Value.cells]
    unfold Oper.wp execOp
    simp only [ho, Sem.run_bind, hr, Result.andThen_ok, Sem.run_pure]
    exact hK _ _ (h _ _ (hS.new ty c) ((Tch.refl _ _).alloc _) (Nat.le_refl _))
theorem qd1 (hS : St bs w0 w L) (hgd : o.guard = none) (ty : TypeId) (x y : Operand) (ho : o.op = .store ty x y) (hx : a.eval x = .pointer (some ⟨b, 0, none⟩)) (hy : a.eval y = .agg c') (m : Upd L b t c c' L')
    {n : Nat} (hi : (P.info? ty).map (·.size) = some n) (hn : c.size = n) (hn' : c'.size = n) (h1 : c'.all (·.oneCell') = true)
    (h : ∀ w', St bs w0 w' L' → Only b w w' → wpList P ops Q rest (a.put o.dst undef) w') : wpList P ops Q (o :: rest) a w :=
  arm_store hgd ty x y ho hx hy ((hS.get m.at_).store hi hn hn' h1) (h _ (hS.upd m (Only.setRow _ _ _) ((hS.get m.at_).row _)) (Only.setRow _ _ _))
end
theorem RdB.kept {w w1 w2 : World} {b : Nat} {v : Value} {l : List Nat} (h : RdB w v l) (hT : Tch [] w w1) (hb : w.heap.size ≤ b) (hO : Only b w1 w2) : RdB w2 v l := h.tch (bs := []) (hT.only hO (.inl hb)) (by simp)
section
variable {o : Oper} {a : Act} {ops : Array Oper} {rest : List Oper} {C : World → Prop} {Q : Act → Prop}
theorem k_hash {l : List Nat} (hw : Region.wanted o (yielded ops a.tmps) = true) (xo yo : Operand) (yt : TypeId) (ho : o.op = .binOp .eql 32 xo yo yt) (hxe : a.eval xo = .agg (wf (hashN l))) (hye : a.eval yo = .agg (wf (hashN l))) (h : KQ ops C Q rest (a.put o.dst (.bool true))) : KQ ops C Q (o :: rest) a :=
  qd6 hw (fun w => x_hash xo yo yt ho hxe hye) h
theorem k_loadW {b : Nat} {t : TypeId} {c : Array Value} (hw : Region.wanted o (yielded ops a.tmps) = true) (xo : Operand) (ho : o.op = .load 32 xo) (hx : a.eval xo = .pointer (some ⟨b, 0, none⟩)) (hB : ∀ w, C w → Blk w b t c) (hn : c.size = 32)
    (h : KQ ops C Q rest (a.put o.dst (.agg c))) : KQ ops C Q (o :: rest) a :=
  k_in hw (fun w hC => x_load _ xo ho hx (hB w hC) qc7 qb4 hn) h
end
theorem qk1 : Tryz.prog.underlying 38 = some (.slice 43) := by kernel_rfl
end
section
open Go.RowKit Tr
mutual
theorem dep_le : ∀ it : It, dep it ≤ (enc it).length
  | .str l => by rw [qg4]; omega
  | .lst l => by
    have h1 := deps_le l
    rw [dep_lst, qi5, List.length_append, qe6]
    have := hsz_pos (encs l).length
    omega
theorem deps_le : ∀ l : List It, deps l ≤ (encs l).length
  | [] => by rw [deps]; omega
  | x :: r => by
    have h1 := dep_le x
    have h2 := deps_le r
    rw [deps, encs, List.length_append]
    omega
end
theorem deps_le_of {l : List It} {m : Nat} (h : ∀ x ∈ l, dep x ≤ m) : deps l ≤ m := by
  induction l with
  | nil => rw [deps]; omega
  | cons x r ih =>
    rw [deps]
    have h1 := h x List.mem_cons_self
    have h2 := ih fun y hy => h y (List.mem_cons_of_mem _ hy)
    omega
theorem encs_le_of {l : List It} {m : Nat} (h : ∀ x ∈ l, (enc x).length ≤ m) : (encs l).length ≤ l.length * m := by
  induction l with
  | nil => simp [encs]
  | cons x r ih =>
    have h1 := h x List.mem_cons_self
    have h2 := ih fun y hy => h y (List.mem_cons_of_mem _ hy)
    rw [encs, List.length_append, List.length_cons, Nat.succ_mul]
    omega
theorem encS_leT {l : List Nat} (h : l.length < 4294967296) : (encS l).length ≤ 5 + l.length := by
  unfold encS
  split
  · omega
  · rw [List.length_append, qe6]
    have := hsz_le h
    omega
theorem enc_lst_leT {l : List It} (h : (encs l).length < 4294967296) : (enc (.lst l)).length ≤ 5 + (encs l).length := by
  rw [qi5, List.length_append, qe6]
  have := hsz_le h
  omega
section
variable {H : List Nat → List Nat} (hH : ∀ l, (H l).length = 32)
include hH
theorem ref_enc (i : It) : (enc (refI H i)).length ≤ 37 := by
  unfold refI
  split
  · omega
  · rw [qf4]
    have := encS_leT (l := H (enc i)) (by rw [hH]; decide)
    rw [hH] at this
    omega
omit hH in
theorem ref_dep (i : It) : dep (refI H i) ≤ 31 := by
  unfold refI
  split
  · have := dep_le i
    omega
  · rw [qg4]; omega
def WT : TN → Prop
  | .nil => True
  | .leaf p u => p.length ≤ 128 ∧ (∀ x ∈ p, x < 16) ∧ u.length ≤ 900000
  | .ext p s => p.length ≤ 128 ∧ (∀ x ∈ p, x < 16) ∧ WT s
  | .branch s u => u.length ≤ 900000 ∧ ∀ d, d < 16 → WT (s d)
omit hH in
theorem jnT_len : ∀ l : List Nat, (jnT l).length ≤ l.length
  | [] => by simp [jnT]
  | [_] => by simp [jnT]
  | _ :: _ :: r => by have := jnT_len r; simp [jnT]; omega
omit hH in
theorem pkT_len (p : List Nat) (leaf : Bool) : (pkT p leaf).length ≤ p.length + 2 := by
  unfold pkT
  have h1 := jnT_len (frT p leaf ++ p)
  have h2 : (frT p leaf).length ≤ 2 := by unfold frT; split <;> simp
  rw [List.length_append] at h1
  omega
theorem ql5 {T : TN} (h : WT T) : (enc (itemT pkT H T)).length ≤ 901000 := by
  cases T with
  | nil =>
    show (enc (.str [])).length ≤ _
    rw [qf4]
    have := encS_leT (l := []) (by decide)
    simp at this
    omega
  | leaf p u =>
    have h1 := pkT_len p true
    have h2 := encS_leT (l := pkT p true) (by have := h.1; omega)
    have h3 := encS_leT (l := u) (by have := h.2.2; omega)
    have h4 : (encs [.str (pkT p true), .str u]).length ≤ 900200 := by
      simp only [encs, qf4, List.length_append, List.length_nil]
      have := h.1; have := h.2.2
      omega
    have := enc_lst_leT (l := [.str (pkT p true), .str u]) (by omega)
    show (enc (.lst [.str (pkT p true), .str u])).length ≤ _
    omega
  | ext p s =>
    have h1 := pkT_len p false
    have h2 := encS_leT (l := pkT p false) (by have := h.1; omega)
    have h3 := ref_enc hH (itemT pkT H s)
    have h4 : (encs [.str (pkT p false), refI H (itemT pkT H s)]).length ≤ 900200 := by
      simp only [encs, qf4, List.length_append, List.length_nil]
      have := h.1
      omega
    have := enc_lst_leT (l := [.str (pkT p false), refI H (itemT pkT H s)]) (by omega)
    show (enc (.lst [.str (pkT p false), refI H (itemT pkT H s)])).length ≤ _
    omega
  | branch s u =>
    have h3 := encS_leT (l := u) (by have := h.1; omega)
    have h5 := encs_le_of (l := (List.range 16).map fun d => refI H (itemT pkT H (s d))) (m := 37) (by
      intro x hx
      obtain ⟨d, _, rfl⟩ := List.mem_map.1 hx
      exact ref_enc hH _)
    rw [List.length_map, List.length_range] at h5
    have h4 : (encs ((List.range 16).map (fun d => refI H (itemT pkT H (s d))) ++ [.str u])).length ≤ 900700 := by
      rw [qj6, encs_one, qf4, List.length_append]
      have := h.1
      omega
    have := enc_lst_leT (l := (List.range 16).map (fun d => refI H (itemT pkT H (s d))) ++ [.str u]) (by omega)
    show (enc (.lst ((List.range 16).map (fun d => refI H (itemT pkT H (s d))) ++ [.str u]))).length ≤ _
    omega
omit hH in
theorem qk2 (T : TN) : dep (itemT pkT H T) ≤ 32 := by
  cases T with
  | nil => show dep (.str []) ≤ _; rw [qg4]; omega
  | leaf p u =>
    show dep (.lst [.str (pkT p true), .str u]) ≤ _
    rw [dep_lst]
    have := deps_le_of (l := [.str (pkT p true), .str u]) (m := 31) (by
      intro x hx
      simp only [List.mem_cons, List.mem_nil_iff, or_false] at hx
      rcases hx with rfl | rfl <;> rw [qg4] <;> omega)
    omega
  | ext p s =>
    show dep (.lst [.str (pkT p false), refI H (itemT pkT H s)]) ≤ _
    rw [dep_lst]
    have := deps_le_of (l := [.str (pkT p false), refI H (itemT pkT H s)]) (m := 31) (by
      intro x hx
      simp only [List.mem_cons, List.mem_nil_iff, or_false] at hx
      rcases hx with rfl | rfl
      · rw [qg4]; omega
      · exact ref_dep _)
    omega
  | branch s u =>
    show dep (.lst ((List.range 16).map (fun d => refI H (itemT pkT H (s d))) ++ [.str u])) ≤ _
    rw [dep_lst]
    have := deps_le_of (l := (List.range 16).map (fun d => refI H (itemT pkT H (s d))) ++ [.str u]) (m := 31) (by
      intro x hx
      rcases List.mem_append.1 hx with hx | hx
      · obtain ⟨d, _, rfl⟩ := List.mem_map.1 hx
        exact ref_dep _
      · rw [List.mem_singleton] at hx
        subst hx
        rw [qg4]; omega)
    omega
end
theorem build_WT : ∀ (f : Nat) (l : List En), (∀ e ∈ l, e.1.length ≤ 128 ∧ (∀ x ∈ e.1, x < 16) ∧ e.2.length ≤ 900000) → WT (buildT f l)
  | 0, _, _ => trivial
  | f + 1, [], _ => trivial
  | f + 1, [e], h => h e (by simp)
  | f + 1, e :: e2 :: l, h => by
    have hr : ∀ (n : Nat) (m : List En), (∀ x ∈ m, x ∈ e :: e2 :: l) → ∀ x ∈ rests n m, x.1.length ≤ 128 ∧ (∀ y ∈ x.1, y < 16) ∧ x.2.length ≤ 900000 := by
      intro n m hm x hx
      obtain ⟨y, hy, rfl⟩ := List.mem_map.1 hx
      have := h y (hm y hy)
      exact ⟨by simp only [List.length_drop]; omega, fun z hz => this.2.1 z (List.mem_of_mem_drop hz), this.2.2⟩
    have he := h e (by simp)
    unfold buildT
    simp only
    split
    · exact ⟨by rw [List.length_take]; omega, fun x hx => he.2.1 x (List.mem_of_mem_take hx), build_WT f _ (hr _ _ fun x hx => hx)⟩
    · refine ⟨?_, fun d _ => build_WT f _ (hr _ _ fun x hx => (List.mem_filter.1 hx).1)⟩
      split
      · exact he.2.2
      · simp
theorem ItC.dn {X : List Nat} {w : World} : ∀ {k : Nat} {x y z : Value} {t : It}, ItC X w k x y z t → ItC X w (dep t + 1) x y z t
  | 0, _, _, _, _, h => h.elim
  | k + 1, _, _, _, .str l, h => by rw [qg4]; unfold ItC at h ⊢; exact h
  | k + 1, _, _, _, .lst l, h => by
    rw [dep_lst]
    unfold ItC at h ⊢
    obtain ⟨h0, p, c, h1, h2, h3⟩ := h
    refine ⟨h0, p, c, h1, h2, fun hl => ?_⟩
    obtain ⟨b, o, h4, h5, h6, h7⟩ := h3 hl
    refine ⟨b, o, h4, h5, h6, fun i hi => ?_⟩
    obtain ⟨y0, yb, yl, h8, h9, h10, h11⟩ := h7 i hi
    have := deps_mem (l := l) (x := l[i]) (List.getElem_mem hi)
    exact ⟨y0, yb, yl, h8, h9, h10, (ItC.dn h11).up (by omega)⟩
def OffX (X : List Nat) (w : World) : Prop := ∀ x ∈ X, ∃ t c, Blk w x t c ∧ NoB c
theorem OffX.tch {X : List Nat} {w w' : World} (h : OffX X w) (hT : Tch [] w w') : OffX X w' := fun x hx => by
  obtain ⟨t, c, h1, h2⟩ := h x hx
  exact ⟨t, c, hT.blk h1 (by simp), h2⟩
theorem OffX.cons {X : List Nat} {w : World} {b : Nat} {t : TypeId} {c : Array Value} (h : OffX X w) (hB : Blk w b t c) (hc : NoB c) : OffX (b :: X) w := fun x hx => by
  rcases List.mem_cons.1 hx with rfl | hx
  · exact ⟨t, c, hB, hc⟩
  · exact h x hx
theorem NoB.item (t : Bool) (p q : Option Addr) (n c m d : Nat) : NoB #[.bool t, .slice p n c, .slice q m d] := fun j x hx => by
  match j with
  | 0 => cases hx
  | 1 => cases hx
  | 2 => cases hx
  | k + 3 => simp at hx
theorem Tch.toX {X : List Nat} {w w' : World} (h : Tch [] w w') : Tch X w w' := h.mono (by simp)
def ItemPost (X : List Nat) (it : It) (w : World) (e : Ending) (w' : World) : Prop :=
  Tch [] w w' ∧ ∃ (t : Bool) (p : Option Addr) (n c : Nat) (q : Option Addr) (m d : Nat), e = .returned (.agg #[.bool t, .slice p n c, .slice q m d]) ∧ ItC X w' (dep it + 1) (.bool t) (.slice p n c) (.slice q m d) it
theorem build_text (p : Option Addr) (n c : Nat) (w : World) : (Instr.build 101 #[(1, .slice p n c)]).run Tryz.prog w = .ok (.agg #[.bool false, .slice p n c, .slice none 0 0]) w := by kernel_rfl
theorem build_list (p : Option Addr) (n c : Nat) (w : World) : (Instr.build 101 #[(0, .bool true), (2, .slice p n c)]).run Tryz.prog w = .ok (.agg #[.bool true, .slice none 0 0, .slice p n c]) w := by kernel_rfl
theorem text_any (X : List Nat) (v : Value) (l : List Nat) (w : World) (hv : RdB w v l) (hX : OffX X w) (hl : l.length < 4611686018427387904) : Calls Tryz.prog 86 #[v] w (ItemPost X (.str l) w) := by
  have hS := St.start w
  have kb := build_text
  obtain ⟨p, c, rfl⟩ := hv.shape'
  have HV := hQz (And.intro (hv.offL hX) hl)
  clear hv hl hX
  go_enter Tryz.func86, Tryz.ntmps86
  go_wp2_with (first
    | (refine qe3 hS rfl 101 rfl qc9 ?_; clear hS; intro w1 b1 hS)
    | (refine qe4 (b := b1) (c' := #[.bool false, .slice p l.length c, .slice none 0 0]) hS rfl 101 _ _ rfl rfl rfl .head qa4 rfl rfl (qc4 _ _ _ _ _ _ _) ?_; clear hS; intro w2 hS))
  obtain ⟨d, hd⟩ := qg0
  refine qf5 hS 2 101 rfl rfl rfl .head hd rfl qa4 rfl (fun hT => ⟨hT, _, _, _, _, _, _, _, rfl, ?_⟩)
  rw [qg4]
  unfold ItC
  exact ⟨rfl, HV.out.1.tch hT.toX, HV.out.2⟩
theorem list_any (X : List Nat) (v : Value) (l : List It) (w : World) (hv : ItC X w (dep (.lst l) + 1) (.bool true) (.slice none 0 0) v (.lst l)) : Calls Tryz.prog 84 #[v] w (ItemPost X (.lst l) w) := by
  have hS := St.start w
  have kb := build_list
  obtain ⟨n, p, c, rfl⟩ : ∃ n p c, v = .slice p n c := by
    unfold ItC at hv
    obtain ⟨_, p, c, h, _⟩ := hv
    exact ⟨_, p, c, h⟩
  have HV := hQz hv
  clear hv
  go_enter Tryz.func84, Tryz.ntmps84
  go_wp2_with (first
    | (refine qe3 hS rfl 101 rfl qc9 ?_; clear hS; intro w1 b1 hS)
    | (refine qe4 (b := b1) (c' := #[.bool true, .slice none 0 0, .slice p n c]) hS rfl 101 _ _ rfl rfl rfl .head qa4 rfl rfl (qc4 _ _ _ _ _ _ _) ?_; clear hS; intro w2 hS))
  obtain ⟨d, hd⟩ := qg0
  exact qf5 hS 2 101 rfl rfl rfl .head hd rfl qa4 rfl (fun hT => ⟨hT, _, _, _, _, _, _, _, rfl, HV.out.tch hT.toX⟩)
theorem jn_T : ∀ l : List Nat, jn l = jnT l
  | [] => rfl
  | [_] => rfl
  | x :: y :: r => by
    show (16 * x + y) :: jn r = (16 * x + y) :: jnT r
    rw [jn_T r]
theorem packL_T {l : List Nat} (leaf : Bool) (h : ∀ x ∈ l, x < 16) : packL l leaf = some (pkT l leaf) := by
  unfold packL joinL
  have e1 : allN (fr l leaf ++ l) = true := by
    unfold allN
    rw [List.all_eq_true]
    intro x hx
    rcases List.mem_append.1 hx with hx | hx
    · have := fr_lt l leaf x hx; exact decide_eq_true (by omega)
    · exact decide_eq_true (h x hx)
  have e2 : (fr l leaf ++ l).length % 2 = 0 := by
    rw [List.length_append]
    rcases Nat.mod_two_eq_zero_or_one l.length with hp | hp
    · rw [fr_even _ hp]; simp; omega
    · rw [fr_odd _ hp]; simp; omega
  rw [if_pos ⟨e2, e1⟩, jn_T]
  rfl
theorem packed_any (X : List Nat) (v : Value) (l : List Nat) (leaf : Bool) (w : World) (hv : RdB w v l) (hX : OffX X w) (hl : l.length ≤ 128) (hx : ∀ x ∈ l, x < 16) : Calls Tryz.prog 85 #[v, .bool leaf] w (ItemPost X (.str (pkT l leaf)) w) := by
  have hS := St.start w
  have HP := hQz (fun (w' : World) (hT : Tch [] w w') => (Pack_any v l leaf w' (by omega) (hv.tch hT (by simp)).rdA0))
  rw [packL_T leaf hx] at HP
  have hlen := pkT_len l leaf
  have HL := hQz (And.intro (show (pkT l leaf).length < 4611686018427387904 by omega) hX)
  clear hlen hv hl hx hX
  generalize pkT l leaf = L at *
  go_enter Tryz.func85, Tryz.ntmps85
  go_wp2_with (first
    | (refine qe3 hS rfl 101 rfl qc9 ?_; clear hS; intro w1 b1 hS)
    | (go_at_call 113; refine (HP.out _ hS.frame).mono ?_; rintro e w2 ⟨hT, u, rfl, hu⟩; replace hu := hu.rdB; replace hS := hS.call hT; clear hT)
    | (go_at_call 86; refine (text_any (b1 :: X) u L _ hu ((HL.out.2.tch hS.frame).cons (hS.get .head) (NoB.item _ _ _ _ _ _ _)) HL.out.1).mono ?_; rintro e w3 ⟨hT, t, p, n, c, q, m, d, rfl, hI⟩; replace hS := hS.call hT; clear hT)
    | (refine qd1 (b := b1) (c' := #[.bool t, .slice p n c, .slice q m d]) hS rfl 101 _ _ rfl rfl rfl .head qa4 rfl rfl (qc4 _ _ _ _ _ _ _) ?_; clear hS; intro w4 hS hO; replace hI := hI.tch (Tch.mono (cs := b1 :: X) hO.tch (fun x hx => .inl (by rw [List.mem_singleton] at hx; rw [hx]; exact List.mem_cons_self)))))
  obtain ⟨d', hd⟩ := qg0
  exact qf5 hS 4 101 rfl rfl rfl .head hd rfl qa4 rfl (fun hT => ⟨hT, _, _, _, _, _, _, _, rfl, hI.mono (by intro y hy; exact .inl (List.mem_cons_of_mem _ hy))⟩)
end
section
open Go.RowKit Tr
def HL (l : List Nat) : List Nat := (List.range 32).map (hashN l)
theorem HL_len (l : List Nat) : (HL l).length = 32 := by simp [HL]
def ItemOK (v : Value) (it : It) (w : World) : Prop := ∀ (Y : List Nat) (w1 : World), Tch [] w w1 → OffX Y w1 → Calls Tryz.prog 50 #[v, (.func (.func 23) #[] #[])] w1 (ItemPost Y it w1)
theorem enc_b {X : List Nat} {w : World} {k : Nat} {x0 vb vl : Value} {it : It} (h : ItC X w k x0 vb vl it) (he : (enc it).length ≤ 901000) : ∀ x ∈ enc it, x < 256 := enc_lt h (by omega)
set_option maxHeartbeats 2000000 in
set_option maxRecDepth 100000 in
theorem reference_any (X : List Nat) (v : Value) (it : It) (w : World) (HI : ItemOK v it w) (he : (enc it).length ≤ 901000) (hd : dep it ≤ 32) (hX : OffX X w) :
    Calls Tryz.prog 87 #[v, (.func (.func 23) #[] #[])] w (ItemPost X (refI HL it) w) := by
  have hS := St.start w
  have HIT := hQz HI
  have HXX := hQz hX
  have HPK := hQz (fun (Y : List Nat) (w1 : World) (x0 vb vl : Value) (hI : ItC Y w1 (dep it + 1) x0 vb vl it) => And.intro (tpack_any (dep it + 1) x0 vb vl it w1 (hI.mono (Y := []) (by simp)) ⟨hd, by omega⟩) (enc_b hI he))
  obtain ⟨L, hL⟩ : ∃ L, L = enc it := ⟨_, rfl⟩
  have hLle : L.length ≤ 901000 := by rw [hL]; exact he
  rw [← hL] at HPK
  have HLL := hQz (And.intro hL hLle)
  have ks := slice_word
  obtain ⟨ds, hds⟩ := qg0
  by_cases hlt : L.length < 32
  · have e1 : (L.length : Int) < 32 := by omega
    have hpost : refI HL it = it := by unfold refI; rw [if_pos (by rw [← hL]; exact hlt)]
    rw [hpost]
    clear hL hLle hlt he HI hX hpost
    go_enter Tryz.func87, Tryz.ntmps87
    go_wp2_with (first
      | (have hq := hI; refine qi4 hS rfl 101 rfl qc9 ?_; clear hS; intro w3 b5 hS hTn hbn)
      | (refine qe3 hS rfl 101 rfl qc9 ?_; clear hS; intro w1 b1 hS)
      | (go_at_call 50; refine (HIT.out (b1 :: X) _ hS.frame ((HXX.out.tch hS.frame).cons (hS.get .head) (NoB.item _ _ _ _ _ _ _))).mono ?_; rintro e w2 ⟨hT, t, p, n, c, q, m, d, rfl, hI⟩; replace hS := hS.call hT; clear hT)
      | (refine qd1 (b := b5) (c' := #[.bool t, .slice p n c, .slice q m d]) hS rfl 101 _ _ rfl rfl rfl .head qa4 rfl rfl (qc4 _ _ _ _ _ _ _) ?_; clear hS; intro w4 hS hO; replace hI := hI.tch (hTn.only hO (.inl hbn)).toX; clear hO hTn hbn)
      | (refine st_load (b := b5) hS rfl 101 _ rfl rfl .head hds rfl qa4 rfl ?_)
      | (go_at_call 49; refine (HPK.out _ _ _ _ _ hI).1.mono ?_; rintro e w5 ⟨hT, b6, hb6, rfl, hB6⟩; replace hI := hI.tch hT.toX; replace hS := hS.call hT; clear hT hB6 hb6)
      | (refine qd1 (b := b1) (c' := #[.bool t, .slice p n c, .slice q m d]) hS rfl 101 _ _ rfl rfl rfl (.tail .head) qa4 rfl rfl (qc4 _ _ _ _ _ _ _) ?_; clear hS; intro w6 hS hO; replace hI := hI.tch (hO.tch.mono (fun x hx => .inl (by rw [List.mem_singleton] at hx; rw [hx]; exact List.mem_cons_self)))))
    exact qf5 hS 4 101 rfl rfl rfl (.tail .head) hds rfl qa4 rfl (fun hT => ⟨hT, _, _, _, _, _, _, _, rfl, hI.mono (by intro y hy; exact .inl (List.mem_cons_of_mem _ hy))⟩)
  · have e1 : ¬ (L.length : Int) < 32 := by omega
    have hpost : refI HL it = .str (HL L) := by unfold refI; rw [if_neg (by rw [← hL]; exact hlt), ← hL]
    rw [hpost]
    clear hL hLle hlt he HI hX hpost
    have HTX := hQz (fun (Y : List Nat) (w1 : World) (b7 : Nat) (hB : Blk w1 b7 32 (wf (hashN L))) (hY : OffX Y w1) => text_any Y _ (HL L) w1 (hash_rd L hB) hY (by rw [HL_len]; decide))
    go_enter Tryz.func87, Tryz.ntmps87
    go_wp2_with (first
      | (have hq := hI; refine qi4 hS rfl 101 rfl qc9 ?_; clear hS; intro w3 b5 hS hTn hbn)
      | (refine qe3 hS rfl 101 rfl qc9 ?_; clear hS; intro w1 b1 hS)
      | (go_at_call 50; refine (HIT.out (b1 :: X) _ hS.frame ((HXX.out.tch hS.frame).cons (hS.get .head) (NoB.item _ _ _ _ _ _ _))).mono ?_; rintro e w2 ⟨hT, t, p, n, c, q, m, d, rfl, hI⟩; replace hS := hS.call hT; clear hT)
      | (refine qd1 (b := b5) (c' := #[.bool t, .slice p n c, .slice q m d]) hS rfl 101 _ _ rfl rfl rfl .head qa4 rfl rfl (qc4 _ _ _ _ _ _ _) ?_; clear hS; intro w4 hS hO; replace hI := hI.tch (hTn.only hO (.inl hbn)).toX; clear hO hTn hbn)
      | (refine st_load (b := b5) hS rfl 101 _ rfl rfl .head hds rfl qa4 rfl ?_)
      | (go_at_call 49; have hb256 := (HPK.out _ _ _ _ _ hI).2; refine (HPK.out _ _ _ _ _ hI).1.mono ?_; rintro e w5 hpk; obtain ⟨hT, b6, hb6, rfl, hr⟩ := PkV.rd hpk hb256; clear hpk hb256 hI; replace hS := hS.call hT; clear hT hb6)
      | (go_at_call 23; refine (rsum_any _ L _ hr (by have := HLL.out.2; omega)).mono ?_; rintro e w6 ⟨rfl, hT⟩; replace hS := hS.call hT; clear hT hr)
      | (refine qe3 hS rfl 32 rfl qd5 ?_; clear hS; intro w7 b7 hS)
      | (refine qe4 (b := b7) (c' := wf (hashN L)) hS rfl 32 _ _ rfl rfl rfl .head qb4 (qa5 _) (qa5 _) (qj1 _) ?_; clear hS; intro w8 hS)
      | (go_at_call 86; refine (HTX.out (b1 :: X) _ b7 (hS.get .head) ((HXX.out.tch hS.frame).cons (hS.get (.tail (.tail .head))) (NoB.item _ _ _ _ _ _ _))).mono ?_; rintro e w9 ⟨hT, t, p, n, c, q, m, d, rfl, hI⟩; replace hS := hS.call hT; clear hT)
      | (refine qd1 (b := b1) (c' := #[.bool t, .slice p n c, .slice q m d]) hS rfl 101 _ _ rfl rfl rfl (.tail (.tail .head)) qa4 rfl rfl (qc4 _ _ _ _ _ _ _) ?_; clear hS; intro wa hS hO; replace hI := hI.tch (hO.tch.mono (fun x hx => .inl (by rw [List.mem_singleton] at hx; rw [hx]; exact List.mem_cons_self)))))
    exact qf5 hS 4 101 rfl rfl rfl (.tail (.tail .head)) hds rfl qa4 rfl (fun hT => ⟨hT, _, _, _, _, _, _, _, rfl, hI.mono (by intro y hy; exact .inl (List.mem_cons_of_mem _ hy))⟩)
end
end Go.Proofs.YtanmpcgackfpaaaGreat
