/- MemPlays: what every row of calls makes of a memory and of a stack. -/
import Derived.Test.YtlliidfkjlmadaaIPA
set_option linter.unusedVariables false
set_option linter.unusedSimpArgs false
namespace Go.Proofs.Ytlliidfkjlmadaa
open Go.RowKit
set_option maxRecDepth 100000
set_option maxHeartbeats 20000000

/-- A call as data, its bytes M in the slice v. -/
structure ActD where
  way : Int
  i : Int
  j : Int
  A : List Nat
  N : List Nat
  v : Value
  M : List Nat
def ActD.cells (d : ActD) : Array Value := actC d.way d.i d.j d.A d.N d.v
/-- A value that is a slice of these calls. -/
def RdActs (w : World) (v : Value) (As : List ActD) : Prop :=
  ∃ p c, v = .slice p As.length c ∧ (As ≠ [] → ∃ b o, p = some ⟨b, o, none⟩ ∧ b < w.heap.size ∧ ∀ k (hk : k < As.length), w.rangeAt b (o + k * 68) As[k].cells.toList) ∧
    ∀ d ∈ As, (-9223372036854775808 ≤ d.i ∧ d.i ≤ 9223372036854775807) ∧ (-9223372036854775808 ≤ d.j ∧ d.j ≤ 9223372036854775807) ∧ Wd d.A ∧ Wd d.N ∧ RdB w d.v d.M
def StepQ (w0 : World) (bm br bs bt : Nat) (w' : World) : Prop :=
  ∃ vm vr vs vt k L Ws, Quad w0 w' bm br bs bt vm vr vs vt L L Ws Ws ∧ L.length = 32 * k ∧ k ≤ 32768 ∧ (∀ x ∈ L, x < 256) ∧ Ws.length ≤ 1024 ∧ ∀ W ∈ Ws, Wd W
section
variable {o : Oper} {a : Act} {w : World}
theorem x_idxA {b off n c k : Nat} (x y : Operand) (ho : o.op = .indexAddr 22 x y) (hx : a.eval x = .slice (some ⟨b, off, none⟩) n c) (hy : a.eval y = .int .i64 (k : Int)) (hj : k < n) : (execOp a.eval o).run Try.prog w = .ok (.value (.pointer (some ⟨b, off + k * 68, none⟩))) w := by
  have hadd : (⟨b, off, none⟩ : Addr).add (k * 68) = ⟨b, off + k * 68, none⟩ := by unfold Addr.add; split <;> simp_all
  have hu : Try.prog.underlying 22 = some (.slice 39) := by kernel_rfl
  have hs : (Try.prog.info? 39).map (·.size) = some 68 := by kernel_rfl
  unfold execOp
  simp [ho, hx, hy, Instr.indexAt, run_underlying hu, Instr.sureAddr, asIntOf, sizeOf_one hs, hj, hadd]
theorem act_tyA : Try.prog.underlying 39 = some (.struct (Try.prog.fieldsOf 39)) := by kernel_rfl
theorem x_ldA {b q : Nat} {c : Array Value} (x : Operand) (ho : o.op = .load 39 x) (hx : a.eval x = .pointer (some ⟨b, q, none⟩)) (hr : w.rangeAt b q c.toList) (hc : c.size = 68) : (execOp a.eval o).run Try.prog w = .ok (.value (.agg c)) w := by
  have hs : (Try.prog.info? 39).map (·.size) = some 68 := by kernel_rfl
  have h := run_loadAt_mid (P := Try.prog) w b q 39 c.toList _ hr act_tyA rfl (by rw [Array.length_toList, hc]; exact hs)
  rw [Array.toArray_toList] at h
  unfold execOp
  simp only [ho, hx, Sem.run_bind, h, Result.andThen_ok, Sem.run_pure]
theorem fa_actB (b q : Nat) (w : World) : (Instr.fieldAt 39 (.pointer (some ⟨b, q, none⟩)) 5).run Try.prog w = .ok (.pointer (some ⟨b, q + 67, none⟩)) w := by kernel_rfl
theorem x_build1 (ho : o.op = .build 32 #[]) : (execOp a.eval o).run Try.prog w = .ok (.value (.agg #[.slice none 0 0])) w := by
  have h : ∀ w : World, (Instr.build 32 #[]).run Try.prog w = .ok (.agg #[.slice none 0 0]) w := fun w => by kernel_rfl
  unfold execOp
  simp only [ho, List.map_toArray, List.map_nil, h, Sem.run_bind, Result.andThen_ok, Sem.run_pure]
theorem x_build2 (ho : o.op = .build 35 #[]) : (execOp a.eval o).run Try.prog w = .ok (.value (.agg #[.slice none 0 0])) w := by
  have h : ∀ w : World, (Instr.build 35 #[]).run Try.prog w = .ok (.agg #[.slice none 0 0]) w := fun w => by kernel_rfl
  unfold execOp
  simp only [ho, List.map_toArray, List.map_nil, h, Sem.run_bind, Result.andThen_ok, Sem.run_pure]
theorem k_lenA {ops : Array Oper} {rest : List Oper} {C : World → Prop} {Q : Act → Prop} {p : Option Addr} {n c : Nat} (hw : Region.wanted o (yielded ops a.tmps) = true) (x : Operand) (ho : o.op = .call { callee := .builtin .len, args := #[x], argTypes := #[22] }) (hx : a.eval x = .slice p n c)
    (h : KQ ops C Q rest (a.put o.dst (.int .i64 (n : Int)))) : KQ ops C Q (o :: rest) a := by
  have hu : Try.prog.underlying 22 = some (.slice 39) := by kernel_rfl
  exact k_pure hw (fun w => by unfold execOp; simp [ho, resolve, invoke, builtin, hx, Builtin.len_, run_underlying hu, goInt]) h
end
theorem popOut_all (Ws : List (List Nat)) : popOk Ws (Ws.length : Int) = true := by unfold popOk; exact decide_eq_true (by omega)
theorem plays_walk (v : Value) (As : List ActD) (w : World) (hv : RdActs w v As) :
    Calls Try.prog 3 #[v] w fun e w' => e = .returned (.bool true) ∧ Tch [] w w' := by
  obtain ⟨p, c, rfl, hr, hd⟩ := hv
  have HR := Lib.hid hr
  have HD := Lib.hid hd
  clear hr hd
  by_cases h1 : 100 < As.length
  · have h1' : (100 : Int) < (As.length : Int) := by omega
    go_enter Try.func3, Try.ntmps3
    go_upto_region 2 with (go_at_call 8; refine (alive13 _).mono ?_; rintro e w1 ⟨rfl, hT1⟩)
    try simp only [Act.put, List.setIfInBounds_toArray, List.set_cons_zero, List.set_cons_succ]
    refine k_seq (C := fun w' => Tch [] w w') hT1 ?_
    refine k_val (v := .bool true) rfl _ (.inl rfl) rfl ?_; try simp only [Act.put, List.setIfInBounds_toArray, List.set_cons_zero, List.set_cons_succ]
    refine k_notV (s := true) (t := false) rfl _ _ rfl rfl rfl ?_; try simp only [Act.put, List.setIfInBounds_toArray, List.set_cons_zero, List.set_cons_succ]
    refine k_val (v := .bool false) rfl _ (.inl rfl) rfl ?_; try simp only [Act.put, List.setIfInBounds_toArray, List.set_cons_zero, List.set_cons_succ]
    refine k_val (v := .slice p As.length c) rfl _ (.inl rfl) rfl ?_; try simp only [Act.put, List.setIfInBounds_toArray, List.set_cons_zero, List.set_cons_succ]
    refine k_lenA (p := p) (n := As.length) (c := c) rfl _ rfl rfl ?_; try simp only [Act.put, List.setIfInBounds_toArray, List.set_cons_zero, List.set_cons_succ]
    refine k_gtr (m := (As.length : Int)) (n := 100) (t := true) rfl _ _ _ rfl rfl rfl (decide_eq_true (by omega)) ?_; try simp only [Act.put, List.setIfInBounds_toArray, List.set_cons_zero, List.set_cons_succ]
    refine k_pickF (t := true) rfl _ _ _ rfl rfl rfl ?_; try simp only [Act.put, List.setIfInBounds_toArray, List.set_cons_zero, List.set_cons_succ]
    refine k_end ?_
    intro w2 hT2
    go_wp2
    go_ret
    exact ⟨rfl, hT2⟩
  have h1' : ¬ (100 : Int) < (As.length : Int) := by omega
  go_enter Try.func3, Try.ntmps3
  go_upto_region 2 with (go_at_call 8; refine (alive13 _).mono ?_; rintro e w1 ⟨rfl, hT1⟩)
  try simp only [Act.put, List.setIfInBounds_toArray, List.set_cons_zero, List.set_cons_succ]
  refine k_seq (C := fun w' => Tch [] w w') hT1 ?_
  refine k_val (v := .bool true) rfl _ (.inl rfl) rfl ?_; try simp only [Act.put, List.setIfInBounds_toArray, List.set_cons_zero, List.set_cons_succ]
  refine k_notV (s := true) (t := false) rfl _ _ rfl rfl rfl ?_; try simp only [Act.put, List.setIfInBounds_toArray, List.set_cons_zero, List.set_cons_succ]
  refine k_val (v := .bool false) rfl _ (.inl rfl) rfl ?_; try simp only [Act.put, List.setIfInBounds_toArray, List.set_cons_zero, List.set_cons_succ]
  refine k_val (v := .slice p As.length c) rfl _ (.inl rfl) rfl ?_; try simp only [Act.put, List.setIfInBounds_toArray, List.set_cons_zero, List.set_cons_succ]
  refine k_lenA (p := p) (n := As.length) (c := c) rfl _ rfl rfl ?_; try simp only [Act.put, List.setIfInBounds_toArray, List.set_cons_zero, List.set_cons_succ]
  refine k_gtr (m := (As.length : Int)) (n := 100) (t := false) rfl _ _ _ rfl rfl rfl (decide_eq_false (by omega)) ?_; try simp only [Act.put, List.setIfInBounds_toArray, List.set_cons_zero, List.set_cons_succ]
  refine k_pickF (t := false) rfl _ _ _ rfl rfl rfl ?_; try simp only [Act.put, List.setIfInBounds_toArray, List.set_cons_zero, List.set_cons_succ]
  refine k_end ?_
  clear hT1
  intro w2 hT2
  have hS := (St.start w).call hT2
  clear h1' hT2
  go_upto_region 9 with (first
    | (refine st_new hS rfl 26 rfl memP_zero ?_; clear hS; intro w3 bm hS)
    | (refine st_new hS rfl 29 rfl stkP_zero ?_; clear hS; intro w4 bs hS)
    | (refine st_x rfl (x_build1 rfl) ?_)
    | (refine st_x rfl (x_build2 rfl) ?_)
    | (refine st_box hS rfl 32 _ rfl rfl ?_; clear hS; intro w5 br hS)
    | (refine st_box hS rfl 35 _ rfl rfl ?_; clear hS; intro w6 bt hS))
  have hbt : w.heap.size ≤ bt := (hS.own .head).elim id (fun h => by simp at h)
  have hbr : w.heap.size ≤ br := (hS.own (.tail .head)).elim id (fun h => by simp at h)
  have hbs : w.heap.size ≤ bs := (hS.own (.tail (.tail .head))).elim id (fun h => by simp at h)
  have hbm : w.heap.size ≤ bm := (hS.own (.tail (.tail (.tail .head)))).elim id (fun h => by simp at h)
  have hap := hS.apart
  simp only [List.pairwise_cons, List.mem_cons, List.not_mem_nil, or_false, forall_eq_or_imp, forall_eq] at hap
  have hdis : ∀ {a b : Nat}, a ≠ b → ∀ x ∈ fpr a (.slice none 0 0), x ∉ fpr b (.slice none 0 0) := fun hne x hx hm => by
    rcases mem_fpr.1 hx with h1 | h1
    · rcases mem_fpr.1 hm with h2 | h2
      · exact hne (h1.symm.trans h2)
      · cases h2
    · cases h1
  have hQ0 : Quad w w6 bm br bs bt (.slice none 0 0) (.slice none 0 0) (.slice none 0 0) (.slice none 0 0) [] [] [] [] :=
    ⟨hS.frame, RowIn.new (L := []) (hS.get (.tail (.tail (.tail .head)))) hbm, RowIn.new (L := []) (hS.get (.tail .head)) hbr, RowIn.new (L := []) (hS.get (.tail (.tail .head))) hbs, RowIn.new (L := []) (hS.get .head) hbt, hdis (fun e => by simp_all), hdis (fun e => by simp_all), hdis (fun e => by simp_all), hdis (fun e => by simp_all), hdis (fun e => by simp_all), hdis (fun e => by simp_all)⟩
  have HQ0 := Lib.hid (show StepQ w bm br bs bt w6 from ⟨_, _, _, _, 0, [], [], hQ0, rfl, Nat.zero_le _, by simp, by simp, by simp⟩)
  clear hS hap hdis hQ0 hbt hbr hbs hbm
  go_loopw [8] (fun i wr => ∃ k : Nat, i = .int .i64 (k : Int) ∧ k ≤ As.length ∧ Hid (StepQ w bm br bs bt wr)) (fun i _ => As.length - (intOf i).toNat)
  case atStart => exact ⟨0, rfl, Nat.zero_le _, HQ0⟩
  case round =>
    clear HQ0
    obtain ⟨k, rfl, hk, HQk⟩ := hrel
    obtain ⟨vm, vr, vs, vt, kk, L, Ws, hQ, g1, g2, g3, g4, g5⟩ := HQk.out
    have HQ := Lib.hid hQ
    have HG := Lib.hid (And.intro g1 (And.intro g2 (And.intro g3 (And.intro g4 g5))))
    clear hQ g1 g2 g3 g4 g5 HQk
    by_cases hlt : k < As.length
    · have hlt' : (k : Int) < (As.length : Int) := by omega
      obtain ⟨ba, oa, rfl, hba, hcell⟩ := HR.out (by intro e; rw [e] at hlt; simp at hlt)
      have hrg := hcell k hlt
      have hdd := HD.out _ (List.getElem_mem hlt)
      obtain ⟨d, hd⟩ : ∃ d, d = As[k] := ⟨_, rfl⟩
      rw [← hd] at hrg hdd
      have HRG := Lib.hid (fun w' (hT : Tch [] w w') => (fun q u hq => (hT.cell (p := ⟨ba, oa + k * 68 + q, none⟩) hba (by simp)).trans (hrg q u hq) : w'.rangeAt ba (oa + k * 68) d.cells.toList))
      have HDD := Lib.hid hdd
      have hsz : d.cells.size = 68 := actC_size _ _ _ _ _ _
      have hcb : ∀ w', Tch [] w w' → w'.cell? ⟨ba, oa + k * 68 + 67, none⟩ = some d.v := fun w' hT => HRG.out w' hT 67 d.v (by rw [Array.getElem?_toList]; exact actC_b _ _ _ _ _ _)
      have HCB := Lib.hid hcb
      clear hcell hrg hdd hd hcb
      obtain ⟨pd, cd, hdv, hcd, _, _⟩ := HDD.out.2.2.2.2
      rw [hdv] at HCB
      by_cases hm : 500 < d.M.length
      · have hm' : (500 : Int) < (d.M.length : Int) := by omega
        go_wp2_with (first
          | (refine st_x (v := .pointer (some ⟨ba, oa + k * 68, none⟩)) rfl (x_idxA (.tmp 33) (.tmp 34) rfl rfl rfl hlt) ?_)
          | (refine st_x (v := .pointer (some ⟨ba, oa + k * 68 + 67, none⟩)) rfl (x_fa 39 (.tmp 35) 5 rfl rfl (fa_actB _ _ _)) ?_)
          | (refine st_x (v := .slice pd d.M.length cd) rfl (x_cell 24 (.tmp 36) rfl rfl (HCB.out _ HQ.out.T) bytes_aggI) ?_))
        go_ret
        exact ⟨rfl, HQ.out.T⟩
      · have hm' : ¬ (500 : Int) < (d.M.length : Int) := by omega
        have HST := Lib.hid (step_any HQ.out HG.out.1 HG.out.2.1 HG.out.2.2.1 HG.out.2.2.2.1 HG.out.2.2.2.2 d.way d.i d.j d.A d.N d.M d.v HDD.out.1 HDD.out.2.1 HDD.out.2.2.1 HDD.out.2.2.2.1 HDD.out.2.2.2.2 (by omega))
        rw [show actC d.way d.i d.j d.A d.N d.v = d.cells from rfl] at HST
        have HDC := Lib.hid (HRG.out wr HQ.out.T)
        generalize d.cells = dc at *
        go_upto_region 14 with (first
          | (refine st_x (v := .pointer (some ⟨ba, oa + k * 68, none⟩)) rfl (x_idxA (.tmp 33) (.tmp 34) rfl rfl rfl hlt) ?_)
          | (refine st_x (v := .pointer (some ⟨ba, oa + k * 68 + 67, none⟩)) rfl (x_fa 39 (.tmp 35) 5 rfl rfl (fa_actB _ _ _)) ?_)
          | (refine st_x (v := .slice pd d.M.length cd) rfl (x_cell 24 (.tmp 36) rfl rfl (HCB.out _ HQ.out.T) bytes_aggI) ?_)
          | (refine st_x (v := .pointer (some ⟨ba, oa + k * 68, none⟩)) rfl (x_idxA (.tmp 42) (.tmp 43) rfl rfl rfl hlt) ?_)
          | (refine st_x (v := .agg dc) rfl (x_ldA (.tmp 44) rfl rfl HDC.out hsz) ?_)
          | (go_at_call 9; go_must (refine HST.out.mono ?_; rintro e w7 ⟨rfl, hQ7⟩; have HQ7 := Lib.hid hQ7; clear hQ7)))
        obtain ⟨vm7, vr7, vs7, vt7, k7, L7, Ws7, hQ, g1, g2, g3, g4, g5⟩ := HQ7.out
        have HQ8 := Lib.hid hQ
        have HG8 := Lib.hid (And.intro g1 (And.intro g2 (And.intro g3 (And.intro g4 g5))))
        clear hQ g1 g2 g3 g4 g5 HST HQ HG HRG HCB HDC
        have hzm := fun w' (h : Tch [] w7 w') => (size_any _ _ _ _ w' (HQ8.out.m.call h)).mono (fun e w'' q => And.intro q.1 (q.2 ▸ h : Tch [] w7 w''))
        have hzs := fun w' (h : Tch [] w7 w') => (len_any _ _ _ _ w' (HQ8.out.s.call h)).mono (fun e w'' q => And.intro q.1 (q.2 ▸ h : Tch [] w7 w''))
        have HZM := Lib.hid hzm
        have HZS := Lib.hid hzs
        clear hzm hzs
        obtain ⟨pr, cr, rfl, _⟩ := HQ8.out.r.slice
        obtain ⟨pt, ct, rfl, _⟩ := HQ8.out.t.slice
        try simp only [Act.put, List.setIfInBounds_toArray, List.set_cons_zero, List.set_cons_succ]
        refine k_region (C := fun w' => Tch [] w7 w') (by kernel_rfl) (by kernel_rfl) ((Tch.refl _ _).drew) ?_
        refine k_val (v := .bool true) rfl _ (.inl rfl) rfl ?_; try simp only [Act.put, List.setIfInBounds_toArray, List.set_cons_zero, List.set_cons_succ]
        refine k_notV (s := true) (t := false) rfl _ _ rfl rfl rfl ?_; try simp only [Act.put, List.setIfInBounds_toArray, List.set_cons_zero, List.set_cons_succ]
        refine k_val (v := .bool false) rfl _ (.inl rfl) rfl ?_; try simp only [Act.put, List.setIfInBounds_toArray, List.set_cons_zero, List.set_cons_succ]
        refine k_callC1 (v := .int .i64 (L7.length : Int)) rfl rfl rfl Try.call10 (fun w' h => HZM.out w' h) ?_; try simp only [Act.put, List.setIfInBounds_toArray, List.set_cons_zero, List.set_cons_succ]
        refine k_val (v := .pointer (some ⟨br, 0, none⟩)) rfl _ (.inl rfl) rfl ?_; try simp only [Act.put, List.setIfInBounds_toArray, List.set_cons_zero, List.set_cons_succ]
        refine k_nilI ⟨br, 0, none⟩ rfl _ rfl rfl ?_; try simp only [Act.put, List.setIfInBounds_toArray, List.set_cons_zero, List.set_cons_succ]
        refine k_faI rfl rfl rfl (fa_memR br) ?_; try simp only [Act.put, List.setIfInBounds_toArray, List.set_cons_zero, List.set_cons_succ]
        refine k_cellC (b := br) (j := 0) (v := .slice pr L7.length cr) rfl _ _ rfl rfl (fun w' h => (HQ8.out.call h).r.blk.cell rfl) bytes_aggI ?_; try simp only [Act.put, List.setIfInBounds_toArray, List.set_cons_zero, List.set_cons_succ]
        refine k_lenSl (p := pr) (n := L7.length) (c := cr) rfl _ rfl rfl ?_; try simp only [Act.put, List.setIfInBounds_toArray, List.set_cons_zero, List.set_cons_succ]
        refine k_neqI (m := (L7.length : Int)) (n := (L7.length : Int)) (t := false) rfl _ _ _ rfl rfl rfl (decide_eq_false (by omega)) ?_; try simp only [Act.put, List.setIfInBounds_toArray, List.set_cons_zero, List.set_cons_succ]
        refine k_pickF (t := false) rfl _ _ _ rfl rfl rfl ?_; try simp only [Act.put, List.setIfInBounds_toArray, List.set_cons_zero, List.set_cons_succ]
        refine k_val (v := .bool false) rfl _ (.inl rfl) rfl ?_; try simp only [Act.put, List.setIfInBounds_toArray, List.set_cons_zero, List.set_cons_succ]
        refine k_callC1 (v := .int .i64 (Ws7.length : Int)) rfl rfl rfl Try.call11 (fun w' h => HZS.out w' h) ?_; try simp only [Act.put, List.setIfInBounds_toArray, List.set_cons_zero, List.set_cons_succ]
        refine k_val (v := .pointer (some ⟨bt, 0, none⟩)) rfl _ (.inl rfl) rfl ?_; try simp only [Act.put, List.setIfInBounds_toArray, List.set_cons_zero, List.set_cons_succ]
        refine k_nilI ⟨bt, 0, none⟩ rfl _ rfl rfl ?_; try simp only [Act.put, List.setIfInBounds_toArray, List.set_cons_zero, List.set_cons_succ]
        refine k_faI rfl rfl rfl (fa_stkR bt) ?_; try simp only [Act.put, List.setIfInBounds_toArray, List.set_cons_zero, List.set_cons_succ]
        refine k_cellC (b := bt) (j := 0) (v := .slice pt Ws7.length ct) rfl _ _ rfl rfl (fun w' h => (HQ8.out.call h).t.blk.cell rfl) words_aggI ?_; try simp only [Act.put, List.setIfInBounds_toArray, List.set_cons_zero, List.set_cons_succ]
        refine k_lenW (p := pt) (n := Ws7.length) (c := ct) rfl _ rfl rfl ?_; try simp only [Act.put, List.setIfInBounds_toArray, List.set_cons_zero, List.set_cons_succ]
        refine k_neqI (m := (Ws7.length : Int)) (n := (Ws7.length : Int)) (t := false) rfl _ _ _ rfl rfl rfl (decide_eq_false (by omega)) ?_; try simp only [Act.put, List.setIfInBounds_toArray, List.set_cons_zero, List.set_cons_succ]
        refine k_pickF (t := false) rfl _ _ _ rfl rfl rfl ?_; try simp only [Act.put, List.setIfInBounds_toArray, List.set_cons_zero, List.set_cons_succ]
        refine k_end ?_
        intro w8 hT8
        have HQ9 := Lib.hid (HQ8.out.call hT8)
        clear HQ8 HZM HZS hT8
        have HS9 := Lib.hid (St.one HQ9.out.r.blk)
        by_cases hbig : 20000 < L7.length
        · have hbig' : (20000 : Int) < (L7.length : Int) := by omega
          go_wp2_with (refine st_cell1 (v := .slice pr L7.length cr) HS9.out rfl 24 _ rfl rfl .head rfl bytes_aggI ?_)
          go_ret
          exact ⟨rfl, HQ9.out.T⟩
        · have hbig' : ¬ (20000 : Int) < (L7.length : Int) := by omega
          go_wp2_with (refine st_cell1 (v := .slice pr L7.length cr) HS9.out rfl 24 _ rfl rfl .head rfl bytes_aggI ?_)
          go_roundw
          case rel => exact ⟨k + 1, by go_num, hlt, Lib.hid ⟨_, _, _, _, k7, L7, Ws7, HQ9.out, HG8.out.1, HG8.out.2.1, HG8.out.2.2.1, HG8.out.2.2.2.1, HG8.out.2.2.2.2⟩⟩
          case measure => simp [intOf]; omega
    · obtain rfl : k = As.length := by omega
      have hwl : Ws.length ≤ 1024 := HG.out.2.2.2.1
      have hp := fun w' (h : StkIn w.heap.size 29 w' bs vs Ws) => pop_any w.heap.size bs vs Ws (Ws.length : Int) w' h hwl (by omega)
      have hrp := fun w' (h : StkIn w.heap.size 35 w' bt vt Ws) => rpop_any w.heap.size bt vt Ws (Ws.length : Int) w' h hwl (by omega)
      rw [popOut_all] at hp hrp
      have HP := Lib.hid hp
      have HRP := Lib.hid hrp
      have HOL := Lib.hid (popOut_ok hwl HG.out.2.2.2.2 (Ws.length : Int))
      have HZS := Lib.hid (len_any _ _ _ _ wr HQ.out.s)
      have HST := Lib.hid (St.one HQ.out.t.blk)
      obtain ⟨pt, ct, rfl, _⟩ := HQ.out.t.slice
      obtain ⟨pr, cr, rfl, _⟩ := HQ.out.r.slice
      clear hp hrp
      generalize popOut Ws (Ws.length : Int) = Os at *
      generalize hWr : popL Ws (Ws.length : Int) = Wr at *
      clear hWr
      go_upto_region 20 with (first
        | (go_at_call 11; go_must (refine HZS.out.mono ?_; rintro e wz ⟨rfl, hz⟩; subst hz))
        | (go_at_call 12; go_must (refine (HP.out _ HQ.out.s).mono ?_; rintro e w2 ⟨vo, vs2, rfl, hO2, hM2, hT2⟩; have HQ2 := Lib.hid (HQ.out.turnS hM2 hT2); have HO2 := Lib.hid hO2; clear hM2 hT2 hO2))
        | (refine st_cell1 (v := .slice pt Ws.length ct) (St.one HQ2.out.t.blk) rfl 27 _ rfl rfl .head rfl words_aggI ?_)
        | (go_at_call 13; go_must (refine (HRP.out _ HQ2.out.t).mono ?_; rintro e w3 ⟨vo2, vt3, rfl, hO3, hM3, hT3⟩; have HQ3 := Lib.hid (HQ2.out.turnT hM3 hT3); have HO3 := Lib.hid (And.intro (own_far HO2.out hT3.tch (fun q hq hm => absurd (Nat.lt_of_lt_of_le (HQ.out.t.lt hm).2 (HO2.out.lt q hq).1) (Nat.lt_irrefl _))) hO3); clear hM3 hT3 hO3)))
      have hsame := fun w' (h : Tch [] w3 w') => sameWords_any vo vo2 Os _ _ w' (own_far HO3.out.1 h (by simp)) (own_far HO3.out.2 h (by simp)) HOL.out.2 (by have := HOL.out.1; omega)
      have HSM := Lib.hid hsame
      have HQ4 := Lib.hid (fun w' (h : Tch [] w3 w') => HQ3.out.call h)
      have HLT := Lib.hid HG.out.2.2.1
      have hLm : L.length ≤ 1048576 := by have := HG.out.1; have := HG.out.2.1; omega
      have hgl : getL L 0 (L.length : Int) = L := by
        unfold getL; rw [if_neg (by omega), Int.toNat_natCast]; exact cutL_full L
      clear hsame HP HRP HZS HST HQ HQ2 HO2 HO3
      try simp only [Act.put, List.setIfInBounds_toArray, List.set_cons_zero, List.set_cons_succ]
      refine wp_region_held_drew (S := fun w' => Tch [] w3 w') (by kernel_rfl) ((Tch.refl _ _).drew) (fun hC => ?_)
      generalize World.drew w3 = u0 at hC ⊢
      refine held_in (v := (.bool true)) 0 rfl (by kernel_rfl) (by kernel_rfl) (by kernel_rfl) (fun _ _ _ h => h) hC rfl (fun w' hw' => x_val _ (.inl rfl) rfl) ?_
      try simp only [Act.put, List.setIfInBounds_toArray, List.set_cons_zero, List.set_cons_succ]
      refine held_in (v := (.bool true)) 1 rfl (by kernel_rfl) (by kernel_rfl) (by kernel_rfl) (fun _ _ _ h => h) hC rfl (fun w' hw' => x_val _ (.inl rfl) rfl) ?_
      try simp only [Act.put, List.setIfInBounds_toArray, List.set_cons_zero, List.set_cons_succ]
      refine held_in (v := (vo)) 2 rfl (by kernel_rfl) (by kernel_rfl) (by kernel_rfl) (fun _ _ _ h => h) hC rfl (fun w' hw' => x_val _ (.inl rfl) rfl) ?_
      try simp only [Act.put, List.setIfInBounds_toArray, List.set_cons_zero, List.set_cons_succ]
      refine held_in (v := (vo2)) 3 rfl (by kernel_rfl) (by kernel_rfl) (by kernel_rfl) (fun _ _ _ h => h) hC rfl (fun w' hw' => x_val _ (.inl rfl) rfl) ?_
      try simp only [Act.put, List.setIfInBounds_toArray, List.set_cons_zero, List.set_cons_succ]
      refine held_one 4 (by kernel_rfl) ?_
      refine held_call2I (v1 := vo) (v2 := vo2) rfl rfl rfl (by rfl) (by rfl) Try.call14 (HSM.out _ hC) ?_
      rintro e u1 ⟨rfl, hT1⟩
      have hC1 := hC.trans hT1
      refine ⟨_, rfl, hC1, ?_⟩
      try simp only [Act.put, List.setIfInBounds_toArray, List.set_cons_zero, List.set_cons_succ]
      refine held_in (v := (.bool true)) 5 rfl (by kernel_rfl) (by kernel_rfl) (by kernel_rfl) (fun _ _ _ h => h) hC1 rfl (fun w' hw' => x_pickT _ _ _ rfl rfl rfl) ?_
      try simp only [Act.put, List.setIfInBounds_toArray, List.set_cons_zero, List.set_cons_succ]
      refine held_in (v := (.bool true)) 6 rfl (by kernel_rfl) (by kernel_rfl) (by kernel_rfl) (fun _ _ _ h => h) hC1 rfl (fun w' hw' => x_val _ (.inl rfl) rfl) ?_
      try simp only [Act.put, List.setIfInBounds_toArray, List.set_cons_zero, List.set_cons_succ]
      refine held_in (v := (.pointer (some ⟨br, 0, none⟩))) 10 rfl (by kernel_rfl) (by kernel_rfl) (by kernel_rfl) (fun _ _ _ h => h) hC1 rfl (fun w' hw' => x_val _ (.inl rfl) rfl) ?_
      try simp only [Act.put, List.setIfInBounds_toArray, List.set_cons_zero, List.set_cons_succ]
      refine held_in (v := (.pointer (some ⟨br, 0, none⟩))) 11 rfl (by kernel_rfl) (by kernel_rfl) (by kernel_rfl) (fun _ _ _ h => h) hC1 rfl (fun w' hw' => x_nilck _ rfl rfl) ?_
      try simp only [Act.put, List.setIfInBounds_toArray, List.set_cons_zero, List.set_cons_succ]
      refine held_in (v := (.pointer (some ⟨br, 0, none⟩))) 12 rfl (by kernel_rfl) (by kernel_rfl) (by kernel_rfl) (fun _ _ _ h => h) hC1 rfl (fun w' hw' => x_fa _ _ _ rfl rfl (fa_memR _ _)) ?_
      try simp only [Act.put, List.setIfInBounds_toArray, List.set_cons_zero, List.set_cons_succ]
      refine held_in (v := (.slice pr L.length cr)) 13 rfl (by kernel_rfl) (by kernel_rfl) (by kernel_rfl) (fun _ _ _ h => h) hC1 rfl (fun w' hw' => x_cell _ _ rfl rfl ((HQ4.out w' hw').r.blk.cell rfl) bytes_aggI) ?_
      try simp only [Act.put, List.setIfInBounds_toArray, List.set_cons_zero, List.set_cons_succ]
      refine held_in (v := (.string (strB L))) 14 rfl (by kernel_rfl) (by kernel_rfl) (by kernel_rfl) (fun _ _ _ h => h) hC1 rfl (fun w' hw' => x_convB _ rfl rfl (RdB.own (HQ4.out w' hw').r.own HLT.out)) ?_
      try simp only [Act.put, List.setIfInBounds_toArray, List.set_cons_zero, List.set_cons_succ]
      refine held_one 7 (by kernel_rfl) ?_
      refine held_call (v1 := .pointer (some ⟨bm, 0, none⟩)) rfl rfl rfl (by rfl) Try.call10 (size_any _ _ _ _ u1 (HQ4.out _ hC1).m) ?_
      rintro e u2 ⟨rfl, hz⟩
      subst hz
      refine ⟨_, rfl, hC1, ?_⟩
      try simp only [Act.put, List.setIfInBounds_toArray, List.set_cons_zero, List.set_cons_succ]
      refine held_one 8 (by kernel_rfl) ?_
      refine held_call3 (v1 := .pointer (some ⟨bm, 0, none⟩)) (v2 := .int .i64 0) (v3 := .int .i64 (L.length : Int)) rfl rfl rfl (by rfl) (by rfl) (by rfl) Try.call15 (get_any _ bm _ L 0 (L.length : Int) _ (HQ4.out _ hC1).m HLT.out (by omega)) ?_
      rintro e u3 ⟨vg, rfl, hg1, hT3⟩
      rw [hgl] at hg1
      have hC3 := hC1.trans hT3
      refine ⟨_, rfl, hC3, ?_⟩
      try simp only [Act.put, List.setIfInBounds_toArray, List.set_cons_zero, List.set_cons_succ]
      refine held_one 9 (by kernel_rfl) ?_
      refine held_x (v := .string (strB L)) rfl rfl (x_convB _ rfl rfl (RdB.own hg1 HLT.out)) ?_
      refine ⟨hC3, ?_⟩
      try simp only [Act.put, List.setIfInBounds_toArray, List.set_cons_zero, List.set_cons_succ]
      refine held_in (v := (.bool true)) 15 rfl (by kernel_rfl) (by kernel_rfl) (by kernel_rfl) (fun _ _ _ h => h) hC3 rfl (fun w' hw' => x_strS _ _ _ rfl rfl rfl) ?_
      try simp only [Act.put, List.setIfInBounds_toArray, List.set_cons_zero, List.set_cons_succ]
      refine held_in (v := (.bool true)) 16 rfl (by kernel_rfl) (by kernel_rfl) (by kernel_rfl) (fun _ _ _ h => h) hC3 rfl (fun w' hw' => x_pickT _ _ _ rfl rfl rfl) ?_
      try simp only [Act.put, List.setIfInBounds_toArray, List.set_cons_zero, List.set_cons_succ]
      refine held_in (v := (.bool true)) 17 rfl (by kernel_rfl) (by kernel_rfl) (by kernel_rfl) (fun _ _ _ h => h) hC3 rfl (fun w' hw' => x_val _ (.inr rfl) rfl) ?_
      try simp only [Act.put, List.setIfInBounds_toArray, List.set_cons_zero, List.set_cons_succ]
      refine wpAnyH_done (by kernel_rfl) ?_ _
      clear hg1 hT3 hC hC1
      go_wp2
      go_ret
      exact ⟨rfl, HQ3.out.T.trans hC3⟩
end Go.Proofs.Ytlliidfkjlmadaa
