/- The document's Info, Line and Op. -/
import Derived.Test.YtjbjjiibldlipaaO13
namespace Go.Proofs.Ytjbjjiibldlipaa
open Go.RowKit

theorem infD_val (x : Nat) (hx : x < 256) : (infD x).2 = (nm x, (ins x).2) := by
  have all : ∀ x : Fin 256, (infD x.val).2 = (nm x.val, (ins x.val).2) := by decide +kernel
  exact all ⟨x, hx⟩
theorem mkR_val (x : Nat) (hx : x < 256) : mkR (infD x) = #[.int .u8 ((infD x).1 : Int), .string (strB (nm x)), .int .i64 ((ins x).2.1 : Int), .int .i64 ((ins x).2.2.1 : Int), .int .i64 ((ins x).2.2.2 : Int)] := by
  unfold mkR; rw [infD_val x hx]
section
variable {o : Oper} {a : Act} {ops : Array Oper} {rest : List Oper} {C : World → Prop} {Q : Act → Prop} {t : Bool}
theorem k_neS {l m : List Nat} (hw : Region.wanted o (yielded ops a.tmps) = true) (x y : Operand) (yt : TypeId) (ho : o.op = .binOp .neq 9 x y yt) (hx : a.eval x = .string (strB l)) (hy : a.eval y = .string (strB m)) (hl : ∀ x ∈ l, x < 256) (hm : ∀ x ∈ m, x < 256) (ht : (l != m) = t)
    (h : KQ ops C Q rest (a.put o.dst (.bool t))) : KQ ops C Q (o :: rest) a :=
  k_pure hw (fun w => by
    have e : ((strB l).toList == (strB m).toList) = (l == m) := strB_eq hl hm
    unfold execOp; simp only [ho, hx, hy]; show Sem.run _ _ w = _; simp [eqGuard, binOp, Op.stringOp, e, ← ht, bne]) h
end
section
variable {ops : Array Oper} {md : Region.Mode} {Q : Exit → Act → World → Prop} {S : World → Prop} {a : Act} {w : World} {fuel : Nat} {listed : Array Bool} {o : Oper}
/-- What yields in every world that is met is taken first. -/
theorem heldO_in {l0 : List Oper} {o : Oper} {v : Value} (i : Nat) (hi : l0[i]? = some o) (hs : Region.noSelect l0.toArray = true) (hf : Region.free md l0.toArray listed i = true) (hr : (Region.ready md l0.toArray listed).contains i = true) (hQ : ∀ c a w, Q (.panic c) (a.put o.dst v) w → Q (.panic c) a w) (hS : S w)
    (hw : Region.wanted o (yielded l0.toArray a.tmps) = true) (hx : ∀ w, S w → (execOp a.eval o).run Try.prog w = .ok (.value v) w)
    (h : wpAnyH Try.prog md l0.toArray Q S fuel (listed.setIfInBounds i true) (a.put o.dst v) w) : wpAnyH Try.prog md l0.toArray Q S (fuel + 1) listed a w :=
  wpAnyH_take (by rw [List.getElem?_toArray]; exact hi) hs hf hr hQ (.inl ⟨hw, fun w hS => by rw [hx w hS]⟩) hS h
/-- A whole block is stored. -/
theorem heldO_storeB {l0 : List Oper} {n m : Nat} {K : Act → World → Prop} {b : Nat} {t ty : TypeId} {c c' : Array Value} {xo yo : Operand} (hB : Blk w b t c) (hi : (Try.prog.info? ty).map (·.size) = some m) (hn : c.size = m) (hn' : c'.size = m) (h1 : c'.all (·.oneCell') = true)
    (ho : l0[n]? = some o) (hw : Region.wanted o (yielded l0.toArray a.tmps) = true) (hop : o.op = .store ty xo yo) (hx : a.eval xo = .pointer (some ⟨b, 0, none⟩)) (hy : a.eval yo = .agg c')
    (h : ∀ w', Only b w w' → Blk w' b t c' → K (a.put o.dst undef) w') : wpOp Try.prog l0.toArray Q n K a w := by
  have ho' : l0.toArray[n]? = some o := by rw [List.getElem?_toArray]; exact ho
  have hr := hB.store (P := Try.prog) hi hn hn' h1
  unfold wpOp
  simp only [ho', hw, if_true]
  refine .inl ?_
  unfold Oper.wp execOp
  simp only [hop, hx, hy, Sem.run_bind, hr, Result.andThen_ok, Sem.run_pure]
  exact h _ (Only.setRow w b c') (hB.row c')
theorem xo_val {v : Value} (xo : Operand) (ho : o.op = .move xo ∨ o.op = .assign xo) (hx : a.eval xo = v) : (execOp a.eval o).run Try.prog w = .ok (.value v) w := by
  unfold execOp; rcases ho with ho | ho <;> simp only [ho, hx] <;> rfl
theorem xo_idx {ty : TypeId} {x y : Operand} {vx vy u : Value} (ho : o.op = .indexAddr ty x y) (hx : a.eval x = vx) (hy : a.eval y = vy) (hr : ∀ w, (Instr.indexAt ty vx vy).run Try.prog w = .ok u w) : (execOp a.eval o).run Try.prog w = .ok (.value u) w := by
  unfold execOp; simp only [ho, hx, hy, Sem.run_bind, hr, Result.andThen_ok, Sem.run_pure]
theorem xo_fa {ty : TypeId} {x : Operand} {f : Nat} {v u : Value} (ho : o.op = .fieldAddr ty x f) (hx : a.eval x = v) (hr : ∀ w, (Instr.fieldAt ty v f).run Try.prog w = .ok u w) : (execOp a.eval o).run Try.prog w = .ok (.value u) w := by
  unfold execOp; simp only [ho, hx, Sem.run_bind, hr, Result.andThen_ok, Sem.run_pure]
theorem xo_ldMid {b q : Nat} {ty t : TypeId} {c cs : Array Value} {d : TypeDesc} {x : Operand} (hB : Blk w b t cs) (ho : o.op = .load ty x) (hx : a.eval x = .pointer (some ⟨b, q, none⟩)) (hr : ∀ j u, c.toList[j]? = some u → cs[q + j]? = some u) (hu : Try.prog.underlying ty = some d) (hd : d.isRow = true) (hs : (Try.prog.info? ty).map (·.size) = some c.size) : (execOp a.eval o).run Try.prog w = .ok (.value (.agg c)) w := by
  have h := run_loadAt_mid (P := Try.prog) w b q ty c.toList d (fun j u hu => hB.cell (hr j u hu)) hu hd (by rw [Array.length_toList]; exact hs)
  rw [Array.toArray_toList] at h
  unfold execOp
  simp only [ho, hx, Sem.run_bind, h, Result.andThen_ok, Sem.run_pure]
theorem xo_cell {b j : Nat} {ty t : TypeId} {cs : Array Value} {v : Value} {x : Operand} (hB : Blk w b t cs) (ho : o.op = .load ty x) (hx : a.eval x = .pointer (some ⟨b, j, none⟩)) (hv : cs[j]? = some v) (hu : ∀ w, (isAgg ty).run Try.prog w = .ok false w) : (execOp a.eval o).run Try.prog w = .ok (.value v) w := by
  unfold execOp
  simp only [ho, hx, Instr.loadAt, Instr.sureAddr, loadVar, Sem.run_bind, hu, Result.andThen_ok, Sem.run_pure, Bool.false_eq_true, if_false, run_load, hB.cell hv]
theorem xo_neS {l m : List Nat} {t : Bool} {x y : Operand} {yt : TypeId} (ho : o.op = .binOp .neq 9 x y yt) (hx : a.eval x = .string (strB l)) (hy : a.eval y = .string (strB m)) (hl : ∀ x ∈ l, x < 256) (hm : ∀ x ∈ m, x < 256) (ht : (l != m) = t) : (execOp a.eval o).run Try.prog w = .ok (.value (.bool t)) w := by
  have e : ((strB l).toList == (strB m).toList) = (l == m) := strB_eq hl hm
  unfold execOp; simp only [ho, hx, hy]; show Sem.run _ _ w = _; simp [eqGuard, binOp, Op.stringOp, e, ← ht, bne]
end
def LinePost (x : Nat) (w : World) (e : Ending) (w' : World) : Prop := e = .returned (.tuple #[.string (strB (nm x)), .int .i64 ((ins x).2.1 : Int), .int .i64 ((ins x).2.2.1 : Int), .int .i64 ((ins x).2.2.2 : Int)]) ∧ Tch [] w w'
/-- Which byte has this name. -/
def opF (L : List Nat) : Option Nat := (List.range 256).find? fun x => nm x != [] && nm x == L
theorem opF_some {L : List Nat} {k : Nat} (hk : k < 256) (h0 : nm k ≠ []) (h : nm k = L) : opF L = some k := by
  unfold opF
  rw [List.find?_range_eq_some]
  refine ⟨by rw [← h]; simp [h0], List.mem_range.2 hk, fun j hj => ?_⟩
  have : ¬ (nm j ≠ [] ∧ nm j = L) := fun ⟨e1, e2⟩ => by
    have := nm_inj j k (by omega) hk e1 (e2.trans h.symm)
    omega
  by_cases e1 : nm j = [] <;> by_cases e2 : nm j = L <;> simp_all
theorem opF_none {L : List Nat} (h : ∀ j, j < 256 → nm j ≠ [] → nm j ≠ L) : opF L = none := by
  unfold opF
  rw [List.find?_eq_none]
  intro x hx
  have hx := List.mem_range.1 hx
  by_cases e1 : nm x = []
  · simp [e1]
  · have := h x hx e1
    simp [this]
theorem opF_lt {L : List Nat} {k : Nat} (h : opF L = some k) : k < 256 ∧ nm k ≠ [] ∧ nm k = L := by
  unfold opF at h
  have h1 := List.find?_some h
  have h2 := List.mem_range.1 (List.mem_of_find?_eq_some h)
  simp only [Bool.and_eq_true, bne_iff_ne, ne_eq, beq_iff_eq] at h1
  exact ⟨h2, h1⟩
def OpPost (L : List Nat) (w : World) (e : Ending) (w' : World) : Prop := e = .returned (.tuple #[.int .u8 ((((opF L).getD 0 : Nat)) : Int), .bool (opF L).isSome]) ∧ Tch [] w w'
set_option maxHeartbeats 1000000 in
set_option maxRecDepth 100000 in
theorem rop_nil (w : World) : Calls Try.prog 32 #[.string (strB [])] w (OpPost [] w) := by
  have hS := St.start w
  have h1 := allF_one' infD
  have HN := Lib.hid (opF_none (L := []) fun j _ h => h)
  go_enter Try.func32, Try.ntmps32
  go_upto_region 3 with (first
    | (go_at_call 18; refine (all_any _).mono ?_; rintro e w3 ⟨rfl, hT3⟩; replace hS := hS.call hT3)
    | (refine st_new (c := allZ) hS rfl 52 rfl all_zero ?_; clear hS; intro w4 b4 hS)
    | (refine st_store (b := b4) (c' := allA) hS rfl 52 _ _ rfl rfl rfl .head all_tsize (fl_size (m := 5) (fun i => rfl) 256) (allF_size _) h1 ?_; clear hS; intro w5 hS))
  go_loopw [5] (fun i wr => i = .int .i64 0 ∧ St [] w wr [(b4, 52, allA)]) (fun _ _ => 0)
  case atStart => exact ⟨rfl, hS⟩
  case round =>
    clear hS
    obtain ⟨rfl, hS⟩ := hrel
    go_upto_region 3 with (fail)
    refine k_seq (C := fun w' => St [] w w' [(b4, 52, allA)]) hS ?_
    refine k_val (v := .int .i64 0) rfl _ (.inl rfl) rfl ?_; try simp only [Act.put, List.setIfInBounds_toArray, List.set_cons_zero, List.set_cons_succ]
    refine k_lss (t := true) rfl _ _ _ rfl rfl rfl rfl ?_; try simp only [Act.put, List.setIfInBounds_toArray, List.set_cons_zero, List.set_cons_succ]
    refine k_val (v := .bool true) rfl _ (.inl rfl) rfl ?_; try simp only [Act.put, List.setIfInBounds_toArray, List.set_cons_zero, List.set_cons_succ]
    refine k_val (v := .string (strB [])) rfl _ (.inl rfl) rfl ?_; try simp only [Act.put, List.setIfInBounds_toArray, List.set_cons_zero, List.set_cons_succ]
    refine k_neS (l := []) (m := []) (t := false) rfl _ _ _ rfl rfl rfl (by simp) (by simp) rfl ?_; try simp only [Act.put, List.setIfInBounds_toArray, List.set_cons_zero, List.set_cons_succ]
    refine k_pickT (t := false) rfl _ _ _ rfl rfl rfl ?_; try simp only [Act.put, List.setIfInBounds_toArray, List.set_cons_zero, List.set_cons_succ]
    refine k_end ?_
    clear hS
    intro w7 hS
    go_wp2
    go_ret2
    exact ⟨by rw [HN.out]; rfl, hS.frame⟩
set_option maxHeartbeats 1000000 in
set_option maxRecDepth 100000 in
theorem rop_some (L : List Nat) (w : World) (h0 : L ≠ []) (hL : ∀ x ∈ L, x < 256) : Calls Try.prog 32 #[.string (strB L)] w (OpPost L w) := by
  have hS := St.start w
  have h1 := allF_one' infD
  have HL := Lib.hid hL
  have HNE := Lib.hid (show (L != []) = true by simpa using h0)
  clear hL
  go_enter Try.func32, Try.ntmps32
  go_upto_region 3 with (first
    | (go_at_call 18; refine (all_any _).mono ?_; rintro e w3 ⟨rfl, hT3⟩; replace hS := hS.call hT3)
    | (refine st_new (c := allZ) hS rfl 52 rfl all_zero ?_; clear hS; intro w4 b4 hS)
    | (refine st_store (b := b4) (c' := allA) hS rfl 52 _ _ rfl rfl rfl .head all_tsize (fl_size (m := 5) (fun i => rfl) 256) (allF_size _) h1 ?_; clear hS; intro w5 hS))
  go_loopw [5] (fun i wr => ∃ k : Nat, i = .int .i64 (k : Int) ∧ k ≤ 256 ∧ Hid (∀ j, j < k → nm j ≠ L) ∧ St [] w wr [(b4, 52, allA)]) (fun i _ => 256 - (intOf i).toNat)
  case atStart => exact ⟨0, rfl, Nat.zero_le _, Lib.hid (fun j hj => absurd hj (Nat.not_lt_zero j)), hS⟩
  case round =>
    clear hS
    obtain ⟨k, rfl, hk, HJ, hS⟩ := hrel
    by_cases hlt : k < 256
    · have HD := Lib.hid (show decide ((k : Int) < 256) = true from decide_eq_true (by omega))
      have HI := Lib.hid (idx_all b4 k hlt .i64)
      have HC1 := Lib.hid (all_mid infD k hlt 1 (.string (strB (nm k))) (by rw [mkR_val k hlt]; rfl))
      have HN := Lib.hid (nm_lt ⟨k, hlt⟩)
      go_upto_region 3 with (fail)
      refine k_seq (C := fun w' => St [] w w' [(b4, 52, allA)]) hS ?_
      refine k_val (v := .int .i64 (k : Int)) rfl _ (.inl rfl) rfl ?_; try simp only [Act.put, List.setIfInBounds_toArray, List.set_cons_zero, List.set_cons_succ]
      refine k_lss rfl _ _ _ rfl rfl rfl HD.out ?_; try simp only [Act.put, List.setIfInBounds_toArray, List.set_cons_zero, List.set_cons_succ]
      refine k_val (v := .bool true) rfl _ (.inl rfl) rfl ?_; try simp only [Act.put, List.setIfInBounds_toArray, List.set_cons_zero, List.set_cons_succ]
      refine k_val (v := .string (strB L)) rfl _ (.inl rfl) rfl ?_; try simp only [Act.put, List.setIfInBounds_toArray, List.set_cons_zero, List.set_cons_succ]
      refine k_neS (l := L) (m := []) rfl _ _ _ rfl rfl rfl HL.out (by simp) HNE.out ?_; try simp only [Act.put, List.setIfInBounds_toArray, List.set_cons_zero, List.set_cons_succ]
      refine k_pickT (t := true) rfl _ _ _ rfl rfl rfl ?_; try simp only [Act.put, List.setIfInBounds_toArray, List.set_cons_zero, List.set_cons_succ]
      refine k_end ?_
      clear hS
      intro w7 hS
      by_cases heq : nm k = L
      · have HQ1 := Lib.hid (show (nm k == L) = true by simpa using heq)
        have HO := Lib.hid (opF_some hlt (by rw [heq]; exact h0) heq)
        clear heq
        go_upto_region 5 with (fail)
        refine k_seq (C := fun w' => St [] w w' [(b4, 52, allA)]) hS ?_
        refine k_val (v := .int .i64 (k : Int)) rfl _ (.inl rfl) rfl ?_; try simp only [Act.put, List.setIfInBounds_toArray, List.set_cons_zero, List.set_cons_succ]
        refine k_idxG (vx := .pointer (some ⟨b4, 0, none⟩)) (vy := .int .i64 (k : Int)) rfl rfl rfl rfl HI.out ?_; try simp only [Act.put, List.setIfInBounds_toArray, List.set_cons_zero, List.set_cons_succ]
        refine k_fa (v := .pointer (some ⟨b4, k * 5, none⟩)) rfl rfl rfl (inf_fa1 b4 (k * 5)) ?_; try simp only [Act.put, List.setIfInBounds_toArray, List.set_cons_zero, List.set_cons_succ]
        refine k_cell (v := .string (strB (nm k))) (b := b4) (j := k * 5 + 1) rfl _ _ rfl rfl .head HC1.out string_agg ?_; try simp only [Act.put, List.setIfInBounds_toArray, List.set_cons_zero, List.set_cons_succ]
        refine k_val (v := .string (strB L)) rfl _ (.inl rfl) rfl ?_; try simp only [Act.put, List.setIfInBounds_toArray, List.set_cons_zero, List.set_cons_succ]
        refine k_eqS (l := nm k) (m := L) rfl _ _ _ rfl rfl rfl HN.out HL.out HQ1.out ?_; try simp only [Act.put, List.setIfInBounds_toArray, List.set_cons_zero, List.set_cons_succ]
        refine k_end ?_
        clear hS
        intro w8 hS
        go_wp2
        go_ret2
        exact ⟨by rw [HO.out]; rfl, hS.frame⟩
      · have HQ1 := Lib.hid (show (nm k == L) = false by simpa using heq)
        have HJ2 := Lib.hid heq
        clear heq
        go_upto_region 5 with (fail)
        refine k_seq (C := fun w' => St [] w w' [(b4, 52, allA)]) hS ?_
        refine k_val (v := .int .i64 (k : Int)) rfl _ (.inl rfl) rfl ?_; try simp only [Act.put, List.setIfInBounds_toArray, List.set_cons_zero, List.set_cons_succ]
        refine k_idxG (vx := .pointer (some ⟨b4, 0, none⟩)) (vy := .int .i64 (k : Int)) rfl rfl rfl rfl HI.out ?_; try simp only [Act.put, List.setIfInBounds_toArray, List.set_cons_zero, List.set_cons_succ]
        refine k_fa (v := .pointer (some ⟨b4, k * 5, none⟩)) rfl rfl rfl (inf_fa1 b4 (k * 5)) ?_; try simp only [Act.put, List.setIfInBounds_toArray, List.set_cons_zero, List.set_cons_succ]
        refine k_cell (v := .string (strB (nm k))) (b := b4) (j := k * 5 + 1) rfl _ _ rfl rfl .head HC1.out string_agg ?_; try simp only [Act.put, List.setIfInBounds_toArray, List.set_cons_zero, List.set_cons_succ]
        refine k_val (v := .string (strB L)) rfl _ (.inl rfl) rfl ?_; try simp only [Act.put, List.setIfInBounds_toArray, List.set_cons_zero, List.set_cons_succ]
        refine k_eqS (l := nm k) (m := L) rfl _ _ _ rfl rfl rfl HN.out HL.out HQ1.out ?_; try simp only [Act.put, List.setIfInBounds_toArray, List.set_cons_zero, List.set_cons_succ]
        refine k_end ?_
        clear hS
        intro w8 hS
        go_wp2
        go_roundw
        case rel =>
          refine ⟨k + 1, by go_num, hlt, Lib.hid (fun j hj => ?_), hS⟩
          by_cases e : j = k
          · subst e; exact HJ2.out
          · exact HJ.out j (by omega)
        case measure => simp [intOf]; omega
    · obtain rfl : k = 256 := by omega
      have HO := Lib.hid (opF_none fun j hj _ => HJ.out j hj)
      go_upto_region 3 with (fail)
      refine k_seq (C := fun w' => St [] w w' [(b4, 52, allA)]) hS ?_
      refine k_val (v := .int .i64 (((256 : Nat)) : Int)) rfl _ (.inl rfl) rfl ?_; try simp only [Act.put, List.setIfInBounds_toArray, List.set_cons_zero, List.set_cons_succ]
      refine k_lss (t := false) rfl _ _ _ rfl rfl rfl rfl ?_; try simp only [Act.put, List.setIfInBounds_toArray, List.set_cons_zero, List.set_cons_succ]
      refine k_val (v := .bool false) rfl _ (.inl rfl) rfl ?_; try simp only [Act.put, List.setIfInBounds_toArray, List.set_cons_zero, List.set_cons_succ]
      refine k_skip rfl rfl rfl rfl rfl ?_; try simp only [Act.put, List.setIfInBounds_toArray, List.set_cons_zero, List.set_cons_succ]
      refine k_skip rfl rfl rfl rfl rfl ?_; try simp only [Act.put, List.setIfInBounds_toArray, List.set_cons_zero, List.set_cons_succ]
      refine k_pickF (t := false) rfl _ _ _ rfl rfl rfl ?_; try simp only [Act.put, List.setIfInBounds_toArray, List.set_cons_zero, List.set_cons_succ]
      refine k_end ?_
      clear hS
      intro w7 hS
      go_wp2
      go_ret2
      exact ⟨by rw [HO.out]; rfl, hS.frame⟩
theorem rop_any (L : List Nat) (w : World) (hL : ∀ x ∈ L, x < 256) : Calls Try.prog 32 #[.string (strB L)] w (OpPost L w) := by
  by_cases h0 : L = []
  · subst h0; exact rop_nil w
  · exact rop_some L w h0 hL
end Go.Proofs.Ytjbjjiibldlipaa
