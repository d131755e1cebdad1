/- RlpInside: the walk. -/
import Derived.Test.YtacnechjofnnjaaS3
import Derived.Test.YtacnechjofnnjaaK0
namespace Go.Proofs.Ytacnechjofnnjaa
open Go.RowKit

theorem append_any_nil (ty : TypeId) (q : Option Addr) (n c c' : Nat) (w : World) (hn : n ≤ c) (hq : q = none → n = 0 ∧ c = 0) : (Builtin.append_ #[22, 22] ty #[.slice q n c, .slice none 0 c']).run Try.prog w = .ok (.slice q n c) w := by
  obtain ⟨i, hi, hz, hs, hb⟩ := info_parts A_info
  cases q with
  | none =>
    obtain ⟨rfl, rfl⟩ := hq rfl
    simp [Builtin.append_, run_underlying bytes_ty, sizeOf, typeInfo, hi, storeCells, Builtin.lenOf, Builtin.firstCells]
  | some a => simp [Builtin.append_, run_underlying bytes_ty, sizeOf, typeInfo, hi, storeCells, Builtin.lenOf, Builtin.firstCells, hn]
/-- append(v, u...), v the call's own. -/
theorem st_appB {ops : Array Oper} {rest : List Oper} {o : Oper} {a : Act} {w0 w : World} {Q : Exit → Act → World → Prop} {v u : Value} {l m : List Nat} {ty : TypeId} (hgd : o.guard = none) (s x : Operand)
    (ho : o.op = .call { callee := .builtin .append, args := #[s, x], argTypes := #[22, 22] }) (hs : a.eval s = v) (hx : a.eval x = u) (hown : w.ownsRow w0.heap.size 5 1 v l.length (nb l)) (hT : Tch [] w0 w) (hu : RdB w u m) (hl : l.length + m.length ≤ 100000000)
    (h : ∀ v' w', w'.ownsRow w0.heap.size 5 1 v' (l ++ m).length (nb (l ++ m)) → Tch [] w0 w' → wpList Try.prog ops Q rest (a.put o.dst v') w') : wpList Try.prog ops Q (o :: rest) a w := by
  obtain ⟨i0, hi, hz0, hz1, hz2⟩ := info_parts A_info
  obtain ⟨p, c, rfl, hlc, hb, h4⟩ := hu
  cases p with
  | none =>
    have hl0 : m = [] := by
      cases m with
      | nil => rfl
      | cons x r => obtain ⟨_, _, h, _⟩ := h4 (by simp); cases h
    subst hl0
    have hv : ∃ q n c, v = .slice q n c ∧ n ≤ c ∧ (q = none → n = 0 ∧ c = 0) := by
      obtain ⟨_, h2⟩ := hown
      rcases h2 with ⟨rfl, _⟩ | ⟨g, cap, cur, rfl, _, _, hn, _⟩
      · exact ⟨none, 0, 0, rfl, Nat.le_refl _, fun _ => ⟨rfl, rfl⟩⟩
      · exact ⟨_, _, _, rfl, hn, fun h => by cases h⟩
    obtain ⟨q, n, cq, rfl, hn, hq⟩ := hv
    refine wpList_plain hgd fun K hK => ?_
    unfold Oper.wp execOp
    simp only [ho, resolve, invoke, builtin, Sem.run_bind, Sem.run_pure, Result.andThen_ok, List.map_toArray, List.map_cons, List.map_nil, hs, hx, List.length_nil, append_any_nil _ q n cq c w hn hq]
    exact hK _ _ (h _ _ (by rw [List.append_nil]; exact hown) hT)
  | some ad =>
    refine wpList_append_own w hgd s x 22 ho w0.heap.size 5 i0 (.int .u8 0) 1 1 bytes_ty hi hz0 hz1 hz2 rfl (by decide) _ _ _ hs hown ad m.length c (nb m) hx (by rw [nb_length, Nat.mul_one]) ?_ (fun u hu => by obtain ⟨x, _, rfl⟩ := List.mem_map.1 hu; rfl) (by unfold maxLen; omega) (by omega) hT.size ?_
    · intro j u hu
      obtain ⟨hj, rfl⟩ := nb_ne hu
      obtain ⟨b, o, h5, h6, h7⟩ := h4 (by intro e; subst e; simp at hj)
      cases h5
      have hadd : (⟨b, o, none⟩ : Addr).add j = ⟨b, o + j, none⟩ := by unfold Addr.add; split <;> simp_all
      rw [hadd]; exact h7 j hj
    · intro v' w' hown' hgrow _
      refine h v' w' ?_ ⟨hgrow.os.trans hT.os, hgrow.tape.trans hT.tape, hgrow.output.trans hT.output, Nat.le_trans hT.size hgrow.size, fun k hk _ => (hgrow.block k (Nat.lt_of_lt_of_le hk hT.size) (fun e => ?_)).trans (hT.block k hk (by simp))⟩
      · have e : nb (l ++ m) = nb l ++ nb m := by simp [nb]
        rw [e, List.length_append]; exact hown'
      · have := (hown.lt k e.symm).1; omega
theorem own_nil (w w0 : World) : w.ownsRow w0.heap.size 5 1 (.slice none 0 0) ([] : List Nat).length (nb []) := ⟨rfl, .inl ⟨rfl, rfl⟩⟩
section
variable {o : Oper} {a : Act} {ops : Array Oper} {rest : List Oper} {C : World → Prop} {Q : Act → Prop}
/-- A reslice. -/
theorem k_sl {ty : TypeId} {x : Operand} {lo hi mx : Option Operand} {v r : Value} {l h m : Option Value} (hw : Region.wanted o (yielded ops a.tmps) = true) (ho : o.op = .slice ty x lo hi mx) (hx : a.eval x = v) (hl : lo.map a.eval = l) (hh : hi.map a.eval = h) (hmx : mx.map a.eval = m)
    (hr : ∀ w, (Instr.sliceAt ty v l h m).run Try.prog w = .ok r w) (hk : KQ ops C Q rest (a.put o.dst r)) : KQ ops C Q (o :: rest) a :=
  k_pure hw (fun w => by
    unfold execOp
    simp only [ho, hx, hl, hh, hmx, Sem.run_bind, hr, Result.andThen_ok, Sem.run_pure]) hk
theorem k_lenSl {p : Option Addr} {n c : Nat} (hw : Region.wanted o (yielded ops a.tmps) = true) (x : Operand) (ho : o.op = .call { callee := .builtin .len, args := #[x], argTypes := #[22] }) (hx : a.eval x = .slice p n c)
    (h : KQ ops C Q rest (a.put o.dst (.int .i64 (n : Int)))) : KQ ops C Q (o :: rest) a :=
  k_pure hw (fun w => by unfold execOp; simp [ho, resolve, invoke, builtin, hx, Builtin.len_, run_underlying bytes_ty, goInt]) h
theorem k_slice {p : Option Addr} {l c : Nat} (hw : Region.wanted o (yielded ops a.tmps) = true) (xo : Operand) (ho : o.op = .move xo) (hx : a.eval xo = .slice p l c)
    (h : KQ ops C Q rest (a.put o.dst (.slice p l c))) : KQ ops C Q (o :: rest) a := k_val hw xo (.inl ho) hx h
/-- The place of an item in a list. -/
theorem k_idx3 {b off j n c : Nat} (hw : Region.wanted o (yielded ops a.tmps) = true) (x y : Operand) (ho : o.op = .indexAddr 23 x y) (hx : a.eval x = .slice (some ⟨b, off, none⟩) n c) (hy : a.eval y = .int .i64 (j : Int)) (hj : j < n)
    (h : KQ ops C Q rest (a.put o.dst (.pointer (some ⟨b, off + j * 3, none⟩)))) : KQ ops C Q (o :: rest) a :=
  k_pure hw (fun w => by
    have hadd : (⟨b, off, none⟩ : Addr).add (j * 3) = ⟨b, off + j * 3, none⟩ := by unfold Addr.add; split <;> simp_all
    unfold execOp
    simp [ho, hx, hy, Instr.indexAt, run_underlying items_ty, Instr.sureAddr, asIntOf, sizeOf_one item_size, hj, hadd]) h
theorem item_load {w : World} {b o' : Nat} {z0 zb zl : Value} (h0 : w.cell? ⟨b, o', none⟩ = some z0) (h1 : w.cell? ⟨b, o' + 1, none⟩ = some zb) (h2 : w.cell? ⟨b, o' + 2, none⟩ = some zl) : (Instr.loadAt 25 (.pointer (some ⟨b, o', none⟩))).run Try.prog w = .ok (.agg #[z0, zb, zl]) w := by
  go_simp
/-- An item is loaded out of a list. -/
theorem k_load3 {b o' : Nat} {z0 zb zl : Value} (hw : Region.wanted o (yielded ops a.tmps) = true) (x : Operand) (ho : o.op = .load 25 x) (hx : a.eval x = .pointer (some ⟨b, o', none⟩)) (hv : ∀ w, C w → w.cell? ⟨b, o', none⟩ = some z0 ∧ w.cell? ⟨b, o' + 1, none⟩ = some zb ∧ w.cell? ⟨b, o' + 2, none⟩ = some zl)
    (h : KQ ops C Q rest (a.put o.dst (.agg #[z0, zb, zl]))) : KQ ops C Q (o :: rest) a :=
  k_in hw (fun w hC => by
    obtain ⟨h0, h1, h2⟩ := hv w hC
    unfold execOp
    simp only [ho, hx, Sem.run_bind, item_load h0 h1 h2, Result.andThen_ok, Sem.run_pure]) h
theorem k_leq {t : Bool} {m n : Int} (hw : Region.wanted o (yielded ops a.tmps) = true) (xo yo : Operand) (yt : TypeId) (ho : o.op = .binOp .leq 3 xo yo yt)
    (hxe : a.eval xo = .int .i64 m) (hye : a.eval yo = .int .i64 n) (hxy : decide (m ≤ n) = t) (h : KQ ops C Q rest (a.put o.dst (.bool t))) : KQ ops C Q (o :: rest) a :=
  k_pure hw (fun w => by unfold execOp; simp only [ho, hxe, hye]; show Sem.run _ _ w = _; simp [eqGuard, binOp, Op.intCmp, hxy]) h
end
/-- What is guarded by a test that was itself passed by is passed by. -/
theorem k_skipU {o : Oper} {a : Act} {ops : Array Oper} {rest : List Oper} {C : World → Prop} {Q : Act → Prop} {j d : Nat} {want : Bool} {p : Oper} (hg : o.guard = some (j, want)) (hp : ops[j]? = some p) (hd : p.dst = some d) (ht : a.tmps[d]? = some undef)
    (h : KQ ops C Q rest (a.put o.dst undef)) : KQ ops C Q (o :: rest) a := by
  refine ⟨q_skip ?_ h.go⟩
  have hy : yielded ops a.tmps j = none := by unfold yielded; simp only [hp, Option.bind_some, hd, ht]; rfl
  have hw : Region.wanted o (yielded ops a.tmps) = (yielded ops a.tmps j == some want) := by unfold Region.wanted; simp only [hg]
  rw [hw, hy]; rfl
/-- Two integers, the first one the greater. -/
theorem k_gtr {o : Oper} {a : Act} {ops : Array Oper} {rest : List Oper} {C : World → Prop} {Q : Act → Prop} {t : Bool} {m n : Int} (hw : Region.wanted o (yielded ops a.tmps) = true) (xo yo : Operand) (yt : TypeId) (ho : o.op = .binOp .gtr 3 xo yo yt)
    (hxe : a.eval xo = .int .i64 m) (hye : a.eval yo = .int .i64 n) (hxy : decide (n < m) = t) (h : KQ ops C Q rest (a.put o.dst (.bool t))) : KQ ops C Q (o :: rest) a :=
  k_pure hw (fun w => by unfold execOp; simp only [ho, hxe, hye]; show Sem.run _ _ w = _; simp [eqGuard, binOp, Op.intCmp, hxy]) h
theorem own_keep {w w1 w2 : World} {v : Value} {n : Nat} {l : List Value} (h : w1.ownsRow w.heap.size 5 1 v n l) (hT : Tch [] w1 w2) : w2.ownsRow w.heap.size 5 1 v n l := by
  refine ⟨h.1, ?_⟩
  rcases h.2 with h0 | ⟨g, cap, cur, hv, hg, hb, rest⟩
  · exact .inl h0
  · exact .inr ⟨g, cap, cur, hv, hg, by rw [hT.block g (Array.getElem?_eq_some_iff.1 hb).1 (by simp)]; exact hb, rest⟩
theorem hsz_four {n : Nat} (h : n < 16777216) : hsz n ≤ 4 := by
  unfold hsz
  split
  · omega
  · rename_i h55
    have : lsz n ≤ 3 := by
      rcases Nat.lt_or_ge n 256 with h1 | h1
      · rw [lsz_one (by omega) h1]; omega
      rcases Nat.lt_or_ge n 65536 with h2 | h2
      · rw [lsz_two h1 h2]; omega
      · rw [lsz_three h2 h]; omega
    omega
theorem packpost_yes' {it : It} {w w' : World} {e : Ending} (h : dep it ≤ 32 ∧ (enc it).length ≤ 16777216) (hp : PackPost it w e w') : Tch [] w w' ∧ ∃ b, w.heap.size ≤ b ∧ e = .returned (.tuple #[.slice (some ⟨b, 0, none⟩) (enc it).length (enc it).length, .int .i64 0]) ∧ Blk w' b 5 (bc (enc it).length fun i => (enc it).getD i 0) := by
  unfold PackPost at hp; rwa [if_pos h] at hp
theorem packpost_no' {it : It} {w w' : World} {e : Ending} (h : ¬ (dep it ≤ 32 ∧ (enc it).length ≤ 16777216)) (hp : PackPost it w e w') : Tch [] w w' ∧ e = .returned (.tuple #[.slice none 0 0, .int .i64 3]) := by
  unfold PackPost at hp; rwa [if_neg h] at hp
theorem deep_lt {d : Nat} (h : d ≤ 32) : deepN 32 d = d := by unfold deepN; rw [if_pos h]

set_option maxHeartbeats 4000000 in
set_option maxRecDepth 100000 in
theorem inside_walk (k : Nat) (v : Value) (its : List It) (w : World) (hl : LsR w k v its) :
    Calls Try.prog 4 #[v] w fun e w' => e = .returned (.bool true) ∧ Tch [] w w' := by
  obtain ⟨p, c, rfl, hc, hn, hcells⟩ := hl
  obtain ⟨n, hnn⟩ : ∃ n, n = its.length := ⟨_, rfl⟩
  rw [← hnn] at hc hn ⊢
  have HL := Lib.hid hnn
  have HC := Lib.hid hcells
  clear hnn hcells
  by_cases h60 : 60 < n
  · have d1 : (60 : Int) < (n : Int) := by omega
    go_enter Try.func4, Try.ntmps4
    go_wp2_with (go_at_call 5; refine (alive_any _).mono ?_; rintro e w1 ⟨rfl, hT1⟩)
    go_ret
    exact ⟨rfl, hT1⟩
  have d1 : ¬ (60 : Int) < (n : Int) := by omega
  have h60 : n ≤ 60 := by omega
  go_enter Try.func4, Try.ntmps4
  go_wp2_with (go_at_call 5; refine (alive_any _).mono ?_; rintro e w1 ⟨rfl, hT1⟩)
  go_loopw [4, 5] (fun u i wr => ∃ m : Nat, i = .int .i64 (m : Int) ∧ m ≤ n ∧ Tch [] w wr ∧ Hid (wr.ownsRow w.heap.size 5 1 u (encs (its.take m)).length (nb (encs (its.take m)))) ∧ Hid ((encs (its.take m)).length ≤ 25000 * m ∧ deps (its.take m) ≤ 31 ∧ ∀ x ∈ encs (its.take m), x < 256)) (fun _ i _ => n - (intOf i).toNat)
  case atStart => exact ⟨0, rfl, Nat.zero_le _, hT1, Lib.hid (by rw [List.take_zero]; exact own_nil _ _), Lib.hid (by simp [encs, deps])⟩
  case round =>
    clear hT1
    obtain ⟨m, rfl, hm, hT, HO, HA⟩ := hrel
    by_cases hlt : m < n
    · have e1 : (m : Int) < (n : Int) := by omega
      have e0 : (0 : Int) ≤ (m : Int) := by omega
      have hml : m < its.length := by have := HL.out; omega
      obtain ⟨b, o, rfl, hbw, hcs⟩ := HC.out (by intro e; subst e; simp at hml)
      obtain ⟨z0, zb, zl, g0, g1, g2, hz, hzr⟩ := hcs m hml
      obtain ⟨it, hit⟩ : ∃ it, it = its[m] := ⟨_, rfl⟩
      rw [← hit] at hz
      have HTK := Lib.hid (And.intro (show encs (its.take (m + 1)) = encs (its.take m) ++ enc it by rw [encs_succ hml, hit]) (show deps (its.take (m + 1)) = max (deps (its.take m)) (dep it) by rw [deps_succ hml, hit]))
      have HCL := Lib.hid (fun (w' : World) (h : Tch [] w w') => And.intro ((h.cell (p := ⟨b, o + m * 3, none⟩) hbw (by simp)).trans g0) (And.intro ((h.cell (p := ⟨b, o + m * 3 + 1, none⟩) hbw (by simp)).trans g1) ((h.cell (p := ⟨b, o + m * 3 + 2, none⟩) hbw (by simp)).trans g2)))
      have HB := Lib.hid (fun (w' : World) (h : Tch [] w w') => big_any k z0 zb zl w' (hzr.tch h))
      have HP := Lib.hid (fun (w' : World) (h : Tch [] w w') => pack_any k z0 zb zl it w' (hz.tch h))
      have HD := Lib.hid (fun (w' : World) (h : Tch [] w w') => deep_any k z0 zb zl it 32 w' (hz.tch h) (by decide))
      have HLT := Lib.hid (fun (h : (enc it).length ≤ 16777216) => enc_lt hz h)
      have HZ := Lib.hid (fun (w' : World) (h : Tch [] w w') => hz.tch h)
      have f0 := (HCL.out wr hT).1
      have f1 := (HCL.out wr hT).2.1
      have f2 := (HCL.out wr hT).2.2
      clear hcs g0 g1 g2 hz hzr hit
      go_upto_region 9 with (go_at_call 6; refine (HB.out _ hT).mono ?_; rintro e w2 ⟨hT2, q, rfl, hq⟩; have HQ := Lib.hid (hq it (HZ.out _ hT)); clear hq)
      clear f0 f1 f2
      have A2 := hT.trans hT2
      have f0 := (HCL.out w2 A2).1
      have f1 := (HCL.out w2 A2).2.1
      have f2 := (HCL.out w2 A2).2.2
      have hpk := HP.out w2 A2
      by_cases hpp : dep it ≤ 32 ∧ (enc it).length ≤ 16777216
      · have HPP := Lib.hid hpp
        have HPK := Lib.hid (hpk.mono fun e w' h => packpost_yes' hpp h)
        clear hpk hpp
        go_upto_region 10 with (go_at_call 7; refine HPK.out.mono ?_; rintro e w3 ⟨hT3, bp, hbp, rfl, hBp⟩)
        have A3 := A2.trans hT3
        have KC := Lib.hid (fun (w' : World) (h : Tch [] w3 w') => HCL.out w' (A3.trans h))
        cases q with
        | true =>
          refine k_seq (C := fun w' => Tch [] w3 w') (Tch.refl _ _) ?_
          refine k_boolm rfl _ rfl rfl ?_; try simp only [Act.put, List.setIfInBounds_toArray, List.set_cons_zero, List.set_cons_succ]
          refine k_boolm rfl _ rfl rfl ?_; try simp only [Act.put, List.setIfInBounds_toArray, List.set_cons_zero, List.set_cons_succ]
          refine k_skip rfl rfl rfl rfl rfl ?_; try simp only [Act.put, List.setIfInBounds_toArray, List.set_cons_zero, List.set_cons_succ]
          refine k_skip rfl rfl rfl rfl rfl ?_; try simp only [Act.put, List.setIfInBounds_toArray, List.set_cons_zero, List.set_cons_succ]
          refine k_skip rfl rfl rfl rfl rfl ?_; try simp only [Act.put, List.setIfInBounds_toArray, List.set_cons_zero, List.set_cons_succ]
          refine k_pickT rfl _ _ _ rfl rfl rfl ?_; try simp only [Act.put, List.setIfInBounds_toArray, List.set_cons_zero, List.set_cons_succ]
          refine k_boolm rfl _ rfl rfl ?_; try simp only [Act.put, List.setIfInBounds_toArray, List.set_cons_zero, List.set_cons_succ]
          refine k_skip rfl rfl rfl rfl rfl ?_; try simp only [Act.put, List.setIfInBounds_toArray, List.set_cons_zero, List.set_cons_succ]
          refine k_skip rfl rfl rfl rfl rfl ?_; try simp only [Act.put, List.setIfInBounds_toArray, List.set_cons_zero, List.set_cons_succ]
          refine k_skip rfl rfl rfl rfl rfl ?_; try simp only [Act.put, List.setIfInBounds_toArray, List.set_cons_zero, List.set_cons_succ]
          refine k_skip rfl rfl rfl rfl rfl ?_; try simp only [Act.put, List.setIfInBounds_toArray, List.set_cons_zero, List.set_cons_succ]
          refine k_skip rfl rfl rfl rfl rfl ?_; try simp only [Act.put, List.setIfInBounds_toArray, List.set_cons_zero, List.set_cons_succ]
          refine k_skip rfl rfl rfl rfl rfl ?_; try simp only [Act.put, List.setIfInBounds_toArray, List.set_cons_zero, List.set_cons_succ]
          refine k_pickT rfl _ _ _ rfl rfl rfl ?_; try simp only [Act.put, List.setIfInBounds_toArray, List.set_cons_zero, List.set_cons_succ]
          refine k_end ?_
          intro w4 hT4
          go_wp2
          go_ret
          exact ⟨rfl, A3.trans hT4⟩
        | false =>
          have KD := Lib.hid (fun (w' : World) (h : Tch [] w3 w') => (HD.out w' (A3.trans h)).mono (R' := fun e w'' => e = .returned (.int .i64 ((dep it : Nat) : Int)) ∧ Tch [] w3 w'') (fun e w'' h2 => ⟨by rw [h2.1, deep_lt HPP.out.1], h.trans h2.2⟩))
          by_cases h31 : dep it ≤ 31
          · have hdd : decide ((31 : Int) < ((dep it : Nat) : Int)) = false := decide_eq_false (by omega)
            refine k_seq (C := fun w' => Tch [] w3 w') (Tch.refl _ _) ?_
            refine k_boolm rfl _ rfl rfl ?_; try simp only [Act.put, List.setIfInBounds_toArray, List.set_cons_zero, List.set_cons_succ]
            refine k_boolm rfl _ rfl rfl ?_; try simp only [Act.put, List.setIfInBounds_toArray, List.set_cons_zero, List.set_cons_succ]
            refine k_intm rfl _ rfl rfl ?_; try simp only [Act.put, List.setIfInBounds_toArray, List.set_cons_zero, List.set_cons_succ]
            refine k_num rfl rfl rfl ?_; try simp only [Act.put, List.setIfInBounds_toArray, List.set_cons_zero, List.set_cons_succ]
            refine k_neqs (t := false) rfl _ _ _ rfl rfl rfl (by decide) ?_; try simp only [Act.put, List.setIfInBounds_toArray, List.set_cons_zero, List.set_cons_succ]
            refine k_pickF rfl _ _ _ rfl rfl rfl ?_; try simp only [Act.put, List.setIfInBounds_toArray, List.set_cons_zero, List.set_cons_succ]
            refine k_boolm rfl _ rfl rfl ?_; try simp only [Act.put, List.setIfInBounds_toArray, List.set_cons_zero, List.set_cons_succ]
            refine k_slice rfl _ rfl rfl ?_; try simp only [Act.put, List.setIfInBounds_toArray, List.set_cons_zero, List.set_cons_succ]
            refine k_intm rfl _ rfl rfl ?_; try simp only [Act.put, List.setIfInBounds_toArray, List.set_cons_zero, List.set_cons_succ]
            refine k_idx3 (j := m) rfl _ _ rfl rfl rfl hlt ?_; try simp only [Act.put, List.setIfInBounds_toArray, List.set_cons_zero, List.set_cons_succ]
            refine k_load3 rfl _ rfl rfl (fun w' h => KC.out w' h) ?_; try simp only [Act.put, List.setIfInBounds_toArray, List.set_cons_zero, List.set_cons_succ]
            refine k_callC2 rfl rfl rfl rfl Try.call12 (fun w' h => KD.out w' h) ?_; try simp only [Act.put, List.setIfInBounds_toArray, List.set_cons_zero, List.set_cons_succ]
            refine k_gtr rfl _ _ _ rfl rfl rfl hdd ?_; try simp only [Act.put, List.setIfInBounds_toArray, List.set_cons_zero, List.set_cons_succ]
            refine k_pickF rfl _ _ _ rfl rfl rfl ?_; try simp only [Act.put, List.setIfInBounds_toArray, List.set_cons_zero, List.set_cons_succ]
            refine k_end ?_
            intro w4 hT4
            have hbR := (RdB.blk (hBp) (fun i hi => by
              have hl : (enc it).getD i 0 = (enc it)[i] := by simp [hi]
              rw [hl]; exact HLT.out HPP.out.2 _ (List.getElem_mem hi)))
            rw [range_getD] at hbR
            have A4 := A3.trans hT4
            have HO4 := Lib.hid (show w4.ownsRow w.heap.size 5 1 u4 (encs (its.take m)).length (nb (encs (its.take m))) from own_keep HO.out ((hT2.trans hT3).trans hT4))
            have HBR := Lib.hid (hbR.tch hT4 (by simp))
            have HBD := Lib.hid (show (encs (its.take m)).length + (enc it).length ≤ 100000000 by have := HA.out.1; have := HQ.out rfl; omega)
            clear hbR hBp
            go_wp2_with (at_builtin; go_must (refine st_appB (w0 := w) (l := encs (its.take m)) (m := enc it) (ty := 5) rfl _ _ rfl rfl rfl HO4.out A4 HBR.out HBD.out ?_; intro v5 w5 hown5 hT5))
            go_roundw
            case rel =>
              refine ⟨m + 1, by go_num, hlt, hT5, Lib.hid (by rw [HTK.out.1]; exact hown5), Lib.hid ?_⟩
              rw [HTK.out.1, HTK.out.2, List.length_append]
              have h1 := HA.out.1
              have h2 := HA.out.2.1
              have h3 := HQ.out rfl
              exact ⟨by omega, by omega, fun x hx => (List.mem_append.1 hx).elim (HA.out.2.2 x) (HLT.out HPP.out.2 x)⟩
            case measure => simp [intOf]; omega
          · have hdd : decide ((31 : Int) < ((dep it : Nat) : Int)) = true := decide_eq_true (by omega)
            refine k_seq (C := fun w' => Tch [] w3 w') (Tch.refl _ _) ?_
            refine k_boolm rfl _ rfl rfl ?_; try simp only [Act.put, List.setIfInBounds_toArray, List.set_cons_zero, List.set_cons_succ]
            refine k_boolm rfl _ rfl rfl ?_; try simp only [Act.put, List.setIfInBounds_toArray, List.set_cons_zero, List.set_cons_succ]
            refine k_intm rfl _ rfl rfl ?_; try simp only [Act.put, List.setIfInBounds_toArray, List.set_cons_zero, List.set_cons_succ]
            refine k_num rfl rfl rfl ?_; try simp only [Act.put, List.setIfInBounds_toArray, List.set_cons_zero, List.set_cons_succ]
            refine k_neqs (t := false) rfl _ _ _ rfl rfl rfl (by decide) ?_; try simp only [Act.put, List.setIfInBounds_toArray, List.set_cons_zero, List.set_cons_succ]
            refine k_pickF rfl _ _ _ rfl rfl rfl ?_; try simp only [Act.put, List.setIfInBounds_toArray, List.set_cons_zero, List.set_cons_succ]
            refine k_boolm rfl _ rfl rfl ?_; try simp only [Act.put, List.setIfInBounds_toArray, List.set_cons_zero, List.set_cons_succ]
            refine k_slice rfl _ rfl rfl ?_; try simp only [Act.put, List.setIfInBounds_toArray, List.set_cons_zero, List.set_cons_succ]
            refine k_intm rfl _ rfl rfl ?_; try simp only [Act.put, List.setIfInBounds_toArray, List.set_cons_zero, List.set_cons_succ]
            refine k_idx3 (j := m) rfl _ _ rfl rfl rfl hlt ?_; try simp only [Act.put, List.setIfInBounds_toArray, List.set_cons_zero, List.set_cons_succ]
            refine k_load3 rfl _ rfl rfl (fun w' h => KC.out w' h) ?_; try simp only [Act.put, List.setIfInBounds_toArray, List.set_cons_zero, List.set_cons_succ]
            refine k_callC2 rfl rfl rfl rfl Try.call12 (fun w' h => KD.out w' h) ?_; try simp only [Act.put, List.setIfInBounds_toArray, List.set_cons_zero, List.set_cons_succ]
            refine k_gtr rfl _ _ _ rfl rfl rfl hdd ?_; try simp only [Act.put, List.setIfInBounds_toArray, List.set_cons_zero, List.set_cons_succ]
            refine k_pickF rfl _ _ _ rfl rfl rfl ?_; try simp only [Act.put, List.setIfInBounds_toArray, List.set_cons_zero, List.set_cons_succ]
            refine k_end ?_
            intro w4 hT4
            go_wp2
            go_ret
            exact ⟨rfl, A3.trans hT4⟩
      · have HPK := Lib.hid (hpk.mono fun e w' h => packpost_no' hpp h)
        clear hpk hpp
        go_upto_region 10 with (go_at_call 7; refine HPK.out.mono ?_; rintro e w3 ⟨hT3, rfl⟩)
        have A3 := A2.trans hT3
        cases q with
        | true =>
          refine k_seq (C := fun w' => Tch [] w3 w') (Tch.refl _ _) ?_
          refine k_boolm rfl _ rfl rfl ?_; try simp only [Act.put, List.setIfInBounds_toArray, List.set_cons_zero, List.set_cons_succ]
          refine k_boolm rfl _ rfl rfl ?_; try simp only [Act.put, List.setIfInBounds_toArray, List.set_cons_zero, List.set_cons_succ]
          refine k_skip rfl rfl rfl rfl rfl ?_; try simp only [Act.put, List.setIfInBounds_toArray, List.set_cons_zero, List.set_cons_succ]
          refine k_skip rfl rfl rfl rfl rfl ?_; try simp only [Act.put, List.setIfInBounds_toArray, List.set_cons_zero, List.set_cons_succ]
          refine k_skip rfl rfl rfl rfl rfl ?_; try simp only [Act.put, List.setIfInBounds_toArray, List.set_cons_zero, List.set_cons_succ]
          refine k_pickT rfl _ _ _ rfl rfl rfl ?_; try simp only [Act.put, List.setIfInBounds_toArray, List.set_cons_zero, List.set_cons_succ]
          refine k_boolm rfl _ rfl rfl ?_; try simp only [Act.put, List.setIfInBounds_toArray, List.set_cons_zero, List.set_cons_succ]
          refine k_skip rfl rfl rfl rfl rfl ?_; try simp only [Act.put, List.setIfInBounds_toArray, List.set_cons_zero, List.set_cons_succ]
          refine k_skip rfl rfl rfl rfl rfl ?_; try simp only [Act.put, List.setIfInBounds_toArray, List.set_cons_zero, List.set_cons_succ]
          refine k_skip rfl rfl rfl rfl rfl ?_; try simp only [Act.put, List.setIfInBounds_toArray, List.set_cons_zero, List.set_cons_succ]
          refine k_skip rfl rfl rfl rfl rfl ?_; try simp only [Act.put, List.setIfInBounds_toArray, List.set_cons_zero, List.set_cons_succ]
          refine k_skip rfl rfl rfl rfl rfl ?_; try simp only [Act.put, List.setIfInBounds_toArray, List.set_cons_zero, List.set_cons_succ]
          refine k_skip rfl rfl rfl rfl rfl ?_; try simp only [Act.put, List.setIfInBounds_toArray, List.set_cons_zero, List.set_cons_succ]
          refine k_pickT rfl _ _ _ rfl rfl rfl ?_; try simp only [Act.put, List.setIfInBounds_toArray, List.set_cons_zero, List.set_cons_succ]
          refine k_end ?_
          intro w4 hT4
          go_wp2
          go_ret
          exact ⟨rfl, A3.trans hT4⟩
        | false =>
          refine k_seq (C := fun w' => Tch [] w3 w') (Tch.refl _ _) ?_
          refine k_boolm rfl _ rfl rfl ?_; try simp only [Act.put, List.setIfInBounds_toArray, List.set_cons_zero, List.set_cons_succ]
          refine k_boolm rfl _ rfl rfl ?_; try simp only [Act.put, List.setIfInBounds_toArray, List.set_cons_zero, List.set_cons_succ]
          refine k_intm rfl _ rfl rfl ?_; try simp only [Act.put, List.setIfInBounds_toArray, List.set_cons_zero, List.set_cons_succ]
          refine k_num rfl rfl rfl ?_; try simp only [Act.put, List.setIfInBounds_toArray, List.set_cons_zero, List.set_cons_succ]
          refine k_neqs (t := true) rfl _ _ _ rfl rfl rfl (by decide) ?_; try simp only [Act.put, List.setIfInBounds_toArray, List.set_cons_zero, List.set_cons_succ]
          refine k_pickF rfl _ _ _ rfl rfl rfl ?_; try simp only [Act.put, List.setIfInBounds_toArray, List.set_cons_zero, List.set_cons_succ]
          refine k_boolm rfl _ rfl rfl ?_; try simp only [Act.put, List.setIfInBounds_toArray, List.set_cons_zero, List.set_cons_succ]
          refine k_skip rfl rfl rfl rfl rfl ?_; try simp only [Act.put, List.setIfInBounds_toArray, List.set_cons_zero, List.set_cons_succ]
          refine k_skip rfl rfl rfl rfl rfl ?_; try simp only [Act.put, List.setIfInBounds_toArray, List.set_cons_zero, List.set_cons_succ]
          refine k_skip rfl rfl rfl rfl rfl ?_; try simp only [Act.put, List.setIfInBounds_toArray, List.set_cons_zero, List.set_cons_succ]
          refine k_skip rfl rfl rfl rfl rfl ?_; try simp only [Act.put, List.setIfInBounds_toArray, List.set_cons_zero, List.set_cons_succ]
          refine k_skip rfl rfl rfl rfl rfl ?_; try simp only [Act.put, List.setIfInBounds_toArray, List.set_cons_zero, List.set_cons_succ]
          refine k_skip rfl rfl rfl rfl rfl ?_; try simp only [Act.put, List.setIfInBounds_toArray, List.set_cons_zero, List.set_cons_succ]
          refine k_pickT rfl _ _ _ rfl rfl rfl ?_; try simp only [Act.put, List.setIfInBounds_toArray, List.set_cons_zero, List.set_cons_succ]
          refine k_end ?_
          intro w4 hT4
          go_wp2
          go_ret
          exact ⟨rfl, A3.trans hT4⟩
    · obtain rfl : m = n := by omega
      have e1 : ¬ (m : Int) < (m : Int) := by omega
      have htk : its.take m = its := List.take_of_length_le (by have := HL.out; omega)
      rw [htk] at HO HA
      have hItL : ItC [] wr (k + 1) (.bool true) (.slice none 0 0) (.slice p m c) (.lst its) := by
        unfold ItC
        refine ⟨rfl, p, c, by rw [HL.out], ⟨by have := HL.out; omega, by have := HL.out; omega⟩, fun hne => ?_⟩
        obtain ⟨b, o, rfl, hbw, hcs⟩ := HC.out hne
        refine ⟨b, o, rfl, Nat.lt_of_lt_of_le hbw hT.size, by simp, fun i hi => ?_⟩
        obtain ⟨z0, zb, zl, g0, g1, g2, hz, _⟩ := hcs i hi
        exact ⟨z0, zb, zl, (hT.cell (p := ⟨b, o + i * 3, none⟩) hbw (by simp)).trans g0, (hT.cell (p := ⟨b, o + i * 3 + 1, none⟩) hbw (by simp)).trans g1, (hT.cell (p := ⟨b, o + i * 3 + 2, none⟩) hbw (by simp)).trans g2, hz.tch hT⟩
      have hE := RdB.own HO.out HA.out.2.2
      obtain ⟨pu, cu, hu, hcu, _⟩ := id hE
      obtain ⟨nu, hnu⟩ : ∃ nu, nu = (encs its).length := ⟨_, rfl⟩
      rw [← hnu] at hu hcu
      subst hu
      obtain ⟨D, hD⟩ : ∃ D, D = hsz nu := ⟨_, rfl⟩
      have hD4 : D ≤ 4 := by rw [hD]; exact hsz_four (by have := HA.out.1; omega)
      have hD1 : 1 ≤ D := by rw [hD]; exact hsz_pos _
      have hnub : nu ≤ 1500000 := by have := HA.out.1; omega
      obtain ⟨M, hM⟩ : ∃ M, M = (enc (.lst its)).length := ⟨_, rfl⟩
      have hML : M = D + nu := by rw [hM, enc_lst, List.length_append, hd_length, hD, hnu]
      have hpk := pack_any (k + 1) _ _ _ (.lst its) wr hItL
      have hpk2 := hpk.mono fun e w' h => packpost_yes' ⟨by rw [dep_lst]; have := HA.out.2.1; omega, by omega⟩ h
      rw [← hM] at hpk2
      have HLT := Lib.hid (enc_lt hItL (by omega))
      have HDR := Lib.hid (show (enc (.lst its)).drop D = encs its by rw [enc_lst, hD, hnu, ← hd_length 192, List.drop_left])
      have HPK := Lib.hid hpk2
      have hgt : decide ((nu : Int) < (M : Int)) = true := decide_eq_true (by omega)
      have hsb : IntKind.i64.wrap ((M : Int) - (nu : Int)) = (D : Int) := by rw [IntKind.wrap_i64]; omega
      have hle : decide ((D : Int) ≤ 4) = true := decide_eq_true (by omega)
      have HE := Lib.hid hE
      have HMM := Lib.hid hM
      have hDM : D ≤ M := by omega
      clear hpk hpk2 hItL hE hD hM htk hnu hML
      go_upto_region 14 with (go_at_call 7; refine HPK.out.mono ?_; rintro e w9 ⟨hT9, bp, hbp, rfl, hBp⟩)
      have hbR := (RdB.blk hBp (fun i hi => by
        have hl : (enc (.lst its)).getD i 0 = (enc (.lst its))[i]'(by have := HMM.out; omega) := by simp [show i < (enc (.lst its)).length by have := HMM.out; omega]
        rw [hl]; exact HLT.out _ (List.getElem_mem _)))
      rw [HMM.out, range_getD] at hbR
      have hbA := hbR.rdA (X := []) (by simp)
      rw [← HMM.out] at hbA
      obtain ⟨p4, c4, hsl, hc4, hrd⟩ := slice_from (some ⟨bp, 0, none⟩) M M D hDM (Nat.le_refl _)
      have hsrc := hrd [] w9 _ hbA
      rw [HDR.out] at hsrc
      have HSL := Lib.hid hsl
      have KB := Lib.hid (fun (w' : World) (h : Tch [] w9 w') => (hsrc.tch h).rdB)
      have KI := Lib.hid (fun (w' : World) (h : Tch [] w9 w') => HE.out.tch (hT9.trans h) (by simp))
      clear hbR hbA hsl hrd hsrc hBp hc4
      refine k_region (C := fun w' => Tch [] w9 w') (by kernel_rfl) (by kernel_rfl) ((Tch.refl _ _).drew) ?_
      refine k_intm rfl _ rfl rfl ?_; try simp only [Act.put, List.setIfInBounds_toArray, List.set_cons_zero, List.set_cons_succ]
      refine k_num rfl rfl rfl ?_; try simp only [Act.put, List.setIfInBounds_toArray, List.set_cons_zero, List.set_cons_succ]
      refine k_ints rfl _ _ _ rfl rfl rfl rfl ?_; try simp only [Act.put, List.setIfInBounds_toArray, List.set_cons_zero, List.set_cons_succ]
      refine k_boolm rfl _ rfl rfl ?_; try simp only [Act.put, List.setIfInBounds_toArray, List.set_cons_zero, List.set_cons_succ]
      refine k_slice rfl _ rfl rfl ?_; try simp only [Act.put, List.setIfInBounds_toArray, List.set_cons_zero, List.set_cons_succ]
      refine k_lenSl rfl _ rfl rfl ?_; try simp only [Act.put, List.setIfInBounds_toArray, List.set_cons_zero, List.set_cons_succ]
      refine k_slice rfl _ rfl rfl ?_; try simp only [Act.put, List.setIfInBounds_toArray, List.set_cons_zero, List.set_cons_succ]
      refine k_lenSl rfl _ rfl rfl ?_; try simp only [Act.put, List.setIfInBounds_toArray, List.set_cons_zero, List.set_cons_succ]
      refine k_gtr rfl _ _ _ rfl rfl rfl hgt ?_; try simp only [Act.put, List.setIfInBounds_toArray, List.set_cons_zero, List.set_cons_succ]
      refine k_pickT rfl _ _ _ rfl rfl rfl ?_; try simp only [Act.put, List.setIfInBounds_toArray, List.set_cons_zero, List.set_cons_succ]
      refine k_boolm rfl _ rfl rfl ?_; try simp only [Act.put, List.setIfInBounds_toArray, List.set_cons_zero, List.set_cons_succ]
      refine k_slice rfl _ rfl rfl ?_; try simp only [Act.put, List.setIfInBounds_toArray, List.set_cons_zero, List.set_cons_succ]
      refine k_slice rfl _ rfl rfl ?_; try simp only [Act.put, List.setIfInBounds_toArray, List.set_cons_zero, List.set_cons_succ]
      refine k_lenSl rfl _ rfl rfl ?_; try simp only [Act.put, List.setIfInBounds_toArray, List.set_cons_zero, List.set_cons_succ]
      refine k_slice rfl _ rfl rfl ?_; try simp only [Act.put, List.setIfInBounds_toArray, List.set_cons_zero, List.set_cons_succ]
      refine k_lenSl rfl _ rfl rfl ?_; try simp only [Act.put, List.setIfInBounds_toArray, List.set_cons_zero, List.set_cons_succ]
      refine k_sub (s := (D : Int)) rfl _ _ _ _ rfl rfl rfl hsb ?_; try simp only [Act.put, List.setIfInBounds_toArray, List.set_cons_zero, List.set_cons_succ]
      refine k_sl rfl rfl rfl rfl rfl rfl HSL.out ?_; try simp only [Act.put, List.setIfInBounds_toArray, List.set_cons_zero, List.set_cons_succ]
      refine k_conv rfl _ rfl rfl (fun w' h => KB.out w' h) ?_; try simp only [Act.put, List.setIfInBounds_toArray, List.set_cons_zero, List.set_cons_succ]
      refine k_slice rfl _ rfl rfl ?_; try simp only [Act.put, List.setIfInBounds_toArray, List.set_cons_zero, List.set_cons_succ]
      refine k_conv rfl _ rfl rfl (fun w' h => KI.out w' h) ?_; try simp only [Act.put, List.setIfInBounds_toArray, List.set_cons_zero, List.set_cons_succ]
      refine k_strS rfl _ _ _ rfl rfl rfl ?_; try simp only [Act.put, List.setIfInBounds_toArray, List.set_cons_zero, List.set_cons_succ]
      refine k_pickT rfl _ _ _ rfl rfl rfl ?_; try simp only [Act.put, List.setIfInBounds_toArray, List.set_cons_zero, List.set_cons_succ]
      refine k_boolm rfl _ rfl rfl ?_; try simp only [Act.put, List.setIfInBounds_toArray, List.set_cons_zero, List.set_cons_succ]
      refine k_slice rfl _ rfl rfl ?_; try simp only [Act.put, List.setIfInBounds_toArray, List.set_cons_zero, List.set_cons_succ]
      refine k_lenSl rfl _ rfl rfl ?_; try simp only [Act.put, List.setIfInBounds_toArray, List.set_cons_zero, List.set_cons_succ]
      refine k_slice rfl _ rfl rfl ?_; try simp only [Act.put, List.setIfInBounds_toArray, List.set_cons_zero, List.set_cons_succ]
      refine k_lenSl rfl _ rfl rfl ?_; try simp only [Act.put, List.setIfInBounds_toArray, List.set_cons_zero, List.set_cons_succ]
      refine k_sub (s := (D : Int)) rfl _ _ _ _ rfl rfl rfl hsb ?_; try simp only [Act.put, List.setIfInBounds_toArray, List.set_cons_zero, List.set_cons_succ]
      refine k_leq rfl _ _ _ rfl rfl rfl hle ?_; try simp only [Act.put, List.setIfInBounds_toArray, List.set_cons_zero, List.set_cons_succ]
      refine k_pickT rfl _ _ _ rfl rfl rfl ?_; try simp only [Act.put, List.setIfInBounds_toArray, List.set_cons_zero, List.set_cons_succ]
      refine k_boola rfl _ rfl rfl ?_; try simp only [Act.put, List.setIfInBounds_toArray, List.set_cons_zero, List.set_cons_succ]
      refine k_end ?_
      intro w10 hT10
      go_wp2
      go_ret
      exact ⟨rfl, (hT.trans hT9).trans hT10⟩
end Go.Proofs.Ytacnechjofnnjaa
