/- fork; build, whole. -/
import Derived.Test.YtanmpcgackfpaaaGreatM01
import Derived.Test.YtanmpcgackfpaaaGreatM25
set_option linter.unusedVariables false
set_option linter.unusedSimpArgs false
namespace Go.Proofs.YtanmpcgackfpaaaGreat
open Go.RowKit Tr
theorem tw_lt {p : En → Bool} : ∀ (l : List En) (k : Nat) (_ : k < (l.takeWhile p).length) (h : k < l.length), p l[k] = true
  | [], _, _, h => by simp at h
  | a :: l, k, hk, h => by
    rw [List.takeWhile_cons] at hk
    by_cases ha : p a = true
    · rw [if_pos ha] at hk
      cases k with
      | zero => exact ha
      | succ k => simpa using tw_lt l k (by simpa using hk) (by simpa using h)
    · rw [if_neg ha] at hk; simp at hk
theorem tw_ge {p : En → Bool} : ∀ (l : List En) (h : (l.takeWhile p).length < l.length), p l[(l.takeWhile p).length] = false
  | [], h => by simp at h
  | a :: l, h => by
    by_cases ha : p a = true
    · have e : (a :: l).takeWhile p = a :: l.takeWhile p := by rw [List.takeWhile_cons, if_pos ha]
      simp only [e, List.length_cons, List.getElem_cons_succ]
      exact tw_ge l (by rw [e] at h; simpa using h)
    · have e : (a :: l).takeWhile p = [] := by rw [List.takeWhile_cons, if_neg ha]
      simp only [e, List.length_nil, List.getElem_cons_zero]
      simpa using ha
theorem tw_le {p : En → Bool} (l : List En) : (l.takeWhile p).length ≤ l.length := (List.takeWhile_sublist p).length_le
theorem brC_last_set (c : Nat → Value) (u v : Value) : (brC c u).setIfInBounds 16 v = brC c v := by
  unfold brC
  rw [List.setIfInBounds_toArray, List.set_append_right _ _ (by simp)]
  simp
theorem brC_set (c : Nat → Value) (u v : Value) {d : Nat} (h : d < 16) : (brC c u).setIfInBounds d v = brC (fun j => if j = d then v else c j) u := by
  unfold brC
  rw [List.setIfInBounds_toArray, List.set_append_left _ _ (by simpa using h)]
  congr 2
  apply List.ext_getElem?
  intro i
  rw [List.getElem?_set]
  by_cases hi : i < 16
  · rw [List.getElem?_map, List.getElem?_range hi]
    by_cases hd : d = i
    · subst hd; simp [h]
    · rw [if_neg hd, List.getElem?_map, List.getElem?_range hi]
      simp [Ne.symm hd]
  · rw [List.getElem?_eq_none (by simp; omega), if_neg (by omega), List.getElem?_eq_none (by simp; omega)]
theorem brC_noB {c : Nat → Value} {p : Option Addr} {n k : Nat} (h : ∀ j, j < 16 → ∀ x, c j ≠ .int .u8 x) : NoB (brC c (.slice p n k)) := by
  intro j x hx
  by_cases hj : j < 16
  · rw [brC_get c _ hj] at hx
    exact h j hj x (Option.some.inj hx)
  · by_cases h16 : j = 16
    · subst h16
      rw [brC_last] at hx
      cases hx
    · rw [Array.getElem?_eq_none (by rw [brC_size]; omega)] at hx
      cases hx
theorem build_br0 (w : World) : (Instr.build 161 #[]).run Tryz.prog w = .ok (.agg (brC (fun _ => .nilIface) (.slice none 0 0))) w := by kernel_rfl
theorem tnode_size : (Tryz.prog.info? 62).map (·.size) = some 1 := by kernel_rfl
theorem bytesS_size : (Tryz.prog.info? 23).map (·.size) = some 1 := by kernel_rfl
theorem arr16_ty : Tryz.prog.underlying 159 = some (.array 16 62) := by kernel_rfl
theorem fa_br0 (b : Nat) (w : World) : (Instr.fieldAt 161 (.pointer (some ⟨b, 0, none⟩)) 0).run Tryz.prog w = .ok (.pointer (some ⟨b, 0, none⟩)) w := by kernel_rfl
theorem idx16 (b : Nat) {d : Nat} (h : d < 16) (w : World) : (Instr.indexAt 159 (.pointer (some ⟨b, 0, none⟩)) (.int .i64 (d : Int))).run Tryz.prog w = .ok (.pointer (some ⟨b, d, none⟩)) w := by
  have hadd : (⟨b, 0, none⟩ : Addr).add d = ⟨b, d, none⟩ := by unfold Addr.add; split <;> simp_all
  simp [Instr.indexAt, run_underlying arr16_ty, Instr.sureAddr, asIntOf, qe1 tnode_size, h, hadd]
section
variable {a : Act} {w : World} {o : Oper} {Q : Exit → Act → World → Prop}
theorem x_idxV {v i u : Value} {ty : TypeId} (x y : Operand) (ho : o.op = .indexAddr ty x y) (hx : a.eval x = v) (hy : a.eval y = i) (hr : (Instr.indexAt ty v i).run Tryz.prog w = .ok u w) : (execOp a.eval o).run Tryz.prog w = .ok (.value u) w := by
  unfold execOp; simp only [ho, hx, hy, Sem.run_bind, hr, Result.andThen_ok, Sem.run_pure]
theorem qj9 {l0 : List Oper} {n : Nat} {K : Act → World → Prop} {b j : Nat} {t ty : TypeId} {c : Array Value} {v : Value} {xo yo : Operand} (hB : Blk w b t c) (hj : j < c.size) (hv : v.oneCell' = true) (hi : (Tryz.prog.info? ty).map (·.size) = some 1)
    (ho : l0[n]? = some o) (hw : Region.wanted o (yielded l0.toArray a.tmps) = true) (hop : o.op = .store ty xo yo) (hx : a.eval xo = .pointer (some ⟨b, j, none⟩)) (hy : a.eval yo = v)
    (h : ∀ w', Only b w w' → Blk w' b t (c.setIfInBounds j v) → K (a.put o.dst undef) w') : wpOp Tryz.prog l0.toArray Q n K a w := by
  have ho' : l0.toArray[n]? = some o := by rw [List.getElem?_toArray]; exact ho
  have hc : v.cells = #[v] := by cases v <;> first | rfl | exact absurd hv (by simp [Value.oneCell'])
  have hr : (Instr.storeAt ty (.pointer (some ⟨b, j, none⟩)) v).run Tryz.prog w = .ok () (w.setCell ⟨b, j, none⟩ v) := by
    cases hq : Tryz.prog.info? ty with
    | none => simp [hq] at hi
    | some i =>
      have hs : i.size = 1 := by simpa [hq] using hi
      have hcell : w.cell? ⟨b, j, none⟩ = some c[j] := hB.cell (by simp [hj])
      simp [Instr.storeAt, Instr.sureAddr, storeVar, sizeOf, typeInfo, hq, hc, hs, storeCells, Addr.add, run_store Tryz.prog w ⟨b, j, none⟩ v .plain hv, hcell, hB.free j]
  unfold wpOp
  simp only [ho', hw, if_true]
  refine .inl ?_
  unfold Oper.wp execOp
  simp only [hop, hx, hy, Sem.run_bind, hr, Result.andThen_ok, Sem.run_pure]
  exact h _ (Only.setCell w ⟨b, j, none⟩ v) (hB.set j v)
end
theorem TreeV.one {B : Nat} {w : World} {T : TN} {v : Value} (h : TreeV B w T v) : v.oneCell' = true := by
  rcases h.shape with rfl | ⟨t, a, rfl⟩ <;> rfl
theorem TreeV.noB {B : Nat} {w : World} {T : TN} {v : Value} (h : TreeV B w T v) : ∀ x, v ≠ .int .u8 x := by
  rcases h.shape with rfl | ⟨t, a, rfl⟩ <;> simp
theorem longest_heads {d f : Nat} {L : List En} (hf : 0 < f) (h : longest L < f + 1) : longest (rests 1 (heads d L)) < f := by
  have h1 : longest (heads d L) < f + 1 := by
    have := (qd2 (l := L) (m := f)).1 (by omega)
    have h2 := (qd2 (l := heads d L) (m := f)).2 fun e he => this e (List.mem_filter.1 he).1
    omega
  rcases qd7 (n := 1) (by decide) (qc6 (d := d) L) h1 with h2 | h2
  · exact h2
  · rw [h2]; exact hf
def ForkI (f D : Nat) (es : List En) (bb : Nat) (w : World) (val : List Nat) (uv : Value) (d : Nat) (es' : List En) (v' : Value) (cs : Nat → Value) (W : World) : Prop :=
  PairsAt w v' es' ∧ rests D es' = fromD d (rests D es) ∧ (∀ e ∈ es', e ∈ es) ∧ (∀ j, d ≤ j → cs j = .nilIface) ∧ RdB w uv val ∧ ∀ j, j < d → TreeV (bb + 1) W (buildT f (rests 1 (heads j (rests D es)))) (cs j)
theorem fromD_mem {d D : Nat} {es es' : List En} (h : rests D es' = fromD d (rests D es)) {k : Nat} (hk : k < es'.length) : D < (es'[k]).1.length := by
  have hm : ((es'[k]).1.drop D, (es'[k]).2) ∈ fromD d (rests D es) := by
    rw [← h]
    exact List.mem_map.2 ⟨es'[k], List.getElem_mem hk, rfl⟩
  have h1 := (List.mem_filter.1 hm).2
  obtain ⟨x, r, h2, _⟩ := geD_iff.1 h1
  have := congrArg List.length h2
  simp only [List.length_drop, List.length_cons] at this
  omega
theorem rest_head {D : Nat} {es' : List En} {k : Nat} (hk : k < es'.length) (hD : D < (es'[k]).1.length) (d : Nat) (h2 : k < (rests D es').length) : (((rests D es')[k]).1.head? == some d) = ((es'[k]).1.getD D 0 == d) := by
  have e : (rests D es')[k] = ((es'[k]).1.drop D, (es'[k]).2) := by simp [rests]
  rw [e]
  have e2 : ((es'[k]).1.drop D).head? = some ((es'[k]).1.getD D 0) := by
    rw [List.head?_drop, List.getD_eq_getElem?_getD, List.getElem?_eq_getElem hD]; rfl
  rw [e2]
  simp
set_option maxHeartbeats 8000000 in
set_option maxRecDepth 100000 in
theorem fork_no (f : Nat) (ih : BuildOK f) (hf : 0 < f) (v : Value) (es : List En) (D : Nat) (w : World) (hv : PairsAt w v es) (hg : GoodE D es) (hne : 0 < es.length) (e0 : En) (he0 : e0 = es[0]) (hD : D + 1 ≤ 128) (hlo : longest (rests D es) < f + 1) (hDl : D < e0.1.length) :
    Calls Tryz.prog 79 #[v, .int .i64 (D : Int)] w (BuildPost (.branch (fun d => buildT f (rests 1 (heads d (rests D es)))) []) w) := by
  have hS := St.start w
  have kb := build_br0
  obtain ⟨p, c, rfl, hc, hcells⟩ := id hv
  obtain ⟨b, o, rfl, hbw, hcs⟩ := hcells (by intro e; subst e; simp at hne)
  obtain ⟨n, hnn⟩ : ∃ n, n = es.length := ⟨_, rfl⟩
  obtain ⟨kv, vv, g0, g1, hkv, hvv⟩ := hcs 0 hne
  rw [← he0] at hkv hvv
  obtain ⟨q1, c1, rfl⟩ := hkv.shape'
  obtain ⟨q2, c2, rfl⟩ := hvv.shape'
  rw [Nat.zero_mul, Nat.add_zero] at g0 g1
  rw [← hnn] at hc hv hne ⊢
  have hn100 : n ≤ 100000 := by have := hg.len; omega
  have dn : (0 : Int) < (n : Int) := by omega
  have HG := hQz hg
  have HIHB := hQz (fun (d : Nat) (v' : Value) (E : List En) (W : World) (hp : PairsAt W v' E) (hgE : GoodE (D + 1) E) (he : rests (D + 1) E = rests 1 (heads d (rests D es))) => by
    have := ih v' E (D + 1) W hp hgE hD (by rw [he]; exact longest_heads hf hlo)
    rw [he] at this
    exact this)
  have HDB := hQz (show D < 128 by omega)
  have HGE := hQz (fun (d h : Nat) (E : List En) (hE : rests D E = fromD d (rests D es)) (hsub : ∀ e ∈ E, e ∈ es) (hh : h = (heads d (rests D es)).length) => by
    have ht := (take_heads d hg.srt).1
    have hdr := (take_heads d hg.srt).2
    have e1 : rests D (E.take h) = heads d (rests D es) := by rw [← ht, ← hE, ← hh]; simp [rests, List.map_take]
    have e2 : rests D (E.drop h) = fromD (d + 1) (rests D es) := by rw [← hdr, ← hE, ← hh]; simp [rests, List.map_drop]
    have e3 : rests (D + 1) (E.take h) = rests 1 (heads d (rests D es)) := by rw [← e1, rests_rests]
    refine (⟨⟨?_, ?_, ?_⟩, e3, e2⟩ : GoodE (D + 1) (E.take h) ∧ rests (D + 1) (E.take h) = rests 1 (heads d (rests D es)) ∧ rests D (E.drop h) = fromD (d + 1) (rests D es))
    · have h1 : (rests D (E.take h)).length ≤ (rests D es).length := by rw [e1]; exact heads_len
      have h2 := hg.len
      simp only [rests, List.length_map] at h1
      omega
    · intro e he
      have hm : ((e.1.drop D), e.2) ∈ heads d (rests D es) := by rw [← e1]; exact List.mem_map.2 ⟨e, he, rfl⟩
      have h1 := (List.mem_filter.1 hm).2
      have h2 := hg.dep e (hsub e (List.mem_of_mem_take he))
      refine ⟨?_, h2.2⟩
      rcases Nat.lt_or_ge D e.1.length with h3 | h3
      · exact h3
      · rw [show (e.1.drop D, e.2).1 = e.1.drop D from rfl, List.drop_eq_nil_of_le h3] at h1
        simp at h1
    · rw [e3]; exact (hg.srt.heads).rests (qc6 _))
  have dl : ((e0.1.length : Int) == (D : Int)) = false := beq_eq_false_iff_ne.2 (by omega)
  have HV := hQz hv
  have HVV := hQz hvv
  have HE0 := hQz (And.intro he0 hDl)
  have HNN := hQz hnn
  have HSP := hQz (show (e0.1.drop D, e0.2) :: rests D (es.drop 1) = rests D es by
    have h0 : 0 < es.length := by omega
    rw [he0]
    conv => rhs; rw [← List.drop_zero (l := es), List.drop_eq_getElem_cons h0]
    rfl)
  clear hcells hcs hkv hvv hv hg ih hlo he0 hDl hf hnn
  go_enter Tryz.func79, Tryz.ntmps79
  go_wp2_with (first
    | (refine qi0 (c := brC (fun _ => .nilIface) (.slice none 0 0)) hS rfl 161 _ rfl rfl ?_; clear hS; intro w1 bb hS; have hc0 := (hS.frame.cell (p := ⟨b, o, none⟩) hbw (by simp)).trans g0; have hc1 := (hS.frame.cell (p := ⟨b, o + 1, none⟩) hbw (by simp)).trans g1)
    | fail)
  go_loopw [0, 26] (fun v i wr => ∃ (d : Nat) (es' : List En) (p' : Option Addr) (n' c' : Nat) (cs : Nat → Value), v = .slice p' n' c' ∧ i = .int .i64 (d : Int) ∧ d ≤ 16 ∧ Tch [] w wr ∧ Blk wr bb 161 (brC cs (.slice none 0 0)) ∧ Hid (n' = es'.length ∧ n' ≤ c') ∧ Hid (ForkI f D es bb w [] (.slice none 0 0) d es' (.slice p' n' c') cs wr)) (fun _ i _ => 16 - (intOf i).toNat)
  case atStart => exact ⟨0, es, some ⟨b, o, none⟩, n, c, fun _ => .nilIface, rfl, rfl, by decide, hS.frame, hS.get .head, hQz ⟨HNN.out, hc⟩, hQz ⟨HV.out, (by
      have hx := fromD_first (e := (e0.1.drop D, e0.2)) (l := rests D (es.drop 1)) (by rw [show (e0.1.drop D, e0.2) :: rests D (es.drop 1) = rests D es from HSP.out]; exact HG.out.srt)
      rw [show (e0.1.drop D, e0.2) :: rests D (es.drop 1) = rests D es from HSP.out] at hx
      rw [hx, if_neg (fun q => by have h1 := congrArg List.length q; have h2 := HE0.out.2; simp only [List.length_drop, List.length_nil] at h1; omega)]), fun e he => he, fun _ _ => rfl, RdB.nil w, fun j hj => by omega⟩⟩
  case round =>
    have hbb : w.heap.size ≤ bb := (hS.own .head).resolve_right (by simp)
    clear hS
    obtain ⟨d, es', p', n', c', cs, rfl, rfl, hd, hT, hB, HN, HI⟩ := hrel
    by_cases hlt : d < 16
    · have d1 : (d : Int) < 16 := by omega
      have d0 : (0 : Int) ≤ (d : Int) := by omega
      have hes : es'.length ≤ es.length := by
        have h1 := congrArg List.length HI.out.2.1
        have h2 : (fromD d (rests D es)).length ≤ (rests D es).length := List.length_filter_le _ _
        have h3 : (rests D es').length = es'.length := by simp [rests]
        have h4 : (rests D es).length = es.length := by simp [rests]
        omega
      have hn100 : n' ≤ 100000 := by have := HN.out.1; have := HG.out.len; omega
      have hn4 : n' ≤ 4611686018427387904 := by omega
      obtain ⟨T, hTT⟩ : ∃ T, T = (rests D es').takeWhile (fun e => e.1.head? == some d) := ⟨_, rfl⟩
      have hTh : T = heads d (rests D es) := by rw [hTT, HI.out.2.1]; exact (fromD_step d HG.out.srt).1
      obtain ⟨h, hh⟩ : ∃ h, h = T.length := ⟨_, rfl⟩
      have hhn : h ≤ n' := by
        have := tw_le (p := fun e : En => e.1.head? == some d) (rests D es')
        rw [← hTT, ← hh] at this
        have h3 : (rests D es').length = es'.length := by simp [rests]
        have := HN.out.1
        omega
      have hlr : (rests D es').length = n' := by have := HN.out.1; simp [rests, this]
      have HK := hQz (show ∀ k (hk : k < (rests D es').length), ∃ (b' o' pb po cq len x : Nat), p' = some (⟨b', o', none⟩ : Addr) ∧ wr.cell? ⟨b', o' + k * 2, none⟩ = some (.slice (some ⟨pb, po, none⟩) len cq) ∧ wr.cell? ⟨pb, po + D, none⟩ = some (.int .u8 ((x : Nat) : Int)) ∧ D < len ∧ x < 256 ∧ (x == d) = (((rests D es')[k]).1.head? == some d) from fun k hk => by
        have hk' : k < es'.length := by simpa [rests] using hk
        have hDk := fromD_mem HI.out.2.1 hk'
        obtain ⟨pp, cc, hpp, hcc, hcl⟩ := HI.out.1
        obtain ⟨b', o', hp', hbw', hcs'⟩ := hcl (by intro e; subst e; simp at hk')
        obtain ⟨kv', vv', g0', _, hkv', _⟩ := hcs' k hk'
        obtain ⟨q, cq, hq1, _, hq3, hq4⟩ := hkv'
        obtain ⟨pb, po, hq, hpb, hpc⟩ := hq4 (by intro e; rw [e] at hDk; simp at hDk)
        refine ⟨b', o', pb, po, cq, (es'[k]'hk').1.length, (es'[k]'hk').1.getD D 0, (Value.slice.inj hpp).1.trans hp', ?_, (hT.cell (p := ⟨pb, po + D, none⟩) hpb (by simp)).trans (hpc D hDk), hDk, hq3 _ (by rw [List.getD_eq_getElem?_getD, List.getElem?_eq_getElem hDk]; exact List.getElem_mem hDk), (rest_head hk' hDk d hk).symm⟩
        rw [hT.cell (p := ⟨b', o' + k * 2, none⟩) hbw' (by simp), g0', hq1, hq])
      have HW := hQz (show ∀ k (hk : k < (rests D es').length), (k < h → (((rests D es')[k]).1.head? == some d) = true) ∧ (k = h → (((rests D es')[k]).1.head? == some d) = false) from fun k hk => ⟨fun h1 => tw_lt (p := fun e : En => e.1.head? == some d) (rests D es') k (by rw [← hTT, ← hh]; exact h1) hk, fun h1 => by
          have h3 : k = ((rests D es').takeWhile (fun e : En => e.1.head? == some d)).length := by rw [← hTT, ← hh]; exact h1
          have h4 := tw_ge (p := fun e : En => e.1.head? == some d) (rests D es') (by rw [← h3]; exact hk)
          simp only [← h3] at h4
          exact h4⟩)
      have HLR := hQz hlr
      have HT := hQz (And.intro hTT (And.intro hTh (And.intro hh hhn)))
      have HC := hQz (And.intro hT hB)
      have HD := hQz hlt
      have HIH := hQz hn4
      clear hTT hTh hes hn4 hT hB hlt hlr
      clear hh
      have HDD := HDB.out
      go_wp2
      go_loopw [7] (fun i wr2 => ∃ k : Nat, i = .int .i64 (k : Int) ∧ k ≤ h ∧ wr2 = wr) (fun i _ => n' - (intOf i).toNat)
      case atStart => exact ⟨0, rfl, Nat.zero_le _, by first | rfl | trivial⟩
      case round =>
        obtain ⟨k, rfl, hk, rfl⟩ := hrel
        by_cases hkn : k < n'
        · have e1 : (k : Int) < (n' : Int) := by omega
          have f0 : (0 : Int) ≤ (k : Int) := by omega
          obtain ⟨b', o', pb, po, cq, len, x, rfl, g0, g1, hDl, hx, hxd⟩ := HK.out k (by rw [HLR.out]; exact hkn)
          have e2 : (D : Int) < (len : Int) := by omega
          have e3 : (0 : Int) ≤ (D : Int) := by omega
          have e4 : IntKind.i64.wrap (x : Int) = (x : Int) := by rw [IntWalk.i64_in _ (by omega)]
          have HWk := HW.out k (by rw [HLR.out]; exact hkn)
          by_cases hkh : k < h
          · have hxe : x = d := by
              have := HWk.1 hkh
              rw [this] at hxd
              simpa using hxd
            have e5 : ((x : Int) == (d : Int)) = true := by rw [hxe]; simp
            have HH := hQz (And.intro hkh hkn)
            clear hxe HWk hxd hkh hkn HW HK HI HN
            go_wp2
            go_roundw
            case rel => exact ⟨k + 1, by go_num, HH.out.1, by first | rfl | trivial⟩
            case measure => have := HH.out.2; simp [intOf]; omega
          · have hke : k = h := by omega
            have hxe : ¬ x = d := by
              have := HWk.2 hke
              rw [this] at hxd
              simpa using hxd
            have e5 : ((x : Int) == (d : Int)) = false := beq_eq_false_iff_ne.2 (by omega)
            subst hke
            clear hxe HWk hxd hkh
            obtain ⟨hT, hB⟩ := HC.out
            have hkk : k = (heads d (rests D es)).length := by rw [← HT.out.2.1]; exact HT.out.2.2.1
            have hkn' : k ≤ n' := HT.out.2.2.2
            have hge := HGE.out d k es' HI.out.2.1 HI.out.2.2.1 hkk
            have hpt := HI.out.1.take k hkn'
            obtain ⟨pz, cz, hslz, hpz⟩ := slice_fromE HI.out.1 k hkn' HIH.out
            have HS2 := hQz hslz
            have hIB := fun (W : World) (hW : Tch [] w W) => HIHB.out d _ (es'.take k) W (hpt.tch hW) hge.1 hge.2.1
            have HIB := hQz hIB
            have HTO := hQz (fun w' => slice_toE (some ⟨b', o', none⟩) n' c' k hkn' HN.out.2 HIH.out w')
            have HDU := hQz (And.intro HDB.out HD.out)
            have HPR := hQz (And.intro hpz (And.intro hge.2.2 (And.intro hge.2.1 hkk)))
            clear hslz hpz hge hpt hIB hkk hkn'
            go_upto_region 11 with fail
            refine wp_region_held_drew (S := fun w' => Tch [bb] wr w') (by kernel_rfl) ((Tch.refl _ _).drew) (fun hC => ?_)
            have hTd : Tch [] wr wr.drew := (Tch.refl _ _).drew
            generalize World.drew wr = u0 at hC hTd ⊢
            have hB0 := hTd.blk hB (by simp)
            have hW0 := hT.trans hTd
            refine qa0 (v := .pointer (some ⟨bb, 0, none⟩)) 0 rfl (by kernel_rfl) (by kernel_rfl) (by kernel_rfl) (fun _ _ _ h => h) hC rfl (fun w' hw' => qb2 (.inl rfl) rfl) ?_
            try simp only [Act.put, ppA, ppB, ppC]
            refine qa0 (v := .int .i64 (d : Int)) 1 rfl (by kernel_rfl) (by kernel_rfl) (by kernel_rfl) (fun _ _ _ h => h) hC rfl (fun w' hw' => qb2 (.inl rfl) rfl) ?_
            try simp only [Act.put, ppA, ppB, ppC]
            refine qa0 (v := (.slice (some ⟨b', o', none⟩) n' c')) 2 rfl (by kernel_rfl) (by kernel_rfl) (by kernel_rfl) (fun _ _ _ h => h) hC rfl (fun w' hw' => qb2 (.inl rfl) rfl) ?_
            try simp only [Act.put, ppA, ppB, ppC]
            refine qa0 (v := .int .i64 (k : Int)) 3 rfl (by kernel_rfl) (by kernel_rfl) (by kernel_rfl) (fun _ _ _ h => h) hC rfl (fun w' hw' => qb2 (.inl rfl) rfl) ?_
            try simp only [Act.put, ppA, ppB, ppC]
            refine qa0 (v := (.slice (some ⟨b', o', none⟩) k c')) 4 rfl (by kernel_rfl) (by kernel_rfl) (by kernel_rfl) (fun _ _ _ h => h) hC rfl (fun w' hw' => x_to _ _ _ rfl rfl rfl (HTO.out w')) ?_
            try simp only [Act.put, ppA, ppB, ppC]
            refine qa0 (v := .int .i64 (D : Int)) 5 rfl (by kernel_rfl) (by kernel_rfl) (by kernel_rfl) (fun _ _ _ h => h) hC rfl (fun w' hw' => qb2 (.inl rfl) rfl) ?_
            try simp only [Act.put, ppA, ppB, ppC]
            refine qa0 (v := .int .i64 ((D + 1 : Nat) : Int)) 6 rfl (by kernel_rfl) (by kernel_rfl) (by kernel_rfl) (fun _ _ _ h => h) hC rfl (fun w' hw' => x_addN (by have := HDU.out.1; omega) rfl rfl rfl) ?_
            try simp only [Act.put, ppA, ppB, ppC]
            refine qa0 (v := .pointer (some ⟨bb, 0, none⟩)) 8 rfl (by kernel_rfl) (by kernel_rfl) (by kernel_rfl) (fun _ _ _ h => h) hC rfl (fun w' hw' => qf8 _ rfl rfl) ?_
            try simp only [Act.put, ppA, ppB, ppC]
            refine qa0 (v := .pointer (some ⟨bb, 0, none⟩)) 9 rfl (by kernel_rfl) (by kernel_rfl) (by kernel_rfl) (fun _ _ _ h => h) hC rfl (fun w' hw' => x_fa _ _ _ rfl rfl (fa_br0 _ _)) ?_
            try simp only [Act.put, ppA, ppB, ppC]
            refine qa6 7 (by kernel_rfl) ?_
            refine qh0 (v1 := (.slice (some ⟨b', o', none⟩) k c')) (v2 := .int .i64 ((D + 1 : Nat) : Int)) rfl rfl rfl (by rfl) (by rfl) Tryz.call46 (HIB.out u0 hW0) ?_
            rintro e u1 ⟨hT3, u, rfl, hTV⟩
            have hC1 := hC.trans (hT3.mono (by simp))
            have hB1 := hT3.blk hB0 (by simp)
            have hW1 := hW0.trans hT3
            refine ⟨_, rfl, hC1, ?_⟩
            try simp only [Act.put, ppA, ppB, ppC]
            refine qa0 (v := .pointer (some ⟨bb, d, none⟩)) 10 rfl (by kernel_rfl) (by kernel_rfl) (by kernel_rfl) (fun _ _ _ h => h) hC1 rfl (fun w' hw' => x_idxV _ _ rfl rfl rfl (idx16 _ HDU.out.2 _)) ?_
            try simp only [Act.put, ppA, ppB, ppC]
            refine qa6 11 (by kernel_rfl) ?_
            refine qj9 (j := d) (v := u) hB1 (by rw [brC_size]; have := HDU.out.2; omega) hTV.one tnode_size rfl rfl rfl (by rfl) (by rfl) ?_
            intro u2 hO hB2
            have hC2 := hC1.only hO (.inr (by simp))
            refine ⟨hC2, ?_⟩
            refine wpAnyH_done (by kernel_rfl) ?_ _
            have hW2 := hW1.only hO (.inl hbb)
            rw [brC_set _ _ _ HDU.out.2] at hB2
            have hbu : bb + 1 ≤ u0.heap.size := hB0.lt
            have hnB : NoB (brC cs (.slice none 0 0)) := brC_noB (fun j hj x => by
              by_cases hjd : j < d
              · exact (HI.out.2.2.2.2.2 j hjd).noB x
              · rw [HI.out.2.2.2.1 j (by omega)]; simp)
            have htch : ∀ {T : TN} {v : Value}, TreeV (bb + 1) u1 T v → TreeV (bb + 1) u2 T v := fun h => h.touch (X := [bb]) hO.tch (fun x hx => by
              rw [List.mem_singleton] at hx
              subst hx
              exact ⟨Nat.lt_succ_self _, _, _, hB1, hnB⟩)
            have HNEW := hQz (show ForkI f D es bb w [] (.slice none 0 0) (d + 1) (es'.drop k) (.slice pz (n' - k) cz) (fun j => if j = d then u else cs j) u2 from
              ⟨HPR.out.1, HPR.out.2.1, fun e he => HI.out.2.2.1 e (List.mem_of_mem_drop he), fun j hj => by
                show (if j = d then u else cs j) = _
                rw [if_neg (by omega)]; exact HI.out.2.2.2.1 j (by omega), HI.out.2.2.2.2.1, fun j hj => by
                show TreeV _ _ _ (if j = d then u else cs j)
                by_cases hjd : j = d
                · subst hjd
                  rw [if_pos rfl]
                  exact htch (hTV.low hbu)
                · rw [if_neg hjd]
                  exact htch (((HI.out.2.2.2.2.2 j (by omega)).tch hTd).tch hT3)⟩)
            have hcn : n' - k = (es'.drop k).length ∧ n' - k ≤ cz := by
              obtain ⟨_, _, h1, h2, _⟩ := HPR.out.1
              obtain ⟨h3, h4, h5⟩ := Value.slice.inj h1
              subst h5
              exact ⟨by rw [List.length_drop, HN.out.1], by rw [h4]; exact h2⟩
            have HCN := hQz hcn
            have hslz := HS2.out
            have HB2 := hQz (And.intro hW2 hB2)
            clear hC hC1 hC2 hTd hT hB hB0 hB1 hW0 hW1 hW2 hB2 hT3 hTV hO hnB htch hbu hcn HS2 HTO HIB HPR HI HIHB HGE HT HC HW HK HN HLR HG HV HVV HNN HSP HE0 HIH
            go_wp2
            go_roundw
            case rel => exact ⟨d + 1, es'.drop k, pz, n' - k, cz, fun j => if j = d then u else cs j, by first | rfl | trivial, by go_num, HDU.out.2, HB2.out.1, HB2.out.2, HCN, HNEW⟩
            case measure => have := HDU.out.2; simp [intOf]; omega
        · have hke : k = h := by have := HT.out.2.2.2; omega
          have e1 : ¬ (k : Int) < (n' : Int) := by omega
          subst hke
          obtain ⟨hT, hB⟩ := HC.out
          have hkk : k = (heads d (rests D es)).length := by rw [← HT.out.2.1]; exact HT.out.2.2.1
          have hkn' : k ≤ n' := HT.out.2.2.2
          have hge := HGE.out d k es' HI.out.2.1 HI.out.2.2.1 hkk
          have hpt := HI.out.1.take k hkn'
          obtain ⟨pz, cz, hslz, hpz⟩ := slice_fromE HI.out.1 k hkn' HIH.out
          have HS2 := hQz hslz
          have hIB := fun (W : World) (hW : Tch [] w W) => HIHB.out d _ (es'.take k) W (hpt.tch hW) hge.1 hge.2.1
          have HIB := hQz hIB
          have HTO := hQz (fun w' => slice_toE p' n' c' k hkn' HN.out.2 HIH.out w')
          have HDU := hQz (And.intro HDB.out HD.out)
          have HPR := hQz (And.intro hpz (And.intro hge.2.2 (And.intro hge.2.1 hkk)))
          clear hslz hpz hge hpt hIB hkk hkn'
          go_upto_region 11 with fail
          refine wp_region_held_drew (S := fun w' => Tch [bb] wr w') (by kernel_rfl) ((Tch.refl _ _).drew) (fun hC => ?_)
          have hTd : Tch [] wr wr.drew := (Tch.refl _ _).drew
          generalize World.drew wr = u0 at hC hTd ⊢
          have hB0 := hTd.blk hB (by simp)
          have hW0 := hT.trans hTd
          refine qa0 (v := .pointer (some ⟨bb, 0, none⟩)) 0 rfl (by kernel_rfl) (by kernel_rfl) (by kernel_rfl) (fun _ _ _ h => h) hC rfl (fun w' hw' => qb2 (.inl rfl) rfl) ?_
          try simp only [Act.put, ppA, ppB, ppC]
          refine qa0 (v := .int .i64 (d : Int)) 1 rfl (by kernel_rfl) (by kernel_rfl) (by kernel_rfl) (fun _ _ _ h => h) hC rfl (fun w' hw' => qb2 (.inl rfl) rfl) ?_
          try simp only [Act.put, ppA, ppB, ppC]
          refine qa0 (v := (.slice p' n' c')) 2 rfl (by kernel_rfl) (by kernel_rfl) (by kernel_rfl) (fun _ _ _ h => h) hC rfl (fun w' hw' => qb2 (.inl rfl) rfl) ?_
          try simp only [Act.put, ppA, ppB, ppC]
          refine qa0 (v := .int .i64 (k : Int)) 3 rfl (by kernel_rfl) (by kernel_rfl) (by kernel_rfl) (fun _ _ _ h => h) hC rfl (fun w' hw' => qb2 (.inl rfl) rfl) ?_
          try simp only [Act.put, ppA, ppB, ppC]
          refine qa0 (v := (.slice p' k c')) 4 rfl (by kernel_rfl) (by kernel_rfl) (by kernel_rfl) (fun _ _ _ h => h) hC rfl (fun w' hw' => x_to _ _ _ rfl rfl rfl (HTO.out w')) ?_
          try simp only [Act.put, ppA, ppB, ppC]
          refine qa0 (v := .int .i64 (D : Int)) 5 rfl (by kernel_rfl) (by kernel_rfl) (by kernel_rfl) (fun _ _ _ h => h) hC rfl (fun w' hw' => qb2 (.inl rfl) rfl) ?_
          try simp only [Act.put, ppA, ppB, ppC]
          refine qa0 (v := .int .i64 ((D + 1 : Nat) : Int)) 6 rfl (by kernel_rfl) (by kernel_rfl) (by kernel_rfl) (fun _ _ _ h => h) hC rfl (fun w' hw' => x_addN (by have := HDU.out.1; omega) rfl rfl rfl) ?_
          try simp only [Act.put, ppA, ppB, ppC]
          refine qa0 (v := .pointer (some ⟨bb, 0, none⟩)) 8 rfl (by kernel_rfl) (by kernel_rfl) (by kernel_rfl) (fun _ _ _ h => h) hC rfl (fun w' hw' => qf8 _ rfl rfl) ?_
          try simp only [Act.put, ppA, ppB, ppC]
          refine qa0 (v := .pointer (some ⟨bb, 0, none⟩)) 9 rfl (by kernel_rfl) (by kernel_rfl) (by kernel_rfl) (fun _ _ _ h => h) hC rfl (fun w' hw' => x_fa _ _ _ rfl rfl (fa_br0 _ _)) ?_
          try simp only [Act.put, ppA, ppB, ppC]
          refine qa6 7 (by kernel_rfl) ?_
          refine qh0 (v1 := (.slice p' k c')) (v2 := .int .i64 ((D + 1 : Nat) : Int)) rfl rfl rfl (by rfl) (by rfl) Tryz.call46 (HIB.out u0 hW0) ?_
          rintro e u1 ⟨hT3, u, rfl, hTV⟩
          have hC1 := hC.trans (hT3.mono (by simp))
          have hB1 := hT3.blk hB0 (by simp)
          have hW1 := hW0.trans hT3
          refine ⟨_, rfl, hC1, ?_⟩
          try simp only [Act.put, ppA, ppB, ppC]
          refine qa0 (v := .pointer (some ⟨bb, d, none⟩)) 10 rfl (by kernel_rfl) (by kernel_rfl) (by kernel_rfl) (fun _ _ _ h => h) hC1 rfl (fun w' hw' => x_idxV _ _ rfl rfl rfl (idx16 _ HDU.out.2 _)) ?_
          try simp only [Act.put, ppA, ppB, ppC]
          refine qa6 11 (by kernel_rfl) ?_
          refine qj9 (j := d) (v := u) hB1 (by rw [brC_size]; have := HDU.out.2; omega) hTV.one tnode_size rfl rfl rfl (by rfl) (by rfl) ?_
          intro u2 hO hB2
          have hC2 := hC1.only hO (.inr (by simp))
          refine ⟨hC2, ?_⟩
          refine wpAnyH_done (by kernel_rfl) ?_ _
          have hW2 := hW1.only hO (.inl hbb)
          rw [brC_set _ _ _ HDU.out.2] at hB2
          have hbu : bb + 1 ≤ u0.heap.size := hB0.lt
          have hnB : NoB (brC cs (.slice none 0 0)) := brC_noB (fun j hj x => by
            by_cases hjd : j < d
            · exact (HI.out.2.2.2.2.2 j hjd).noB x
            · rw [HI.out.2.2.2.1 j (by omega)]; simp)
          have htch : ∀ {T : TN} {v : Value}, TreeV (bb + 1) u1 T v → TreeV (bb + 1) u2 T v := fun h => h.touch (X := [bb]) hO.tch (fun x hx => by
            rw [List.mem_singleton] at hx
            subst hx
            exact ⟨Nat.lt_succ_self _, _, _, hB1, hnB⟩)
          have HNEW := hQz (show ForkI f D es bb w [] (.slice none 0 0) (d + 1) (es'.drop k) (.slice pz (n' - k) cz) (fun j => if j = d then u else cs j) u2 from
            ⟨HPR.out.1, HPR.out.2.1, fun e he => HI.out.2.2.1 e (List.mem_of_mem_drop he), fun j hj => by
              show (if j = d then u else cs j) = _
              rw [if_neg (by omega)]; exact HI.out.2.2.2.1 j (by omega), HI.out.2.2.2.2.1, fun j hj => by
              show TreeV _ _ _ (if j = d then u else cs j)
              by_cases hjd : j = d
              · subst hjd
                rw [if_pos rfl]
                exact htch (hTV.low hbu)
              · rw [if_neg hjd]
                exact htch (((HI.out.2.2.2.2.2 j (by omega)).tch hTd).tch hT3)⟩)
          have hcn : n' - k = (es'.drop k).length ∧ n' - k ≤ cz := by
            obtain ⟨_, _, h1, h2, _⟩ := HPR.out.1
            obtain ⟨h3, h4, h5⟩ := Value.slice.inj h1
            subst h5
            exact ⟨by rw [List.length_drop, HN.out.1], by rw [h4]; exact h2⟩
          have HCN := hQz hcn
          have hslz := HS2.out
          have HB2 := hQz (And.intro hW2 hB2)
          clear hC hC1 hC2 hTd hT hB hB0 hB1 hW0 hW1 hW2 hB2 hT3 hTV hO hnB htch hbu hcn HS2 HTO HIB HPR HI HIHB HGE HT HC HW HK HN HLR HG HV HVV HNN HSP HE0 HIH
          go_wp2
          go_roundw
          case rel => exact ⟨d + 1, es'.drop k, pz, n' - k, cz, fun j => if j = d then u else cs j, by first | rfl | trivial, by go_num, HDU.out.2, HB2.out.1, HB2.out.2, HCN, HNEW⟩
          case measure => have := HDU.out.2; simp [intOf]; omega
    · obtain rfl : d = 16 := by omega
      have hfin := (show BuildPost (.branch (fun d => buildT f (rests 1 (heads d (rests D es)))) []) w (.returned (.iface 157 (.pointer (some ⟨bb, 0, none⟩)))) wr from ⟨hT, _, rfl, bb, cs, (.slice none 0 0), rfl, hbb, hB, HI.out.2.2.2.2.1.tch hT (by simp), fun d hd => (HI.out.2.2.2.2.2 d hd).low (by omega)⟩)
      clear HI HN
      go_wp2
      go_ret
      exact hfin
set_option maxHeartbeats 8000000 in
set_option maxRecDepth 100000 in
theorem fork_yes (f : Nat) (ih : BuildOK f) (hf : 0 < f) (v : Value) (es : List En) (D : Nat) (w : World) (hv : PairsAt w v es) (hg : GoodE D es) (hne : 0 < es.length) (e0 : En) (he0 : e0 = es[0]) (hD : D + 1 ≤ 128) (hlo : longest (rests D es) < f + 1) (hDl : e0.1.length = D) :
    Calls Tryz.prog 79 #[v, .int .i64 (D : Int)] w (BuildPost (.branch (fun d => buildT f (rests 1 (heads d (rests D es)))) e0.2) w) := by
  have hS := St.start w
  have kb := build_br0
  obtain ⟨p, c, rfl, hc, hcells⟩ := id hv
  obtain ⟨b, o, rfl, hbw, hcs⟩ := hcells (by intro e; subst e; simp at hne)
  obtain ⟨n, hnn⟩ : ∃ n, n = es.length := ⟨_, rfl⟩
  obtain ⟨kv, vv, g0, g1, hkv, hvv⟩ := hcs 0 hne
  rw [← he0] at hkv hvv
  obtain ⟨q1, c1, rfl⟩ := hkv.shape'
  obtain ⟨q2, c2, rfl⟩ := hvv.shape'
  rw [Nat.zero_mul, Nat.add_zero] at g0 g1
  rw [← hnn] at hc hv hne ⊢
  have hn100 : n ≤ 100000 := by have := hg.len; omega
  have dn : (0 : Int) < (n : Int) := by omega
  have HG := hQz hg
  have HIHB := hQz (fun (d : Nat) (v' : Value) (E : List En) (W : World) (hp : PairsAt W v' E) (hgE : GoodE (D + 1) E) (he : rests (D + 1) E = rests 1 (heads d (rests D es))) => by
    have := ih v' E (D + 1) W hp hgE hD (by rw [he]; exact longest_heads hf hlo)
    rw [he] at this
    exact this)
  have HDB := hQz (show D < 128 by omega)
  have HGE := hQz (fun (d h : Nat) (E : List En) (hE : rests D E = fromD d (rests D es)) (hsub : ∀ e ∈ E, e ∈ es) (hh : h = (heads d (rests D es)).length) => by
    have ht := (take_heads d hg.srt).1
    have hdr := (take_heads d hg.srt).2
    have e1 : rests D (E.take h) = heads d (rests D es) := by rw [← ht, ← hE, ← hh]; simp [rests, List.map_take]
    have e2 : rests D (E.drop h) = fromD (d + 1) (rests D es) := by rw [← hdr, ← hE, ← hh]; simp [rests, List.map_drop]
    have e3 : rests (D + 1) (E.take h) = rests 1 (heads d (rests D es)) := by rw [← e1, rests_rests]
    refine (⟨⟨?_, ?_, ?_⟩, e3, e2⟩ : GoodE (D + 1) (E.take h) ∧ rests (D + 1) (E.take h) = rests 1 (heads d (rests D es)) ∧ rests D (E.drop h) = fromD (d + 1) (rests D es))
    · have h1 : (rests D (E.take h)).length ≤ (rests D es).length := by rw [e1]; exact heads_len
      have h2 := hg.len
      simp only [rests, List.length_map] at h1
      omega
    · intro e he
      have hm : ((e.1.drop D), e.2) ∈ heads d (rests D es) := by rw [← e1]; exact List.mem_map.2 ⟨e, he, rfl⟩
      have h1 := (List.mem_filter.1 hm).2
      have h2 := hg.dep e (hsub e (List.mem_of_mem_take he))
      refine ⟨?_, h2.2⟩
      rcases Nat.lt_or_ge D e.1.length with h3 | h3
      · exact h3
      · rw [show (e.1.drop D, e.2).1 = e.1.drop D from rfl, List.drop_eq_nil_of_le h3] at h1
        simp at h1
    · rw [e3]; exact (hg.srt.heads).rests (qc6 _))
  have dl : ((e0.1.length : Int) == (D : Int)) = true := by rw [hDl]; simp
  obtain ⟨p1, cc1, hsl1, hp1⟩ := slice_fromE hv 1 hne (by omega)
  have hsl := hsl1
  rw [show ((1 : Nat) : Int) = 1 from rfl] at hsl
  have HV := hQz hv
  have HVV := hQz hvv
  have HE0 := hQz (And.intro he0 hDl)
  have HNN := hQz hnn
  have HSP := hQz (show (e0.1.drop D, e0.2) :: rests D (es.drop 1) = rests D es by
    have h0 : 0 < es.length := by omega
    rw [he0]
    conv => rhs; rw [← List.drop_zero (l := es), List.drop_eq_getElem_cons h0]
    rfl)
  have HP1 := hQz hp1
  clear hp1 hsl1
  clear hcells hcs hkv hvv hv hg ih hlo he0 hDl hf hnn
  go_enter Tryz.func79, Tryz.ntmps79
  go_wp2_with (first
    | (refine qi0 (c := brC (fun _ => .nilIface) (.slice none 0 0)) hS rfl 161 _ rfl rfl ?_; clear hS; intro w1 bb hS; have hc0 := (hS.frame.cell (p := ⟨b, o, none⟩) hbw (by simp)).trans g0; have hc1 := (hS.frame.cell (p := ⟨b, o + 1, none⟩) hbw (by simp)).trans g1)
    | (refine st_storeV (b := bb) (j := 16) (v := .slice q2 e0.2.length c2) hS rfl 23 _ _ rfl rfl rfl rfl bytesS_size .head (by rw [brC_size]; decide) ?_; clear hS; intro w2 hS hO))
  go_loopw [0, 26] (fun v i wr => ∃ (d : Nat) (es' : List En) (p' : Option Addr) (n' c' : Nat) (cs : Nat → Value), v = .slice p' n' c' ∧ i = .int .i64 (d : Int) ∧ d ≤ 16 ∧ Tch [] w wr ∧ Blk wr bb 161 (brC cs (.slice q2 e0.2.length c2)) ∧ Hid (n' = es'.length ∧ n' ≤ c') ∧ Hid (ForkI f D es bb w e0.2 (.slice q2 e0.2.length c2) d es' (.slice p' n' c') cs wr)) (fun _ i _ => 16 - (intOf i).toNat)
  case atStart => exact ⟨0, es.drop 1, p1, n - 1, cc1, fun _ => .nilIface, rfl, rfl, by decide, hS.frame, (by have h := hS.get .head; rwa [brC_last_set] at h), hQz (by have := HP1.out; obtain ⟨_, _, h1, h2, _⟩ := this; obtain ⟨_, h4, h5⟩ := Value.slice.inj h1; subst h5; exact ⟨by rw [List.length_drop, ← HNN.out], by rw [h4]; exact h2⟩), hQz ⟨HP1.out, (by
      have hx := fromD_first (e := (e0.1.drop D, e0.2)) (l := rests D (es.drop 1)) (by rw [show (e0.1.drop D, e0.2) :: rests D (es.drop 1) = rests D es from HSP.out]; exact HG.out.srt)
      rw [show (e0.1.drop D, e0.2) :: rests D (es.drop 1) = rests D es from HSP.out] at hx
      rw [hx, if_pos (List.drop_eq_nil_of_le (Nat.le_of_eq HE0.out.2))]), fun e he => List.mem_of_mem_drop he, fun _ _ => rfl, HVV.out, fun j hj => by omega⟩⟩
  case round =>
    have hbb : w.heap.size ≤ bb := (hS.own .head).resolve_right (by simp)
    clear hS
    obtain ⟨d, es', p', n', c', cs, rfl, rfl, hd, hT, hB, HN, HI⟩ := hrel
    by_cases hlt : d < 16
    · have d1 : (d : Int) < 16 := by omega
      have d0 : (0 : Int) ≤ (d : Int) := by omega
      have hes : es'.length ≤ es.length := by
        have h1 := congrArg List.length HI.out.2.1
        have h2 : (fromD d (rests D es)).length ≤ (rests D es).length := List.length_filter_le _ _
        have h3 : (rests D es').length = es'.length := by simp [rests]
        have h4 : (rests D es).length = es.length := by simp [rests]
        omega
      have hn100 : n' ≤ 100000 := by have := HN.out.1; have := HG.out.len; omega
      have hn4 : n' ≤ 4611686018427387904 := by omega
      obtain ⟨T, hTT⟩ : ∃ T, T = (rests D es').takeWhile (fun e => e.1.head? == some d) := ⟨_, rfl⟩
      have hTh : T = heads d (rests D es) := by rw [hTT, HI.out.2.1]; exact (fromD_step d HG.out.srt).1
      obtain ⟨h, hh⟩ : ∃ h, h = T.length := ⟨_, rfl⟩
      have hhn : h ≤ n' := by
        have := tw_le (p := fun e : En => e.1.head? == some d) (rests D es')
        rw [← hTT, ← hh] at this
        have h3 : (rests D es').length = es'.length := by simp [rests]
        have := HN.out.1
        omega
      have hlr : (rests D es').length = n' := by have := HN.out.1; simp [rests, this]
      have HK := hQz (show ∀ k (hk : k < (rests D es').length), ∃ (b' o' pb po cq len x : Nat), p' = some (⟨b', o', none⟩ : Addr) ∧ wr.cell? ⟨b', o' + k * 2, none⟩ = some (.slice (some ⟨pb, po, none⟩) len cq) ∧ wr.cell? ⟨pb, po + D, none⟩ = some (.int .u8 ((x : Nat) : Int)) ∧ D < len ∧ x < 256 ∧ (x == d) = (((rests D es')[k]).1.head? == some d) from fun k hk => by
        have hk' : k < es'.length := by simpa [rests] using hk
        have hDk := fromD_mem HI.out.2.1 hk'
        obtain ⟨pp, cc, hpp, hcc, hcl⟩ := HI.out.1
        obtain ⟨b', o', hp', hbw', hcs'⟩ := hcl (by intro e; subst e; simp at hk')
        obtain ⟨kv', vv', g0', _, hkv', _⟩ := hcs' k hk'
        obtain ⟨q, cq, hq1, _, hq3, hq4⟩ := hkv'
        obtain ⟨pb, po, hq, hpb, hpc⟩ := hq4 (by intro e; rw [e] at hDk; simp at hDk)
        refine ⟨b', o', pb, po, cq, (es'[k]'hk').1.length, (es'[k]'hk').1.getD D 0, (Value.slice.inj hpp).1.trans hp', ?_, (hT.cell (p := ⟨pb, po + D, none⟩) hpb (by simp)).trans (hpc D hDk), hDk, hq3 _ (by rw [List.getD_eq_getElem?_getD, List.getElem?_eq_getElem hDk]; exact List.getElem_mem hDk), (rest_head hk' hDk d hk).symm⟩
        rw [hT.cell (p := ⟨b', o' + k * 2, none⟩) hbw' (by simp), g0', hq1, hq])
      have HW := hQz (show ∀ k (hk : k < (rests D es').length), (k < h → (((rests D es')[k]).1.head? == some d) = true) ∧ (k = h → (((rests D es')[k]).1.head? == some d) = false) from fun k hk => ⟨fun h1 => tw_lt (p := fun e : En => e.1.head? == some d) (rests D es') k (by rw [← hTT, ← hh]; exact h1) hk, fun h1 => by
          have h3 : k = ((rests D es').takeWhile (fun e : En => e.1.head? == some d)).length := by rw [← hTT, ← hh]; exact h1
          have h4 := tw_ge (p := fun e : En => e.1.head? == some d) (rests D es') (by rw [← h3]; exact hk)
          simp only [← h3] at h4
          exact h4⟩)
      have HLR := hQz hlr
      have HT := hQz (And.intro hTT (And.intro hTh (And.intro hh hhn)))
      have HC := hQz (And.intro hT hB)
      have HD := hQz hlt
      have HIH := hQz hn4
      clear hTT hTh hes hn4 hT hB hlt hlr
      clear hh
      have HDD := HDB.out
      go_wp2
      go_loopw [7] (fun i wr2 => ∃ k : Nat, i = .int .i64 (k : Int) ∧ k ≤ h ∧ wr2 = wr) (fun i _ => n' - (intOf i).toNat)
      case atStart => exact ⟨0, rfl, Nat.zero_le _, by first | rfl | trivial⟩
      case round =>
        obtain ⟨k, rfl, hk, rfl⟩ := hrel
        by_cases hkn : k < n'
        · have e1 : (k : Int) < (n' : Int) := by omega
          have f0 : (0 : Int) ≤ (k : Int) := by omega
          obtain ⟨b', o', pb, po, cq, len, x, rfl, g0, g1, hDl, hx, hxd⟩ := HK.out k (by rw [HLR.out]; exact hkn)
          have e2 : (D : Int) < (len : Int) := by omega
          have e3 : (0 : Int) ≤ (D : Int) := by omega
          have e4 : IntKind.i64.wrap (x : Int) = (x : Int) := by rw [IntWalk.i64_in _ (by omega)]
          have HWk := HW.out k (by rw [HLR.out]; exact hkn)
          by_cases hkh : k < h
          · have hxe : x = d := by
              have := HWk.1 hkh
              rw [this] at hxd
              simpa using hxd
            have e5 : ((x : Int) == (d : Int)) = true := by rw [hxe]; simp
            have HH := hQz (And.intro hkh hkn)
            clear hxe HWk hxd hkh hkn HW HK HI HN
            go_wp2
            go_roundw
            case rel => exact ⟨k + 1, by go_num, HH.out.1, by first | rfl | trivial⟩
            case measure => have := HH.out.2; simp [intOf]; omega
          · have hke : k = h := by omega
            have hxe : ¬ x = d := by
              have := HWk.2 hke
              rw [this] at hxd
              simpa using hxd
            have e5 : ((x : Int) == (d : Int)) = false := beq_eq_false_iff_ne.2 (by omega)
            subst hke
            clear hxe HWk hxd hkh
            obtain ⟨hT, hB⟩ := HC.out
            have hkk : k = (heads d (rests D es)).length := by rw [← HT.out.2.1]; exact HT.out.2.2.1
            have hkn' : k ≤ n' := HT.out.2.2.2
            have hge := HGE.out d k es' HI.out.2.1 HI.out.2.2.1 hkk
            have hpt := HI.out.1.take k hkn'
            obtain ⟨pz, cz, hslz, hpz⟩ := slice_fromE HI.out.1 k hkn' HIH.out
            have HS2 := hQz hslz
            have hIB := fun (W : World) (hW : Tch [] w W) => HIHB.out d _ (es'.take k) W (hpt.tch hW) hge.1 hge.2.1
            have HIB := hQz hIB
            have HTO := hQz (fun w' => slice_toE (some ⟨b', o', none⟩) n' c' k hkn' HN.out.2 HIH.out w')
            have HDU := hQz (And.intro HDB.out HD.out)
            have HPR := hQz (And.intro hpz (And.intro hge.2.2 (And.intro hge.2.1 hkk)))
            clear hslz hpz hge hpt hIB hkk hkn'
            go_upto_region 11 with fail
            refine wp_region_held_drew (S := fun w' => Tch [bb] wr w') (by kernel_rfl) ((Tch.refl _ _).drew) (fun hC => ?_)
            have hTd : Tch [] wr wr.drew := (Tch.refl _ _).drew
            generalize World.drew wr = u0 at hC hTd ⊢
            have hB0 := hTd.blk hB (by simp)
            have hW0 := hT.trans hTd
            refine qa0 (v := .pointer (some ⟨bb, 0, none⟩)) 0 rfl (by kernel_rfl) (by kernel_rfl) (by kernel_rfl) (fun _ _ _ h => h) hC rfl (fun w' hw' => qb2 (.inl rfl) rfl) ?_
            try simp only [Act.put, ppA, ppB, ppC]
            refine qa0 (v := .int .i64 (d : Int)) 1 rfl (by kernel_rfl) (by kernel_rfl) (by kernel_rfl) (fun _ _ _ h => h) hC rfl (fun w' hw' => qb2 (.inl rfl) rfl) ?_
            try simp only [Act.put, ppA, ppB, ppC]
            refine qa0 (v := (.slice (some ⟨b', o', none⟩) n' c')) 2 rfl (by kernel_rfl) (by kernel_rfl) (by kernel_rfl) (fun _ _ _ h => h) hC rfl (fun w' hw' => qb2 (.inl rfl) rfl) ?_
            try simp only [Act.put, ppA, ppB, ppC]
            refine qa0 (v := .int .i64 (k : Int)) 3 rfl (by kernel_rfl) (by kernel_rfl) (by kernel_rfl) (fun _ _ _ h => h) hC rfl (fun w' hw' => qb2 (.inl rfl) rfl) ?_
            try simp only [Act.put, ppA, ppB, ppC]
            refine qa0 (v := (.slice (some ⟨b', o', none⟩) k c')) 4 rfl (by kernel_rfl) (by kernel_rfl) (by kernel_rfl) (fun _ _ _ h => h) hC rfl (fun w' hw' => x_to _ _ _ rfl rfl rfl (HTO.out w')) ?_
            try simp only [Act.put, ppA, ppB, ppC]
            refine qa0 (v := .int .i64 (D : Int)) 5 rfl (by kernel_rfl) (by kernel_rfl) (by kernel_rfl) (fun _ _ _ h => h) hC rfl (fun w' hw' => qb2 (.inl rfl) rfl) ?_
            try simp only [Act.put, ppA, ppB, ppC]
            refine qa0 (v := .int .i64 ((D + 1 : Nat) : Int)) 6 rfl (by kernel_rfl) (by kernel_rfl) (by kernel_rfl) (fun _ _ _ h => h) hC rfl (fun w' hw' => x_addN (by have := HDU.out.1; omega) rfl rfl rfl) ?_
            try simp only [Act.put, ppA, ppB, ppC]
            refine qa0 (v := .pointer (some ⟨bb, 0, none⟩)) 8 rfl (by kernel_rfl) (by kernel_rfl) (by kernel_rfl) (fun _ _ _ h => h) hC rfl (fun w' hw' => qf8 _ rfl rfl) ?_
            try simp only [Act.put, ppA, ppB, ppC]
            refine qa0 (v := .pointer (some ⟨bb, 0, none⟩)) 9 rfl (by kernel_rfl) (by kernel_rfl) (by kernel_rfl) (fun _ _ _ h => h) hC rfl (fun w' hw' => x_fa _ _ _ rfl rfl (fa_br0 _ _)) ?_
            try simp only [Act.put, ppA, ppB, ppC]
            refine qa6 7 (by kernel_rfl) ?_
            refine qh0 (v1 := (.slice (some ⟨b', o', none⟩) k c')) (v2 := .int .i64 ((D + 1 : Nat) : Int)) rfl rfl rfl (by rfl) (by rfl) Tryz.call46 (HIB.out u0 hW0) ?_
            rintro e u1 ⟨hT3, u, rfl, hTV⟩
            have hC1 := hC.trans (hT3.mono (by simp))
            have hB1 := hT3.blk hB0 (by simp)
            have hW1 := hW0.trans hT3
            refine ⟨_, rfl, hC1, ?_⟩
            try simp only [Act.put, ppA, ppB, ppC]
            refine qa0 (v := .pointer (some ⟨bb, d, none⟩)) 10 rfl (by kernel_rfl) (by kernel_rfl) (by kernel_rfl) (fun _ _ _ h => h) hC1 rfl (fun w' hw' => x_idxV _ _ rfl rfl rfl (idx16 _ HDU.out.2 _)) ?_
            try simp only [Act.put, ppA, ppB, ppC]
            refine qa6 11 (by kernel_rfl) ?_
            refine qj9 (j := d) (v := u) hB1 (by rw [brC_size]; have := HDU.out.2; omega) hTV.one tnode_size rfl rfl rfl (by rfl) (by rfl) ?_
            intro u2 hO hB2
            have hC2 := hC1.only hO (.inr (by simp))
            refine ⟨hC2, ?_⟩
            refine wpAnyH_done (by kernel_rfl) ?_ _
            have hW2 := hW1.only hO (.inl hbb)
            rw [brC_set _ _ _ HDU.out.2] at hB2
            have hbu : bb + 1 ≤ u0.heap.size := hB0.lt
            have hnB : NoB (brC cs (.slice q2 e0.2.length c2)) := brC_noB (fun j hj x => by
              by_cases hjd : j < d
              · exact (HI.out.2.2.2.2.2 j hjd).noB x
              · rw [HI.out.2.2.2.1 j (by omega)]; simp)
            have htch : ∀ {T : TN} {v : Value}, TreeV (bb + 1) u1 T v → TreeV (bb + 1) u2 T v := fun h => h.touch (X := [bb]) hO.tch (fun x hx => by
              rw [List.mem_singleton] at hx
              subst hx
              exact ⟨Nat.lt_succ_self _, _, _, hB1, hnB⟩)
            have HNEW := hQz (show ForkI f D es bb w e0.2 (.slice q2 e0.2.length c2) (d + 1) (es'.drop k) (.slice pz (n' - k) cz) (fun j => if j = d then u else cs j) u2 from
              ⟨HPR.out.1, HPR.out.2.1, fun e he => HI.out.2.2.1 e (List.mem_of_mem_drop he), fun j hj => by
                show (if j = d then u else cs j) = _
                rw [if_neg (by omega)]; exact HI.out.2.2.2.1 j (by omega), HI.out.2.2.2.2.1, fun j hj => by
                show TreeV _ _ _ (if j = d then u else cs j)
                by_cases hjd : j = d
                · subst hjd
                  rw [if_pos rfl]
                  exact htch (hTV.low hbu)
                · rw [if_neg hjd]
                  exact htch (((HI.out.2.2.2.2.2 j (by omega)).tch hTd).tch hT3)⟩)
            have hcn : n' - k = (es'.drop k).length ∧ n' - k ≤ cz := by
              obtain ⟨_, _, h1, h2, _⟩ := HPR.out.1
              obtain ⟨h3, h4, h5⟩ := Value.slice.inj h1
              subst h5
              exact ⟨by rw [List.length_drop, HN.out.1], by rw [h4]; exact h2⟩
            have HCN := hQz hcn
            have hslz := HS2.out
            have HB2 := hQz (And.intro hW2 hB2)
            clear hC hC1 hC2 hTd hT hB hB0 hB1 hW0 hW1 hW2 hB2 hT3 hTV hO hnB htch hbu hcn HS2 HTO HIB HPR HI HIHB HGE HT HC HW HK HN HLR HG HV HVV HNN HSP HE0 HIH
            go_wp2
            go_roundw
            case rel => exact ⟨d + 1, es'.drop k, pz, n' - k, cz, fun j => if j = d then u else cs j, by first | rfl | trivial, by go_num, HDU.out.2, HB2.out.1, HB2.out.2, HCN, HNEW⟩
            case measure => have := HDU.out.2; simp [intOf]; omega
        · have hke : k = h := by have := HT.out.2.2.2; omega
          have e1 : ¬ (k : Int) < (n' : Int) := by omega
          subst hke
          obtain ⟨hT, hB⟩ := HC.out
          have hkk : k = (heads d (rests D es)).length := by rw [← HT.out.2.1]; exact HT.out.2.2.1
          have hkn' : k ≤ n' := HT.out.2.2.2
          have hge := HGE.out d k es' HI.out.2.1 HI.out.2.2.1 hkk
          have hpt := HI.out.1.take k hkn'
          obtain ⟨pz, cz, hslz, hpz⟩ := slice_fromE HI.out.1 k hkn' HIH.out
          have HS2 := hQz hslz
          have hIB := fun (W : World) (hW : Tch [] w W) => HIHB.out d _ (es'.take k) W (hpt.tch hW) hge.1 hge.2.1
          have HIB := hQz hIB
          have HTO := hQz (fun w' => slice_toE p' n' c' k hkn' HN.out.2 HIH.out w')
          have HDU := hQz (And.intro HDB.out HD.out)
          have HPR := hQz (And.intro hpz (And.intro hge.2.2 (And.intro hge.2.1 hkk)))
          clear hslz hpz hge hpt hIB hkk hkn'
          go_upto_region 11 with fail
          refine wp_region_held_drew (S := fun w' => Tch [bb] wr w') (by kernel_rfl) ((Tch.refl _ _).drew) (fun hC => ?_)
          have hTd : Tch [] wr wr.drew := (Tch.refl _ _).drew
          generalize World.drew wr = u0 at hC hTd ⊢
          have hB0 := hTd.blk hB (by simp)
          have hW0 := hT.trans hTd
          refine qa0 (v := .pointer (some ⟨bb, 0, none⟩)) 0 rfl (by kernel_rfl) (by kernel_rfl) (by kernel_rfl) (fun _ _ _ h => h) hC rfl (fun w' hw' => qb2 (.inl rfl) rfl) ?_
          try simp only [Act.put, ppA, ppB, ppC]
          refine qa0 (v := .int .i64 (d : Int)) 1 rfl (by kernel_rfl) (by kernel_rfl) (by kernel_rfl) (fun _ _ _ h => h) hC rfl (fun w' hw' => qb2 (.inl rfl) rfl) ?_
          try simp only [Act.put, ppA, ppB, ppC]
          refine qa0 (v := (.slice p' n' c')) 2 rfl (by kernel_rfl) (by kernel_rfl) (by kernel_rfl) (fun _ _ _ h => h) hC rfl (fun w' hw' => qb2 (.inl rfl) rfl) ?_
          try simp only [Act.put, ppA, ppB, ppC]
          refine qa0 (v := .int .i64 (k : Int)) 3 rfl (by kernel_rfl) (by kernel_rfl) (by kernel_rfl) (fun _ _ _ h => h) hC rfl (fun w' hw' => qb2 (.inl rfl) rfl) ?_
          try simp only [Act.put, ppA, ppB, ppC]
          refine qa0 (v := (.slice p' k c')) 4 rfl (by kernel_rfl) (by kernel_rfl) (by kernel_rfl) (fun _ _ _ h => h) hC rfl (fun w' hw' => x_to _ _ _ rfl rfl rfl (HTO.out w')) ?_
          try simp only [Act.put, ppA, ppB, ppC]
          refine qa0 (v := .int .i64 (D : Int)) 5 rfl (by kernel_rfl) (by kernel_rfl) (by kernel_rfl) (fun _ _ _ h => h) hC rfl (fun w' hw' => qb2 (.inl rfl) rfl) ?_
          try simp only [Act.put, ppA, ppB, ppC]
          refine qa0 (v := .int .i64 ((D + 1 : Nat) : Int)) 6 rfl (by kernel_rfl) (by kernel_rfl) (by kernel_rfl) (fun _ _ _ h => h) hC rfl (fun w' hw' => x_addN (by have := HDU.out.1; omega) rfl rfl rfl) ?_
          try simp only [Act.put, ppA, ppB, ppC]
          refine qa0 (v := .pointer (some ⟨bb, 0, none⟩)) 8 rfl (by kernel_rfl) (by kernel_rfl) (by kernel_rfl) (fun _ _ _ h => h) hC rfl (fun w' hw' => qf8 _ rfl rfl) ?_
          try simp only [Act.put, ppA, ppB, ppC]
          refine qa0 (v := .pointer (some ⟨bb, 0, none⟩)) 9 rfl (by kernel_rfl) (by kernel_rfl) (by kernel_rfl) (fun _ _ _ h => h) hC rfl (fun w' hw' => x_fa _ _ _ rfl rfl (fa_br0 _ _)) ?_
          try simp only [Act.put, ppA, ppB, ppC]
          refine qa6 7 (by kernel_rfl) ?_
          refine qh0 (v1 := (.slice p' k c')) (v2 := .int .i64 ((D + 1 : Nat) : Int)) rfl rfl rfl (by rfl) (by rfl) Tryz.call46 (HIB.out u0 hW0) ?_
          rintro e u1 ⟨hT3, u, rfl, hTV⟩
          have hC1 := hC.trans (hT3.mono (by simp))
          have hB1 := hT3.blk hB0 (by simp)
          have hW1 := hW0.trans hT3
          refine ⟨_, rfl, hC1, ?_⟩
          try simp only [Act.put, ppA, ppB, ppC]
          refine qa0 (v := .pointer (some ⟨bb, d, none⟩)) 10 rfl (by kernel_rfl) (by kernel_rfl) (by kernel_rfl) (fun _ _ _ h => h) hC1 rfl (fun w' hw' => x_idxV _ _ rfl rfl rfl (idx16 _ HDU.out.2 _)) ?_
          try simp only [Act.put, ppA, ppB, ppC]
          refine qa6 11 (by kernel_rfl) ?_
          refine qj9 (j := d) (v := u) hB1 (by rw [brC_size]; have := HDU.out.2; omega) hTV.one tnode_size rfl rfl rfl (by rfl) (by rfl) ?_
          intro u2 hO hB2
          have hC2 := hC1.only hO (.inr (by simp))
          refine ⟨hC2, ?_⟩
          refine wpAnyH_done (by kernel_rfl) ?_ _
          have hW2 := hW1.only hO (.inl hbb)
          rw [brC_set _ _ _ HDU.out.2] at hB2
          have hbu : bb + 1 ≤ u0.heap.size := hB0.lt
          have hnB : NoB (brC cs (.slice q2 e0.2.length c2)) := brC_noB (fun j hj x => by
            by_cases hjd : j < d
            · exact (HI.out.2.2.2.2.2 j hjd).noB x
            · rw [HI.out.2.2.2.1 j (by omega)]; simp)
          have htch : ∀ {T : TN} {v : Value}, TreeV (bb + 1) u1 T v → TreeV (bb + 1) u2 T v := fun h => h.touch (X := [bb]) hO.tch (fun x hx => by
            rw [List.mem_singleton] at hx
            subst hx
            exact ⟨Nat.lt_succ_self _, _, _, hB1, hnB⟩)
          have HNEW := hQz (show ForkI f D es bb w e0.2 (.slice q2 e0.2.length c2) (d + 1) (es'.drop k) (.slice pz (n' - k) cz) (fun j => if j = d then u else cs j) u2 from
            ⟨HPR.out.1, HPR.out.2.1, fun e he => HI.out.2.2.1 e (List.mem_of_mem_drop he), fun j hj => by
              show (if j = d then u else cs j) = _
              rw [if_neg (by omega)]; exact HI.out.2.2.2.1 j (by omega), HI.out.2.2.2.2.1, fun j hj => by
              show TreeV _ _ _ (if j = d then u else cs j)
              by_cases hjd : j = d
              · subst hjd
                rw [if_pos rfl]
                exact htch (hTV.low hbu)
              · rw [if_neg hjd]
                exact htch (((HI.out.2.2.2.2.2 j (by omega)).tch hTd).tch hT3)⟩)
          have hcn : n' - k = (es'.drop k).length ∧ n' - k ≤ cz := by
            obtain ⟨_, _, h1, h2, _⟩ := HPR.out.1
            obtain ⟨h3, h4, h5⟩ := Value.slice.inj h1
            subst h5
            exact ⟨by rw [List.length_drop, HN.out.1], by rw [h4]; exact h2⟩
          have HCN := hQz hcn
          have hslz := HS2.out
          have HB2 := hQz (And.intro hW2 hB2)
          clear hC hC1 hC2 hTd hT hB hB0 hB1 hW0 hW1 hW2 hB2 hT3 hTV hO hnB htch hbu hcn HS2 HTO HIB HPR HI HIHB HGE HT HC HW HK HN HLR HG HV HVV HNN HSP HE0 HIH
          go_wp2
          go_roundw
          case rel => exact ⟨d + 1, es'.drop k, pz, n' - k, cz, fun j => if j = d then u else cs j, by first | rfl | trivial, by go_num, HDU.out.2, HB2.out.1, HB2.out.2, HCN, HNEW⟩
          case measure => have := HDU.out.2; simp [intOf]; omega
    · obtain rfl : d = 16 := by omega
      have hfin := (show BuildPost (.branch (fun d => buildT f (rests 1 (heads d (rests D es)))) e0.2) w (.returned (.iface 157 (.pointer (some ⟨bb, 0, none⟩)))) wr from ⟨hT, _, rfl, bb, cs, (.slice q2 e0.2.length c2), rfl, hbb, hB, HI.out.2.2.2.2.1.tch hT (by simp), fun d hd => (HI.out.2.2.2.2.2 d hd).low (by omega)⟩)
      clear HI HN
      go_wp2
      go_ret
      exact hfin
end Go.Proofs.YtanmpcgackfpaaaGreat
