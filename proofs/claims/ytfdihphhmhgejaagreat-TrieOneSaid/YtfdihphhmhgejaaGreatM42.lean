/- The document's example, that each law begins with; texts of bytes held against each other. -/
import Derived.Test.YtfdihphhmhgejaaGreatM31
import Derived.Test.YtfdihphhmhgejaaGreatM18
import Derived.Test.YtfdihphhmhgejaaGreatM37
import Derived.Test.YtfdihphhmhgejaaGreatM41
import Derived.Test.YtfdihphhmhgejaaGreatM19
import Derived.Test.YtfdihphhmhgejaaGreatM17
set_option linter.unusedVariables false
set_option linter.unusedSimpArgs false
namespace Go.Proofs.YtfdihphhmhgejaaGreat
open Go.RowKit

theorem RdA.nofix {w : World} {v : Value} {l : List Nat} (h : RdA [] w v l) {w' : World} (hT : Tch [] w w') : RdB w' v l := (h.tch hT).rdB
theorem strB_inj {a b : List Nat} (ha : ∀ x ∈ a, x < 256) (hb : ∀ x ∈ b, x < 256) (h : strB a = strB b) : a = b := by
  have := strB_eq ha hb
  rw [h, beq_self_eq_true] at this
  exact (beq_iff_eq.1 this.symm)
section
variable {o : Oper} {a : Act} {ops : Array Oper} {rest : List Oper} {C : World → Prop} {Q : Act → Prop}
/-- Two texts of bytes held against each other. -/
theorem k_strL {l m : List Nat} {t : Bool} (hw : Region.wanted o (yielded ops a.tmps) = true) (x y : Operand) (yt : TypeId) (ho : o.op = .binOp .eql 9 x y yt) (hx : a.eval x = .string (strB l)) (hy : a.eval y = .string (strB m)) (hl : ∀ x ∈ l, x < 256) (hm : ∀ x ∈ m, x < 256) (ht : (l == m) = t)
    (h : KQ ops C Q rest (a.put o.dst (.bool t))) : KQ ops C Q (o :: rest) a :=
  k_pure hw (fun w => by
    have e : ((strB l).toList == (strB m).toList) = t := by rw [strB_eq hl hm]; exact ht
    unfold execOp; simp only [ho, hx, hy]; show Sem.run _ _ w = _; simp [eqGuard, binOp, Op.stringOp, e]) h
theorem k_strN {l m : List Nat} {t : Bool} (hw : Region.wanted o (yielded ops a.tmps) = true) (x y : Operand) (yt : TypeId) (ho : o.op = .binOp .neq 9 x y yt) (hx : a.eval x = .string (strB l)) (hy : a.eval y = .string (strB m)) (hl : ∀ x ∈ l, x < 256) (hm : ∀ x ∈ m, x < 256) (ht : (l != m) = t)
    (h : KQ ops C Q rest (a.put o.dst (.bool t))) : KQ ops C Q (o :: rest) a :=
  k_pure hw (fun w => by
    have e : ((strB l).toList == (strB m).toList) = (l == m) := strB_eq hl hm
    unfold execOp; simp only [ho, hx, hy]; show Sem.run _ _ w = _; simp [eqGuard, binOp, Op.stringOp, e, ← ht, bne]) h
end
end Go.Proofs.YtfdihphhmhgejaaGreat

/- TrieOne: the walk. -/
namespace Go.Proofs.YtfdihphhmhgejaaGreat
open Go.RowKit Tr
set_option linter.unusedVariables false
set_option maxRecDepth 100000

set_option maxHeartbeats 4000000 in
/-- Where there is nothing to show. -/
theorem tone_out (K V : List Nat) (vx vy : Value) (w : World) (hx : RdA [] w vx K) (hy : RdA [] w vy V) (hxl : K.length ≤ 4611686018427387904) (hyl : V.length ≤ 4611686018427387904) (h : 64 < K.length ∨ V.length < 1 ∨ 500 < V.length) :
    Calls Tryz.prog 3 #[vx, vy] w fun e w' => e = .returned (.bool true) ∧ Tch [] w w' := by
  obtain ⟨p1, c1, rfl⟩ := hx.rdB.shape'
  obtain ⟨p2, c2, rfl⟩ := hy.rdB.shape'
  clear hx hy
  obtain ⟨n, hn⟩ : ∃ n, n = K.length := ⟨_, rfl⟩
  obtain ⟨m, hm⟩ : ∃ m, m = V.length := ⟨_, rfl⟩
  rw [← hn] at h hxl ⊢
  rw [← hm] at h hyl ⊢
  clear hn hm
  by_cases h1 : 64 < n
  · have e1 : (64 : Int) < (n : Int) := by omega
    clear h
    go_enter Tryz.func3, Tryz.ntmps3
    go_wp2_with (go_at_call 4; refine (alive6_any _).mono ?_; rintro e w1 ⟨rfl, hT⟩)
    go_ret
    exact ⟨rfl, hT⟩
  · have e1 : ¬ (64 : Int) < (n : Int) := by omega
    by_cases h2 : m < 1
    · have e2 : (m : Int) < 1 := by omega
      clear h
      go_enter Tryz.func3, Tryz.ntmps3
      go_wp2_with (go_at_call 4; refine (alive6_any _).mono ?_; rintro e w1 ⟨rfl, hT⟩)
      go_ret
      exact ⟨rfl, hT⟩
    · have e2 : ¬ (m : Int) < 1 := by omega
      have e3 : (500 : Int) < (m : Int) := by omega
      clear h
      go_enter Tryz.func3, Tryz.ntmps3
      go_wp2_with (go_at_call 4; refine (alive6_any _).mono ?_; rintro e w1 ⟨rfl, hT⟩)
      go_ret
      exact ⟨rfl, hT⟩
theorem leaf_itcG {W : World} {bi : Nat} {p q : Option Addr} {n m c d : Nat} {x y : List Nat} {z : Value} (hBi : Blk W bi 31 #[.bool false, .slice q m d, .slice none 0 0, .bool false, .slice p n c, .slice none 0 0]) (hy : RdA [] W (.slice q m d) y) (hyl : y.length < 4611686018427387904) (hx : RdA [] W (.slice p n c) x) (hl : x.length < 4611686018427387904) :
    ItC [] W (dep (.lst [.str y, .str x]) + 1) (.bool true) z (.slice (some ⟨bi, 0, none⟩) 2 2) (.lst [.str y, .str x]) := by
  refine itc_list (fun i => if i = 0 then (.bool false, .slice q m d, .slice none 0 0) else (.bool false, .slice p n c, .slice none 0 0)) rfl (by decide) hBi.lt (by simp) fun i hi => ?_
  match i, hi with
  | 0, _ =>
    refine ⟨hBi.cell (j := 0) rfl, hBi.cell (j := 1) rfl, hBi.cell (j := 2) rfl, ?_⟩
    show ItC [] W (dep (.str y) + 1) _ _ _ (.str y)
    rw [dep_str]
    unfold ItC
    exact ⟨rfl, hy, hyl⟩
  | 1, _ =>
    refine ⟨hBi.cell (j := 3) rfl, hBi.cell (j := 4) rfl, hBi.cell (j := 5) rfl, ?_⟩
    show ItC [] W (dep (.str x) + 1) _ _ _ (.str x)
    rw [dep_str]
    unfold ItC
    exact ⟨rfl, hx, hl⟩
theorem build1P (p1 q1 : Option Addr) (a1 b1 c1 d1 : Nat) (w : World) :
    (Instr.buildSlice 36 1 #[(0, .agg #[.slice p1 a1 b1, .slice q1 c1 d1])]).run Tryz.prog w = .ok (.slice (some ⟨w.heap.size, 0, none⟩) 1 1) (w.alloc (.cells #[.slice p1 a1 b1, .slice q1 c1 d1] 35)) := by kernel_rfl
theorem one_pairs {W : World} {bp : Nat} {p q : Option Addr} {n m c d : Nat} {K V : List Nat} (hB : Blk W bp 35 #[.slice p n c, .slice q m d]) (hk : RdB W (.slice p n c) K) (hv : RdB W (.slice q m d) V) : PairsAt W (.slice (some ⟨bp, 0, none⟩) 1 1) [(K, V)] :=
  ⟨_, _, rfl, Nat.le_refl _, fun _ => ⟨bp, 0, rfl, hB.lt, fun i hi => by
    match i, hi with
    | 0, _ => exact ⟨_, _, hB.cell (j := 0) rfl, hB.cell (j := 1) rfl, hk, hv⟩⟩⟩
theorem one_may {K V : List Nat} (hk : K.length ≤ 64) (h1 : 1 ≤ V.length) (h2 : V.length ≤ 500) : mayE [(K, V)] = 0 := by
  have hx : V.isEmpty = false := by cases V with | nil => simp at h1 | cons => rfl
  have g1 : ¬ (100000 < [(K, V)].length ∨ ([(K, V)] : List En).any longP = true) := by
    simp [longP]
    omega
  have g2 : ¬ (Empty' [(K, V)] = true ∨ ¬ Apart [(K, V)]) := by
    simp [Empty', Apart, hx]
  unfold mayE
  rw [if_neg g1, if_neg g2]
theorem one_rootW {K V : List Nat} (hk : K.length ≤ 64) (h1 : 1 ≤ V.length) (h2 : V.length ≤ 500) : rootW [(K, V)] = hashN (oneB K V) := by
  unfold rootW
  rw [if_pos (one_may hk h1 h2)]
  rfl
theorem idxN (g n cap : Nat) {j : Nat} (h : j < n) (w : World) : (Instr.indexAt 42 (.slice (some ⟨g, 0, none⟩) n cap) (.int .i64 (j : Int))).run Tryz.prog w = .ok (.pointer (some ⟨g, j * 33, none⟩)) w := by
  have hadd : (⟨g, 0, none⟩ : Addr).add (j * 33) = ⟨g, j * 33, none⟩ := by unfold Addr.add; split <;> simp_all
  have hsz : (Tryz.prog.info? 48).map (·.size) = some 33 := by kernel_rfl
  simp [Instr.indexAt, run_underlying nodes_ty, Instr.sureAddr, asIntOf, sizeOf_one hsz, h, hadd]
theorem fa_nd1 (b : Nat) (w : World) : (Instr.fieldAt 48 (.pointer (some ⟨b, 0, none⟩)) 1).run Tryz.prog w = .ok (.pointer (some ⟨b, 32, none⟩)) w := by kernel_rfl
section
variable {o : Oper} {a : Act} {ops : Array Oper} {rest : List Oper} {C : World → Prop} {Q : Act → Prop}
theorem k_idx0N {g n c : Nat} (hw : Region.wanted o (yielded ops a.tmps) = true) (x y : Operand) (ho : o.op = .indexAddr 42 x y) (hx : a.eval x = .slice (some ⟨g, 0, none⟩) n c) (hy : a.eval y = .int .i64 0) (hn : 0 < n)
    (h : KQ ops C Q rest (a.put o.dst (.pointer (some ⟨g, 0, none⟩)))) : KQ ops C Q (o :: rest) a :=
  k_pure hw (fun w => by
    have hr := idxN g n c hn w
    unfold execOp
    simp only [ho, hx, hy, Sem.run_bind]
    simp only [Int.natCast_zero, Nat.zero_mul] at hr
    simp [hr]) h
theorem k_loadM {b i : Nat} {cs : List Value} (hw : Region.wanted o (yielded ops a.tmps) = true) (x : Operand) (ho : o.op = .load 38 x) (hx : a.eval x = .pointer (some ⟨b, i, none⟩)) (hc : ∀ w, C w → w.rangeAt b i cs) (hl : cs.length = 32)
    (h : KQ ops C Q rest (a.put o.dst (.agg cs.toArray))) : KQ ops C Q (o :: rest) a :=
  k_in hw (fun w hC => by
    obtain ⟨d, hd⟩ : ∃ d, d = Tryz.prog.underlying 38 := ⟨_, rfl⟩
    have hr := run_loadAt_mid (P := Tryz.prog) w b i 38 cs _ (hc w hC) word_type rfl (by rw [hl]; exact word_size)
    unfold execOp
    simp only [ho, hx, Sem.run_bind, hr, Result.andThen_ok, Sem.run_pure]) h
theorem k_lenNd {p : Option Addr} {n c : Nat} (hw : Region.wanted o (yielded ops a.tmps) = true) (x : Operand) (ho : o.op = .call { callee := .builtin .len, args := #[x], argTypes := #[42] }) (hx : a.eval x = .slice p n c)
    (h : KQ ops C Q rest (a.put o.dst (.int .i64 (n : Int)))) : KQ ops C Q (o :: rest) a :=
  k_pure hw (fun w => by unfold execOp; simp [ho, resolve, invoke, builtin, hx, Builtin.len_, run_underlying nodes_ty, goInt]) h
end
theorem nd_last (f : Nat → Nat) (v : Value) : (ndA f v)[32]? = some v := by
  unfold ndA
  rw [Array.getElem?_append_right (by rw [wf_size]; exact Nat.le_refl _), wf_size]
  rfl
theorem one_range {W : World} {g : Nat} {f : Nat → Nat} {v : Value} {cur : Array Value} (hB : Blk W g 48 cur) (hc : ∀ j, j < 33 → cur[j]? = (ndA f v)[j]?) : W.rangeAt g 0 (wf f).toList := fun j u hu => by
  rw [Array.getElem?_toList] at hu
  have hj : j < 32 := by
    rcases Nat.lt_or_ge j 32 with h | h
    · exact h
    · rw [wf_none h] at hu; cases hu
  rw [Nat.zero_add]
  refine hB.cell ?_
  rw [hc j (by omega)]
  unfold ndA
  rw [Array.getElem?_append_left (by rw [wf_size]; exact hj)]
  exact hu
theorem one_WT {K V : List Nat} (hk : K.length ≤ 64) (h2 : V.length ≤ 500) (hK : ∀ x ∈ K, x < 256) : WT (.leaf (nibT K) V) := ⟨by rw [nibT_len]; omega, nibT_lt hK, by omega⟩
theorem one_small {K V : List Nat} (hk : K.length ≤ 64) (h2 : V.length ≤ 500) (hK : ∀ x ∈ K, x < 256) : dep (.lst [.str (pkT (nibT K) true), .str V]) ≤ 32 ∧ (enc (.lst [.str (pkT (nibT K) true), .str V])).length ≤ 16777216 := by
  have hW := one_WT hk h2 hK
  have h1 := item_enc (T := .leaf (nibT K) V) HL_len hW
  have h3 := item_dep (H := HL) (.leaf (nibT K) V)
  refine ⟨h3, Nat.le_trans h1 (by decide)⟩
theorem one_len {K V : List Nat} (hk : K.length ≤ 64) (h2 : V.length ≤ 500) (hK : ∀ x ∈ K, x < 256) : (oneB K V).length ≤ 901000 := item_enc (T := .leaf (nibT K) V) HL_len (one_WT hk h2 hK)
theorem one_lt256 {K V : List Nat} {w : World} {v : Value} (hk : K.length ≤ 64) (h2 : V.length ≤ 500) (h : RdA [] w v (oneB K V)) : ∀ x ∈ oneB K V, x < 256 := by
  obtain ⟨_, _, _, _, h, _⟩ := h
  exact h
set_option maxHeartbeats 8000000 in
theorem tone_walk (K V : List Nat) (vx vy : Value) (w : World) (hx : RdA [] w vx K) (hy : RdA [] w vy V) (hk : K.length ≤ 64) (hv1 : 1 ≤ V.length) (hv2 : V.length ≤ 500) :
    Calls Tryz.prog 3 #[vx, vy] w fun e w' => e = .returned (.bool true) ∧ Tch [] w w' := by
  obtain ⟨p1, c1, rfl⟩ := hx.rdB.shape'
  obtain ⟨p2, c2, rfl⟩ := hy.rdB.shape'
  have HXY := Lib.hid (And.intro hx hy)
  have HLT : ∀ x ∈ K, x < 256 := by obtain ⟨_, _, _, _, h, _⟩ := hx; exact h
  clear hx hy
  have HLN := Lib.hid (And.intro hk (And.intro hv1 (And.intro hv2 HLT)))
  obtain ⟨n, hn⟩ : ∃ n, n = K.length := ⟨_, rfl⟩
  obtain ⟨m, hm⟩ : ∃ m, m = V.length := ⟨_, rfl⟩
  have e1 : ¬ (64 : Int) < (n : Int) := by omega
  have e2 : ¬ (m : Int) < 1 := by omega
  have e3 : ¬ (500 : Int) < (m : Int) := by omega
  rw [← hn, ← hm] at HXY
  rw [← hn, ← hm]
  have HNM := Lib.hid (And.intro hn hm)
  clear hn hm hk hv1 hv2 HLT
  have hS := St.start w
  go_enter Tryz.func3, Tryz.ntmps3
  go_upto_region 4 with (go_at_call 4; refine (alive6_any _).mono ?_; rintro e w1 ⟨rfl, hT⟩; replace hS := hS.call hT; clear hT)
  clear e1 e2 e3
  have HSP := Lib.hid (refSplit_any _ K w1 (by have := HLN.out.1; omega) (HXY.out.1.tch hS.frame))
  go_upto_region 5 with (first
    | (go_at_call 6; refine HSP.out.mono ?_; rintro e w2 ⟨sv, rfl, hT2, hown⟩; have HSV := Lib.hid ((RdF.own hown (fun y hy => Nat.lt_of_lt_of_le (nibs_lt HLN.out.2.2.2 y hy) (by decide))) [] (by simp)); replace hS := hS.call hT2; clear hT2 hown)
    | (go_at_call 5; refine (refPack_any _ (nibT K) true _ (by rw [nibT_len]; have := HLN.out.1; omega) HSV.out).mono ?_; rintro e w3 ⟨hT3, pv, rfl, hpv⟩; have HPV := Lib.hid hpv; replace hS := hS.call hT3; clear hT3 hpv))
  obtain ⟨pp, np, cp, rfl⟩ := slice_keep HPV.out
  have HPV2 := Lib.hid (show RdA [] w3 (.slice pp np cp) (pkT (nibT K) true) from by
    have h := HPV.out
    rw [packL_T true (nibT_lt HLN.out.2.2.2)] at h
    exact h)
  have hA : Tch [] w3 w3 := Tch.refl _ _
  have HT3 := Lib.hid hS.frame
  have HPK := Lib.hid (fun (bi : Nat) (W : World) (hB : Blk W bi 31 #[.bool false, .slice pp np cp, .slice none 0 0, .bool false, .slice p2 m c2, .slice none 0 0]) (hT : Tch [] w3 W) => show Calls Tryz.prog 7 #[.agg #[.bool true, .slice none 0 0, .slice (some ⟨bi, 0, none⟩) 2 2]] W (fun e w' => ∃ v, e = .returned (.tuple #[v, .int .i64 0]) ∧ Tch [] W w' ∧ RdA [] w' v (oneB K V)) from
    refPack_yes _ _ _ _ (.lst [.str (pkT (nibT K) true), .str V]) W (leaf_itcG hB (HPV2.out.tch hT) (by have := pkT_len (nibT K) true; have := nibT_len K; have := HLN.out.1; omega) (HXY.out.2.tch (HT3.out.trans hT)) (by have := HLN.out.2.2.1; omega)) (one_small HLN.out.1 HLN.out.2.2.1 HLN.out.2.2.2))
  clear HPV HSP HSV
  go_upto_region 6 with (first
    | (go_at_call 9; refine (rBytes_ex _ _ _ _).mono ?_; rintro e w4 ⟨rfl, hT4⟩; replace hS := hS.call hT4; replace hA := hA.trans hT4; clear hT4)
    | (refine st_buildVT #[(0, .agg #[.bool false, .slice pp np cp, .slice none 0 0]), (1, .agg #[.bool false, .slice p2 m c2, .slice none 0 0])] hS rfl rfl (by simp only [List.map_toArray, List.map_cons, List.map_nil]; rfl) (buildI2 _ _ _ _ _ _ _ _ _ _ _ _ _ _) ?_; clear hS; intro w5 bi hS hT5; replace hA := hA.trans hT5; clear hT5)
    | (go_at_call 8; refine (rList_ex _ _ _ _).mono ?_; rintro e w6 ⟨rfl, hT6⟩; replace hS := hS.call hT6; replace hA := hA.trans hT6; clear hT6)
    | (go_at_call 7; refine (HPK.out bi _ (hS.get .head) hA).mono ?_; rintro e w7 ⟨ev, rfl, hT7, hev⟩; replace hS := hS.call hT7; have HEV := Lib.hid hev; clear hT7 hev))
  obtain ⟨pe, ne, ce, rfl⟩ := slice_keep HEV.out
  clear hA HPK HPV2 HT3
  have HRT := Lib.hid (fun (W : World) (v : Value) (hv : PairsAt W v [(K, V)]) => show Calls Tryz.prog 10 #[v] W fun e w' => e = .returned (.tuple #[.agg (wf (hashN (oneB K V))), .int .i64 0]) ∧ Tch [] W w' from by
    have h := Root_any v [(K, V)] W hv (by simp) (fun _ p hp => by rw [List.mem_singleton.1 hp]; have := HLN.out.2.2.1; show V.length ≤ _; omega)
    rw [one_rootW HLN.out.1 HLN.out.2.1 HLN.out.2.2.1, one_may HLN.out.1 HLN.out.2.1 HLN.out.2.2.1] at h
    exact h)
  have HND := Lib.hid (fun (W : World) (v : Value) (hv : PairsAt W v [(K, V)]) => Nodes_one v K V W hv (one_may HLN.out.1 HLN.out.2.1 HLN.out.2.2.1) (by have := HLN.out.2.2.1; omega))
  have HEL := Lib.hid (And.intro (one_lt256 HLN.out.1 HLN.out.2.2.1 HEV.out) (show (oneB K V).length ≤ 1000000 from (by have := one_len HLN.out.1 HLN.out.2.2.1 HLN.out.2.2.2; omega)))
  have HPS := Lib.hid (fun (bp : Nat) (W : World) (hB : Blk W bp 35 #[.slice p1 n c1, .slice p2 m c2]) (hT : Tch [] w W) => one_pairs hB (HXY.out.1.tch hT).rdB (HXY.out.2.tch hT).rdB)
  obtain ⟨E, hE⟩ : ∃ E, E = oneB K V := ⟨_, rfl⟩
  rw [← hE] at HRT HND HEL HEV
  clear hE
  have kb := build_pair
  have hA : Tch [] w7 w7 := Tch.refl _ _
  go_upto_region 9 with (first
    | (refine st_buildVT #[(0, .agg #[.slice p1 n c1, .slice p2 m c2])] hS rfl rfl (by simp only [List.map_toArray, List.map_cons, List.map_nil]; rfl) (build1P _ _ _ _ _ _) ?_; clear hS; intro w8 bp hS hT8; replace hA := hA.trans hT8; clear hT8)
    | (go_at_call 10; refine (HRT.out _ _ (HPS.out bp _ (hS.get .head) hS.frame)).mono ?_; rintro e w9 ⟨rfl, hT9⟩; replace hS := hS.call hT9; replace hA := hA.trans hT9; clear hT9)
    | (refine st_newT hS rfl 38 rfl word_zero ?_; clear hS; intro wa b14 hS hTa hba; have HTA := Lib.hid (And.intro hTa hba); clear hTa hba)
    | (refine st_storeO (b := b14) (c' := wf (hashN E)) hS rfl 38 _ _ rfl rfl rfl .head word_size (wf_size _) (wf_size _) (wf_one _) ?_; clear hS; intro wb hS hO; replace hA := hA.trans (HTA.out.1.only hO (.inl HTA.out.2)); clear hO)
    | (go_at_call 11; refine (HND.out _ _ (HPS.out bp _ (hS.get (.tail .head)) hS.frame)).mono ?_; rintro e wc ⟨hTc, g, cap, bv, cur, rfl, hBg, hcl, hbv⟩; have HN := Lib.hid (And.intro hBg (And.intro hcl hbv)); replace hS := hS.call hTc; replace hA := hA.trans hTc; clear hTc hBg hcl hbv))
  obtain ⟨pb, cb, rfl⟩ := HN.out.2.2.shape'
  have HWB := Lib.hid (fun (w' : World) (h : Tch [] wc w') => h.blk (hS.get .head) (by simp))
  have HKK := Lib.hid (fun (w' : World) (h : Tch [] wc w') => keccak_any _ E w' HEL.out.2 (HEV.out.tch (hA.trans h)))
  have HRG := Lib.hid (fun (w' : World) (h : Tch [] wc w') => show w'.rangeAt g 0 (wf (hashN E)).toList from one_range (h.blk HN.out.1 (by simp)) HN.out.2.1)
  have HBV := Lib.hid (fun (w' : World) (h : Tch [] wc w') => show w'.cell? ⟨g, 32, none⟩ = some (.slice pb E.length cb) from (h.blk HN.out.1 (by simp)).cell (by rw [HN.out.2.1 32 (by decide)]; exact nd_last _ _))
  have HRB := Lib.hid (fun (w' : World) (h : Tch [] wc w') => HN.out.2.2.tch h (by simp))
  have HRE := Lib.hid (fun (w' : World) (h : Tch [] wc w') => (HEV.out.tch (hA.trans h)).rdB)
  have HF := Lib.hid hS.frame
  have HE2 := Lib.hid HEL.out.1
  clear hS kb hA HRT HND HPS HEL HTA HXY HLN
  refine k_region (C := fun w' => Tch [] wc w') (by kernel_rfl) (by kernel_rfl) ((Tch.refl _ _).drew) ?_
  refine k_intm rfl _ rfl rfl ?_; try simp only [Act.put, List.setIfInBounds_toArray, List.set_cons_zero, List.set_cons_succ]
  refine k_callC1 rfl rfl rfl Tryz.call12 (fun w' h => (num6_any _ w').mono fun e w'' h2 => ⟨h2.1, h.trans h2.2⟩) ?_; try simp only [Act.put, List.setIfInBounds_toArray, List.set_cons_zero, List.set_cons_succ]
  refine k_intm rfl _ rfl rfl ?_; try simp only [Act.put, List.setIfInBounds_toArray, List.set_cons_zero, List.set_cons_succ]
  refine k_callC1 rfl rfl rfl Tryz.call12 (fun w' h => (num6_any _ w').mono fun e w'' h2 => ⟨h2.1, h.trans h2.2⟩) ?_; try simp only [Act.put, List.setIfInBounds_toArray, List.set_cons_zero, List.set_cons_succ]
  refine k_add (s := 0) rfl _ _ _ _ rfl rfl rfl rfl ?_; try simp only [Act.put, List.setIfInBounds_toArray, List.set_cons_zero, List.set_cons_succ]
  refine k_ints rfl _ _ _ rfl rfl rfl rfl ?_; try simp only [Act.put, List.setIfInBounds_toArray, List.set_cons_zero, List.set_cons_succ]
  refine k_boolm rfl _ rfl rfl ?_; try simp only [Act.put, List.setIfInBounds_toArray, List.set_cons_zero, List.set_cons_succ]
  refine k_loadW (b := b14) rfl _ rfl rfl (fun w' h => HWB.out w' h) (wf_size _) ?_; try simp only [Act.put, List.setIfInBounds_toArray, List.set_cons_zero, List.set_cons_succ]
  refine k_slice rfl _ rfl rfl ?_; try simp only [Act.put, List.setIfInBounds_toArray, List.set_cons_zero, List.set_cons_succ]
  refine k_callC1 (v := .agg (wf (hashN E))) rfl rfl rfl Tryz.call13 (fun w' h => (HKK.out w' h).mono fun e w'' h2 => ⟨h2.1, h.trans h2.2⟩) ?_; try simp only [Act.put, List.setIfInBounds_toArray, List.set_cons_zero, List.set_cons_succ]
  refine k_hash (l := E) rfl _ _ _ rfl rfl rfl ?_; try simp only [Act.put, List.setIfInBounds_toArray, List.set_cons_zero, List.set_cons_succ]
  refine k_pickT rfl _ _ _ rfl rfl rfl ?_; try simp only [Act.put, List.setIfInBounds_toArray, List.set_cons_zero, List.set_cons_succ]
  refine k_boolm rfl _ rfl rfl ?_; try simp only [Act.put, List.setIfInBounds_toArray, List.set_cons_zero, List.set_cons_succ]
  refine k_slice rfl _ rfl rfl ?_; try simp only [Act.put, List.setIfInBounds_toArray, List.set_cons_zero, List.set_cons_succ]
  refine k_lenNd rfl _ rfl rfl ?_; try simp only [Act.put, List.setIfInBounds_toArray, List.set_cons_zero, List.set_cons_succ]
  refine k_ints rfl _ _ _ rfl rfl rfl rfl ?_; try simp only [Act.put, List.setIfInBounds_toArray, List.set_cons_zero, List.set_cons_succ]
  refine k_pickT rfl _ _ _ rfl rfl rfl ?_; try simp only [Act.put, List.setIfInBounds_toArray, List.set_cons_zero, List.set_cons_succ]
  refine k_boolm rfl _ rfl rfl ?_; try simp only [Act.put, List.setIfInBounds_toArray, List.set_cons_zero, List.set_cons_succ]
  refine k_slice rfl _ rfl rfl ?_; try simp only [Act.put, List.setIfInBounds_toArray, List.set_cons_zero, List.set_cons_succ]
  refine k_idx0N (g := g) rfl _ _ rfl rfl rfl (by decide) ?_; try simp only [Act.put, List.setIfInBounds_toArray, List.set_cons_zero, List.set_cons_succ]
  refine k_fa rfl _ _ _ rfl rfl (fa_nd0 g) ?_; try simp only [Act.put, List.setIfInBounds_toArray, List.set_cons_zero, List.set_cons_succ]
  refine k_loadM (b := g) (i := 0) rfl _ rfl rfl (fun w' h => HRG.out w' h) (by rw [Array.length_toList, wf_size]) ?_; try simp only [Act.put, List.setIfInBounds_toArray, List.set_cons_zero, List.set_cons_succ]
  refine k_loadW (b := b14) rfl _ rfl rfl (fun w' h => HWB.out w' h) (wf_size _) ?_; try simp only [Act.put, List.setIfInBounds_toArray, List.set_cons_zero, List.set_cons_succ]
  refine k_hash (l := E) rfl _ _ _ rfl rfl rfl ?_; try simp only [Act.put, List.setIfInBounds_toArray, List.set_cons_zero, List.set_cons_succ]
  refine k_pickT rfl _ _ _ rfl rfl rfl ?_; try simp only [Act.put, List.setIfInBounds_toArray, List.set_cons_zero, List.set_cons_succ]
  refine k_boolm rfl _ rfl rfl ?_; try simp only [Act.put, List.setIfInBounds_toArray, List.set_cons_zero, List.set_cons_succ]
  refine k_slice rfl _ rfl rfl ?_; try simp only [Act.put, List.setIfInBounds_toArray, List.set_cons_zero, List.set_cons_succ]
  refine k_idx0N (g := g) rfl _ _ rfl rfl rfl (by decide) ?_; try simp only [Act.put, List.setIfInBounds_toArray, List.set_cons_zero, List.set_cons_succ]
  refine k_fa rfl _ _ _ rfl rfl (fa_nd1 g) ?_; try simp only [Act.put, List.setIfInBounds_toArray, List.set_cons_zero, List.set_cons_succ]
  refine k_cellC (b := g) (j := 32) (v := .slice pb E.length cb) rfl _ _ rfl rfl (fun w' h => HBV.out w' h) bytes_agg ?_; try simp only [Act.put, List.setIfInBounds_toArray, List.set_cons_zero, List.set_cons_succ]
  refine k_conv (l := E) rfl _ rfl rfl (fun w' h => HRB.out w' h) ?_; try simp only [Act.put, List.setIfInBounds_toArray, List.set_cons_zero, List.set_cons_succ]
  refine k_slice rfl _ rfl rfl ?_; try simp only [Act.put, List.setIfInBounds_toArray, List.set_cons_zero, List.set_cons_succ]
  refine k_conv (l := E) rfl _ rfl rfl (fun w' h => HRE.out w' h) ?_; try simp only [Act.put, List.setIfInBounds_toArray, List.set_cons_zero, List.set_cons_succ]
  refine k_strL (t := true) rfl _ _ _ rfl rfl rfl HE2.out HE2.out (by simp) ?_; try simp only [Act.put, List.setIfInBounds_toArray, List.set_cons_zero, List.set_cons_succ]
  refine k_pickT rfl _ _ _ rfl rfl rfl ?_; try simp only [Act.put, List.setIfInBounds_toArray, List.set_cons_zero, List.set_cons_succ]
  refine k_boola rfl _ rfl rfl ?_; try simp only [Act.put, List.setIfInBounds_toArray, List.set_cons_zero, List.set_cons_succ]
  refine k_end ?_; try simp only [Act.put, List.setIfInBounds_toArray, List.set_cons_zero, List.set_cons_succ]
  intro wz hTz
  go_wp2
  go_ret
  exact ⟨rfl, HF.out.trans hTz⟩
end Go.Proofs.YtfdihphhmhgejaaGreat

/- TrieOne: the walk, of any arguments. -/
namespace Go.Proofs.YtfdihphhmhgejaaGreat.TOne
open Go.RowKit
theorem walk (v0 : Value) (a0 : List Nat) (v1 : Value) (a1 : List Nat) (W : World) (l0 : RdA [] W v0 a0) (m0 : a0.length ≤ reachBytes) (l1 : RdA [] W v1 a1) (m1 : a1.length ≤ reachBytes) :
    Calls Tryz.prog 3 #[v0, v1] W fun e w' => e = .returned (.bool true) ∧ Tch [] W w' := by
  have hr : reachBytes ≤ 4611686018427387904 := by decide
  by_cases h : 64 < a0.length ∨ a1.length < 1 ∨ 500 < a1.length
  · exact tone_out a0 a1 v0 v1 W l0 l1 (by omega) (by omega) h
  · exact tone_walk a0 a1 v0 v1 W l0 l1 (by omega) (by omega) (by omega)
end Go.Proofs.YtfdihphhmhgejaaGreat.TOne
