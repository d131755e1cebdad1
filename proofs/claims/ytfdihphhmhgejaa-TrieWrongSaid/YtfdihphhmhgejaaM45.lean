/- The document's example, that each law begins with; texts of bytes held against each other. -/
import Derived.Test.YtfdihphhmhgejaaM31
import Derived.Test.YtfdihphhmhgejaaM18
import Derived.Test.YtfdihphhmhgejaaM37
import Derived.Test.YtfdihphhmhgejaaM44
import Derived.Test.YtfdihphhmhgejaaM19
import Derived.Test.YtfdihphhmhgejaaM17
import Derived.Test.YtfdihphhmhgejaaM40
import Derived.Deep.AppendLies
set_option linter.unusedVariables false
set_option linter.unusedSimpArgs false
namespace Go.Proofs.Ytfdihphhmhgejaa
open Go.RowKit

theorem RdA.nofix {w : World} {v : Value} {l : List Nat} (h : RdA [] w v l) {w' : World} (hT : Tch [] w w') : RdB w' v l := (h.tch hT).rdB
theorem strB_inj {a b : List Nat} (ha : ∀ x ∈ a, x < 256) (hb : ∀ x ∈ b, x < 256) (h : strB a = strB b) : a = b := by
  have := strB_eq ha hb
  rw [h, beq_self_eq_true] at this
  exact (beq_iff_eq.1 this.symm)
section
variable {o : Oper} {a : Act} {ops : Array Oper} {rest : List Oper} {C : World → Prop} {Q : Act → Prop}
/-- Two texts of bytes held against each other. -/
theorem k_strL {l m : List Nat} {t : Bool} (hw : Region.wanted o (yielded ops a.tmps) = true) (x y : Operand) (yt : TypeId) (ho : o.op = .binOp .eql 9 x y yt) (hx : a.eval x = .string (strB l)) (hy : a.eval y = .string (strB m)) (hl : ∀ x ∈ l, x < 256) (hm : ∀ x ∈ m, x < 256) (ht : (l == m) = t)
    (h : KQ ops C Q rest (a.put o.dst (.bool t))) : KQ ops C Q (o :: rest) a :=
  k_pure hw (fun w => by
    have e : ((strB l).toList == (strB m).toList) = t := by rw [strB_eq hl hm]; exact ht
    unfold execOp; simp only [ho, hx, hy]; show Sem.run _ _ w = _; simp [eqGuard, binOp, Op.stringOp, e]) h
theorem k_strN {l m : List Nat} {t : Bool} (hw : Region.wanted o (yielded ops a.tmps) = true) (x y : Operand) (yt : TypeId) (ho : o.op = .binOp .neq 9 x y yt) (hx : a.eval x = .string (strB l)) (hy : a.eval y = .string (strB m)) (hl : ∀ x ∈ l, x < 256) (hm : ∀ x ∈ m, x < 256) (ht : (l != m) = t)
    (h : KQ ops C Q rest (a.put o.dst (.bool t))) : KQ ops C Q (o :: rest) a :=
  k_pure hw (fun w => by
    have e : ((strB l).toList == (strB m).toList) = (l == m) := strB_eq hl hm
    unfold execOp; simp only [ho, hx, hy]; show Sem.run _ _ w = _; simp [eqGuard, binOp, Op.stringOp, e, ← ht, bne]) h
end
end Go.Proofs.Ytfdihphhmhgejaa

/- TrieOne: the walk. -/
namespace Go.Proofs.Ytfdihphhmhgejaa
open Go.RowKit Tr
set_option linter.unusedVariables false
set_option maxRecDepth 100000

theorem leaf_itcG {W : World} {bi : Nat} {p q : Option Addr} {n m c d : Nat} {x y : List Nat} {z : Value} (hBi : Blk W bi 27 #[.bool false, .slice q m d, .slice none 0 0, .bool false, .slice p n c, .slice none 0 0]) (hy : RdA [] W (.slice q m d) y) (hyl : y.length < 4611686018427387904) (hx : RdA [] W (.slice p n c) x) (hl : x.length < 4611686018427387904) :
    ItC [] W (dep (.lst [.str y, .str x]) + 1) (.bool true) z (.slice (some ⟨bi, 0, none⟩) 2 2) (.lst [.str y, .str x]) := by
  refine itc_list (fun i => if i = 0 then (.bool false, .slice q m d, .slice none 0 0) else (.bool false, .slice p n c, .slice none 0 0)) rfl (by decide) hBi.lt (by simp) fun i hi => ?_
  match i, hi with
  | 0, _ =>
    refine ⟨hBi.cell (j := 0) rfl, hBi.cell (j := 1) rfl, hBi.cell (j := 2) rfl, ?_⟩
    show ItC [] W (dep (.str y) + 1) _ _ _ (.str y)
    rw [dep_str]
    unfold ItC
    exact ⟨rfl, hy, hyl⟩
  | 1, _ =>
    refine ⟨hBi.cell (j := 3) rfl, hBi.cell (j := 4) rfl, hBi.cell (j := 5) rfl, ?_⟩
    show ItC [] W (dep (.str x) + 1) _ _ _ (.str x)
    rw [dep_str]
    unfold ItC
    exact ⟨rfl, hx, hl⟩
theorem build1P (p1 q1 : Option Addr) (a1 b1 c1 d1 : Nat) (w : World) :
    (Instr.buildSlice 39 1 #[(0, .agg #[.slice p1 a1 b1, .slice q1 c1 d1])]).run Try.prog w = .ok (.slice (some ⟨w.heap.size, 0, none⟩) 1 1) (w.alloc (.cells #[.slice p1 a1 b1, .slice q1 c1 d1] 38)) := by kernel_rfl
theorem one_pairs {W : World} {bp : Nat} {p q : Option Addr} {n m c d : Nat} {K V : List Nat} (hB : Blk W bp 38 #[.slice p n c, .slice q m d]) (hk : RdB W (.slice p n c) K) (hv : RdB W (.slice q m d) V) : PairsAt W (.slice (some ⟨bp, 0, none⟩) 1 1) [(K, V)] :=
  ⟨_, _, rfl, Nat.le_refl _, fun _ => ⟨bp, 0, rfl, hB.lt, fun i hi => by
    match i, hi with
    | 0, _ => exact ⟨_, _, hB.cell (j := 0) rfl, hB.cell (j := 1) rfl, hk, hv⟩⟩⟩
theorem one_may {K V : List Nat} (hk : K.length ≤ 64) (h1 : 1 ≤ V.length) (h2 : V.length ≤ 500) : mayE [(K, V)] = 0 := by
  have hx : V.isEmpty = false := by cases V with | nil => simp at h1 | cons => rfl
  have g1 : ¬ (100000 < [(K, V)].length ∨ ([(K, V)] : List En).any longP = true) := by
    simp [longP]
    omega
  have g2 : ¬ (Empty' [(K, V)] = true ∨ ¬ Apart [(K, V)]) := by
    simp [Empty', Apart, hx]
  unfold mayE
  rw [if_neg g1, if_neg g2]
theorem one_rootW {K V : List Nat} (hk : K.length ≤ 64) (h1 : 1 ≤ V.length) (h2 : V.length ≤ 500) : rootW [(K, V)] = hashN (oneB K V) := by
  unfold rootW
  rw [if_pos (one_may hk h1 h2)]
  rfl
theorem idxN (g n cap : Nat) {j : Nat} (h : j < n) (w : World) : (Instr.indexAt 44 (.slice (some ⟨g, 0, none⟩) n cap) (.int .i64 (j : Int))).run Try.prog w = .ok (.pointer (some ⟨g, j * 33, none⟩)) w := by
  have hadd : (⟨g, 0, none⟩ : Addr).add (j * 33) = ⟨g, j * 33, none⟩ := by unfold Addr.add; split <;> simp_all
  have hsz : (Try.prog.info? 64).map (·.size) = some 33 := by kernel_rfl
  simp [Instr.indexAt, run_underlying nodes_ty, Instr.sureAddr, asIntOf, sizeOf_one hsz, h, hadd]
theorem fa_nd1 (b : Nat) (w : World) : (Instr.fieldAt 64 (.pointer (some ⟨b, 0, none⟩)) 1).run Try.prog w = .ok (.pointer (some ⟨b, 32, none⟩)) w := by kernel_rfl
section
variable {o : Oper} {a : Act} {ops : Array Oper} {rest : List Oper} {C : World → Prop} {Q : Act → Prop}
theorem k_idx0N {g n c : Nat} (hw : Region.wanted o (yielded ops a.tmps) = true) (x y : Operand) (ho : o.op = .indexAddr 44 x y) (hx : a.eval x = .slice (some ⟨g, 0, none⟩) n c) (hy : a.eval y = .int .i64 0) (hn : 0 < n)
    (h : KQ ops C Q rest (a.put o.dst (.pointer (some ⟨g, 0, none⟩)))) : KQ ops C Q (o :: rest) a :=
  k_pure hw (fun w => by
    have hr := idxN g n c hn w
    unfold execOp
    simp only [ho, hx, hy, Sem.run_bind]
    simp only [Int.natCast_zero, Nat.zero_mul] at hr
    simp [hr]) h
theorem k_loadM {b i : Nat} {cs : List Value} (hw : Region.wanted o (yielded ops a.tmps) = true) (x : Operand) (ho : o.op = .load 33 x) (hx : a.eval x = .pointer (some ⟨b, i, none⟩)) (hc : ∀ w, C w → w.rangeAt b i cs) (hl : cs.length = 32)
    (h : KQ ops C Q rest (a.put o.dst (.agg cs.toArray))) : KQ ops C Q (o :: rest) a :=
  k_in hw (fun w hC => by
    obtain ⟨d, hd⟩ : ∃ d, d = Try.prog.underlying 33 := ⟨_, rfl⟩
    have hr := run_loadAt_mid (P := Try.prog) w b i 33 cs _ (hc w hC) word_type rfl (by rw [hl]; exact word_size)
    unfold execOp
    simp only [ho, hx, Sem.run_bind, hr, Result.andThen_ok, Sem.run_pure]) h
theorem k_lenNd {p : Option Addr} {n c : Nat} (hw : Region.wanted o (yielded ops a.tmps) = true) (x : Operand) (ho : o.op = .call { callee := .builtin .len, args := #[x], argTypes := #[44] }) (hx : a.eval x = .slice p n c)
    (h : KQ ops C Q rest (a.put o.dst (.int .i64 (n : Int)))) : KQ ops C Q (o :: rest) a :=
  k_pure hw (fun w => by unfold execOp; simp [ho, resolve, invoke, builtin, hx, Builtin.len_, run_underlying nodes_ty, goInt]) h
end
theorem nd_last (f : Nat → Nat) (v : Value) : (ndA f v)[32]? = some v := by
  unfold ndA
  rw [Array.getElem?_append_right (by rw [wf_size]; exact Nat.le_refl _), wf_size]
  rfl
theorem one_range {W : World} {g : Nat} {f : Nat → Nat} {v : Value} {cur : Array Value} (hB : Blk W g 64 cur) (hc : ∀ j, j < 33 → cur[j]? = (ndA f v)[j]?) : W.rangeAt g 0 (wf f).toList := fun j u hu => by
  rw [Array.getElem?_toList] at hu
  have hj : j < 32 := by
    rcases Nat.lt_or_ge j 32 with h | h
    · exact h
    · rw [wf_none h] at hu; cases hu
  rw [Nat.zero_add]
  refine hB.cell ?_
  rw [hc j (by omega)]
  unfold ndA
  rw [Array.getElem?_append_left (by rw [wf_size]; exact hj)]
  exact hu
theorem one_WT {K V : List Nat} (hk : K.length ≤ 64) (h2 : V.length ≤ 500) (hK : ∀ x ∈ K, x < 256) : WT (.leaf (nibT K) V) := ⟨by rw [nibT_len]; omega, nibT_lt hK, by omega⟩
theorem one_small {K V : List Nat} (hk : K.length ≤ 64) (h2 : V.length ≤ 500) (hK : ∀ x ∈ K, x < 256) : dep (.lst [.str (pkT (nibT K) true), .str V]) ≤ 32 ∧ (enc (.lst [.str (pkT (nibT K) true), .str V])).length ≤ 16777216 := by
  have hW := one_WT hk h2 hK
  have h1 := item_enc (T := .leaf (nibT K) V) HL_len hW
  have h3 := item_dep (H := HL) (.leaf (nibT K) V)
  refine ⟨h3, Nat.le_trans h1 (by decide)⟩
theorem one_len {K V : List Nat} (hk : K.length ≤ 64) (h2 : V.length ≤ 500) (hK : ∀ x ∈ K, x < 256) : (oneB K V).length ≤ 901000 := item_enc (T := .leaf (nibT K) V) HL_len (one_WT hk h2 hK)
theorem one_lt256 {K V : List Nat} {w : World} {v : Value} (hk : K.length ≤ 64) (h2 : V.length ≤ 500) (h : RdA [] w v (oneB K V)) : ∀ x ∈ oneB K V, x < 256 := by
  obtain ⟨_, _, _, _, h, _⟩ := h
  exact h
end Go.Proofs.Ytfdihphhmhgejaa

/- TrieWrong: what its walk stands on. -/
namespace Go.Proofs.Ytfdihphhmhgejaa
open Go.RowKit Tr
set_option linter.unusedVariables false
set_option maxRecDepth 100000

/-- What Nodes answers, as far as an error goes. -/
theorem Nodes_weak (v : Value) (ps : List En) (w : World) (hv : PairsAt w v ps) (hn : ps.length ≤ 4611686018427387904) (hV : mayE ps = 0 → ∀ p ∈ ps, p.2.length ≤ 900000) :
    Calls Try.prog 13 #[v] w fun e w' => Tch [] w w' ∧ ∃ p n c, e = .returned (.tuple #[.slice p n c, .int .i64 (mayE ps : Nat)]) ∧ (mayE ps ≠ 0 → n = 0) := by
  refine (Nodes_any v ps w hv hn hV).mono fun e w' h => ?_
  obtain ⟨h1, h2⟩ := h
  refine ⟨h1, ?_⟩
  by_cases hc : mayE ps = 0 ∧ ps ≠ []
  · rw [if_pos hc] at h2
    obtain ⟨T, K, M, g, cap, cz, _, _, _, _, _, he, _⟩ := h2
    exact ⟨_, _, _, by rw [hc.1]; exact he, fun h => absurd hc.1 h⟩
  · rw [if_neg hc] at h2
    exact ⟨_, _, _, h2, fun _ => rfl⟩
theorem may_zero {ps : List En} (h1 : ps.length ≤ 100000) (h2 : ∀ p ∈ ps, p.1.length ≤ 64 ∧ p.2.length ≤ 1048576) (h3 : ∀ p ∈ ps, p.2 ≠ []) (h4 : Apart ps) : mayE ps = 0 := by
  have g1 : ¬ (100000 < ps.length ∨ ps.any longP = true) := fun h => by
    rcases h with h | h
    · omega
    · obtain ⟨p, hp, hl⟩ := List.any_eq_true.1 h
      obtain ⟨q1, q2⟩ := h2 p hp
      unfold longP at hl
      rw [decide_eq_false (by omega), decide_eq_false (by omega)] at hl
      cases hl
  have g2 : ¬ (Empty' ps = true ∨ ¬ Apart ps) := fun h => by
    rcases h with h | h
    · obtain ⟨p, hp, hl⟩ := List.any_eq_true.1 h
      exact h3 p hp (List.isEmpty_iff.1 hl)
    · exact h h4
  unfold mayE
  rw [if_neg g1, if_neg g2]
theorem may_long {ps : List En} {p : En} (hp : p ∈ ps) (h : 64 < p.1.length ∨ 1048576 < p.2.length) : mayE ps = 3 := by
  have g1 : 100000 < ps.length ∨ ps.any longP = true := .inr (List.any_eq_true.2 ⟨p, hp, by
    unfold longP
    rcases h with h | h
    · rw [decide_eq_true h, Bool.true_or]
    · rw [decide_eq_true h, Bool.or_true]⟩)
  unfold mayE
  rw [if_pos g1]
def zb (n : Nat) : List Nat := (List.range n).map fun _ => 0
theorem zb_len (n : Nat) : (zb n).length = n := by simp [zb]
theorem zb_ne (n : Nat) {x : Nat} (hx : x ≠ 0) : zb n ≠ [x] := fun h => by
  have hm : x ∈ zb n := by rw [h]; exact List.mem_singleton_self x
  unfold zb at hm
  obtain ⟨_, _, e⟩ := List.mem_map.1 hm
  exact hx e.symm
theorem st_makeB0 {ops : Array Oper} {rest : List Oper} {o : Oper} {a : Act} {bs : List Nat} {w0 w : World} {Q : Exit → Act → World → Prop} {L : List Ent} (n : Nat) (hS : St bs w0 w L) (hgd : o.guard = none) (x y : Operand) (ho : o.op = .makeSlice 22 x y) (hx : a.eval x = .int .i64 (n : Int)) (hy : a.eval y = .int .i64 (n : Int)) (hn : n ≤ 16777216)
    (h : ∀ w' b, St bs w0 w' L → RdB w' (.slice (some ⟨b, 0, none⟩) n n) (zb n) → Tch [] w w' → wpList Try.prog ops Q rest (a.put o.dst (.slice (some ⟨b, 0, none⟩) n n)) w') : wpList Try.prog ops Q (o :: rest) a w :=
  st_makeN n hgd x y ho hx hy hn (h _ _ (hS.alloc _) (RdB.blk (Blk.new _ _ _) (by simp)) ((Tch.refl _ _).alloc _))
theorem pairs_ty : Try.prog.underlying 39 = some (.slice 38) := by kernel_rfl
theorem pair_infos : (Try.prog.info? 38).map (fun i => (i.zero, i.size, i.bytes)) = some (some (.agg #[.slice none 0 0, .slice none 0 0]), 2, 48) := by kernel_rfl
theorem idxP (g n cap : Nat) {j : Nat} (h : j < n) (w : World) : (Instr.indexAt 39 (.slice (some ⟨g, 0, none⟩) n cap) (.int .i64 (j : Int))).run Try.prog w = .ok (.pointer (some ⟨g, j * 2, none⟩)) w := by
  have hadd : (⟨g, 0, none⟩ : Addr).add (j * 2) = ⟨g, j * 2, none⟩ := by unfold Addr.add; split <;> simp_all
  simp [Instr.indexAt, run_underlying pairs_ty, Instr.sureAddr, asIntOf, sizeOf_one pair_size, h, hadd]
theorem fa_p00 (b : Nat) (w : World) : (Instr.fieldAt 38 (.pointer (some ⟨b, 0, none⟩)) 0).run Try.prog w = .ok (.pointer (some ⟨b, 0, none⟩)) w := by kernel_rfl
theorem fa_p01 (b : Nat) (w : World) : (Instr.fieldAt 38 (.pointer (some ⟨b, 0, none⟩)) 1).run Try.prog w = .ok (.pointer (some ⟨b, 1, none⟩)) w := by kernel_rfl
theorem fa_p20 (b : Nat) (w : World) : (Instr.fieldAt 38 (.pointer (some ⟨b, 2, none⟩)) 0).run Try.prog w = .ok (.pointer (some ⟨b, 2, none⟩)) w := by kernel_rfl
theorem fa_p21 (b : Nat) (w : World) : (Instr.fieldAt 38 (.pointer (some ⟨b, 2, none⟩)) 1).run Try.prog w = .ok (.pointer (some ⟨b, 3, none⟩)) w := by kernel_rfl
theorem bytes_size1 : (Try.prog.info? 22).map (·.size) = some 1 := by kernel_rfl
theorem nob_slices {L : List (Option Addr × Nat × Nat)} : NoB (L.map fun x => Value.slice x.1 x.2.1 x.2.2).toArray := fun j x hx => by
  rw [List.getElem?_toArray, List.getElem?_map] at hx
  cases hq : L[j]? with
  | none => rw [hq] at hx; cases hx
  | some y => rw [hq] at hx; cases hx
theorem nob4 (p q r s : Option Addr) (a b c d e f g h : Nat) : NoB #[Value.slice p a b, .slice q c d, .slice r e f, .slice s g h] := nob_slices (L := [(p, a, b), (q, c, d), (r, e, f), (s, g, h)])
theorem build1Pw (p1 q1 : Option Addr) (a1 b1 c1 d1 : Nat) (w : World) :
    (Instr.buildSlice 39 1 #[(0, .agg #[.slice p1 a1 b1, .slice q1 c1 d1])]).run Try.prog w = .ok (.slice (some ⟨w.heap.size, 0, none⟩) 1 1) (w.alloc (.cells #[.slice p1 a1 b1, .slice q1 c1 d1] 38)) := by kernel_rfl
section
variable {ops : Array Oper} {rest : List Oper} {o : Oper} {a : Act} {w : World} {Q : Exit → Act → World → Prop}
/-- A third pair. -/
theorem st_appP {w0 : World} {bp : Nat} {c c2 : Array Value} (hgd : o.guard = none) (s x : Operand)
    (ho : o.op = .call { callee := .builtin .append, args := #[s, x], argTypes := #[39, 39] }) (hs : a.eval s = .slice (some ⟨bp, 0, none⟩) 2 2) (hx : a.eval x = .slice (some ⟨w.heap.size, 0, none⟩) 1 1)
    (hB : Blk w bp 38 c) (hc : c.size = 4) (hbp : w0.heap.size ≤ bp) (hw0 : w0.heap.size ≤ w.heap.size) (hsz : c2.size = 2) (hone : c2.all (·.oneCell') = true)
    (h : ∀ g cap cur w', Blk w' g 38 cur → w0.heap.size ≤ g → 6 ≤ cur.size → cur.toList.take 6 = c.toList ++ c2.toList → 3 ≤ cap → Tch [bp] w w' → (g = bp ∨ w.heap.size ≤ g) → wpList Try.prog ops Q rest (a.put o.dst (.slice (some ⟨g, 0, none⟩) 3 cap)) w') :
    wpList Try.prog ops Q (o :: rest) a (w.alloc (.cells c2 38)) := by
  obtain ⟨i0, hi, hz0, hz1, hz2⟩ := info_parts pair_infos
  have hown : w.ownsRow w0.heap.size 38 2 (.slice (some ⟨bp, 0, none⟩) 2 2) 2 c.toList := ⟨by rw [Array.length_toList, hc], .inr ⟨bp, 2, c, rfl, hbp, hB, Nat.le_refl _, by unfold maxLen; decide, hc, List.take_of_length_le (by rw [Array.length_toList, hc]; decide)⟩⟩
  have hnews : ∀ j u, c2.toList[j]? = some u → (w.alloc (.cells c2 38)).cell? ((⟨w.heap.size, 0, none⟩ : Addr).add j) = some u := World.news_of_block (cs := c2) (t := 38) (fr := (0, 0)) (heap_alloc_new w _)
  refine wpList_append_own_at (w := w.alloc (.cells c2 38)) hgd s x 39 ho w0.heap.size 38 i0 _ 2 48 pairs_ty hi hz0 hz1 hz2 rfl (by decide) _ 2 c.toList hs (hown.alloc _) ⟨w.heap.size, 0, none⟩ 1 1 c2.toList hx (by rw [Array.length_toList, hsz]) hnews (fun u hu => (Array.all_eq_true_iff_forall_mem.1 hone) u (by simpa using hu)) (by unfold maxLen; decide) (by decide) (by simp; omega) ?_
  intro v' w' hown' hgrow _ hv'
  obtain ⟨g, cap, cur, rfl, hg, hgB, hcap, _, hcs, htk⟩ := hown'.2.resolve_left (fun h => by cases h.2)
  refine h g cap cur w' hgB hg (by rw [hcs]; omega) htk hcap (((Tch.refl _ _).alloc _).trans ⟨hgrow.os, hgrow.tape, hgrow.output, hgrow.size, fun k hk hm' => hgrow.block k hk (fun e => hm' (by
    have : k = bp := by simpa [Value.ownBlock] using e
    rw [this]; exact List.mem_singleton_self bp))⟩) ?_
  rcases hv' with e | e
  · exact .inl (by simpa [Value.ownBlock] using e)
  · have e2 : g = (w.alloc (.cells c2 38)).heap.size := by simpa [Value.ownBlock] using e
    exact .inr (by rw [e2]; simp)
end
theorem pairs2 {W : World} {bp : Nat} {p1 q1 p2 q2 : Option Addr} {a1 b1 c1 d1 a2 b2 c2 d2 : Nat} {K1 V1 K2 V2 : List Nat} (hB : Blk W bp 38 #[.slice p1 a1 b1, .slice q1 c1 d1, .slice p2 a2 b2, .slice q2 c2 d2]) (h1 : RdB W (.slice p1 a1 b1) K1) (h2 : RdB W (.slice q1 c1 d1) V1) (h3 : RdB W (.slice p2 a2 b2) K2) (h4 : RdB W (.slice q2 c2 d2) V2) : PairsAt W (.slice (some ⟨bp, 0, none⟩) 2 2) [(K1, V1), (K2, V2)] :=
  ⟨_, _, rfl, Nat.le_refl _, fun _ => ⟨bp, 0, rfl, hB.lt, fun i hi => by
    match i, hi with
    | 0, _ => exact ⟨_, _, hB.cell (j := 0) rfl, hB.cell (j := 1) rfl, h1, h2⟩
    | 1, _ => exact ⟨_, _, hB.cell (j := 2) rfl, hB.cell (j := 3) rfl, h3, h4⟩⟩⟩
theorem pairs3 {W : World} {g cap : Nat} {cur : Array Value} {x1 y1 x2 y2 x3 y3 : Value} {K1 V1 K2 V2 K3 V3 : List Nat} (hB : Blk W g 38 cur) (hc : cur.toList.take 6 = [x1, y1, x2, y2, x3, y3]) (hcap : 3 ≤ cap) (h1 : RdB W x1 K1) (h2 : RdB W y1 V1) (h3 : RdB W x2 K2) (h4 : RdB W y2 V2) (h5 : RdB W x3 K3) (h6 : RdB W y3 V3) : PairsAt W (.slice (some ⟨g, 0, none⟩) 3 cap) [(K1, V1), (K2, V2), (K3, V3)] := by
  have hg : ∀ j, j < 6 → cur[j]? = [x1, y1, x2, y2, x3, y3][j]? := fun j hj => by rw [← hc, List.getElem?_take_of_lt hj, Array.getElem?_toList]
  refine ⟨_, _, rfl, hcap, fun _ => ⟨g, 0, rfl, hB.lt, fun i hi => ?_⟩⟩
  match i, hi with
  | 0, _ => exact ⟨_, _, hB.cell (j := 0) (hg 0 (by decide)), hB.cell (j := 1) (hg 1 (by decide)), h1, h2⟩
  | 1, _ => exact ⟨_, _, hB.cell (j := 2) (hg 2 (by decide)), hB.cell (j := 3) (hg 3 (by decide)), h3, h4⟩
  | 2, _ => exact ⟨_, _, hB.cell (j := 4) (hg 4 (by decide)), hB.cell (j := 5) (hg 5 (by decide)), h5, h6⟩
end Go.Proofs.Ytfdihphhmhgejaa
