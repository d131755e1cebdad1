/- build: an extension. -/
import Derived.Test.YtanmpcgackfpaaaGreatM01
import Derived.Test.YtanmpcgackfpaaaGreatM22
import Derived.Test.YtanmpcgackfpaaaGreatM24
set_option linter.unusedVariables false
set_option linter.unusedSimpArgs false
namespace Go.Proofs.YtanmpcgackfpaaaGreat
open Go.RowKit Tr
theorem lcp_cp : ∀ a b : List Nat, lcp a b = cp a b
  | [], [] => rfl
  | [], _ :: _ => rfl
  | _ :: _, [] => rfl
  | x :: a, y :: b => by
    show (if x = y then lcp a b + 1 else 0) = (if x = y then cp a b + 1 else 0)
    rw [lcp_cp a b]
theorem PairsAt.take {w : World} {p : Option Addr} {n c : Nat} {es : List En} (h : PairsAt w (.slice p n c) es) (k : Nat) (hk : k ≤ n) : PairsAt w (.slice p k c) (es.take k) := by
  obtain ⟨p', c', h1, h2, h3⟩ := h
  cases h1
  refine ⟨p, c, by rw [List.length_take, Nat.min_eq_left hk], by rw [List.length_take]; omega, fun hn => ?_⟩
  have hne : es ≠ [] := by intro e; subst e; simp at hn
  obtain ⟨b, o, h4, h5, h6⟩ := h3 hne
  refine ⟨b, o, h4, h5, fun i hi => ?_⟩
  obtain ⟨kv, vv, g0, g1, g2, g3⟩ := h6 i (by rw [List.length_take] at hi; omega)
  exact ⟨kv, vv, g0, g1, by simpa using g2, by simpa using g3⟩
theorem slice_fromE {w : World} {p : Option Addr} {n c : Nat} {es : List En} (h : PairsAt w (.slice p n c) es) (k : Nat) (hk : k ≤ n) (hn : n ≤ 4611686018427387904) : ∃ p' c', (∀ w, (Instr.sliceAt 103 (.slice p n c) (some (.int .i64 (k : Int))) none none).run Tryz.prog w = .ok (.slice p' (n - k) c') w) ∧ PairsAt w (.slice p' (n - k) c') (es.drop k) := by
  have hnc : n ≤ c ∧ n = es.length := by
    obtain ⟨p', c', h1, h2, _⟩ := h
    cases h1
    exact ⟨h2, rfl⟩
  refine ⟨if c = k then p else p.map (·.add (k * 2)), c - k, fun w => ?_, ?_⟩
  · have hel : Tryz.prog.elem 103 = 137 := by kernel_rfl
    have ht : Tryz.prog.underlying 103 = some (.slice (Tryz.prog.elem 103)) := by rw [hel]; exact entries_ty
    have e1 := run_sliceAt_slice (P := Tryz.prog) (w := w) 103 (.slice p n c) (some (.int .i64 (k : Int))) none none ht
    have e2 := run_slice_l (P := Tryz.prog) (w := w) 103 p n c ht .i64 (k : Int) (by omega) (by omega)
    rw [e1, e2, hel, ent_sizeOf]
    simp [Result.andThen, sliced]
  · obtain ⟨p', c', h1, h2, h3⟩ := h
    cases h1
    refine ⟨_, _, by rw [List.length_drop], by rw [List.length_drop]; omega, fun hl => ?_⟩
    have hlt : k < es.length := by
      rcases Nat.lt_or_ge k es.length with h | h
      · exact h
      · exact absurd (List.drop_eq_nil_of_le h) hl
    obtain ⟨b, o, rfl, h5, h6⟩ := h3 (by intro e; subst e; simp at hlt)
    refine ⟨b, o + k * 2, ?_, h5, fun i hi => ?_⟩
    · rw [if_neg (by omega)]
      simp only [Option.map_some, Addr.add]
      split
      · rename_i h0; rw [h0]; rfl
      · rfl
    · rw [List.length_drop] at hi
      obtain ⟨kv, vv, g0, g1, g2, g3⟩ := h6 (k + i) (by omega)
      refine ⟨kv, vv, ?_, ?_, ?_, ?_⟩
      · rw [show o + k * 2 + i * 2 = o + (k + i) * 2 by omega]; exact g0
      · rw [show o + k * 2 + i * 2 + 1 = o + (k + i) * 2 + 1 by omega]; exact g1
      · rw [List.getElem_drop]; exact g2
      · rw [List.getElem_drop]; exact g3
theorem slice_toE (p : Option Addr) (n c k : Nat) (hk : k ≤ n) (hc : n ≤ c) (hn : n ≤ 4611686018427387904) (w : World) : (Instr.sliceAt 103 (.slice p n c) none (some (.int .i64 (k : Int))) none).run Tryz.prog w = .ok (.slice p k c) w := by
  have hel : Tryz.prog.elem 103 = 137 := by kernel_rfl
  have ht : Tryz.prog.underlying 103 = some (.slice (Tryz.prog.elem 103)) := by rw [hel]; exact entries_ty
  have e1 := run_sliceAt_slice (P := Tryz.prog) (w := w) 103 (.slice p n c) none (some (.int .i64 (k : Int))) none ht
  have e2 := run_slice_h (P := Tryz.prog) (w := w) 103 p n c ht .i64 (k : Int) (by omega) (by omega)
  rw [e1, e2, hel, ent_sizeOf]
  cases p <;> simp [Result.andThen, sliced, Addr.add]
structure GoodE (D : Nat) (es : List En) : Prop where
  len : es.length ≤ 100000
  dep : ∀ e ∈ es, D ≤ e.1.length ∧ e.1.length ≤ 128 ∧ ∀ x ∈ e.1, x < 16
  srt : Sorted (rests D es)
theorem rests_rests (n D : Nat) (es : List En) : rests n (rests D es) = rests (D + n) es := by
  unfold rests
  rw [List.map_map]
  apply List.map_congr_left
  intro e _
  simp [List.drop_drop]
theorem TreeV.shape {B : Nat} {w : World} {T : TN} {v : Value} (h : TreeV B w T v) : v = .nilIface ∨ ∃ t a, v = .iface t (.pointer (some a)) := by
  cases T with
  | nil => exact .inl h
  | leaf p u => obtain ⟨b, _, _, h, _⟩ := h; exact .inr ⟨_, _, h⟩
  | ext p s => obtain ⟨b, _, _, h, _⟩ := h; exact .inr ⟨_, _, h⟩
  | branch s u => obtain ⟨b, _, _, h, _⟩ := h; exact .inr ⟨_, _, h⟩
theorem build_extN (p : Option Addr) (n c : Nat) (t : TypeId) (a : Addr) (w : World) : (Instr.build 147 #[(0, .slice p n c), (1, .iface t (.pointer (some a)))]).run Tryz.prog w = .ok (.agg #[.slice p n c, .iface t (.pointer (some a))]) w := by kernel_rfl
theorem build_extZ (p : Option Addr) (n c : Nat) (w : World) : (Instr.build 147 #[(0, .slice p n c), (1, .nilIface)]).run Tryz.prog w = .ok (.agg #[.slice p n c, .nilIface]) w := by kernel_rfl
theorem build_extV {B : Nat} {w0 : World} {T : TN} {v : Value} (h : TreeV B w0 T v) (p : Option Addr) (n c : Nat) (w : World) : (Instr.build 147 #[(0, .slice p n c), (1, v)]).run Tryz.prog w = .ok (.agg #[.slice p n c, v]) w := by
  rcases h.shape with rfl | ⟨t, a, rfl⟩
  · exact build_extZ p n c w
  · exact build_extN p n c t a w
section
variable {o : Oper} {a : Act} {ops : Array Oper} {rest : List Oper} {C : World → Prop} {Q : Act → Prop}
theorem k_fromS {v u n : Value} (hw : Region.wanted o (yielded ops a.tmps) = true) (x y : Operand) (t : TypeId) (ho : o.op = .slice t x (some y) none none) (hx : a.eval x = v) (hy : a.eval y = n) (hr : ∀ w, (Instr.sliceAt t v (some n) none none).run Tryz.prog w = .ok u w)
    (h : KQ ops C Q rest (a.put o.dst u)) : KQ ops C Q (o :: rest) a := qd6 hw (fun w => x_from x y t ho hx hy (hr w)) h
theorem k_lenE {p : Option Addr} {n c : Nat} (hw : Region.wanted o (yielded ops a.tmps) = true) (x : Operand) (ho : o.op = .call { callee := .builtin .len, args := #[x], argTypes := #[103] }) (hx : a.eval x = .slice p n c)
    (h : KQ ops C Q rest (a.put o.dst (.int .i64 (n : Int)))) : KQ ops C Q (o :: rest) a :=
  qd6 hw (fun w => by unfold execOp; simp [ho, resolve, invoke, builtin, hx, Builtin.len_, run_underlying entries_ty, goInt]) h
end
section
variable {a : Act} {w : World} {o : Oper}
theorem x_addD {m n : Nat} {x y : Operand} {ty yt : TypeId} (hm : m + n < 1000000000) (ho : o.op = .binOp .add 3 x y yt) (hx : a.eval x = .int .i64 (m : Int)) (hy : a.eval y = .int .i64 (n : Int)) : (execOp a.eval o).run Tryz.prog w = .ok (.value (.int .i64 ((m + n : Nat) : Int))) w := x_addN hm ho hx hy
end
def BuildOK (f : Nat) : Prop := ∀ (v : Value) (es : List En) (D : Nat) (w : World), PairsAt w v es → GoodE D es → D ≤ 128 → longest (rests D es) < f → Calls Tryz.prog 46 #[v, .int .i64 (D : Int)] w (BuildPost (buildT f (rests D es)) w)
set_option maxHeartbeats 4000000 in
set_option maxRecDepth 100000 in
theorem build_ext (f : Nat) (ih : BuildOK f) (v : Value) (es : List En) (D : Nat) (w : World) (hv : PairsAt w v es) (hg : GoodE D es) (h2 : 2 ≤ es.length) (e0 e1 : En) (he0 : e0 = es[0]'(by omega)) (he1 : e1 = es[es.length - 1]'(by omega))
    (hpos : 0 < cp (e0.1.drop D) (e1.1.drop D)) (hsh : Share (rests D es) (cp (e0.1.drop D) (e1.1.drop D))) (hlo : longest (rests D es) < f + 1) :
    Calls Tryz.prog 46 #[v, .int .i64 (D : Int)] w (BuildPost (.ext ((e0.1.drop D).take (cp (e0.1.drop D) (e1.1.drop D))) (buildT f (rests (cp (e0.1.drop D) (e1.1.drop D)) (rests D es)))) w) := by
  obtain ⟨p, c, rfl, hc, hcells⟩ := id hv
  obtain ⟨b, o, rfl, hbw, hcs⟩ := hcells (by intro e; subst e; simp at h2)
  obtain ⟨n, hnn⟩ : ∃ n, n = es.length := ⟨_, rfl⟩
  have hn2 : 2 ≤ n := by omega
  obtain ⟨kv, vv, g0, gx0, hkv, hvx0⟩ := hcs 0 (by omega)
  obtain ⟨kv1, vv1, g1, gx1, hkv1, hvx1⟩ := hcs (es.length - 1) (by omega)
  clear gx0 hvx0 gx1 hvx1
  rw [← he0] at hkv
  rw [← he1] at hkv1
  have hd0 := hg.dep e0 (by rw [he0]; exact List.getElem_mem _)
  have hd1 := hg.dep e1 (by rw [he1]; exact List.getElem_mem _)
  obtain ⟨p0, c0, hsl0, hfr0⟩ := from_rd hkv D hd0.1
  obtain ⟨p1, c1, hsl1, hfr1⟩ := from_rd hkv1 D hd1.1
  obtain ⟨q1, c2, rfl⟩ := hkv.shape'
  obtain ⟨q2, c3, rfl⟩ := hkv1.shape'
  rw [← hnn] at hc hv ⊢
  rw [← hnn] at g1
  have HC0 := hQz (fun (w' : World) (hT : Tch [] w w') => (hT.cell (p := ⟨b, o + 0 * 2, none⟩) hbw (by simp)).trans g0)
  have HC1 := hQz (fun (w' : World) (hT : Tch [] w w') => (hT.cell (p := ⟨b, o + (n - 1) * 2, none⟩) hbw (by simp)).trans g1)
  have HS0 := hQz hsl0
  have HS1 := hQz hsl1
  have HJ := hQz (And.intro (show 0 < n by omega) (show n - 1 < n by omega))
  have HW := hQz (show IntKind.i64.wrap ((n : Int) - 1) = ((n - 1 : Nat) : Int) by have := hg.len; rw [IntWalk.i64_in _ (by omega)]; omega)
  have HCM := hQz (fun (w' : World) (hT : Tch [] w w') => common_any _ _ (e0.1.drop D) (e1.1.drop D) w' (by rw [List.length_drop]; omega) (by rw [List.length_drop]; omega) (hfr0.tch hT (by simp)).rdA0 (hfr1.tch hT (by simp)).rdA0)
  obtain ⟨m, hm⟩ : ∃ m, m = cp (e0.1.drop D) (e1.1.drop D) := ⟨_, rfl⟩
  simp only [lcp_cp, ← hm] at HCM
  have hmle : m ≤ e0.1.length - D := by
    have := (le_cp (n := m) (a := e0.1.drop D) (b := e1.1.drop D)).1 (Nat.le_of_eq hm)
    rw [List.length_drop] at this
    exact this.1
  have d1 : ((n : Int) == 0) = false := beq_eq_false_iff_ne.2 (by omega)
  have d2 : ((n : Int) == 1) = false := beq_eq_false_iff_ne.2 (by omega)
  rw [← hm] at hpos hsh ⊢
  have hgm : GoodE (D + m) es := ⟨hg.len, fun e he => by
    have h1 := hg.dep e he
    have h3 := (hsh (e.1.drop D, e.2) (List.mem_map.2 ⟨e, he, rfl⟩)).1
    rw [List.length_drop] at h3
    exact ⟨by omega, h1.2⟩, by rw [← rests_rests]; exact hg.srt.rests hsh⟩
  have hlm : longest (rests (D + m) es) < f := by
    rw [← rests_rests]
    rcases qd7 hpos hsh hlo with h | h
    · exact h
    · have : es = [] := by simpa [rests] using h
      rw [this] at h2
      simp at h2
  have hD128 : D + m ≤ 128 := by have := hd0.2.1; have := hd0.1; omega
  have HIH := hQz (fun (w' : World) (hT : Tch [] w w') => ih (.slice (some ⟨b, o, none⟩) n c) es (D + m) w' (hv.tch hT) hgm hD128 hlm)
  rw [rests_rests]
  have HFR := hQz hfr0
  have hpi : (0 : Int) < (m : Int) := by omega
  have HM := hQz (And.intro hmle (And.intro hpos hD128))
  have hcc0 : e0.1.length - D ≤ c0 := by
    obtain ⟨_, _, h1, h3, _⟩ := hfr0
    rw [List.length_drop] at h1 h3
    cases h1
    exact h3
  have HTO := hQz (fun w' => slice_toP p0 (e0.1.length - D) c0 m hmle hcc0 w')
  have HNN := hQz hnn
  clear hcells hcs g0 g1 hkv hkv1 hfr0 hfr1 hsl0 hsl1 hm hmle hpos hsh hlo hlm hgm he0 he1 hd0 hd1 hg hv ih hcc0 hnn h2
  go_enter Tryz.func46, Tryz.ntmps46
  go_upto_region 6 with fail
  refine qb7 (C := fun w' => Tch [] w w') (by kernel_rfl) (by kernel_rfl) ((Tch.refl _ _).drew) ?_
  refine qb0 rfl _ rfl rfl ?_; try simp only [Act.put, ppA, ppB, ppC]
  refine k_idxE (j := 0) rfl _ _ rfl rfl (by rfl) HJ.out.1 ?_; try simp only [Act.put, ppA, ppB, ppC]
  refine k_fa rfl _ _ _ rfl rfl (fa_ent0 _ _) ?_; try simp only [Act.put, ppA, ppB, ppC]
  refine qc2 rfl _ _ rfl rfl (fun w' h => HC0.out w' h) qa9 ?_; try simp only [Act.put, ppA, ppB, ppC]
  refine qb8 rfl _ rfl rfl ?_; try simp only [Act.put, ppA, ppB, ppC]
  refine k_fromS rfl _ _ _ rfl rfl rfl HS0.out ?_; try simp only [Act.put, ppA, ppB, ppC]
  refine qb0 rfl _ rfl rfl ?_; try simp only [Act.put, ppA, ppB, ppC]
  refine qb0 rfl _ rfl rfl ?_; try simp only [Act.put, ppA, ppB, ppC]
  refine k_lenE rfl _ rfl rfl ?_; try simp only [Act.put, ppA, ppB, ppC]
  refine k_sub (s := ((n - 1 : Nat) : Int)) rfl _ _ _ _ rfl rfl rfl HW.out ?_; try simp only [Act.put, ppA, ppB, ppC]
  refine k_idxE (j := n - 1) rfl _ _ rfl rfl rfl HJ.out.2 ?_; try simp only [Act.put, ppA, ppB, ppC]
  refine k_fa rfl _ _ _ rfl rfl (fa_ent0 _ _) ?_; try simp only [Act.put, ppA, ppB, ppC]
  refine qc2 rfl _ _ rfl rfl (fun w' h => HC1.out w' h) qa9 ?_; try simp only [Act.put, ppA, ppB, ppC]
  refine qb8 rfl _ rfl rfl ?_; try simp only [Act.put, ppA, ppB, ppC]
  refine k_fromS rfl _ _ _ rfl rfl rfl HS1.out ?_; try simp only [Act.put, ppA, ppB, ppC]
  refine qh3 (v := .slice p0 (e0.1.length - D) c0) rfl _ (.inr rfl) rfl ?_; try simp only [Act.put, ppA, ppB, ppC]
  refine qh3 (v := .slice p1 (e1.1.length - D) c1) rfl _ (.inr rfl) rfl ?_; try simp only [Act.put, ppA, ppB, ppC]
  refine qc8 ?_
  intro w1 hT1
  go_upto_region 9 with (go_at_call 78; refine (HCM.out _ hT1).mono ?_; rintro e w2 ⟨rfl, hT2⟩; replace hT1 := hT1.trans hT2; clear hT2)
  refine wp_region_held_drew (S := fun w' => Tch [] w w') (by kernel_rfl) (hT1.drew) (fun hC => ?_)
  generalize World.drew w2 = u0 at hC ⊢
  refine qa0 (v := .slice p0 (e0.1.length - D) c0) 0 rfl (by kernel_rfl) (by kernel_rfl) (by kernel_rfl) (fun _ _ _ h => h) hC rfl (fun w' hw' => qb2 (.inl rfl) rfl) ?_
  try simp only [Act.put, ppA, ppB, ppC]
  refine qa0 (v := .int .i64 (m : Int)) 1 rfl (by kernel_rfl) (by kernel_rfl) (by kernel_rfl) (fun _ _ _ h => h) hC rfl (fun w' hw' => qb2 (.inl rfl) rfl) ?_
  try simp only [Act.put, ppA, ppB, ppC]
  refine qa0 (v := .slice p0 m c0) 2 rfl (by kernel_rfl) (by kernel_rfl) (by kernel_rfl) (fun _ _ _ h => h) hC rfl (fun w' hw' => x_to _ _ _ rfl rfl rfl (HTO.out w')) ?_
  try simp only [Act.put, ppA, ppB, ppC]
  refine qa0 (v := (.slice (some ⟨b, o, none⟩) n c)) 3 rfl (by kernel_rfl) (by kernel_rfl) (by kernel_rfl) (fun _ _ _ h => h) hC rfl (fun w' hw' => qb2 (.inl rfl) rfl) ?_
  try simp only [Act.put, ppA, ppB, ppC]
  refine qa0 (v := .int .i64 (D : Int)) 4 rfl (by kernel_rfl) (by kernel_rfl) (by kernel_rfl) (fun _ _ _ h => h) hC rfl (fun w' hw' => qb2 (.inl rfl) rfl) ?_
  try simp only [Act.put, ppA, ppB, ppC]
  refine qa0 (v := .int .i64 (m : Int)) 5 rfl (by kernel_rfl) (by kernel_rfl) (by kernel_rfl) (fun _ _ _ h => h) hC rfl (fun w' hw' => qb2 (.inl rfl) rfl) ?_
  try simp only [Act.put, ppA, ppB, ppC]
  refine qa0 (v := .int .i64 ((D + m : Nat) : Int)) 6 rfl (by kernel_rfl) (by kernel_rfl) (by kernel_rfl) (fun _ _ _ h => h) hC rfl (fun w' hw' => x_addN (by have := HM.out.2.2; omega) rfl rfl rfl) ?_
  try simp only [Act.put, ppA, ppB, ppC]
  refine qa6 7 (by kernel_rfl) ?_
  refine qh0 (v1 := (.slice (some ⟨b, o, none⟩) n c)) (v2 := .int .i64 ((D + m : Nat) : Int)) rfl rfl rfl (by rfl) (by rfl) Tryz.call46 (HIH.out u0 hC) ?_
  rintro e u1 ⟨hT3, u, rfl, hTV⟩
  have hC1 := hC.trans hT3
  refine ⟨_, rfl, hC1, ?_⟩
  try simp only [Act.put, ppA, ppB, ppC]
  refine qa0 (v := .agg #[.slice p0 m c0, u]) 8 rfl (by kernel_rfl) (by kernel_rfl) (by kernel_rfl) (fun _ _ _ h => h) hC1 rfl (fun w' hw' => x_build ⟨_, _, rfl, rfl, rfl⟩ (build_extV hTV _ _ _ w')) ?_
  try simp only [Act.put, ppA, ppB, ppC]
  refine qa6 9 (by kernel_rfl) ?_
  refine held_box rfl rfl rfl (by rfl) ?_
  have hTa : Tch [] u1 (u1.alloc (.cells #[.slice p0 m c0, u] 147)) := (Tch.refl _ _).alloc _
  have hB1 := Blk.new u1 147 #[.slice p0 m c0, u]
  have hC2 := hC1.trans hTa
  refine ⟨hC2, ?_⟩
  generalize u1.alloc (.cells #[.slice p0 m c0, u] 147) = u2 at hTa hB1 hC2 ⊢
  try simp only [Act.put, ppA, ppB, ppC]
  refine qa0 (v := .iface 145 (.pointer (some ⟨u1.heap.size, 0, none⟩))) 10 rfl (by kernel_rfl) (by kernel_rfl) (by kernel_rfl) (fun _ _ _ h => h) hC2 rfl (fun w' hw' => x_mkI _ _ rfl rfl (mkI_ext _ w')) ?_
  try simp only [Act.put, ppA, ppB, ppC]
  refine qa0 (v := .iface 145 (.pointer (some ⟨u1.heap.size, 0, none⟩))) 11 rfl (by kernel_rfl) (by kernel_rfl) (by kernel_rfl) (fun _ _ _ h => h) hC2 rfl (fun w' hw' => qb2 (.inr rfl) rfl) ?_
  try simp only [Act.put, ppA, ppB, ppC]
  refine wpAnyH_done (by kernel_rfl) ?_ _
  have hrd : RdB u2 (.slice p0 m c0) ((e0.1.drop D).take m) := (((HFR.out.tch hC2 (by simp)).rdA0).take HM.out.1).rdB
  have hfin : BuildPost (.ext ((e0.1.drop D).take m) (buildT f (rests (D + m) es))) w (.returned (.iface 145 (.pointer (some ⟨u1.heap.size, 0, none⟩)))) u2 := ⟨hC2, _, rfl, u1.heap.size, _, _, rfl, hC1.size, hB1, hrd, (hTV.tch hTa).low hC.size⟩
  clear HIH HTO HFR HCM HC0 HC1 HS0 HS1 HJ HW hC hC1 hC2 hTa hB1 hTV hT3 hT1
  go_wp2
  go_ret
  exact hfin
end Go.Proofs.YtanmpcgackfpaaaGreat
