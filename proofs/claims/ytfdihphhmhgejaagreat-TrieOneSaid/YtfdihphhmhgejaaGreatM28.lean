/- The program's trees in memory; build, of one entry. -/
import Derived.Test.YtfdihphhmhgejaaGreatM27
import Derived.Test.YtfdihphhmhgejaaGreatM19
set_option linter.unusedVariables false
set_option linter.unusedSimpArgs false
namespace Go.Proofs.YtfdihphhmhgejaaGreat
open Go.RowKit Tr

/-- Cells among which there is no byte. -/
def NoB (c : Array Value) : Prop := ∀ (j : Nat) (x : Int), c[j]? ≠ some (.int .u8 x)
theorem RdB.offL {w : World} {v : Value} {l : List Nat} {X : List Nat} (h : RdB w v l) (hX : ∀ x ∈ X, ∃ t c, Blk w x t c ∧ NoB c) : RdA X w v l := by
  obtain ⟨p, cc, h1, h2, h3, h4⟩ := h
  refine ⟨p, cc, h1, h2, h3, fun hl => ?_⟩
  obtain ⟨b', o, h5, h6, h7⟩ := h4 hl
  refine ⟨b', o, h5, h6, fun hm => ?_, h7⟩
  obtain ⟨t, c, hB, hc⟩ := hX b' hm
  have hx := h7 0 (List.length_pos_iff.2 hl)
  unfold Blk at hB
  rw [Lib.cell_of_heap hB] at hx
  exact hc _ _ hx
def brC (c : Nat → Value) (u : Value) : Array Value := ((List.range 16).map c ++ [u]).toArray
theorem brC_size (c : Nat → Value) (u : Value) : (brC c u).size = 17 := by simp [brC]
theorem brC_get (c : Nat → Value) (u : Value) {d : Nat} (h : d < 16) : (brC c u)[d]? = some (c d) := by
  unfold brC
  rw [List.getElem?_toArray, List.getElem?_append_left (by simpa using h), List.getElem?_map, List.getElem?_range h]; rfl
theorem brC_last (c : Nat → Value) (u : Value) : (brC c u)[16]? = some u := by
  unfold brC
  rw [List.getElem?_toArray, List.getElem?_append_right (by simp)]; simp
/-- A tree in memory, all its nodes from block B on. -/
def TreeV (B : Nat) (w : World) : TN → Value → Prop
  | .nil, v => v = .nilIface
  | .leaf p u, v => ∃ b pv uv, v = .iface 99 (.pointer (some ⟨b, 0, none⟩)) ∧ B ≤ b ∧ Blk w b 100 #[pv, uv] ∧ RdB w pv p ∧ RdB w uv u
  | .ext p s, v => ∃ b pv sv, v = .iface 101 (.pointer (some ⟨b, 0, none⟩)) ∧ B ≤ b ∧ Blk w b 103 #[pv, sv] ∧ RdB w pv p ∧ TreeV B w s sv
  | .branch s u, v => ∃ b c uv, v = .iface 113 (.pointer (some ⟨b, 0, none⟩)) ∧ B ≤ b ∧ Blk w b 117 (brC c uv) ∧ RdB w uv u ∧ ∀ d, d < 16 → TreeV B w (s d) (c d)
theorem TreeV.touch {B : Nat} {X : List Nat} {w w' : World} (hT : Tch X w w') (hX : ∀ x ∈ X, x < B ∧ ∃ t c, Blk w x t c ∧ NoB c) : ∀ {T : TN} {v : Value}, TreeV B w T v → TreeV B w' T v
  | .nil, _, h => h
  | .leaf p u, v, h => by
    obtain ⟨b, pv, uv, h1, h2, h3, h4, h5⟩ := h
    exact ⟨b, pv, uv, h1, h2, hT.blk h3 (fun hm => by have := (hX b hm).1; omega), ((h4.offL fun x hx => (hX x hx).2).tch hT).rdB, ((h5.offL fun x hx => (hX x hx).2).tch hT).rdB⟩
  | .ext p s, v, h => by
    obtain ⟨b, pv, sv, h1, h2, h3, h4, h5⟩ := h
    exact ⟨b, pv, sv, h1, h2, hT.blk h3 (fun hm => by have := (hX b hm).1; omega), ((h4.offL fun x hx => (hX x hx).2).tch hT).rdB, TreeV.touch hT hX h5⟩
  | .branch s u, v, h => by
    obtain ⟨b, c, uv, h1, h2, h3, h4, h5⟩ := h
    exact ⟨b, c, uv, h1, h2, hT.blk h3 (fun hm => by have := (hX b hm).1; omega), ((h4.offL fun x hx => (hX x hx).2).tch hT).rdB, fun d hd => TreeV.touch hT hX (h5 d hd)⟩
theorem TreeV.tch {B : Nat} {w w' : World} {T : TN} {v : Value} (h : TreeV B w T v) (hT : Tch [] w w') : TreeV B w' T v := h.touch hT (by simp)
theorem TreeV.low {B B' : Nat} {w : World} (hB : B' ≤ B) : ∀ {T : TN} {v : Value}, TreeV B w T v → TreeV B' w T v
  | .nil, _, h => h
  | .leaf p u, v, h => by
    obtain ⟨b, pv, uv, h1, h2, h3⟩ := h
    exact ⟨b, pv, uv, h1, Nat.le_trans hB h2, h3⟩
  | .ext p s, v, h => by
    obtain ⟨b, pv, sv, h1, h2, h3, h4, h5⟩ := h
    exact ⟨b, pv, sv, h1, Nat.le_trans hB h2, h3, h4, TreeV.low hB h5⟩
  | .branch s u, v, h => by
    obtain ⟨b, c, uv, h1, h2, h3, h4, h5⟩ := h
    exact ⟨b, c, uv, h1, Nat.le_trans hB h2, h3, h4, fun d hd => TreeV.low hB (h5 d hd)⟩
/-- What build answers. -/
def BuildPost (T : TN) (w : World) (e : Ending) (w' : World) : Prop := Tch [] w w' ∧ ∃ u, e = .returned u ∧ TreeV w.heap.size w' T u
theorem from_rd {w : World} {v : Value} {l : List Nat} (h : RdB w v l) (k : Nat) (hk : k ≤ l.length) : ∃ p' c', (∀ w, (Instr.sliceAt 22 v (some (.int .i64 (k : Int))) none none).run Tryz.prog w = .ok (.slice p' (l.length - k) c') w) ∧ RdB w (.slice p' (l.length - k) c') (l.drop k) := by
  obtain ⟨p, c, hv⟩ := h.shape'
  have hc : l.length ≤ c := by
    obtain ⟨p', c', h1, h2, _⟩ := h
    rw [hv] at h1
    cases h1
    exact h2
  subst hv
  obtain ⟨p', c', h1, _, h3⟩ := slice_from p l.length c k hk hc
  exact ⟨p', c', h1, (h3 [] w l h.rdA0).rdB⟩
section
variable {a : Act} {w : World} {o : Oper} {Q : Exit → Act → World → Prop}
theorem held_box {l0 : List Oper} {n : Nat} {K : Act → World → Prop} {ty : TypeId} {c : Array Value} {x : Operand} (ho : l0[n]? = some o) (hw : Region.wanted o (yielded l0.toArray a.tmps) = true) (hop : o.op = .box ty x) (hx : a.eval x = .agg c)
    (h : K (a.put o.dst (.pointer (some ⟨w.heap.size, 0, none⟩))) (w.alloc (.cells c ty))) : wpOp Tryz.prog l0.toArray Q n K a w := by
  have ho' : l0.toArray[n]? = some o := by rw [List.getElem?_toArray]; exact ho
  have hr : (Instr.box ty (.agg c)).run Tryz.prog w = .ok (.pointer (some ⟨w.heap.size, 0, none⟩)) (w.alloc (.cells c ty)) := rfl
  unfold wpOp
  simp only [ho', hw, if_true]
  refine .inl ?_
  unfold Oper.wp execOp
  simp only [hop, hx, Sem.run_bind, hr, Result.andThen_ok, Sem.run_pure]
  exact h
theorem x_mkI {v u : Value} (ty : TypeId) (x : Operand) (ho : o.op = .makeInterface ty x) (hx : a.eval x = v) (hr : (Instr.makeInterface ty v).run Tryz.prog w = .ok u w) : (execOp a.eval o).run Tryz.prog w = .ok (.value u) w := by
  unfold execOp; simp only [ho, hx, Sem.run_bind, hr, Result.andThen_ok, Sem.run_pure]
theorem x_build {ty : TypeId} {v1 v2 u : Value} {i1 i2 : Nat} (ho : ∃ x1 x2, o.op = .build ty #[(i1, x1), (i2, x2)] ∧ a.eval x1 = v1 ∧ a.eval x2 = v2) (hr : (Instr.build ty #[(i1, v1), (i2, v2)]).run Tryz.prog w = .ok u w) : (execOp a.eval o).run Tryz.prog w = .ok (.value u) w := by
  obtain ⟨x1, x2, ho, h1, h2⟩ := ho
  unfold execOp
  simp only [ho, List.map_toArray, List.map_cons, List.map_nil, h1, h2, Sem.run_bind, hr, Result.andThen_ok, Sem.run_pure]
end
theorem mkI_leaf (b : Nat) (w : World) : (Instr.makeInterface 99 (.pointer (some ⟨b, 0, none⟩))).run Tryz.prog w = .ok (.iface 99 (.pointer (some ⟨b, 0, none⟩))) w := by kernel_rfl
theorem mkI_ext (b : Nat) (w : World) : (Instr.makeInterface 101 (.pointer (some ⟨b, 0, none⟩))).run Tryz.prog w = .ok (.iface 101 (.pointer (some ⟨b, 0, none⟩))) w := by kernel_rfl
theorem build_leafN (p q : Option Addr) (n c m d : Nat) (w : World) : (Instr.build 100 #[(0, .slice p n c), (1, .slice q m d)]).run Tryz.prog w = .ok (.agg #[.slice p n c, .slice q m d]) w := by kernel_rfl
set_option maxHeartbeats 2000000 in
set_option maxRecDepth 100000 in
theorem build_one (v : Value) (e : En) (D : Nat) (w : World) (hv : PairsAt w v [e]) (hD : D ≤ e.1.length) (hD2 : D ≤ 128) :
    Calls Tryz.prog 35 #[v, .int .i64 (D : Int)] w (BuildPost (.leaf (e.1.drop D) e.2) w) := by
  obtain ⟨p, c, rfl, hc, hcells⟩ := hv
  obtain ⟨b, o, rfl, hbw, hcs⟩ := hcells (by simp)
  obtain ⟨kv, vv, g0, g1, hkv, hvv⟩ := hcs 0 (by simp)
  simp only [List.getElem_cons_zero] at hkv hvv
  obtain ⟨p', c', hsl, hfr⟩ := from_rd hkv D hD
  obtain ⟨q1, c1, rfl⟩ := hkv.shape'
  obtain ⟨q2, c2, rfl⟩ := hvv.shape'
  simp only [List.length_singleton]
  have HC0 := Lib.hid (fun (w' : World) (hT : Tch [] w w') => (hT.cell (p := ⟨b, o + 0 * 2, none⟩) hbw (by simp)).trans g0)
  have HC1 := Lib.hid (fun (w' : World) (hT : Tch [] w w') => (hT.cell (p := ⟨b, o + 0 * 2 + 1, none⟩) hbw (by simp)).trans g1)
  have HR := Lib.hid (And.intro hfr hvv)
  have HS := Lib.hid hsl
  clear hcells hcs g0 g1 hkv hvv hfr hsl
  go_enter Tryz.func35, Tryz.ntmps35
  go_upto_region 5 with fail
  refine wp_region_held_drew (S := fun w' => Tch [] w w') (by kernel_rfl) ((Tch.refl _ _).drew) (fun hC => ?_)
  generalize World.drew w = u0 at hC ⊢
  refine held_in (v := (.slice (some ⟨b, o, none⟩) 1 c)) 0 rfl (by kernel_rfl) (by kernel_rfl) (by kernel_rfl) (fun _ _ _ h => h) hC rfl (fun w' hw' => x_val (.inl rfl) rfl) ?_
  try simp only [Act.put, List.setIfInBounds_toArray, List.set_cons_zero, List.set_cons_succ]
  refine held_in (v := .pointer (some ⟨b, o + 0 * 2, none⟩)) 1 rfl (by kernel_rfl) (by kernel_rfl) (by kernel_rfl) (fun _ _ _ h => h) hC rfl (fun w' hw' => x_idxE (j := 0) _ _ rfl rfl (by rfl) (by decide)) ?_
  try simp only [Act.put, List.setIfInBounds_toArray, List.set_cons_zero, List.set_cons_succ]
  refine held_in (v := .pointer (some ⟨b, o + 0 * 2, none⟩)) 2 rfl (by kernel_rfl) (by kernel_rfl) (by kernel_rfl) (fun _ _ _ h => h) hC rfl (fun w' hw' => x_fa _ _ _ rfl rfl (fa_ent0 _ _ _)) ?_
  try simp only [Act.put, List.setIfInBounds_toArray, List.set_cons_zero, List.set_cons_succ]
  refine held_in (v := .slice q1 e.1.length c1) 3 rfl (by kernel_rfl) (by kernel_rfl) (by kernel_rfl) (fun _ _ _ h => h) hC rfl (fun w' hw' => x_cell _ _ rfl rfl (HC0.out w' hw') bytes_agg) ?_
  try simp only [Act.put, List.setIfInBounds_toArray, List.set_cons_zero, List.set_cons_succ]
  refine held_in (v := .int .i64 (D : Int)) 4 rfl (by kernel_rfl) (by kernel_rfl) (by kernel_rfl) (fun _ _ _ h => h) hC rfl (fun w' hw' => x_val (.inl rfl) rfl) ?_
  try simp only [Act.put, List.setIfInBounds_toArray, List.set_cons_zero, List.set_cons_succ]
  refine held_in (v := .slice p' (e.1.length - D) c') 5 rfl (by kernel_rfl) (by kernel_rfl) (by kernel_rfl) (fun _ _ _ h => h) hC rfl (fun w' hw' => x_from _ _ _ rfl rfl rfl (HS.out w')) ?_
  try simp only [Act.put, List.setIfInBounds_toArray, List.set_cons_zero, List.set_cons_succ]
  refine held_in (v := (.slice (some ⟨b, o, none⟩) 1 c)) 6 rfl (by kernel_rfl) (by kernel_rfl) (by kernel_rfl) (fun _ _ _ h => h) hC rfl (fun w' hw' => x_val (.inl rfl) rfl) ?_
  try simp only [Act.put, List.setIfInBounds_toArray, List.set_cons_zero, List.set_cons_succ]
  refine held_in (v := .pointer (some ⟨b, o + 0 * 2, none⟩)) 7 rfl (by kernel_rfl) (by kernel_rfl) (by kernel_rfl) (fun _ _ _ h => h) hC rfl (fun w' hw' => x_idxE (j := 0) _ _ rfl rfl (by rfl) (by decide)) ?_
  try simp only [Act.put, List.setIfInBounds_toArray, List.set_cons_zero, List.set_cons_succ]
  refine held_in (v := .pointer (some ⟨b, o + 0 * 2 + 1, none⟩)) 8 rfl (by kernel_rfl) (by kernel_rfl) (by kernel_rfl) (fun _ _ _ h => h) hC rfl (fun w' hw' => x_fa _ _ _ rfl rfl (fa_ent1 _ _ _)) ?_
  try simp only [Act.put, List.setIfInBounds_toArray, List.set_cons_zero, List.set_cons_succ]
  refine held_in (v := .slice q2 e.2.length c2) 9 rfl (by kernel_rfl) (by kernel_rfl) (by kernel_rfl) (fun _ _ _ h => h) hC rfl (fun w' hw' => x_cell _ _ rfl rfl (HC1.out w' hw') bytes_agg) ?_
  try simp only [Act.put, List.setIfInBounds_toArray, List.set_cons_zero, List.set_cons_succ]
  refine held_in (v := .agg #[.slice p' (e.1.length - D) c', .slice q2 e.2.length c2]) 10 rfl (by kernel_rfl) (by kernel_rfl) (by kernel_rfl) (fun _ _ _ h => h) hC rfl (fun w' hw' => x_build ⟨_, _, rfl, rfl, rfl⟩ (build_leafN _ _ _ _ _ _ w')) ?_
  try simp only [Act.put, List.setIfInBounds_toArray, List.set_cons_zero, List.set_cons_succ]
  refine held_one 11 (by kernel_rfl) ?_
  refine held_box rfl rfl rfl (by rfl) ?_
  have hC1 : Tch [] w (u0.alloc (.cells #[.slice p' (e.1.length - D) c', .slice q2 e.2.length c2] 100)) := hC.alloc _
  have hB1 := Blk.new u0 100 #[.slice p' (e.1.length - D) c', .slice q2 e.2.length c2]
  refine ⟨hC1, ?_⟩
  generalize u0.alloc (.cells #[.slice p' (e.1.length - D) c', .slice q2 e.2.length c2] 100) = u1 at hC1 hB1 ⊢
  try simp only [Act.put, List.setIfInBounds_toArray, List.set_cons_zero, List.set_cons_succ]
  refine held_in (v := .iface 99 (.pointer (some ⟨u0.heap.size, 0, none⟩))) 12 rfl (by kernel_rfl) (by kernel_rfl) (by kernel_rfl) (fun _ _ _ h => h) hC1 rfl (fun w' hw' => x_mkI _ _ rfl rfl (mkI_leaf _ w')) ?_
  try simp only [Act.put, List.setIfInBounds_toArray, List.set_cons_zero, List.set_cons_succ]
  refine held_in (v := .iface 99 (.pointer (some ⟨u0.heap.size, 0, none⟩))) 13 rfl (by kernel_rfl) (by kernel_rfl) (by kernel_rfl) (fun _ _ _ h => h) hC1 rfl (fun w' hw' => x_val (.inr rfl) rfl) ?_
  try simp only [Act.put, List.setIfInBounds_toArray, List.set_cons_zero, List.set_cons_succ]
  refine wpAnyH_done (by kernel_rfl) ?_ _
  have hfin : BuildPost (.leaf (e.1.drop D) e.2) w (.returned (.iface 99 (.pointer (some ⟨u0.heap.size, 0, none⟩)))) u1 := ⟨hC1, _, rfl, u0.heap.size, _, _, rfl, hC.size, hB1, HR.out.1.tch hC1 (by simp), HR.out.2.tch hC1 (by simp)⟩
  clear HR HS HC0 HC1 hC hC1 hB1
  go_wp2
  go_ret
  exact hfin
end Go.Proofs.YtfdihphhmhgejaaGreat

/- The document's Join, PackPath. -/
namespace Go.Proofs.YtfdihphhmhgejaaGreat
open Go.RowKit

theorem jn_one {l : List Nat} {k : Nat} (h : 2 * k + 1 < l.length) : nb (jn (l.take (2 * (k + 1)))) = nb (jn (l.take (2 * k))) ++ [.int .u8 ((16 * l.getD (2 * k) 0 + l.getD (2 * k + 1) 0 : Nat) : Int)] := by
  rw [jn_step h, nb_snoc]
theorem shl_wrap (x : Nat) (hx : x < 16) : IntKind.u8.wrap ((x : Int) * 16) = (x : Int) * 16 := by
  have all : ∀ a : Fin 16, IntKind.u8.wrap ((a.val : Int) * 16) = (a.val : Int) * 16 := by decide +kernel
  exact all ⟨x, hx⟩
theorem joinL_no {l : List Nat} {j : Nat} (h : j < l.length) (hx : 15 < l.getD j 0) : joinL l = none := by
  have := allN_bad (m := l.length) h h hx
  rw [List.take_length] at this
  unfold joinL; rw [if_neg (fun h => by rw [this] at h; exact absurd h.2 (by decide))]
set_option maxHeartbeats 4000000 in
set_option maxRecDepth 100000 in
theorem refJoin_any (v : Value) (l : List Nat) (w : World) (hm : l.length ≤ 1000000) (hv : RdA [] w v l) :
    Calls Tryz.prog 16 #[v] w (OptPost w (joinL l)) := by
  obtain ⟨i0, hi, hz0, hz1, hz2⟩ := info_parts A_info
  obtain ⟨_, n, c', rfl⟩ := slice_keep hv
  have hlen := hv.len
  obtain ⟨_, _, hq, hcap, hb, hc⟩ := id hv
  cases hq
  have HC := Lib.hid hc
  have HB := Lib.hid hb
  clear hc hb hv hlen
  rcases Nat.mod_two_eq_zero_or_one l.length with hp | hp
  · have hpar : ((l.length : Int) % 2 != 0) = false := by rw [bne_eq_false_iff_eq]; omega
    obtain ⟨N, hN⟩ : ∃ N, l.length ≤ 2 * N ∧ 2 * N ≤ l.length := ⟨l.length / 2, by omega, by omega⟩
    go_enter Tryz.func16, Tryz.ntmps16
    go_wp2
    go_loopw [4, 5] (fun u i wr => ∃ k : Nat, k ≤ N ∧ i = .int .i64 ((2 * k : Nat) : Int) ∧ wr.ownsRow w.heap.size 5 1 u k (nb (jn (l.take (2 * k)))) ∧ Tch [] w wr ∧ Hid (allN (l.take (2 * k)) = true)) (fun _ i _ => l.length - (intOf i).toNat)
    case atStart => exact ⟨0, Nat.zero_le _, rfl, ⟨rfl, .inl ⟨rfl, rfl⟩⟩, Tch.refl _ _, Lib.hid rfl⟩
    case round =>
      obtain ⟨k, hk, rfl, hown, hT, HA⟩ := hrel
      by_cases hlt : k < N
      · have hne : l ≠ [] := by intro e; subst e; simp at hN; omega
        obtain ⟨b, o, rfl, hbw, hbX, hc⟩ := HC.out hne
        have h0 : 2 * k < l.length := by omega
        have h1 : 2 * k + 1 < l.length := by omega
        have hx := HB.out (l.getD (2 * k) 0) (by rw [List.getD_eq_getElem?_getD, List.getElem?_eq_getElem h0]; exact List.getElem_mem h0)
        have hy := HB.out (l.getD (2 * k + 1) 0) (by rw [List.getD_eq_getElem?_getD, List.getElem?_eq_getElem h1]; exact List.getElem_mem h1)
        have hck := (hT.cell (p := ⟨b, o + 2 * k, none⟩) hbw hbX).trans (hc _ h0)
        have hck1 := (hT.cell (p := ⟨b, o + (2 * k + 1), none⟩) hbw hbX).trans (hc _ h1)
        have hst := jn_one h1
        have hal := fun a b => allN_step h1 HA.out a b
        have hb0 := fun h => joinL_no (l := l) (j := 2 * k) h0 h
        have hb1 := fun h => joinL_no (l := l) (j := 2 * k + 1) h1 h
        obtain ⟨x, hxx⟩ : ∃ x, x = l.getD (2 * k) 0 := ⟨_, rfl⟩
        obtain ⟨y, hyy⟩ : ∃ y, y = l.getD (2 * k + 1) 0 := ⟨_, rfl⟩
        rw [← hxx] at hck hx hst hal hb0
        rw [← hyy] at hck1 hy hst hal hb1
        have HST := Lib.hid hst
        have HAL := Lib.hid hal
        have HB0 := Lib.hid hb0
        have HB1 := Lib.hid hb1
        have HE := Lib.hid (And.intro hxx hyy)
        clear hc hxx hyy hst hal hb0 hb1
        have q1 : (0 : Int) ≤ 2 * (k : Int) := by omega
        have q2 : 2 * (k : Int) < (l.length : Int) := by omega
        have q3 : (2 * (k : Int)).toNat = 2 * k := by omega
        have q4 : (0 : Int) ≤ 2 * (k : Int) + 1 := by omega
        have q5 : 2 * (k : Int) + 1 < (l.length : Int) := by omega
        have q6 : (2 * (k : Int) + 1).toNat = 2 * k + 1 := by omega
        have q7 : IntKind.i64.wrap (2 * (k : Int) + 1) = 2 * (k : Int) + 1 := by rw [IntKind.wrap_i64]; omega
        by_cases hx15 : 15 < x
        · have hd : (15 : Int) < (x : Int) := by omega
          go_wp2
          go_ret2
          exact optpost_no (HB0.out hx15) hT
        · have hd : ¬ (15 : Int) < (x : Int) := by omega
          by_cases hy15 : 15 < y
          · have hd1 : (15 : Int) < (y : Int) := by omega
            go_wp2
            go_ret2
            exact optpost_no (HB1.out hy15) hT
          · have hd1 : ¬ (15 : Int) < (y : Int) := by omega
            have hsw := shl_wrap x (by omega)
            have hso := shl_or x y (by omega) (by omega)
            have hxy : 16 * x + y < 256 := by omega
            have hne : u4.ownBlock ≠ some b := fun e => by have := (hown.lt b e).1; omega
            have hpr := hT.size
            have hbr : b < wr.heap.size := by omega
            go_wp2
            go_region_held3 (fun w' => w'.cell? ⟨b, o + 2 * k, none⟩ = some (.int .u8 (x : Int)) ∧ w'.cell? ⟨b, o + (2 * k + 1), none⟩ = some (.int .u8 (y : Int)))
              (first
                | go_keep
                | (go_split_ands
                   refine ⟨?_, ?_⟩ <;> (rw [hgrow.cell_far _ (by simp; omega) (Ne.symm hne)]; assumption)))
              ((refine step_append_lies _ (by rfl) _ _ _ (by rfl) w.heap.size 5 i0 _ 1 1 bytes_ty hi hz0 hz1 hz2 rfl (by omega) u4 _ _ (by rfl) ((hown.alloc _).drew) ⟨wr.heap.size, 0, none⟩ 1 1 [.int .u8 (16 * (x : Int) + (y : Int))] (by rfl) (by rfl) (World.news_of_block (cs := #[.int .u8 (16 * (x : Int) + (y : Int))]) (t := 5) (fr := (0, 0)) (heap_alloc_new wr (.cells #[.int .u8 (16 * (x : Int) + (y : Int))] 5))) (by simp [Value.oneCell']) (by omega) (by unfold maxLen; omega) (by omega) (by simp; omega) (wr.heap.size + 1) (by simp) ?_; intro gg cap w1 hown1 hgrow hat hlt1))
            all_goals
              have hown2 : w1.ownsRow w.heap.size 5 1 (.slice (some ⟨gg, 0, none⟩) (k + 1) cap) (k + 1) (nb (jn (l.take (2 * (k + 1))))) := by
                rw [HST.out]; exact hown1
              have hb2 : Tch [] w w1 := Tch.of_below (((hT.below.alloc hT.size _).drew).grown hgrow (by simp; omega) (fun g hg => (hown.lt g hg).1))
              clear hown1 hgrow hat hlt1 hck hown hT
              go_wp2
              go_roundw
              case rel => exact ⟨k + 1, hlt, by go_num, hown2, hb2, Lib.hid (HAL.out (by omega) (by omega))⟩
              case measure => simp [intOf]; omega
      · obtain rfl : k = N := by omega
        have htk : l.take (2 * k) = l := List.take_of_length_le (by omega)
        have HR := Lib.hid (And.intro (show joinL l = some (jn l) by unfold joinL; rw [if_pos ⟨hp, by have := HA.out; rwa [htk] at this⟩]) (And.intro (jn_lt l (by have := HA.out; rwa [htk] at this)) (show (jn l).length = k by rw [jn_length]; omega)))
        rw [htk] at hown
        clear htk
        go_wp2
        go_ret2
        exact optpost_yes HR.out.1 hT ((RdB.own (l := jn l) (by rw [← HR.out.2.2] at hown; exact hown) HR.out.2.1).rdA (by simp))
  · have hpar : ((l.length : Int) % 2 != 0) = true := by rw [bne_iff_ne]; omega
    have HJ := Lib.hid (show joinL l = none by unfold joinL; rw [if_neg (fun h => by omega)])
    go_enter Tryz.func16, Tryz.ntmps16
    go_wp2
    go_ret2
    exact optpost_no HJ.out (Tch.refl _ _)
end Go.Proofs.YtfdihphhmhgejaaGreat

/- The document's PackPath. -/
namespace Go.Proofs.YtfdihphhmhgejaaGreat
open Go.RowKit

/-- What stands in front of a packed path. -/
def fr (l : List Nat) (leaf : Bool) : List Nat := if l.length % 2 = 1 then [bif leaf then 3 else 1] else [bif leaf then 2 else 0, 0]
/-- The bytes that a path of a kind is packed as, or none. -/
def packL (l : List Nat) (leaf : Bool) : Option (List Nat) := joinL (fr l leaf ++ l)
theorem fr_odd {l : List Nat} (leaf : Bool) (h : l.length % 2 = 1) : fr l leaf = [bif leaf then 3 else 1] := by unfold fr; rw [if_pos h]
theorem fr_even {l : List Nat} (leaf : Bool) (h : l.length % 2 = 0) : fr l leaf = [bif leaf then 2 else 0, 0] := by unfold fr; rw [if_neg (by omega)]
theorem fr_lt (l : List Nat) (leaf : Bool) : ∀ x ∈ fr l leaf, x < 4 := by
  unfold fr; intro x hx
  cases leaf <;> (split at hx <;> simp at hx <;> omega)
theorem optpost_ret {w w1 w2 : World} {r : Option (List Nat)} {e : Ending} (hT : Tch [] w w1) (h : OptPost w1 r e w2) : OptPost w r e w2 := ⟨hT.trans h.1, h.2⟩
set_option maxHeartbeats 4000000 in
set_option maxRecDepth 100000 in
theorem refPack_even (v : Value) (l : List Nat) (leaf : Bool) (w : World) (hm : l.length ≤ 100000) (hv : RdA [] w v l) (hp : l.length % 2 = 0) :
    Calls Tryz.prog 5 #[v, .bool leaf] w (OptPost w (packL l leaf)) := by
  obtain ⟨_, n, c', rfl⟩ := slice_keep hv
  have hlen := hv.len
  have HV := Lib.hid hv
  have hpar : ((n : Int) % 2 == 1) = false := by rw [beq_eq_false_iff_ne]; omega
  have HF := Lib.hid (fr_even leaf hp)
  have hjoin := fun (u : Value) (w1 : World) (hu : RdA [] w1 u (fr l leaf ++ l)) => refJoin_any u (fr l leaf ++ l) w1 (by rw [List.length_append, fr_even leaf hp]; simp; omega) hu
  have HJ := Lib.hid hjoin
  have HLT := Lib.hid (show ∀ x ∈ fr l leaf ++ l, x < 256 from fun x hx => (List.mem_append.1 hx).elim (fun h => Nat.lt_of_lt_of_le (fr_lt l leaf x h) (by decide)) (hv.lt x))
  have HL := Lib.hid (And.intro hlen hm)
  clear hv hjoin hp hlen
  cases leaf with
  | true =>
    go_enter Tryz.func5, Tryz.ntmps5
    go_wp2_with (first
      | (at_builtin; go_must (refine st_appB (w0 := w) (l := [2, 0]) (m := l) (ty := 5) rfl _ _ rfl rfl rfl (own_lit [2, 0] (Nat.le_refl _) (by simp) _ rfl) ((Tch.refl [] w).alloc _) ((HV.out.tch ((Tch.refl [] w).alloc _)).rdB) (by have := HL.out; simp; omega) ?_; intro v' w3 hown' hT'))
      | (go_at_call 16; go_must (have hu := HJ.out _ _ ((RdB.own (l := fr l true ++ l) (by rw [HF.out]; exact hown') HLT.out).rdA (by simp)); (with_reducible refine hu.mono ?_); rintro e w4 ⟨hT4, v4, rfl, hv4⟩)))
    go_ret2
    exact ⟨hT'.trans hT4, _, rfl, hv4⟩
  | false =>
    go_enter Tryz.func5, Tryz.ntmps5
    go_wp2_with (first
      | (at_builtin; go_must (refine st_appB (w0 := w) (l := [0, 0]) (m := l) (ty := 5) rfl _ _ rfl rfl rfl (own_lit [0, 0] (Nat.le_refl _) (by simp) _ rfl) ((Tch.refl [] w).alloc _) ((HV.out.tch ((Tch.refl [] w).alloc _)).rdB) (by have := HL.out; simp; omega) ?_; intro v' w3 hown' hT'))
      | (go_at_call 16; go_must (have hu := HJ.out _ _ ((RdB.own (l := fr l false ++ l) (by rw [HF.out]; exact hown') HLT.out).rdA (by simp)); (with_reducible refine hu.mono ?_); rintro e w4 ⟨hT4, v4, rfl, hv4⟩)))
    go_ret2
    exact ⟨hT'.trans hT4, _, rfl, hv4⟩
set_option maxHeartbeats 4000000 in
set_option maxRecDepth 100000 in
theorem refPack_odd (v : Value) (l : List Nat) (leaf : Bool) (w : World) (hm : l.length ≤ 100000) (hv : RdA [] w v l) (hp : l.length % 2 = 1) :
    Calls Tryz.prog 5 #[v, .bool leaf] w (OptPost w (packL l leaf)) := by
  obtain ⟨_, n, c', rfl⟩ := slice_keep hv
  have hlen := hv.len
  have HV := Lib.hid hv
  have hpar : ((n : Int) % 2 == 1) = true := by rw [beq_iff_eq]; omega
  have HF := Lib.hid (fr_odd leaf hp)
  have hjoin := fun (u : Value) (w1 : World) (hu : RdA [] w1 u (fr l leaf ++ l)) => refJoin_any u (fr l leaf ++ l) w1 (by rw [List.length_append, fr_odd leaf hp]; simp; omega) hu
  have HJ := Lib.hid hjoin
  have HLT := Lib.hid (show ∀ x ∈ fr l leaf ++ l, x < 256 from fun x hx => (List.mem_append.1 hx).elim (fun h => Nat.lt_of_lt_of_le (fr_lt l leaf x h) (by decide)) (hv.lt x))
  have HL := Lib.hid (And.intro hlen hm)
  clear hv hjoin hp hlen
  have hsz : ∀ o : Obj, w.heap.size + 1 = (w.alloc o).heap.size := fun o => by simp
  have HSZ := Lib.hid hsz
  clear hsz
  cases leaf with
  | true =>
    go_enter Tryz.func5, Tryz.ntmps5
    go_wp2_with (first
      | (at_builtin; go_must (refine st_appB (w0 := w) (l := [3]) (m := l) (ty := 5) rfl _ _ rfl rfl rfl (by rw [HSZ.out]; exact own_lit (w0 := w) (w := w.alloc (.cells #[.int .u8 2, .int .u8 0] 5)) [3] (by simp) (by simp) _ rfl) (((Tch.refl [] w).alloc _).alloc _) ((HV.out.tch (((Tch.refl [] w).alloc _).alloc _)).rdB) (by have := HL.out; simp; omega) ?_; intro v' w3 hown' hT'))
      | (go_at_call 16; go_must (have hu := HJ.out _ _ ((RdB.own (l := fr l true ++ l) (by rw [HF.out]; exact hown') HLT.out).rdA (by simp)); (with_reducible refine hu.mono ?_); rintro e w4 ⟨hT4, v4, rfl, hv4⟩)))
    go_ret2
    exact ⟨hT'.trans hT4, _, rfl, hv4⟩
  | false =>
    go_enter Tryz.func5, Tryz.ntmps5
    go_wp2_with (first
      | (at_builtin; go_must (refine st_appB (w0 := w) (l := [1]) (m := l) (ty := 5) rfl _ _ rfl rfl rfl (by rw [HSZ.out]; exact own_lit (w0 := w) (w := w.alloc (.cells #[.int .u8 0, .int .u8 0] 5)) [1] (by simp) (by simp) _ rfl) (((Tch.refl [] w).alloc _).alloc _) ((HV.out.tch (((Tch.refl [] w).alloc _).alloc _)).rdB) (by have := HL.out; simp; omega) ?_; intro v' w3 hown' hT'))
      | (go_at_call 16; go_must (have hu := HJ.out _ _ ((RdB.own (l := fr l false ++ l) (by rw [HF.out]; exact hown') HLT.out).rdA (by simp)); (with_reducible refine hu.mono ?_); rintro e w4 ⟨hT4, v4, rfl, hv4⟩)))
    go_ret2
    exact ⟨hT'.trans hT4, _, rfl, hv4⟩
theorem refPack_any (v : Value) (l : List Nat) (leaf : Bool) (w : World) (hm : l.length ≤ 100000) (hv : RdA [] w v l) :
    Calls Tryz.prog 5 #[v, .bool leaf] w (OptPost w (packL l leaf)) :=
  (Nat.mod_two_eq_zero_or_one l.length).elim (refPack_even v l leaf w hm hv) (refPack_odd v l leaf w hm hv)
end Go.Proofs.YtfdihphhmhgejaaGreat
