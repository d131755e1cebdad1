/- The program's trees in memory; build, of one entry. -/
import Derived.Test.YtfdihphhmhgejaaM27
import Derived.Test.YtfdihphhmhgejaaM19
set_option linter.unusedVariables false
set_option linter.unusedSimpArgs false
namespace Go.Proofs.Ytfdihphhmhgejaa
open Go.RowKit Tr

/-- Cells among which there is no byte. -/
def NoB (c : Array Value) : Prop := ∀ (j : Nat) (x : Int), c[j]? ≠ some (.int .u8 x)
theorem RdB.offL {w : World} {v : Value} {l : List Nat} {X : List Nat} (h : RdB w v l) (hX : ∀ x ∈ X, ∃ t c, Blk w x t c ∧ NoB c) : RdA X w v l := by
  obtain ⟨p, cc, h1, h2, h3, h4⟩ := h
  refine ⟨p, cc, h1, h2, h3, fun hl => ?_⟩
  obtain ⟨b', o, h5, h6, h7⟩ := h4 hl
  refine ⟨b', o, h5, h6, fun hm => ?_, h7⟩
  obtain ⟨t, c, hB, hc⟩ := hX b' hm
  have hx := h7 0 (List.length_pos_iff.2 hl)
  unfold Blk at hB
  rw [Lib.cell_of_heap hB] at hx
  exact hc _ _ hx
def brC (c : Nat → Value) (u : Value) : Array Value := ((List.range 16).map c ++ [u]).toArray
theorem brC_size (c : Nat → Value) (u : Value) : (brC c u).size = 17 := by simp [brC]
theorem brC_get (c : Nat → Value) (u : Value) {d : Nat} (h : d < 16) : (brC c u)[d]? = some (c d) := by
  unfold brC
  rw [List.getElem?_toArray, List.getElem?_append_left (by simpa using h), List.getElem?_map, List.getElem?_range h]; rfl
theorem brC_last (c : Nat → Value) (u : Value) : (brC c u)[16]? = some u := by
  unfold brC
  rw [List.getElem?_toArray, List.getElem?_append_right (by simp)]; simp
/-- A tree in memory, all its nodes from block B on. -/
def TreeV (B : Nat) (w : World) : TN → Value → Prop
  | .nil, v => v = .nilIface
  | .leaf p u, v => ∃ b pv uv, v = .iface 99 (.pointer (some ⟨b, 0, none⟩)) ∧ B ≤ b ∧ Blk w b 100 #[pv, uv] ∧ RdB w pv p ∧ RdB w uv u
  | .ext p s, v => ∃ b pv sv, v = .iface 101 (.pointer (some ⟨b, 0, none⟩)) ∧ B ≤ b ∧ Blk w b 103 #[pv, sv] ∧ RdB w pv p ∧ TreeV B w s sv
  | .branch s u, v => ∃ b c uv, v = .iface 113 (.pointer (some ⟨b, 0, none⟩)) ∧ B ≤ b ∧ Blk w b 117 (brC c uv) ∧ RdB w uv u ∧ ∀ d, d < 16 → TreeV B w (s d) (c d)
theorem TreeV.touch {B : Nat} {X : List Nat} {w w' : World} (hT : Tch X w w') (hX : ∀ x ∈ X, x < B ∧ ∃ t c, Blk w x t c ∧ NoB c) : ∀ {T : TN} {v : Value}, TreeV B w T v → TreeV B w' T v
  | .nil, _, h => h
  | .leaf p u, v, h => by
    obtain ⟨b, pv, uv, h1, h2, h3, h4, h5⟩ := h
    exact ⟨b, pv, uv, h1, h2, hT.blk h3 (fun hm => by have := (hX b hm).1; omega), ((h4.offL fun x hx => (hX x hx).2).tch hT).rdB, ((h5.offL fun x hx => (hX x hx).2).tch hT).rdB⟩
  | .ext p s, v, h => by
    obtain ⟨b, pv, sv, h1, h2, h3, h4, h5⟩ := h
    exact ⟨b, pv, sv, h1, h2, hT.blk h3 (fun hm => by have := (hX b hm).1; omega), ((h4.offL fun x hx => (hX x hx).2).tch hT).rdB, TreeV.touch hT hX h5⟩
  | .branch s u, v, h => by
    obtain ⟨b, c, uv, h1, h2, h3, h4, h5⟩ := h
    exact ⟨b, c, uv, h1, h2, hT.blk h3 (fun hm => by have := (hX b hm).1; omega), ((h4.offL fun x hx => (hX x hx).2).tch hT).rdB, fun d hd => TreeV.touch hT hX (h5 d hd)⟩
theorem TreeV.tch {B : Nat} {w w' : World} {T : TN} {v : Value} (h : TreeV B w T v) (hT : Tch [] w w') : TreeV B w' T v := h.touch hT (by simp)
theorem TreeV.low {B B' : Nat} {w : World} (hB : B' ≤ B) : ∀ {T : TN} {v : Value}, TreeV B w T v → TreeV B' w T v
  | .nil, _, h => h
  | .leaf p u, v, h => by
    obtain ⟨b, pv, uv, h1, h2, h3⟩ := h
    exact ⟨b, pv, uv, h1, Nat.le_trans hB h2, h3⟩
  | .ext p s, v, h => by
    obtain ⟨b, pv, sv, h1, h2, h3, h4, h5⟩ := h
    exact ⟨b, pv, sv, h1, Nat.le_trans hB h2, h3, h4, TreeV.low hB h5⟩
  | .branch s u, v, h => by
    obtain ⟨b, c, uv, h1, h2, h3, h4, h5⟩ := h
    exact ⟨b, c, uv, h1, Nat.le_trans hB h2, h3, h4, fun d hd => TreeV.low hB (h5 d hd)⟩
/-- What build answers. -/
def BuildPost (T : TN) (w : World) (e : Ending) (w' : World) : Prop := Tch [] w w' ∧ ∃ u, e = .returned u ∧ TreeV w.heap.size w' T u
theorem from_rd {w : World} {v : Value} {l : List Nat} (h : RdB w v l) (k : Nat) (hk : k ≤ l.length) : ∃ p' c', (∀ w, (Instr.sliceAt 22 v (some (.int .i64 (k : Int))) none none).run Try.prog w = .ok (.slice p' (l.length - k) c') w) ∧ RdB w (.slice p' (l.length - k) c') (l.drop k) := by
  obtain ⟨p, c, hv⟩ := h.shape'
  have hc : l.length ≤ c := by
    obtain ⟨p', c', h1, h2, _⟩ := h
    rw [hv] at h1
    cases h1
    exact h2
  subst hv
  obtain ⟨p', c', h1, _, h3⟩ := slice_from p l.length c k hk hc
  exact ⟨p', c', h1, (h3 [] w l h.rdA0).rdB⟩
section
variable {a : Act} {w : World} {o : Oper} {Q : Exit → Act → World → Prop}
theorem held_box {l0 : List Oper} {n : Nat} {K : Act → World → Prop} {ty : TypeId} {c : Array Value} {x : Operand} (ho : l0[n]? = some o) (hw : Region.wanted o (yielded l0.toArray a.tmps) = true) (hop : o.op = .box ty x) (hx : a.eval x = .agg c)
    (h : K (a.put o.dst (.pointer (some ⟨w.heap.size, 0, none⟩))) (w.alloc (.cells c ty))) : wpOp Try.prog l0.toArray Q n K a w := by
  have ho' : l0.toArray[n]? = some o := by rw [List.getElem?_toArray]; exact ho
  have hr : (Instr.box ty (.agg c)).run Try.prog w = .ok (.pointer (some ⟨w.heap.size, 0, none⟩)) (w.alloc (.cells c ty)) := rfl
  unfold wpOp
  simp only [ho', hw, if_true]
  refine .inl ?_
  unfold Oper.wp execOp
  simp only [hop, hx, Sem.run_bind, hr, Result.andThen_ok, Sem.run_pure]
  exact h
theorem x_mkI {v u : Value} (ty : TypeId) (x : Operand) (ho : o.op = .makeInterface ty x) (hx : a.eval x = v) (hr : (Instr.makeInterface ty v).run Try.prog w = .ok u w) : (execOp a.eval o).run Try.prog w = .ok (.value u) w := by
  unfold execOp; simp only [ho, hx, Sem.run_bind, hr, Result.andThen_ok, Sem.run_pure]
theorem x_build {ty : TypeId} {v1 v2 u : Value} {i1 i2 : Nat} (ho : ∃ x1 x2, o.op = .build ty #[(i1, x1), (i2, x2)] ∧ a.eval x1 = v1 ∧ a.eval x2 = v2) (hr : (Instr.build ty #[(i1, v1), (i2, v2)]).run Try.prog w = .ok u w) : (execOp a.eval o).run Try.prog w = .ok (.value u) w := by
  obtain ⟨x1, x2, ho, h1, h2⟩ := ho
  unfold execOp
  simp only [ho, List.map_toArray, List.map_cons, List.map_nil, h1, h2, Sem.run_bind, hr, Result.andThen_ok, Sem.run_pure]
end
theorem mkI_leaf (b : Nat) (w : World) : (Instr.makeInterface 99 (.pointer (some ⟨b, 0, none⟩))).run Try.prog w = .ok (.iface 99 (.pointer (some ⟨b, 0, none⟩))) w := by kernel_rfl
theorem mkI_ext (b : Nat) (w : World) : (Instr.makeInterface 101 (.pointer (some ⟨b, 0, none⟩))).run Try.prog w = .ok (.iface 101 (.pointer (some ⟨b, 0, none⟩))) w := by kernel_rfl
theorem build_leafN (p q : Option Addr) (n c m d : Nat) (w : World) : (Instr.build 100 #[(0, .slice p n c), (1, .slice q m d)]).run Try.prog w = .ok (.agg #[.slice p n c, .slice q m d]) w := by kernel_rfl
set_option maxHeartbeats 2000000 in
set_option maxRecDepth 100000 in
theorem build_one (v : Value) (e : En) (D : Nat) (w : World) (hv : PairsAt w v [e]) (hD : D ≤ e.1.length) (hD2 : D ≤ 128) :
    Calls Try.prog 33 #[v, .int .i64 (D : Int)] w (BuildPost (.leaf (e.1.drop D) e.2) w) := by
  obtain ⟨p, c, rfl, hc, hcells⟩ := hv
  obtain ⟨b, o, rfl, hbw, hcs⟩ := hcells (by simp)
  obtain ⟨kv, vv, g0, g1, hkv, hvv⟩ := hcs 0 (by simp)
  simp only [List.getElem_cons_zero] at hkv hvv
  obtain ⟨p', c', hsl, hfr⟩ := from_rd hkv D hD
  obtain ⟨q1, c1, rfl⟩ := hkv.shape'
  obtain ⟨q2, c2, rfl⟩ := hvv.shape'
  simp only [List.length_singleton]
  have HC0 := Lib.hid (fun (w' : World) (hT : Tch [] w w') => (hT.cell (p := ⟨b, o + 0 * 2, none⟩) hbw (by simp)).trans g0)
  have HC1 := Lib.hid (fun (w' : World) (hT : Tch [] w w') => (hT.cell (p := ⟨b, o + 0 * 2 + 1, none⟩) hbw (by simp)).trans g1)
  have HR := Lib.hid (And.intro hfr hvv)
  have HS := Lib.hid hsl
  clear hcells hcs g0 g1 hkv hvv hfr hsl
  go_enter Try.func33, Try.ntmps33
  go_upto_region 5 with fail
  refine wp_region_held_drew (S := fun w' => Tch [] w w') (by kernel_rfl) ((Tch.refl _ _).drew) (fun hC => ?_)
  generalize World.drew w = u0 at hC ⊢
  refine held_in (v := (.slice (some ⟨b, o, none⟩) 1 c)) 0 rfl (by kernel_rfl) (by kernel_rfl) (by kernel_rfl) (fun _ _ _ h => h) hC rfl (fun w' hw' => x_val (.inl rfl) rfl) ?_
  try simp only [Act.put, List.setIfInBounds_toArray, List.set_cons_zero, List.set_cons_succ]
  refine held_in (v := .pointer (some ⟨b, o + 0 * 2, none⟩)) 1 rfl (by kernel_rfl) (by kernel_rfl) (by kernel_rfl) (fun _ _ _ h => h) hC rfl (fun w' hw' => x_idxE (j := 0) _ _ rfl rfl (by rfl) (by decide)) ?_
  try simp only [Act.put, List.setIfInBounds_toArray, List.set_cons_zero, List.set_cons_succ]
  refine held_in (v := .pointer (some ⟨b, o + 0 * 2, none⟩)) 2 rfl (by kernel_rfl) (by kernel_rfl) (by kernel_rfl) (fun _ _ _ h => h) hC rfl (fun w' hw' => x_fa _ _ _ rfl rfl (fa_ent0 _ _ _)) ?_
  try simp only [Act.put, List.setIfInBounds_toArray, List.set_cons_zero, List.set_cons_succ]
  refine held_in (v := .slice q1 e.1.length c1) 3 rfl (by kernel_rfl) (by kernel_rfl) (by kernel_rfl) (fun _ _ _ h => h) hC rfl (fun w' hw' => x_cell _ _ rfl rfl (HC0.out w' hw') bytes_agg) ?_
  try simp only [Act.put, List.setIfInBounds_toArray, List.set_cons_zero, List.set_cons_succ]
  refine held_in (v := .int .i64 (D : Int)) 4 rfl (by kernel_rfl) (by kernel_rfl) (by kernel_rfl) (fun _ _ _ h => h) hC rfl (fun w' hw' => x_val (.inl rfl) rfl) ?_
  try simp only [Act.put, List.setIfInBounds_toArray, List.set_cons_zero, List.set_cons_succ]
  refine held_in (v := .slice p' (e.1.length - D) c') 5 rfl (by kernel_rfl) (by kernel_rfl) (by kernel_rfl) (fun _ _ _ h => h) hC rfl (fun w' hw' => x_from _ _ _ rfl rfl rfl (HS.out w')) ?_
  try simp only [Act.put, List.setIfInBounds_toArray, List.set_cons_zero, List.set_cons_succ]
  refine held_in (v := (.slice (some ⟨b, o, none⟩) 1 c)) 6 rfl (by kernel_rfl) (by kernel_rfl) (by kernel_rfl) (fun _ _ _ h => h) hC rfl (fun w' hw' => x_val (.inl rfl) rfl) ?_
  try simp only [Act.put, List.setIfInBounds_toArray, List.set_cons_zero, List.set_cons_succ]
  refine held_in (v := .pointer (some ⟨b, o + 0 * 2, none⟩)) 7 rfl (by kernel_rfl) (by kernel_rfl) (by kernel_rfl) (fun _ _ _ h => h) hC rfl (fun w' hw' => x_idxE (j := 0) _ _ rfl rfl (by rfl) (by decide)) ?_
  try simp only [Act.put, List.setIfInBounds_toArray, List.set_cons_zero, List.set_cons_succ]
  refine held_in (v := .pointer (some ⟨b, o + 0 * 2 + 1, none⟩)) 8 rfl (by kernel_rfl) (by kernel_rfl) (by kernel_rfl) (fun _ _ _ h => h) hC rfl (fun w' hw' => x_fa _ _ _ rfl rfl (fa_ent1 _ _ _)) ?_
  try simp only [Act.put, List.setIfInBounds_toArray, List.set_cons_zero, List.set_cons_succ]
  refine held_in (v := .slice q2 e.2.length c2) 9 rfl (by kernel_rfl) (by kernel_rfl) (by kernel_rfl) (fun _ _ _ h => h) hC rfl (fun w' hw' => x_cell _ _ rfl rfl (HC1.out w' hw') bytes_agg) ?_
  try simp only [Act.put, List.setIfInBounds_toArray, List.set_cons_zero, List.set_cons_succ]
  refine held_in (v := .agg #[.slice p' (e.1.length - D) c', .slice q2 e.2.length c2]) 10 rfl (by kernel_rfl) (by kernel_rfl) (by kernel_rfl) (fun _ _ _ h => h) hC rfl (fun w' hw' => x_build ⟨_, _, rfl, rfl, rfl⟩ (build_leafN _ _ _ _ _ _ w')) ?_
  try simp only [Act.put, List.setIfInBounds_toArray, List.set_cons_zero, List.set_cons_succ]
  refine held_one 11 (by kernel_rfl) ?_
  refine held_box rfl rfl rfl (by rfl) ?_
  have hC1 : Tch [] w (u0.alloc (.cells #[.slice p' (e.1.length - D) c', .slice q2 e.2.length c2] 100)) := hC.alloc _
  have hB1 := Blk.new u0 100 #[.slice p' (e.1.length - D) c', .slice q2 e.2.length c2]
  refine ⟨hC1, ?_⟩
  generalize u0.alloc (.cells #[.slice p' (e.1.length - D) c', .slice q2 e.2.length c2] 100) = u1 at hC1 hB1 ⊢
  try simp only [Act.put, List.setIfInBounds_toArray, List.set_cons_zero, List.set_cons_succ]
  refine held_in (v := .iface 99 (.pointer (some ⟨u0.heap.size, 0, none⟩))) 12 rfl (by kernel_rfl) (by kernel_rfl) (by kernel_rfl) (fun _ _ _ h => h) hC1 rfl (fun w' hw' => x_mkI _ _ rfl rfl (mkI_leaf _ w')) ?_
  try simp only [Act.put, List.setIfInBounds_toArray, List.set_cons_zero, List.set_cons_succ]
  refine held_in (v := .iface 99 (.pointer (some ⟨u0.heap.size, 0, none⟩))) 13 rfl (by kernel_rfl) (by kernel_rfl) (by kernel_rfl) (fun _ _ _ h => h) hC1 rfl (fun w' hw' => x_val (.inr rfl) rfl) ?_
  try simp only [Act.put, List.setIfInBounds_toArray, List.set_cons_zero, List.set_cons_succ]
  refine wpAnyH_done (by kernel_rfl) ?_ _
  have hfin : BuildPost (.leaf (e.1.drop D) e.2) w (.returned (.iface 99 (.pointer (some ⟨u0.heap.size, 0, none⟩)))) u1 := ⟨hC1, _, rfl, u0.heap.size, _, _, rfl, hC.size, hB1, HR.out.1.tch hC1 (by simp), HR.out.2.tch hC1 (by simp)⟩
  clear HR HS HC0 HC1 hC hC1 hB1
  go_wp2
  go_ret
  exact hfin
end Go.Proofs.Ytfdihphhmhgejaa

/- The document's Join, PackPath. -/
namespace Go.Proofs.Ytfdihphhmhgejaa
open Go.RowKit

theorem jn_one {l : List Nat} {k : Nat} (h : 2 * k + 1 < l.length) : nb (jn (l.take (2 * (k + 1)))) = nb (jn (l.take (2 * k))) ++ [.int .u8 ((16 * l.getD (2 * k) 0 + l.getD (2 * k + 1) 0 : Nat) : Int)] := by
  rw [jn_step h, nb_snoc]
theorem shl_wrap (x : Nat) (hx : x < 16) : IntKind.u8.wrap ((x : Int) * 16) = (x : Int) * 16 := by
  have all : ∀ a : Fin 16, IntKind.u8.wrap ((a.val : Int) * 16) = (a.val : Int) * 16 := by decide +kernel
  exact all ⟨x, hx⟩
theorem joinL_no {l : List Nat} {j : Nat} (h : j < l.length) (hx : 15 < l.getD j 0) : joinL l = none := by
  have := allN_bad (m := l.length) h h hx
  rw [List.take_length] at this
  unfold joinL; rw [if_neg (fun h => by rw [this] at h; exact absurd h.2 (by decide))]
end Go.Proofs.Ytfdihphhmhgejaa

/- The document's PackPath. -/
namespace Go.Proofs.Ytfdihphhmhgejaa
open Go.RowKit

/-- What stands in front of a packed path. -/
def fr (l : List Nat) (leaf : Bool) : List Nat := if l.length % 2 = 1 then [bif leaf then 3 else 1] else [bif leaf then 2 else 0, 0]
/-- The bytes that a path of a kind is packed as, or none. -/
def packL (l : List Nat) (leaf : Bool) : Option (List Nat) := joinL (fr l leaf ++ l)
theorem fr_odd {l : List Nat} (leaf : Bool) (h : l.length % 2 = 1) : fr l leaf = [bif leaf then 3 else 1] := by unfold fr; rw [if_pos h]
theorem fr_even {l : List Nat} (leaf : Bool) (h : l.length % 2 = 0) : fr l leaf = [bif leaf then 2 else 0, 0] := by unfold fr; rw [if_neg (by omega)]
theorem fr_lt (l : List Nat) (leaf : Bool) : ∀ x ∈ fr l leaf, x < 4 := by
  unfold fr; intro x hx
  cases leaf <;> (split at hx <;> simp at hx <;> omega)
theorem optpost_ret {w w1 w2 : World} {r : Option (List Nat)} {e : Ending} (hT : Tch [] w w1) (h : OptPost w1 r e w2) : OptPost w r e w2 := ⟨hT.trans h.1, h.2⟩
end Go.Proofs.Ytfdihphhmhgejaa
