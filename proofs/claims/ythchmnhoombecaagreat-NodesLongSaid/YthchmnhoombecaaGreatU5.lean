/- A tree of no pair or of one: Put, Get, Commit. -/
import Derived.Test.YthchmnhoombecaaGreatU4
import Derived.Deep.RegionHeld3
namespace Go.Proofs.YthchmnhoombecaaGreat
open Go.RowKit

section
variable {a : Act} {w : World} {o : Oper}
theorem x_fa {v u : Value} (ty : TypeId) (x : Operand) (i : Nat) (ho : o.op = .fieldAddr ty x i) (hx : a.eval x = v) (hr : (Instr.fieldAt ty v i).run Tryz.prog w = .ok u w) : (execOp a.eval o).run Tryz.prog w = .ok (.value u) w := by
  unfold execOp; simp only [ho, hx, Sem.run_bind, hr, Result.andThen_ok, Sem.run_pure]
end
theorem fa_tree (b : Nat) (w : World) : (Instr.fieldAt 64 (.pointer (some ⟨b, 0, none⟩)) 1).run Tryz.prog w = .ok (.pointer (some ⟨b, 1, none⟩)) w := by kernel_rfl
theorem RdB.shape {w : World} {v : Value} {l : List Nat} (h : RdB w v l) : ∃ p c, v = .slice p l.length c := ⟨_, _, h.choose_spec.choose_spec.1⟩
theorem RdB.rdA0 {w : World} {v : Value} {l : List Nat} (h : RdB w v l) : RdA [] w v l := h.rdA (by simp)
/-- Bytes don't lie in a block that holds no byte. -/
theorem RdB.off {w : World} {v : Value} {l : List Nat} {b : Nat} {t : TypeId} {c : Array Value} (h : RdB w v l) (hB : Blk w b t c) (hc : ∀ (j : Nat) (x : Int), c[j]? ≠ some (.int .u8 x)) : RdA [b] w v l := by
  obtain ⟨p, cc, h1, h2, h3, h4⟩ := h
  refine ⟨p, cc, h1, h2, h3, fun hl => ?_⟩
  obtain ⟨b', o, h5, h6, h7⟩ := h4 hl
  refine ⟨b', o, h5, h6, fun hm => ?_, h7⟩
  obtain rfl : b' = b := by simpa using hm
  have hx := h7 0 (List.length_pos_iff.2 hl)
  unfold Blk at hB
  rw [Lib.cell_of_heap hB] at hx
  exact hc _ _ hx
theorem tree_cells (s : Option Addr) (v : Value) (hv : ∀ x, v ≠ .int .u8 x) : ∀ (j : Nat) (x : Int), (#[Value.pointer s, v])[j]? ≠ some (.int .u8 x) := by
  intro j x
  match j with
  | 0 => simp
  | 1 => simpa using hv x
  | n + 2 => simp
theorem leaf_cells (p q : Option Addr) (n c m d : Nat) : ∀ (j : Nat) (x : Int), (#[Value.slice p n c, .slice q m d])[j]? ≠ some (.int .u8 x) := by
  intro j x
  match j with
  | 0 => simp
  | 1 => simp
  | n + 2 => simp
theorem Only.tch {b : Nat} {w w' : World} (h : Only b w w') : Tch [b] w w' := (Tch.refl _ _).only h (.inr (by simp))
/-- What Clone hands back, as it reads. -/
theorem clone_rd (v : Value) (l : List Nat) (w : World) (hn : l.length ≤ 100000000) (hv : RdB w v l) : Calls Tryz.prog 22 #[v] w fun e w' => Tch [] w w' ∧ ∃ p c, e = .returned (.slice p l.length c) ∧ RdB w' (.slice p l.length c) l :=
  (clone_any v l w hn hv.rdA0).mono fun e w' h => by
    obtain ⟨hT, p, n, c, he, hr⟩ := h
    have := (hr [] (by simp)).rdB
    obtain ⟨p', c', hs⟩ := this.shape
    cases hs
    exact ⟨hT, _, _, he, this⟩
theorem Split_rd (v : Value) (l : List Nat) (w : World) (hm : l.length ≤ 1000000) (hv : RdB w v l) :
    Calls Tryz.prog 29 #[v] w fun e w' => Tch [] w w' ∧ ∃ p c, e = .returned (.slice p (nibs l).length c) ∧ RdB w' (.slice p (nibs l).length c) (nibs l) :=
  (Split_any v l w hm hv.rdA0).mono fun e w' h => by
    obtain ⟨v', he, hT, hr⟩ := h
    have := hr.rdB
    obtain ⟨p', c', hs⟩ := this.shape
    subst hs
    exact ⟨hT, _, _, he, this⟩
set_option maxHeartbeats 2000000 in
set_option maxRecDepth 100000 in
theorem put_new (b : Nat) (s : Option Addr) (key value : Value) (lk lv : List Nat) (w : World) (hB : Blk w b 64 #[.pointer s, .nilIface]) (hk : RdB w key lk) (hv : RdB w value lv) (hlk : lk.length ≤ 64) (hlv : lv.length ≤ 1048576) (h0 : 0 < lv.length) :
    Calls Tryz.prog 16 #[.pointer (some ⟨b, 0, none⟩), key, value] w fun e w' => e = .returned (.int .i64 0) ∧ Tch [b] w w' ∧ ∃ v p u, Blk w' b 64 #[.pointer s, v] ∧ LeafAt w' v p u ∧ RdB w' p (nibs lk) ∧ RdB w' u lv := by
  have hS := St.one hB
  obtain ⟨kp, kc, rfl⟩ := hk.shape
  obtain ⟨vp, vc, rfl⟩ := hv.shape
  have HB := Lib.hid hB
  have HK := Lib.hid (fun (w1 : World) (hT : Tch [] w w1) => hk.tch hT (by simp))
  have HV := Lib.hid (fun (w1 : World) (hT : Tch [] w w1) => hv.tch hT (by simp))
  have d1 : ¬ (64 : Int) < (lk.length : Int) := by omega
  have d2 : ¬ (1048576 : Int) < (lv.length : Int) := by omega
  clear hB hk hv
  go_enter Tryz.func16, Tryz.ntmps16
  go_upto_region 3 with fail
  refine wp_region_held_drew (S := fun w' => Tch [] w w') (by kernel_rfl) ((Tch.refl _ _).drew) (fun hC => ?_)
  generalize World.drew w = u0 at hC ⊢
  refine held_in (v := .pointer (some ⟨b, 0, none⟩)) 0 rfl (by kernel_rfl) (by kernel_rfl) (by kernel_rfl) (fun _ _ _ h => h) hC rfl (fun w' hw' => x_val (.inl rfl) rfl) ?_
  try simp only [Act.put, List.setIfInBounds_toArray, List.set_cons_zero, List.set_cons_succ]
  refine held_in (v := .pointer (some ⟨b, 0, none⟩)) 1 rfl (by kernel_rfl) (by kernel_rfl) (by kernel_rfl) (fun _ _ _ h => h) hC rfl (fun w' hw' => x_val (.inl rfl) rfl) ?_
  try simp only [Act.put, List.setIfInBounds_toArray, List.set_cons_zero, List.set_cons_succ]
  refine held_in (v := .pointer (some ⟨b, 0, none⟩)) 2 rfl (by kernel_rfl) (by kernel_rfl) (by kernel_rfl) (fun _ _ _ h => h) hC rfl (fun w' hw' => x_nilck _ rfl rfl) ?_
  try simp only [Act.put, List.setIfInBounds_toArray, List.set_cons_zero, List.set_cons_succ]
  refine held_in (v := .pointer (some ⟨b, 1, none⟩)) 3 rfl (by kernel_rfl) (by kernel_rfl) (by kernel_rfl) (fun _ _ _ h => h) hC rfl (fun w' hw' => x_fa _ _ _ rfl rfl (fa_tree _ _)) ?_
  try simp only [Act.put, List.setIfInBounds_toArray, List.set_cons_zero, List.set_cons_succ]
  refine held_in (v := .nilIface) 4 rfl (by kernel_rfl) (by kernel_rfl) (by kernel_rfl) (fun _ _ _ h => h) hC rfl (fun w' hw' => x_cell _ _ rfl rfl ((hw'.blk HB.out (by simp)).cell rfl) node_agg) ?_
  try simp only [Act.put, List.setIfInBounds_toArray, List.set_cons_zero, List.set_cons_succ]
  refine held_in (v := .slice kp lk.length kc) 5 rfl (by kernel_rfl) (by kernel_rfl) (by kernel_rfl) (fun _ _ _ h => h) hC rfl (fun w' hw' => x_val (.inl rfl) rfl) ?_
  try simp only [Act.put, List.setIfInBounds_toArray, List.set_cons_zero, List.set_cons_succ]
  refine held_in (v := .slice vp lv.length vc) 7 rfl (by kernel_rfl) (by kernel_rfl) (by kernel_rfl) (fun _ _ _ h => h) hC rfl (fun w' hw' => x_val (.inl rfl) rfl) ?_
  try simp only [Act.put, List.setIfInBounds_toArray, List.set_cons_zero, List.set_cons_succ]
  refine held_one 6 (by kernel_rfl) ?_
  refine held_call (v1 := .slice kp lk.length kc) rfl rfl rfl (by rfl) Tryz.call29 (Split_rd _ lk u0 (by omega) (HK.out u0 hC)) ?_
  rintro e u1 ⟨hT1, sp, sc, rfl, hr1⟩
  have hC1 := hC.trans hT1
  refine ⟨_, rfl, hC1, ?_⟩
  try simp only [Act.put, List.setIfInBounds_toArray, List.set_cons_zero, List.set_cons_succ]
  refine held_one 8 (by kernel_rfl) ?_
  refine held_call (v1 := .slice vp lv.length vc) rfl rfl rfl (by rfl) Tryz.call22 (clone_rd _ lv u1 (by omega) (HV.out u1 hC1)) ?_
  rintro e u2 ⟨hT2, cp, cc, rfl, hr2⟩
  have hC2 := hC1.trans hT2
  replace hr1 := hr1.tch hT2 (by simp)
  refine ⟨_, rfl, hC2, ?_⟩
  try simp only [Act.put, List.setIfInBounds_toArray, List.set_cons_zero, List.set_cons_succ]
  refine held_one 9 (by kernel_rfl) ?_
  refine held_call4 (v1 := .pointer (some ⟨b, 0, none⟩)) (v2 := .nilIface) (v3 := .slice sp (nibs lk).length sc) (v4 := .slice cp lv.length cc) rfl rfl rfl (by rfl) (by rfl) (by rfl) (by rfl) Tryz.call28 (set_new _ _ _ _ _ _ _ u2 h0) ?_
  rintro e u3 ⟨v, rfl, hT3, hLf, bL, hvL, hbL⟩
  have hC3 := hC2.trans hT3
  replace hr1 := hr1.tch hT3 (by simp)
  replace hr2 := hr2.tch hT3 (by simp)
  subst hvL
  refine ⟨_, rfl, hC3, ?_⟩
  try simp only [Act.put, List.setIfInBounds_toArray, List.set_cons_zero, List.set_cons_succ]
  refine held_in (v := .tuple #[(.iface 87 (.pointer (some ⟨bL, 0, none⟩))), .int .i64 0]) 10 rfl (by kernel_rfl) (by kernel_rfl) (by kernel_rfl) (fun _ _ _ h => h) hC3 rfl (fun w' hw' => x_val (.inl rfl) rfl) ?_
  try simp only [Act.put, List.setIfInBounds_toArray, List.set_cons_zero, List.set_cons_succ]
  refine held_in (v := (.iface 87 (.pointer (some ⟨bL, 0, none⟩)))) 11 rfl (by kernel_rfl) (by kernel_rfl) (by kernel_rfl) (fun _ _ _ h => h) hC3 rfl (fun w' hw' => x_extract _ _ rfl rfl rfl) ?_
  try simp only [Act.put, List.setIfInBounds_toArray, List.set_cons_zero, List.set_cons_succ]
  refine held_in (v := .int .i64 0) 12 rfl (by kernel_rfl) (by kernel_rfl) (by kernel_rfl) (fun _ _ _ h => h) hC3 rfl (fun w' hw' => x_extract _ _ rfl rfl rfl) ?_
  try simp only [Act.put, List.setIfInBounds_toArray, List.set_cons_zero, List.set_cons_succ]
  refine held_in (v := (.iface 87 (.pointer (some ⟨bL, 0, none⟩)))) 13 rfl (by kernel_rfl) (by kernel_rfl) (by kernel_rfl) (fun _ _ _ h => h) hC3 rfl (fun w' hw' => x_val (.inr rfl) rfl) ?_
  try simp only [Act.put, List.setIfInBounds_toArray, List.set_cons_zero, List.set_cons_succ]
  refine held_in (v := .int .i64 0) 14 rfl (by kernel_rfl) (by kernel_rfl) (by kernel_rfl) (fun _ _ _ h => h) hC3 rfl (fun w' hw' => x_val (.inr rfl) rfl) ?_
  try simp only [Act.put, List.setIfInBounds_toArray, List.set_cons_zero, List.set_cons_succ]
  refine wpAnyH_done (by kernel_rfl) ?_ _
  replace hS := hS.call hC3
  have HF := Lib.hid (And.intro hLf (And.intro (And.intro hr1 hr2) hbL))
  clear hLf hr1 hr2 hbL hT1 hT2 hT3 hC hC1 hC2 hC3 HK HV HB
  go_wp2_with (refine st_storeV (b := b) (j := 1) (v := .iface 87 (.pointer (some ⟨bL, 0, none⟩))) hS rfl 62 _ _ rfl rfl rfl rfl node_size .head (show 1 < 2 by decide) ?_; have HT := Lib.hid (hS.get .head); clear hS; intro w4 hS hO)
  go_ret
  obtain ⟨⟨_, hv, hL⟩, ⟨hr1, hr2⟩, hbL⟩ := HF.out
  cases hv
  have hne : bL ≠ b := fun e => by
    subst e
    have := HT.out
    unfold Blk at this hL
    rw [hL] at this
    simp at this
  exact ⟨rfl, hS.frame, .iface 87 (.pointer (some ⟨bL, 0, none⟩)), (by have h := hS.get .head; simpa using h), _, _, ⟨_, rfl, hO.blk hne hL⟩, ((hr1.off HT.out (tree_cells _ _ (by simp))).tch hO.tch).rdB, ((hr2.off HT.out (tree_cells _ _ (by simp))).tch hO.tch).rdB⟩
end Go.Proofs.YthchmnhoombecaaGreat
