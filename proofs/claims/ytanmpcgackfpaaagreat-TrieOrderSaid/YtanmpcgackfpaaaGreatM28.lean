/- item: leaves and extensions. -/
import Derived.Test.YtanmpcgackfpaaaGreatM01
import Derived.Test.YtanmpcgackfpaaaGreatM21
import Derived.Test.YtanmpcgackfpaaaGreatM27
import Derived.Deep.MidRow
set_option linter.unusedVariables false
set_option linter.unusedSimpArgs false
namespace Go.Proofs.YtanmpcgackfpaaaGreat
section
open Go.RowKit Tr
theorem ta_l_l (v : Value) (w : World) : (Instr.typeAssert (.iface 143 v) 62 143 true).run Tryz.prog w = .ok (.tuple #[v, .bool true]) w := by kernel_rfl
theorem ta_e_l (v : Value) (w : World) : (Instr.typeAssert (.iface 145 v) 62 143 true).run Tryz.prog w = .ok (.tuple #[.pointer none, .bool false]) w := by kernel_rfl
theorem ta_e_e (v : Value) (w : World) : (Instr.typeAssert (.iface 145 v) 62 145 true).run Tryz.prog w = .ok (.tuple #[v, .bool true]) w := by kernel_rfl
theorem ta_b_l (v : Value) (w : World) : (Instr.typeAssert (.iface 157 v) 62 143 true).run Tryz.prog w = .ok (.tuple #[.pointer none, .bool false]) w := by kernel_rfl
theorem ta_b_e (v : Value) (w : World) : (Instr.typeAssert (.iface 157 v) 62 145 true).run Tryz.prog w = .ok (.tuple #[.pointer none, .bool false]) w := by kernel_rfl
theorem ta_b_b (v : Value) (w : World) : (Instr.typeAssert (.iface 157 v) 62 157 false).run Tryz.prog w = .ok v w := by kernel_rfl
theorem eql_node (t : TypeId) (v : Value) (w : World) : (binOp .eql 62 (.iface t v) .nilIface).run Tryz.prog w = .ok (.bool false) w := by kernel_rfl
theorem fa_lf0 (b : Nat) (w : World) : (Instr.fieldAt 144 (.pointer (some ⟨b, 0, none⟩)) 0).run Tryz.prog w = .ok (.pointer (some ⟨b, 0, none⟩)) w := by kernel_rfl
theorem fa_lf1 (b : Nat) (w : World) : (Instr.fieldAt 144 (.pointer (some ⟨b, 0, none⟩)) 1).run Tryz.prog w = .ok (.pointer (some ⟨b, 1, none⟩)) w := by kernel_rfl
theorem fa_ex0 (b : Nat) (w : World) : (Instr.fieldAt 147 (.pointer (some ⟨b, 0, none⟩)) 0).run Tryz.prog w = .ok (.pointer (some ⟨b, 0, none⟩)) w := by kernel_rfl
theorem fa_ex1 (b : Nat) (w : World) : (Instr.fieldAt 147 (.pointer (some ⟨b, 0, none⟩)) 1).run Tryz.prog w = .ok (.pointer (some ⟨b, 1, none⟩)) w := by kernel_rfl
theorem tnode_agg : ∀ w, (isAgg 62).run Tryz.prog w = .ok false w := fun w => by kernel_rfl
theorem buildI2 (t t' : Bool) (p q p' q' : Option Addr) (n c m d n' c' m' d' : Nat) (w : World) :
    (Instr.buildSlice 99 2 #[(0, .agg #[.bool t, .slice p n c, .slice q m d]), (1, .agg #[.bool t', .slice p' n' c', .slice q' m' d'])]).run Tryz.prog w = .ok (.slice (some ⟨w.heap.size, 0, none⟩) 2 2) (w.alloc (.cells #[.bool t, .slice p n c, .slice q m d, .bool t', .slice p' n' c', .slice q' m' d'] 101)) := by kernel_rfl
section
variable {a : Act} {w : World} {o : Oper} {Q : Exit → Act → World → Prop}
theorem held_bs2 {l0 : List Oper} {n : Nat} {K : Act → World → Prop} {x1 x2 : Operand} {t t' : Bool} {p q p' q' : Option Addr} {n1 c1 m1 d1 n2 c2 m2 d2 : Nat} (ho : l0[n]? = some o) (hw : Region.wanted o (yielded l0.toArray a.tmps) = true)
    (hop : o.op = .buildSlice 99 2 #[(0, x1), (1, x2)]) (h1 : a.eval x1 = .agg #[.bool t, .slice p n1 c1, .slice q m1 d1]) (h2 : a.eval x2 = .agg #[.bool t', .slice p' n2 c2, .slice q' m2 d2])
    (h : K (a.put o.dst (.slice (some ⟨w.heap.size, 0, none⟩) 2 2)) (w.alloc (.cells #[.bool t, .slice p n1 c1, .slice q m1 d1, .bool t', .slice p' n2 c2, .slice q' m2 d2] 101))) : wpOp Tryz.prog l0.toArray Q n K a w := by
  have ho' : l0.toArray[n]? = some o := by rw [List.getElem?_toArray]; exact ho
  have hr := buildI2 t t' p q p' q' n1 c1 m1 d1 n2 c2 m2 d2 w
  unfold wpOp
  simp only [ho', hw, if_true]
  refine .inl ?_
  unfold Oper.wp execOp
  simp only [hop, List.map_toArray, List.map_cons, List.map_nil, h1, h2, Sem.run_bind, hr, Result.andThen_ok, Sem.run_pure]
  exact h
theorem held_storeB {l0 : List Oper} {n m : Nat} {K : Act → World → Prop} {b : Nat} {t ty : TypeId} {c c' : Array Value} {xo yo : Operand} (hB : Blk w b t c) (hi : (Tryz.prog.info? ty).map (·.size) = some m) (hn : c.size = m) (hn' : c'.size = m) (h1 : c'.all (·.oneCell') = true)
    (ho : l0[n]? = some o) (hw : Region.wanted o (yielded l0.toArray a.tmps) = true) (hop : o.op = .store ty xo yo) (hx : a.eval xo = .pointer (some ⟨b, 0, none⟩)) (hy : a.eval yo = .agg c')
    (h : ∀ w', Only b w w' → Blk w' b t c' → K (a.put o.dst undef) w') : wpOp Tryz.prog l0.toArray Q n K a w := by
  have ho' : l0.toArray[n]? = some o := by rw [List.getElem?_toArray]; exact ho
  have hr := hB.store (P := Tryz.prog) hi hn hn' h1
  unfold wpOp
  simp only [ho', hw, if_true]
  refine .inl ?_
  unfold Oper.wp execOp
  simp only [hop, hx, hy, Sem.run_bind, hr, Result.andThen_ok, Sem.run_pure]
  exact h _ (Only.setRow w b c') (hB.row c')
end
theorem itc_list {X : List Nat} {w : World} {b n : Nat} {z : Value} {l : List It} (g : Nat → Value × Value × Value) (hn : n = l.length) (hn2 : n < 4611686018427387904) (hb : b < w.heap.size) (hX : b ∉ X)
    (hc : ∀ i (h : i < l.length), w.cell? ⟨b, i * 3, none⟩ = some (g i).1 ∧ w.cell? ⟨b, i * 3 + 1, none⟩ = some (g i).2.1 ∧ w.cell? ⟨b, i * 3 + 2, none⟩ = some (g i).2.2 ∧ ItC X w (dep l[i] + 1) (g i).1 (g i).2.1 (g i).2.2 l[i]) :
    ItC X w (dep (.lst l) + 1) (.bool true) z (.slice (some ⟨b, 0, none⟩) n n) (.lst l) := by
  subst hn
  rw [dep_lst]
  unfold ItC
  refine ⟨rfl, _, _, rfl, ⟨Nat.le_refl _, hn2⟩, fun _ => ⟨b, 0, rfl, hb, hX, fun i hi => ?_⟩⟩
  obtain ⟨h1, h2, h3, h4⟩ := hc i hi
  have := deps_mem (l := l) (x := l[i]) (List.getElem_mem hi)
  refine ⟨_, _, _, ?_, ?_, ?_, h4.up (by omega)⟩
  · rw [Nat.zero_add]; exact h1
  · rw [Nat.zero_add]; exact h2
  · rw [Nat.zero_add]; exact h3
def RefOK (v : Value) (it : It) (w : World) : Prop := ∀ (Y : List Nat) (w1 : World), Tch [] w w1 → OffX Y w1 → Calls Tryz.prog 87 #[v, (.func (.func 23) #[] #[])] w1 (ItemPost Y it w1)
theorem ItemOK.later {v : Value} {it : It} {w w' : World} (h : ItemOK v it w) (hT : Tch [] w w') : ItemOK v it w' := fun Y w1 h1 hY => h Y w1 (hT.trans h1) hY
theorem ItemOK.ref {v : Value} {it : It} {w : World} (h : ItemOK v it w) (he : (enc it).length ≤ 901000) (hd : dep it ≤ 32) : RefOK v (refI HL it) w := fun Y w1 h1 hY => reference_any Y v it w1 (h.later h1) he hd hY
theorem OffX.lt {X : List Nat} {w : World} (h : OffX X w) : ∀ x ∈ X, x < w.heap.size := fun x hx => by
  obtain ⟨t, c, h1, _⟩ := h x hx
  exact h1.lt
set_option maxHeartbeats 4000000 in
set_option maxRecDepth 100000 in
theorem item_leaf (X : List Nat) (b : Nat) (pv uv : Value) (p : List Nat) (u : List Nat) (w : World) (hB : Blk w b 144 #[pv, uv]) (hp : RdB w pv p) (hu : RdB w uv u) (hX : OffX X w) (hl : p.length ≤ 128) (hx : ∀ x ∈ p, x < 16) (hul : u.length ≤ 900000) :
    Calls Tryz.prog 50 #[.iface 143 (.pointer (some ⟨b, 0, none⟩)), (.func (.func 23) #[] #[])] w (ItemPost X (.lst [.str (pkT p true), .str u]) w) := by
  have hS := St.start w
  have k1 := ta_l_l
  have k0 := eql_node
  obtain ⟨ds, hds⟩ := qg0
  obtain ⟨p1, c1, rfl⟩ := hp.shape'
  obtain ⟨p2, c2, rfl⟩ := hu.shape'
  have HC0 := hQz (fun (w' : World) (hT : Tch [] w w') => (hT.cell (p := ⟨b, 0, none⟩) hB.lt (by simp)).trans (hB.cell (j := 0) rfl))
  have HC1 := hQz (fun (w' : World) (hT : Tch [] w w') => (hT.cell (p := ⟨b, 1, none⟩) hB.lt (by simp)).trans (hB.cell (j := 1) rfl))
  have HP := hQz (fun (Y : List Nat) (w' : World) (hT : Tch [] w w') (hY : OffX Y w') => packed_any Y _ p true w' (hp.tch hT (by simp)) hY hl hx)
  have HU := hQz (fun (Y : List Nat) (w' : World) (hT : Tch [] w w') (hY : OffX Y w') => text_any Y _ u w' (hu.tch hT (by simp)) hY (by omega))
  have HX := hQz hX
  clear hp hu hX hl hx hul
  generalize pkT p true = P at *
  go_enter Tryz.func50, Tryz.ntmps50
  go_upto_region 5 with (first
    | (refine qe3 hS rfl 101 rfl qc9 ?_; clear hS; intro w1 b1 hS))
  have hW1 : Tch [] w w1 := hS.frame
  have hb1 : w.heap.size ≤ b1 := (hS.own .head).resolve_right (by simp)
  have hB1 := hS.get .head
  clear hS
  refine wp_region_held_drew (S := fun w' => Tch [] w w') (by kernel_rfl) (hW1.drew) (fun hC => ?_)
  have hTd : Tch [] w1 w1.drew := (Tch.refl _ _).drew
  generalize World.drew w1 = u0 at hC hTd ⊢
  have hB10 := hTd.blk hB1 (by simp)
  refine qa0 (v := .pointer (some ⟨b, 0, none⟩)) 0 rfl (by kernel_rfl) (by kernel_rfl) (by kernel_rfl) (fun _ _ _ h => h) hC rfl (fun w' hw' => qb2 (.inl rfl) rfl) ?_
  try simp only [Act.put, ppA, ppB, ppC]
  refine qa0 (v := .pointer (some ⟨b, 0, none⟩)) 1 rfl (by kernel_rfl) (by kernel_rfl) (by kernel_rfl) (fun _ _ _ h => h) hC rfl (fun w' hw' => qf8 _ rfl rfl) ?_
  try simp only [Act.put, ppA, ppB, ppC]
  refine qa0 (v := .pointer (some ⟨b, 0, none⟩)) 2 rfl (by kernel_rfl) (by kernel_rfl) (by kernel_rfl) (fun _ _ _ h => h) hC rfl (fun w' hw' => x_fa _ _ _ rfl rfl (fa_lf0 _ _)) ?_
  try simp only [Act.put, ppA, ppB, ppC]
  refine qa0 (v := .slice p1 p.length c1) 3 rfl (by kernel_rfl) (by kernel_rfl) (by kernel_rfl) (fun _ _ _ h => h) hC rfl (fun w' hw' => qe2 _ _ rfl rfl (HC0.out w' hw') qa9) ?_
  try simp only [Act.put, ppA, ppB, ppC]
  refine qa0 (v := .pointer (some ⟨b, 0, none⟩)) 5 rfl (by kernel_rfl) (by kernel_rfl) (by kernel_rfl) (fun _ _ _ h => h) hC rfl (fun w' hw' => qb2 (.inl rfl) rfl) ?_
  try simp only [Act.put, ppA, ppB, ppC]
  refine qa0 (v := .pointer (some ⟨b, 0, none⟩)) 6 rfl (by kernel_rfl) (by kernel_rfl) (by kernel_rfl) (fun _ _ _ h => h) hC rfl (fun w' hw' => qf8 _ rfl rfl) ?_
  try simp only [Act.put, ppA, ppB, ppC]
  refine qa0 (v := .pointer (some ⟨b, 1, none⟩)) 7 rfl (by kernel_rfl) (by kernel_rfl) (by kernel_rfl) (fun _ _ _ h => h) hC rfl (fun w' hw' => x_fa _ _ _ rfl rfl (fa_lf1 _ _)) ?_
  try simp only [Act.put, ppA, ppB, ppC]
  refine qa0 (v := .slice p2 u.length c2) 8 rfl (by kernel_rfl) (by kernel_rfl) (by kernel_rfl) (fun _ _ _ h => h) hC rfl (fun w' hw' => qe2 _ _ rfl rfl (HC1.out w' hw') qa9) ?_
  try simp only [Act.put, ppA, ppB, ppC]
  have hX0 : OffX (b1 :: X) u0 := (HX.out.tch hC).cons hB10 (NoB.item _ _ _ _ _ _ _)
  refine qa6 4 (by kernel_rfl) ?_
  refine qh0 (v1 := .slice p1 p.length c1) (v2 := .bool true) rfl rfl rfl (by rfl) (by rfl) Tryz.call85 (HP.out (b1 :: X) u0 hC hX0) ?_
  rintro e u1 ⟨hT1, t1, q1, n1, d1, r1, m1, e1, rfl, hI1⟩
  have hC1 := hC.trans hT1
  refine ⟨_, rfl, hC1, ?_⟩
  try simp only [Act.put, ppA, ppB, ppC]
  refine qa6 9 (by kernel_rfl) ?_
  refine qk6 (v1 := .slice p2 u.length c2) rfl rfl rfl (by rfl) Tryz.call86 (HU.out (b1 :: X) u1 hC1 (hX0.tch hT1)) ?_
  rintro e u2 ⟨hT2, t2, q2, n2, d2, r2, m2, e2, rfl, hI2⟩
  have hC2 := hC1.trans hT2
  refine ⟨_, rfl, hC2, ?_⟩
  try simp only [Act.put, ppA, ppB, ppC]
  refine qa6 10 (by kernel_rfl) ?_
  refine held_bs2 rfl rfl rfl (by rfl) (by rfl) ?_
  have hTa : Tch [] u2 (u2.alloc (.cells #[.bool t1, .slice q1 n1 d1, .slice r1 m1 e1, .bool t2, .slice q2 n2 d2, .slice r2 m2 e2] 101)) := (Tch.refl _ _).alloc _
  have hBa := Blk.new u2 101 #[.bool t1, .slice q1 n1 d1, .slice r1 m1 e1, .bool t2, .slice q2 n2 d2, .slice r2 m2 e2]
  have hC3 := hC2.trans hTa
  refine ⟨hC3, ?_⟩
  generalize u2.alloc (.cells #[.bool t1, .slice q1 n1 d1, .slice r1 m1 e1, .bool t2, .slice q2 n2 d2, .slice r2 m2 e2] 101) = u3 at hTa hBa hC3 ⊢
  try simp only [Act.put, ppA, ppB, ppC]
  have hLs : ItC (b1 :: X) u3 (dep (.lst [.str P, .str u]) + 1) (.bool true) (.slice none 0 0) (.slice (some ⟨u2.heap.size, 0, none⟩) 2 2) (.lst [.str P, .str u]) := by
    refine itc_list (fun i => if i = 0 then (.bool t1, .slice q1 n1 d1, .slice r1 m1 e1) else (.bool t2, .slice q2 n2 d2, .slice r2 m2 e2)) rfl (by decide) hBa.lt (fun hm => Nat.lt_irrefl _ (((hX0.tch hT1).tch hT2).lt _ hm)) fun i hi => ?_
    match i, hi with
    | 0, _ => exact ⟨hBa.cell (j := 0) rfl, hBa.cell (j := 1) rfl, hBa.cell (j := 2) rfl, (hI1.tch hT2.toX).tch hTa.toX⟩
    | 1, _ => exact ⟨hBa.cell (j := 3) rfl, hBa.cell (j := 4) rfl, hBa.cell (j := 5) rfl, hI2.tch hTa.toX⟩
  refine qa6 11 (by kernel_rfl) ?_
  refine qk6 (v1 := .slice (some ⟨u2.heap.size, 0, none⟩) 2 2) rfl rfl rfl (by rfl) Tryz.call84 (list_any (b1 :: X) _ _ u3 hLs) ?_
  rintro e u4 ⟨hT4, t4, q4, n4, d4, r4, m4, e4, rfl, hI4⟩
  have hC4 := hC3.trans hT4
  refine ⟨_, rfl, hC4, ?_⟩
  try simp only [Act.put, ppA, ppB, ppC]
  have hB14 := hT4.blk (hTa.blk (hT2.blk (hT1.blk hB10 (by simp)) (by simp)) (by simp)) (by simp)
  refine qa6 12 (by kernel_rfl) ?_
  refine held_storeB (c' := #[.bool t4, .slice q4 n4 d4, .slice r4 m4 e4]) hB14 qa4 rfl rfl (qc4 _ _ _ _ _ _ _) rfl rfl rfl (by rfl) (by rfl) ?_
  intro u5 hO hB15
  have hC5 := hC4.only hO (.inl hb1)
  refine ⟨hC5, ?_⟩
  refine wpAnyH_done (by kernel_rfl) ?_ _
  have hI5 := (hI4.tch (hO.tch.mono (fun x hx => .inl (by rw [List.mem_singleton] at hx; rw [hx]; exact List.mem_cons_self)))).mono (Y := X) (by intro y hy; exact .inl (List.mem_cons_of_mem _ hy))
  clear HC0 HC1 HP HU HX hC hC1 hC2 hC3 hC4 hTd hT1 hT2 hTa hT4 hI1 hI2 hI4 hLs hX0 hB10 hB14 hB1 hBa hO hW1
  go_wp2
  exact post_cell 4 101 rfl rfl rfl hB15 hds rfl qa4 rfl ⟨hC5, _, _, _, _, _, _, _, rfl, hI5⟩
set_option maxHeartbeats 4000000 in
set_option maxRecDepth 100000 in
theorem item_ext (X : List Nat) (b : Nat) (pv uv : Value) (p : List Nat) (u : It) (w : World) (hB : Blk w b 147 #[pv, uv]) (hp : RdB w pv p) (hr : RefOK uv u w) (hk : uv.oneCell' = true) (hX : OffX X w) (hl : p.length ≤ 128) (hx : ∀ x ∈ p, x < 16) :
    Calls Tryz.prog 50 #[.iface 145 (.pointer (some ⟨b, 0, none⟩)), (.func (.func 23) #[] #[])] w (ItemPost X (.lst [.str (pkT p false), u]) w) := by
  have hS := St.start w
  have k1 := ta_e_l
  have k2 := ta_e_e
  have k0 := eql_node
  obtain ⟨ds, hds⟩ := qg0
  obtain ⟨p1, c1, rfl⟩ := hp.shape'
  have HC0 := hQz (fun (w' : World) (hT : Tch [] w w') => (hT.cell (p := ⟨b, 0, none⟩) hB.lt (by simp)).trans (hB.cell (j := 0) rfl))
  have HC1 := hQz (fun (w' : World) (hT : Tch [] w w') => (hT.cell (p := ⟨b, 1, none⟩) hB.lt (by simp)).trans (hB.cell (j := 1) rfl))
  have HP := hQz (fun (Y : List Nat) (w' : World) (hT : Tch [] w w') (hY : OffX Y w') => packed_any Y _ p false w' (hp.tch hT (by simp)) hY hl hx)
  have HU := hQz (fun (Y : List Nat) (w' : World) (hT : Tch [] w w') (hY : OffX Y w') => hr Y w' hT hY)
  have HX := hQz hX
  clear hp hr hX hl hx
  generalize pkT p false = P at *
  go_enter Tryz.func50, Tryz.ntmps50
  go_upto_region 8 with (first
    | (refine qe3 hS rfl 101 rfl qc9 ?_; clear hS; intro w1 b1 hS))
  have hW1 : Tch [] w w1 := hS.frame
  have hb1 : w.heap.size ≤ b1 := (hS.own .head).resolve_right (by simp)
  have hB1 := hS.get .head
  clear hS
  refine wp_region_held_drew (S := fun w' => Tch [] w w') (by kernel_rfl) (hW1.drew) (fun hC => ?_)
  have hTd : Tch [] w1 w1.drew := (Tch.refl _ _).drew
  generalize World.drew w1 = u0 at hC hTd ⊢
  have hB10 := hTd.blk hB1 (by simp)
  refine qa0 (v := .pointer (some ⟨b, 0, none⟩)) 0 rfl (by kernel_rfl) (by kernel_rfl) (by kernel_rfl) (fun _ _ _ h => h) hC rfl (fun w' hw' => qb2 (.inl rfl) rfl) ?_
  try simp only [Act.put, ppA, ppB, ppC]
  refine qa0 (v := .pointer (some ⟨b, 0, none⟩)) 1 rfl (by kernel_rfl) (by kernel_rfl) (by kernel_rfl) (fun _ _ _ h => h) hC rfl (fun w' hw' => qf8 _ rfl rfl) ?_
  try simp only [Act.put, ppA, ppB, ppC]
  refine qa0 (v := .pointer (some ⟨b, 0, none⟩)) 2 rfl (by kernel_rfl) (by kernel_rfl) (by kernel_rfl) (fun _ _ _ h => h) hC rfl (fun w' hw' => x_fa _ _ _ rfl rfl (fa_ex0 _ _)) ?_
  try simp only [Act.put, ppA, ppB, ppC]
  refine qa0 (v := .slice p1 p.length c1) 3 rfl (by kernel_rfl) (by kernel_rfl) (by kernel_rfl) (fun _ _ _ h => h) hC rfl (fun w' hw' => qe2 _ _ rfl rfl (HC0.out w' hw') qa9) ?_
  try simp only [Act.put, ppA, ppB, ppC]
  refine qa0 (v := .pointer (some ⟨b, 0, none⟩)) 5 rfl (by kernel_rfl) (by kernel_rfl) (by kernel_rfl) (fun _ _ _ h => h) hC rfl (fun w' hw' => qb2 (.inl rfl) rfl) ?_
  try simp only [Act.put, ppA, ppB, ppC]
  refine qa0 (v := .pointer (some ⟨b, 0, none⟩)) 6 rfl (by kernel_rfl) (by kernel_rfl) (by kernel_rfl) (fun _ _ _ h => h) hC rfl (fun w' hw' => qf8 _ rfl rfl) ?_
  try simp only [Act.put, ppA, ppB, ppC]
  refine qa0 (v := .pointer (some ⟨b, 1, none⟩)) 7 rfl (by kernel_rfl) (by kernel_rfl) (by kernel_rfl) (fun _ _ _ h => h) hC rfl (fun w' hw' => x_fa _ _ _ rfl rfl (fa_ex1 _ _)) ?_
  try simp only [Act.put, ppA, ppB, ppC]
  refine qa0 (v := uv) 8 rfl (by kernel_rfl) (by kernel_rfl) (by kernel_rfl) (fun _ _ _ h => h) hC rfl (fun w' hw' => qe2 _ _ rfl rfl (HC1.out w' hw') tnode_agg) ?_
  try simp only [Act.put, ppA, ppB, ppC]
  refine qa0 (v := (.func (.func 23) #[] #[])) 9 rfl (by kernel_rfl) (by kernel_rfl) (by kernel_rfl) (fun _ _ _ h => h) hC rfl (fun w' hw' => qb2 (.inl rfl) rfl) ?_
  try simp only [Act.put, ppA, ppB, ppC]
  have hX0 : OffX (b1 :: X) u0 := (HX.out.tch hC).cons hB10 (NoB.item _ _ _ _ _ _ _)
  refine qa6 4 (by kernel_rfl) ?_
  refine qh0 (v1 := .slice p1 p.length c1) (v2 := .bool false) rfl rfl rfl (by rfl) (by rfl) Tryz.call85 (HP.out (b1 :: X) u0 hC hX0) ?_
  rintro e u1 ⟨hT1, t1, q1, n1, d1, r1, m1, e1, rfl, hI1⟩
  have hC1 := hC.trans hT1
  refine ⟨_, rfl, hC1, ?_⟩
  try simp only [Act.put, ppA, ppB, ppC]
  refine qa6 10 (by kernel_rfl) ?_
  refine qh0 (v1 := uv) (v2 := (.func (.func 23) #[] #[])) rfl rfl rfl (by rfl) (by rfl) Tryz.call87 (HU.out (b1 :: X) u1 hC1 (hX0.tch hT1)) ?_
  rintro e u2 ⟨hT2, t2, q2, n2, d2, r2, m2, e2, rfl, hI2⟩
  have hC2 := hC1.trans hT2
  refine ⟨_, rfl, hC2, ?_⟩
  try simp only [Act.put, ppA, ppB, ppC]
  refine qa6 11 (by kernel_rfl) ?_
  refine held_bs2 rfl rfl rfl (by rfl) (by rfl) ?_
  have hTa : Tch [] u2 (u2.alloc (.cells #[.bool t1, .slice q1 n1 d1, .slice r1 m1 e1, .bool t2, .slice q2 n2 d2, .slice r2 m2 e2] 101)) := (Tch.refl _ _).alloc _
  have hBa := Blk.new u2 101 #[.bool t1, .slice q1 n1 d1, .slice r1 m1 e1, .bool t2, .slice q2 n2 d2, .slice r2 m2 e2]
  have hC3 := hC2.trans hTa
  refine ⟨hC3, ?_⟩
  generalize u2.alloc (.cells #[.bool t1, .slice q1 n1 d1, .slice r1 m1 e1, .bool t2, .slice q2 n2 d2, .slice r2 m2 e2] 101) = u3 at hTa hBa hC3 ⊢
  try simp only [Act.put, ppA, ppB, ppC]
  have hLs : ItC (b1 :: X) u3 (dep (.lst [.str P, u]) + 1) (.bool true) (.slice none 0 0) (.slice (some ⟨u2.heap.size, 0, none⟩) 2 2) (.lst [.str P, u]) := by
    refine itc_list (fun i => if i = 0 then (.bool t1, .slice q1 n1 d1, .slice r1 m1 e1) else (.bool t2, .slice q2 n2 d2, .slice r2 m2 e2)) rfl (by decide) hBa.lt (fun hm => Nat.lt_irrefl _ (((hX0.tch hT1).tch hT2).lt _ hm)) fun i hi => ?_
    match i, hi with
    | 0, _ => exact ⟨hBa.cell (j := 0) rfl, hBa.cell (j := 1) rfl, hBa.cell (j := 2) rfl, (hI1.tch hT2.toX).tch hTa.toX⟩
    | 1, _ => exact ⟨hBa.cell (j := 3) rfl, hBa.cell (j := 4) rfl, hBa.cell (j := 5) rfl, hI2.tch hTa.toX⟩
  refine qa6 12 (by kernel_rfl) ?_
  refine qk6 (v1 := .slice (some ⟨u2.heap.size, 0, none⟩) 2 2) rfl rfl rfl (by rfl) Tryz.call84 (list_any (b1 :: X) _ _ u3 hLs) ?_
  rintro e u4 ⟨hT4, t4, q4, n4, d4, r4, m4, e4, rfl, hI4⟩
  have hC4 := hC3.trans hT4
  refine ⟨_, rfl, hC4, ?_⟩
  try simp only [Act.put, ppA, ppB, ppC]
  have hB14 := hT4.blk (hTa.blk (hT2.blk (hT1.blk hB10 (by simp)) (by simp)) (by simp)) (by simp)
  refine qa6 13 (by kernel_rfl) ?_
  refine held_storeB (c' := #[.bool t4, .slice q4 n4 d4, .slice r4 m4 e4]) hB14 qa4 rfl rfl (qc4 _ _ _ _ _ _ _) rfl rfl rfl (by rfl) (by rfl) ?_
  intro u5 hO hB15
  have hC5 := hC4.only hO (.inl hb1)
  refine ⟨hC5, ?_⟩
  refine wpAnyH_done (by kernel_rfl) ?_ _
  have hI5 := (hI4.tch (hO.tch.mono (fun x hx => .inl (by rw [List.mem_singleton] at hx; rw [hx]; exact List.mem_cons_self)))).mono (Y := X) (by intro y hy; exact .inl (List.mem_cons_of_mem _ hy))
  clear HC0 HC1 HP HU HX hC hC1 hC2 hC3 hC4 hTd hT1 hT2 hTa hT4 hI1 hI2 hI4 hLs hX0 hB10 hB14 hB1 hBa hO hW1
  go_wp2
  exact post_cell 4 101 rfl rfl rfl hB15 hds rfl qa4 rfl ⟨hC5, _, _, _, _, _, _, _, rfl, hI5⟩
end
section
open Go.RowKit Tr
def cf (n : Nat) (g : Nat → Value) : Array Value := ((List.range n).map g).toArray
theorem cf_size (n : Nat) (g : Nat → Value) : (cf n g).size = n := by simp [cf]
theorem cf_get {n : Nat} (g : Nat → Value) {i : Nat} (h : i < n) : (cf n g)[i]? = some (g i) := by simp [cf, h]
theorem cf_put {n j : Nat} (g : Nat → Value) (h : j + 3 ≤ n) (x y z : Value) : ((cf n g).toList.take j ++ [x, y, z] ++ (cf n g).toList.drop (j + 3)).toArray = cf n (fun i => if i = j then x else if i = j + 1 then y else if i = j + 2 then z else g i) := by
  unfold cf
  congr 1
  apply List.ext_getElem?
  intro i
  have hl : ((List.range n).map g).length = n := by simp
  by_cases h1 : i < j
  · rw [List.append_assoc, List.getElem?_append_left (by rw [List.length_take, hl]; omega), List.getElem?_take_of_lt h1]
    have hi : i < n := by omega
    simp [hi, show ¬ i = j by omega, show ¬ i = j + 1 by omega, show ¬ i = j + 2 by omega]
  · by_cases h2 : i < j + 3
    · have ht : (((List.range n).map g).take j).length = j := by rw [List.length_take, hl]; omega
      rw [List.append_assoc, List.getElem?_append_right (by rw [ht]; omega), List.getElem?_append_left (by rw [ht]; simp; omega), ht]
      have hi : i < n := by omega
      rcases (show i = j ∨ i = j + 1 ∨ i = j + 2 by omega) with rfl | rfl | rfl
      · simp [hi]
      · simp [hi]
      · simp [hi]
    · have ht : (((List.range n).map g).take j ++ [x, y, z]).length = j + 3 := by rw [List.length_append, List.length_take, hl]; simp; omega
      rw [List.getElem?_append_right (by rw [ht]; omega), List.getElem?_drop, ht, show j + 3 + (i - (j + 3)) = i by omega]
      by_cases hi : i < n
      · simp [hi, show ¬ i = j by omega, show ¬ i = j + 1 by omega, show ¬ i = j + 2 by omega]
      · simp [hi]
def gz (i : Nat) : Value := if i % 3 = 0 then .bool false else .slice none 0 0
theorem arr17_zero : (Tryz.prog.info? 158).bind (·.zero) = some (.agg (cf 51 gz)) := by kernel_rfl
theorem arr17_ty : Tryz.prog.underlying 158 = some (.array 17 101) := by kernel_rfl
theorem arr16_size : (Tryz.prog.info? 159).map (·.size) = some 16 := by kernel_rfl
theorem fa_br1 (b : Nat) (w : World) : (Instr.fieldAt 161 (.pointer (some ⟨b, 0, none⟩)) 1).run Tryz.prog w = .ok (.pointer (some ⟨b, 16, none⟩)) w := by kernel_rfl
theorem slice17 (b : Nat) (w : World) : (Instr.sliceAt 158 (.pointer (some ⟨b, 0, none⟩)) none none none).run Tryz.prog w = .ok (.slice (some ⟨b, 0, none⟩) 17 17) w := by
  have hadd : (⟨b, 0, none⟩ : Addr).add (0 * 3) = ⟨b, 0, none⟩ := rfl
  simp only [Instr.sliceAt, Sem.run_bind, run_underlying arr17_ty w, Result.andThen_ok, Instr.sureAddr, Instr.sliceBounds, Sem.run_pure, qe1 qa4 w, hadd, if_false, show (17 : Nat) ≠ 0 by decide, Nat.sub_zero]
theorem idx17 (b : Nat) {d : Nat} (h : d < 17) (w : World) : (Instr.indexAt 158 (.pointer (some ⟨b, 0, none⟩)) (.int .i64 (d : Int))).run Tryz.prog w = .ok (.pointer (some ⟨b, d * 3, none⟩)) w := by
  have hadd : (⟨b, 0, none⟩ : Addr).add (d * 3) = ⟨b, d * 3, none⟩ := by unfold Addr.add; split <;> simp_all
  simp [Instr.indexAt, run_underlying arr17_ty, Instr.sureAddr, asIntOf, qe1 qa4, h, hadd]
theorem index16 (c : Nat → Value) {d : Nat} (h : d < 16) (w : World) : (Instr.index 159 (.agg ((List.range 16).map c).toArray) (.int .i64 (d : Int))).run Tryz.prog w = .ok (c d) w := by
  have hin : 0 ≤ (d : Int) ∧ (d : Int) < (16 : Nat) := by omega
  have hp : (part 62 ((List.range 16).map c).toArray (d * 1)).run Tryz.prog w = .ok (c d) w := by
    have hg : ((List.range 16).map c).toArray[d]? = some (c d) := by simp [h]
    have ha := tnode_agg w
    simp [part, Sem.run_bind, ha, hg]
  simp only [Instr.index, asIntOf, Sem.run_bind, run_underlying arr16_ty, Result.andThen_ok, Sem.run_pure, hin, and_self, if_true, qe1 tnode_size, Int.toNat_natCast, hp]
section
variable {a : Act} {w : World} {o : Oper} {ops : Array Oper} {rest : List Oper} {Q : Exit → Act → World → Prop}
theorem arm_store3 {b j : Nat} {t : TypeId} {c : Array Value} {x y z : Value} (hB : Blk w b t c) (hj : j + 3 ≤ c.size) (h1 : #[x, y, z].all (·.oneCell') = true) (hgd : o.guard = none) (xo yo : Operand)
    (ho : o.op = .store 101 xo yo) (hx : a.eval xo = .pointer (some ⟨b, j, none⟩)) (hy : a.eval yo = .agg #[x, y, z])
    (h : ∀ w', Only b w w' → Blk w' b t (c.toList.take j ++ [x, y, z] ++ c.toList.drop (j + 3)).toArray → wpList Tryz.prog ops Q rest (a.put o.dst undef) w') : wpList Tryz.prog ops Q (o :: rest) a w :=
  wpList_plain hgd fun K hK => by
    have hr := run_storeCells_at (P := Tryz.prog) b j t [x, y, z] 0 c w hB (by simpa using hj) (fun v hv => (Array.all_eq_true_iff_forall_mem.1 h1) v (by simpa using hv))
    have hr2 : (Instr.storeAt 101 (.pointer (some ⟨b, j, none⟩)) (.agg #[x, y, z])).run Tryz.prog w = .ok () (w.setRow b (c.toList.take j ++ [x, y, z] ++ c.toList.drop (j + 3)).toArray) := by
      simp only [Nat.add_zero, List.length_cons, List.length_nil, Nat.zero_add] at hr
      have hsz := qa4
      cases hq : Tryz.prog.info? 101 with
      | none => simp [hq] at hsz
      | some i =>
        have hs : i.size = 3 := by simpa [hq] using hsz
        simp [Instr.storeAt, Instr.sureAddr, storeVar, sizeOf, typeInfo, hq, Value.cells, hs, hr]
    unfold Oper.wp execOp
    simp only [ho, hx, hy, Sem.run_bind, hr2, Result.andThen_ok, Sem.run_pure]
    exact hK _ _ (h _ (Only.setRow w b _) (hB.row _))
end
def BrI (X : List Nat) (s : Nat → It) (d : Nat) (g : Nat → Value) (w : World) : Prop :=
  (∀ j, ∀ x, g j ≠ .int .u8 x) ∧ ∀ j, j < d → ∃ (t : Bool) (p : Option Addr) (n c : Nat) (q : Option Addr) (m e : Nat), g (j * 3) = .bool t ∧ g (j * 3 + 1) = .slice p n c ∧ g (j * 3 + 2) = .slice q m e ∧ ItC X w (dep (s j) + 1) (.bool t) (.slice p n c) (.slice q m e) (s j)
theorem BrI.zero (X : List Nat) (s : Nat → It) (w : World) : BrI X s 0 gz w := ⟨fun j x => by unfold gz; split <;> simp, fun j hj => by omega⟩
theorem BrI.tch {X : List Nat} {s : Nat → It} {d : Nat} {g : Nat → Value} {w w' : World} (h : BrI X s d g w) (hT : Tch X w w') : BrI X s d g w' := ⟨h.1, fun j hj => by
  obtain ⟨t, p, n, c, q, m, e, h1, h2, h3, h4⟩ := h.2 j hj
  exact ⟨t, p, n, c, q, m, e, h1, h2, h3, h4.tch hT⟩⟩
theorem BrI.noB {X : List Nat} {s : Nat → It} {d n : Nat} {g : Nat → Value} {w : World} (h : BrI X s d g w) : NoB (cf n g) := fun j x hx => by
  by_cases hj : j < n
  · rw [cf_get g hj] at hx
    exact h.1 j x (Option.some.inj hx)
  · rw [Array.getElem?_eq_none (by rw [cf_size]; omega)] at hx
    cases hx
theorem BrI.step {X : List Nat} {s : Nat → It} {d : Nat} {g : Nat → Value} {w : World} {t : Bool} {p q : Option Addr} {n c m e : Nat} (h : BrI X s d g w) (hI : ItC X w (dep (s d) + 1) (.bool t) (.slice p n c) (.slice q m e) (s d)) :
    BrI X s (d + 1) (fun i => if i = d * 3 then .bool t else if i = d * 3 + 1 then .slice p n c else if i = d * 3 + 2 then .slice q m e else g i) w := by
  refine ⟨fun j x => ?_, fun j hj => ?_⟩
  · show (if j = d * 3 then Value.bool t else if j = d * 3 + 1 then .slice p n c else if j = d * 3 + 2 then .slice q m e else g j) ≠ _
    split
    · simp
    · split
      · simp
      · split
        · simp
        · exact h.1 j x
  · by_cases hjd : j = d
    · subst hjd
      exact ⟨t, p, n, c, q, m, e, by simp, by simp, by simp, hI⟩
    · obtain ⟨t', p', n', c', q', m', e', h1, h2, h3, h4⟩ := h.2 j (by omega)
      refine ⟨t', p', n', c', q', m', e', ?_, ?_, ?_, h4⟩
      · simp only [show ¬ j * 3 = d * 3 by omega, show ¬ j * 3 = d * 3 + 1 by omega, show ¬ j * 3 = d * 3 + 2 by omega, if_false]; exact h1
      · simp only [show ¬ j * 3 + 1 = d * 3 by omega, show ¬ j * 3 + 1 = d * 3 + 1 by omega, show ¬ j * 3 + 1 = d * 3 + 2 by omega, if_false]; exact h2
      · simp only [show ¬ j * 3 + 2 = d * 3 by omega, show ¬ j * 3 + 2 = d * 3 + 1 by omega, show ¬ j * 3 + 2 = d * 3 + 2 by omega, if_false]; exact h3
theorem branch_list {X : List Nat} {S : Nat → It} {g : Nat → Value} {W : World} {bt b1 : Nat} {l : List It} (hl : l.length = 17) (hS : ∀ i (h : i < l.length), l[i] = S i) (hI : BrI (bt :: b1 :: X) S 17 g W) (hB : Blk W bt 158 (cf 51 g)) (hn : bt ∉ b1 :: X) :
    ItC (b1 :: X) W (dep (.lst l) + 1) (.bool true) (.slice none 0 0) (.slice (some ⟨bt, 0, none⟩) 17 17) (.lst l) := by
  refine itc_list (fun i => (g (i * 3), g (i * 3 + 1), g (i * 3 + 2))) hl.symm (by decide) hB.lt hn fun i hi => ?_
  have hi17 : i < 17 := by omega
  obtain ⟨t, p, n, c, q, m, e, h1, h2, h3, h4⟩ := hI.2 i hi17
  rw [hS i hi]
  refine ⟨hB.cell (cf_get g (by omega)), hB.cell (cf_get g (by omega)), hB.cell (cf_get g (by omega)), ?_⟩
  show ItC _ _ _ (g (i * 3)) (g (i * 3 + 1)) (g (i * 3 + 2)) _
  rw [h1, h2, h3]
  exact h4.mono (fun y hy => .inl (List.mem_cons_of_mem _ hy))
set_option maxHeartbeats 8000000 in
set_option maxRecDepth 100000 in
theorem item_branch (X : List Nat) (b : Nat) (c : Nat → Value) (uv : Value) (s : Nat → It) (u : List Nat) (w : World) (hB : Blk w b 161 (brC c uv)) (hu : RdB w uv u) (hr : ∀ d, d < 16 → RefOK (c d) (s d) w)
    (hX : OffX X w) (hul : u.length ≤ 900000) :
    Calls Tryz.prog 50 #[.iface 157 (.pointer (some ⟨b, 0, none⟩)), (.func (.func 23) #[] #[])] w (ItemPost X (.lst ((List.range 16).map s ++ [.str u])) w) := by
  have hS := St.start w
  have k0 := eql_node
  have k1 := ta_b_l
  have k2 := ta_b_e
  have k3 := ta_b_b
  have k4 := fa_br0
  have k5 := fa_br1
  obtain ⟨ds, hds⟩ := qg0
  obtain ⟨p2, c2, rfl⟩ := hu.shape'
  obtain ⟨S, hSd, hS16⟩ : ∃ S : Nat → It, (∀ d, d < 16 → S d = s d) ∧ S 16 = .str u := ⟨fun i => if i < 16 then s i else .str u, fun d hd => if_pos hd, rfl⟩
  obtain ⟨l, hlq⟩ : ∃ l, l = (List.range 16).map s ++ [.str u] := ⟨_, rfl⟩
  have hll : l.length = 17 := by rw [hlq]; simp
  have hlS : ∀ i (h : i < l.length), l[i] = S i := by
    intro i h
    subst hlq
    rcases Nat.lt_or_ge i 16 with h16 | h16
    · rw [hSd i h16, List.getElem_append_left (by simpa using h16)]; simp
    · have : i = 16 := by omega
      subst this
      rw [hS16]; simp
  rw [← hlq]
  have HLS := hQz (fun (g : Nat → Value) (W : World) (bt b1 : Nat) (hI : BrI (bt :: b1 :: X) S 17 g W) (hB : Blk W bt 158 (cf 51 g)) (hn : bt ∉ b1 :: X) => branch_list hll hlS hI hB hn)
  have HXW := hQz hX.lt
  clear hlS hll hlq
  obtain ⟨cl, hcl⟩ : ∃ cl : List Value, cl = (List.range 16).map c := ⟨_, rfl⟩
  have hcll : (Tryz.prog.info? 159).map (·.size) = some cl.length := by rw [hcl]; exact arr16_size
  have HL := hQz (fun (w' : World) (hT : Tch [] w w') (j : Nat) (v : Value) (hv : cl[j]? = some v) => show w'.cell? ⟨b, 0 + j, none⟩ = some v from by
    rw [hcl] at hv
    have hj : j < 16 := by
      rcases Nat.lt_or_ge j 16 with h | h
      · exact h
      · rw [List.getElem?_eq_none (by simpa using h)] at hv; cases hv
    rw [hT.cell (p := ⟨b, 0 + j, none⟩) hB.lt (by simp), Nat.zero_add]
    have e : v = c j := by simpa [hj] using hv.symm
    rw [e]
    exact hB.cell (brC_get c _ hj))
  have HIX := hQz (fun (d : Nat) (hd : d < 16) (w' : World) => show (Instr.index 159 (.agg cl.toArray) (.int .i64 (d : Int))).run Tryz.prog w' = .ok (c d) w' from by rw [hcl]; exact index16 c hd w')
  clear hcl
  have HC := hQz (fun (w' : World) (hT : Tch [] w w') => (hT.cell (p := ⟨b, 16, none⟩) hB.lt (by simp)).trans (hB.cell (j := 16) (brC_last c _)))
  have HU := hQz (fun (Y : List Nat) (w' : World) (hT : Tch [] w w') (hY : OffX Y w') => text_any Y _ u w' (hu.tch hT (by simp)) hY (by omega))
  rw [← hS16] at HU
  have HR := hQz (fun (d : Nat) (hd : d < 16) => show RefOK (c d) (S d) w from by rw [hSd d hd]; exact hr d hd)
  have HX := hQz hX
  clear hu hr hX hul hB hSd hS16
  go_enter Tryz.func50, Tryz.ntmps50
  go_wp2_with (first
    | (refine qe3 hS rfl 101 rfl qc9 ?_; clear hS; intro w1 b1 hS)
    | (refine qe3 hS rfl 158 rfl arr17_zero ?_; clear hS; intro w2 bt hS)
    | (refine wpList_load_mid rfl 159 _ rfl b 0 rfl cl _ (HL.out _ hS.frame) arr16_ty rfl hcll ?_))
  have hne : bt ∉ b1 :: X := fun hm => by
    rcases List.mem_cons.1 hm with h | h
    · have := (List.pairwise_cons.1 hS.apart).1 _ List.mem_cons_self
      exact this h
    · have h1 := HXW.out _ h
      have h2 := (hS.own .head).resolve_right (by simp)
      omega
  have HNE := hQz hne
  clear hne
  go_loopw [59] (fun i wr => ∃ (d : Nat) (g : Nat → Value), i = .int .i64 (d : Int) ∧ d ≤ 16 ∧ St [] w wr [(bt, 158, cf 51 g), (b1, 101, #[.bool false, .slice none 0 0, .slice none 0 0])] ∧ Hid (BrI (bt :: b1 :: X) S d g wr)) (fun i _ => 16 - (intOf i).toNat)
  case atStart => exact ⟨0, gz, rfl, by decide, hS, hQz (BrI.zero _ _ _)⟩
  case round =>
    clear hS
    obtain ⟨d, g, rfl, hd, hS, HI⟩ := hrel
    by_cases hlt : d < 16
    · have d1 : (d : Int) < 16 := by omega
      have d0 : (0 : Int) ≤ (d : Int) := by omega
      have kx := HIX.out d hlt
      have ki := idx17 bt (d := d) (by omega)
      have HD := hQz hlt
      go_wp2_with (first
        | (go_at_call 87; refine (HR.out d HD.out (bt :: b1 :: X) _ hS.frame (((HX.out.tch hS.frame).cons (hS.get (.tail .head)) (NoB.item _ _ _ _ _ _ _)).cons (hS.get .head) HI.out.noB)).mono ?_; rintro e w3 ⟨hT, t, p, n, cc, q, m, ee, rfl, hI⟩; have HI2 := hQz (And.intro (HI.out.tch hT.toX) hI); replace hS := hS.call hT; clear hT hI)
        | (refine arm_store3 (hS.get .head) (by rw [cf_size]; omega) (qc4 _ _ _ _ _ _ _) rfl _ _ rfl rfl rfl ?_; intro w4 hO hB4; rw [cf_put g (by omega)] at hB4; replace hS := hS.upd .head hO hB4; have hT4 := hO.tch.mono (cs := bt :: b1 :: X) (fun x hx => .inl (by rw [List.mem_singleton] at hx; rw [hx]; exact List.mem_cons_self)); have HI3 := hQz ((HI2.out.1.tch hT4).step (HI2.out.2.tch hT4)); clear hO hB4 hT4))
      go_roundw
      case rel => exact ⟨d + 1, _, by go_num, by omega, hS, HI3⟩
      case measure => simp [intOf]; omega
    · obtain rfl : d = 16 := by omega
      have hcu := HC.out _ hS.frame
      have ki : ∀ w, (Instr.indexAt 158 (.pointer (some ⟨bt, 0, none⟩)) (.int .i64 16)).run Tryz.prog w = .ok (.pointer (some ⟨bt, 48, none⟩)) w := fun w => idx17 bt (d := 16) (by decide) w
      have ks := slice17
      go_wp2_with (first
        | (go_at_call 86; refine (HU.out (bt :: b1 :: X) _ hS.frame (((HX.out.tch hS.frame).cons (hS.get (.tail .head)) (NoB.item _ _ _ _ _ _ _)).cons (hS.get .head) HI.out.noB)).mono ?_; rintro e w3 ⟨hT, t, p, n, cc, q, m, ee, rfl, hI⟩; have HI2 := hQz (And.intro (HI.out.tch hT.toX) hI); replace hS := hS.call hT; clear hT hI)
        | (refine arm_store3 (j := 48) (hS.get .head) (by rw [cf_size]; decide) (qc4 _ _ _ _ _ _ _) rfl _ _ rfl rfl rfl ?_; intro w4 hO hB4; rw [cf_put g (by decide)] at hB4; replace hS := hS.upd .head hO hB4; have hT4 := hO.tch.mono (cs := bt :: b1 :: X) (fun x hx => .inl (by rw [List.mem_singleton] at hx; rw [hx]; exact List.mem_cons_self)); have HI3 := hQz ((HI2.out.1.tch hT4).step (HI2.out.2.tch hT4)); clear hO hB4 hT4)
        | (go_at_call 84; refine (list_any (b1 :: X) _ l _ (HLS.out _ _ _ _ HI3.out (hS.get .head) HNE.out)).mono ?_; rintro e w5 ⟨hT, t5, p5, n5, c5, q5, m5, e5, rfl, hI5⟩; replace hS := hS.call hT; clear hT)
        | (refine qd1 (b := b1) (c' := #[.bool t5, .slice p5 n5 c5, .slice q5 m5 e5]) hS rfl 101 _ _ rfl rfl rfl (.tail .head) qa4 rfl rfl (qc4 _ _ _ _ _ _ _) ?_; clear hS; intro w6 hS hO; replace hI5 := hI5.tch (hO.tch.mono (fun x hx => .inl (by rw [List.mem_singleton] at hx; rw [hx]; exact List.mem_cons_self)))))
      exact qf5 hS 4 101 rfl rfl rfl (.tail .head) hds rfl qa4 rfl (fun hT => ⟨hT, _, _, _, _, _, _, _, rfl, hI5.mono (by intro y hy; exact .inl (List.mem_cons_of_mem _ hy))⟩)
end
section
open Go.RowKit Tr
theorem item_all : ∀ {T : TN} {v : Value} {B : Nat} {w : World}, TreeV B w T v → WT T → ItemOK v (itemT pkT HL T) w
  | .nil, v, B, w, h, _ => fun Y w1 _ _ => by
    obtain rfl : v = .nilIface := h
    refine (item_none _ w1).mono ?_
    rintro e w2 ⟨rfl, hT⟩
    refine ⟨hT, _, _, _, _, _, _, _, rfl, ?_⟩
    show ItC Y w2 (dep (.str []) + 1) _ _ _ (.str [])
    rw [qg4]
    unfold ItC
    exact ⟨rfl, ⟨none, 0, rfl, Nat.le_refl _, by simp, fun h => absurd rfl h⟩, by simp⟩
  | .leaf p u, v, B, w, h, hw => fun Y w1 h1 hY => by
    obtain ⟨b, pv, uv, rfl, _, hB, hp, hu⟩ := h
    exact item_leaf Y b pv uv p u w1 (h1.blk hB (by simp)) (hp.tch h1 (by simp)) (hu.tch h1 (by simp)) hY hw.1 hw.2.1 hw.2.2
  | .ext p s, v, B, w, h, hw => fun Y w1 h1 hY => by
    obtain ⟨b, pv, sv, rfl, _, hB, hp, hs⟩ := h
    exact item_ext Y b pv sv p (refI HL (itemT pkT HL s)) w1 (h1.blk hB (by simp)) (hp.tch h1 (by simp)) (((item_all (hs.tch h1) hw.2.2)).ref (ql5 HL_len hw.2.2) (qk2 _)) hs.one hY hw.1 hw.2.1
  | .branch s u, v, B, w, h, hw => fun Y w1 h1 hY => by
    obtain ⟨b, c, uv, rfl, _, hB, hu, hs⟩ := h
    exact item_branch Y b c uv (fun d => refI HL (itemT pkT HL (s d))) u w1 (h1.blk hB (by simp)) (hu.tch h1 (by simp)) (fun d hd => (item_all ((hs d hd).tch h1) (hw.2 d hd)).ref (ql5 HL_len (hw.2 d hd)) (qk2 _)) hY hw.1
theorem encode_any (v : Value) (it : It) (w : World) (HI : ItemOK v it w) (he : (enc it).length ≤ 901000) (hd : dep it ≤ 32) :
    Calls Tryz.prog 25 #[v, (.func (.func 23) #[] #[])] w fun e w' => Tch [] w w' ∧ ∃ b, w.heap.size ≤ b ∧ e = .returned (.slice (some ⟨b, 0, none⟩) (enc it).length (enc it).length) ∧ RdB w' (.slice (some ⟨b, 0, none⟩) (enc it).length (enc it).length) (enc it) := by
  have HIT := hQz HI
  have HPK := hQz (fun (w1 : World) (x0 vb vl : Value) (hI : ItC [] w1 (dep it + 1) x0 vb vl it) => (tpack_any (dep it + 1) x0 vb vl it w1 hI ⟨hd, by omega⟩).mono fun e w' h => h.rd (enc_b hI he))
  clear HI he hd
  generalize enc it = L at *
  go_enter Tryz.func25, Tryz.ntmps25
  go_wp2_with (first
    | (go_at_call 50; refine (HIT.out [] _ (Tch.refl _ _) (by intro x hx; cases hx)).mono ?_; rintro e w1 ⟨hT1, t, p, n, c, q, m, d, rfl, hI⟩)
    | (go_at_call 49; refine (HPK.out _ _ _ _ hI).mono ?_; rintro e w2 ⟨hT, b, hb, rfl, hB⟩))
  go_ret
  exact ⟨hT1.trans hT, b, Nat.le_trans hT1.size hb, rfl, hB⟩
theorem entries_any (ps : List En) : (entries ps).any noValue = Empty' ps := by
  unfold entries Empty'
  rw [List.any_map]
  rfl
theorem PairsAt.lt {w : World} {v : Value} {ps : List En} (h : PairsAt w v ps) : ∀ p ∈ ps, (∀ x ∈ p.1, x < 256) ∧ ∀ x ∈ p.2, x < 256 := fun p hp => by
  obtain ⟨q, c, _, _, h3⟩ := h
  obtain ⟨b, o, _, _, h6⟩ := h3 (List.ne_nil_of_mem hp)
  obtain ⟨i, hi, rfl⟩ := List.mem_iff_getElem.1 hp
  obtain ⟨kv, vv, _, _, g2, g3⟩ := h6 i hi
  obtain ⟨_, _, _, _, hk, _⟩ := g2
  obtain ⟨_, _, _, _, hv, _⟩ := g3
  exact ⟨hk, hv⟩
theorem rests_zero (l : List En) : rests 0 l = l := by
  unfold rests
  have : (fun e : En => (e.1.drop 0, e.2)) = id := by funext e; simp
  simp
def TGrowPost (ps : List En) (w : World) (e : Ending) (w' : World) : Prop :=
  Tch [] w w' ∧ ∃ u, e = .returned (.tuple #[u, .int .i64 (mayE ps : Nat)]) ∧ (mayE ps = 0 → ItemOK u (nodeT pkT HL 200 (entries ps)) w' ∧ (enc (nodeT pkT HL 200 (entries ps))).length ≤ 901000 ∧ dep (nodeT pkT HL 200 (entries ps)) ≤ 32) ∧ (mayE ps ≠ 0 → u = .nilIface)
set_option maxHeartbeats 2000000 in
set_option maxRecDepth 100000 in
theorem tgrow_any (v : Value) (ps : List En) (w : World) (hv : PairsAt w v ps) (hn : ps.length ≤ 4611686018427387904) (hV : mayE ps = 0 → ∀ p ∈ ps, p.2.length ≤ 900000) :
    Calls Tryz.prog 22 #[v] w (TGrowPost ps w) := by
  have HTL := hQz (tooLong_any v ps w hv hn)
  by_cases hlong : 100000 < ps.length ∨ ps.any longP = true
  · have hm : mayE ps = 3 := by unfold mayE; rw [if_pos hlong]
    have hb : (decide (100000 < ps.length) || ps.any longP) = true := by
      rcases hlong with h | h
      · rw [decide_eq_true h, Bool.true_or]
      · rw [h, Bool.or_true]
    rw [hb] at HTL
    have HF := hQz hm
    clear hV hb hlong hm hv hn
    go_enter Tryz.func22, Tryz.ntmps22
    go_wp2_with (go_at_call 42; refine HTL.out.mono ?_; rintro e w1 ⟨rfl, hT⟩)
    go_ret2
    exact ⟨hT, .nilIface, by rw [HF.out]; rfl, fun h => (by rw [HF.out] at h; cases h), fun _ => rfl⟩
  · have hb : (decide (100000 < ps.length) || ps.any longP) = false := by
      have h1 : ¬ 100000 < ps.length := fun h => hlong (.inl h)
      have h2 : ps.any longP = false := by
        cases hq : ps.any longP with
        | false => rfl
        | true => exact absurd (.inr hq) hlong
      rw [decide_eq_false h1, h2]; rfl
    rw [hb] at HTL
    have hn1 : ps.length ≤ 100000 := Decidable.byContradiction fun h => hlong (.inl (by omega))
    have hk : ∀ p ∈ ps, p.1.length ≤ 64 := fun p hp => Decidable.byContradiction fun h => hlong (.inr (List.any_eq_true.2 ⟨p, hp, by unfold longP; rw [decide_eq_true (by omega), Bool.true_or]⟩))
    have hm : mayE ps = if Empty' ps = true ∨ ¬ Apart ps then 1 else 0 := by unfold mayE; rw [if_neg hlong]
    have HSO := hQz (fun (w1 : World) (hT : Tch [] w w1) => (sorted_any v ps w1 (hv.tch hT) hn1 hk).mono fun e w' h => h.pairs)
    have hlt := hv.lt
    have hfacts : ∀ m : List En, (entries ps).Perm m → m.Pairwise (fun x y => ¬ lt y.1 x.1) → m.length = ps.length ∧ m.any noValue = Empty' ps ∧ (twB m = false ↔ Apart ps) := fun m hp hs =>
      ⟨by rw [← hp.length_eq]; simp [entries], by rw [← entries_any]; exact (hp.any_eq).symm, by rw [twB_unlike]; exact unlike_iff hp hs⟩
    have HFA := hQz (And.intro hfacts hn1)
    have HEM := hQz (fun (m : List En) (v' : Value) (w1 : World) (hp : (entries ps).Perm m) (hs : m.Pairwise (fun x y => ¬ lt y.1 x.1)) (hv' : PairsAt w1 v' m) => hasEmpty_any v' m w1 hv' (by rw [(hfacts m hp hs).1]; omega))
    have HTW := hQz (fun (m : List En) (v' : Value) (w1 : World) (hp : (entries ps).Perm m) (hs : m.Pairwise (fun x y => ¬ lt y.1 x.1)) (hv' : PairsAt w1 v' m) => hasTwice_any v' m w1 hv' (by rw [(hfacts m hp hs).1]; omega))
    by_cases he : Empty' ps = true
    · rw [if_pos (.inl he)] at hm
      have HF := hQz (And.intro hm he)
      clear hV hb hlong hm hv hn hfacts he hn1 hk hlt
      go_enter Tryz.func22, Tryz.ntmps22
      go_wp2_with (first
        | (go_at_call 42; refine HTL.out.mono ?_; rintro e w1 ⟨rfl, hT⟩)
        | (go_at_call 43; refine (HSO.out _ hT).mono ?_; rintro e w2 ⟨hT2, m, v', hp, hs, rfl, hv'⟩; have HM := hQz (And.intro hp hs); clear hp hs; replace hT := hT.trans hT2; clear hT2)
        | (go_at_call 44; refine (HEM.out m v' _ HM.out.1 HM.out.2 hv').mono ?_; rintro e w3 ⟨rfl, hT3⟩; replace hT := hT.trans hT3; clear hT3; rw [(HFA.out.1 m HM.out.1 HM.out.2).2.1, HF.out.2]))
      go_ret2
      exact ⟨hT, .nilIface, by rw [HF.out.1]; rfl, fun h => (by rw [HF.out.1] at h; cases h), fun _ => rfl⟩
    · have he' : Empty' ps = false := by
        cases hq : Empty' ps with
        | false => rfl
        | true => exact absurd hq he
      by_cases ha : Apart ps
      · rw [if_neg (fun q => q.elim he (fun h => h ha))] at hm
        have HBU := hQz (fun (m : List En) (v' : Value) (w1 : World) (hp : (entries ps).Perm m) (hs : m.Pairwise (fun x y => ¬ lt y.1 x.1)) (hv' : PairsAt w1 v' m) => show Calls Tryz.prog 46 #[v', .int .i64 0] w1 fun e w' => Tch [] w1 w' ∧ ∃ u, e = .returned u ∧ ItemOK u (nodeT pkT HL 200 (entries ps)) w' ∧ (enc (nodeT pkT HL 200 (entries ps))).length ≤ 901000 ∧ dep (nodeT pkT HL 200 (entries ps)) ≤ 32 from by
          have hso : Sorted m := sorted_of hs ((unlike_iff hp hs).2 ha)
          have hmem : ∀ e ∈ m, e.1.length ≤ 128 ∧ (∀ x ∈ e.1, x < 16) ∧ e.2.length ≤ 900000 := fun e hem => by
            obtain ⟨p, hpp, rfl⟩ := List.mem_map.1 (hp.symm.mem_iff.1 hem)
            have h1 := hk p hpp
            have h2 := nibT_len p.1
            exact ⟨by show (nibT p.1).length ≤ 128; omega, nibT_lt (hlt p hpp).1, hV hm p hpp⟩
          have hg : GoodE 0 m := ⟨by rw [(hfacts m hp hs).1]; exact hn1, fun e hem => ⟨Nat.zero_le _, (hmem e hem).1, (hmem e hem).2.1⟩, by rw [rests_zero]; exact hso⟩
          have hlo : longest (rests 0 m) < 200 := by
            rw [rests_zero]
            have := qd2.2 (fun e hem => (hmem e hem).1)
            omega
          refine (build_all 200 v' m 0 w1 hv' hg (by decide) hlo).mono ?_
          rintro e w2 ⟨hT, u, rfl, hTV⟩
          rw [rests_zero] at hTV
          have hWT := build_WT 200 m hmem
          have hit : itemT pkT HL (buildT 200 m) = nodeT pkT HL 200 (entries ps) := by
            rw [qh1 pkT HL 200 m hso]
            exact (qh2 pkT HL 200 _ _ (hso.apart.perm hp.symm) hp).symm
          refine ⟨hT, u, rfl, ?_, ?_, ?_⟩
          · rw [← hit]; exact item_all hTV hWT
          · rw [← hit]; exact ql5 HL_len hWT
          · rw [← hit]; exact qk2 _)
        have HF := hQz (And.intro hm (And.intro he' ha))
        clear hV hb hlong hm hv hn hfacts he he' hn1 hk hlt ha
        go_enter Tryz.func22, Tryz.ntmps22
        go_wp2_with (first
          | (go_at_call 42; refine HTL.out.mono ?_; rintro e w1 ⟨rfl, hT⟩)
          | (go_at_call 43; refine (HSO.out _ hT).mono ?_; rintro e w2 ⟨hT2, m, v', hp, hs, rfl, hv'⟩; have HM := hQz (And.intro hp hs); clear hp hs; replace hT := hT.trans hT2; clear hT2)
          | (go_at_call 44; refine (HEM.out m v' _ HM.out.1 HM.out.2 hv').mono ?_; rintro e w3 ⟨rfl, hT3⟩; replace hv' := hv'.tch hT3; replace hT := hT.trans hT3; clear hT3; rw [(HFA.out.1 m HM.out.1 HM.out.2).2.1, HF.out.2.1])
          | (go_at_call 45; refine (HTW.out m v' _ HM.out.1 HM.out.2 hv').mono ?_; rintro e w4 ⟨rfl, hT4⟩; replace hv' := hv'.tch hT4; replace hT := hT.trans hT4; clear hT4; rw [(HFA.out.1 m HM.out.1 HM.out.2).2.2.2 HF.out.2.2])
          | (go_at_call 46; refine (HBU.out m v' _ HM.out.1 HM.out.2 hv').mono ?_; rintro e w5 ⟨hT5, u, rfl, hfin⟩; replace hT := hT.trans hT5; clear hT5))
        go_ret2
        exact ⟨hT, u, by rw [HF.out.1]; rfl, fun _ => hfin, fun h => absurd HF.out.1 h⟩
      · rw [if_pos (.inr ha)] at hm
        have HF := hQz (And.intro hm (And.intro he' ha))
        clear hV hb hlong hm hv hn hfacts he he' hn1 hk hlt ha
        go_enter Tryz.func22, Tryz.ntmps22
        go_wp2_with (first
          | (go_at_call 42; refine HTL.out.mono ?_; rintro e w1 ⟨rfl, hT⟩)
          | (go_at_call 43; refine (HSO.out _ hT).mono ?_; rintro e w2 ⟨hT2, m, v', hp, hs, rfl, hv'⟩; have HM := hQz (And.intro hp hs); clear hp hs; replace hT := hT.trans hT2; clear hT2)
          | (go_at_call 44; refine (HEM.out m v' _ HM.out.1 HM.out.2 hv').mono ?_; rintro e w3 ⟨rfl, hT3⟩; replace hv' := hv'.tch hT3; replace hT := hT.trans hT3; clear hT3; rw [(HFA.out.1 m HM.out.1 HM.out.2).2.1, HF.out.2.1])
          | (go_at_call 45; refine (HTW.out m v' _ HM.out.1 HM.out.2 hv').mono ?_; rintro e w4 ⟨rfl, hT4⟩; replace hT := hT.trans hT4; clear hT4; rw [show twB m = true from by cases hq : twB m with | true => rfl | false => exact absurd ((HFA.out.1 m HM.out.1 HM.out.2).2.2.1 hq) HF.out.2.2]))
        go_ret2
        exact ⟨hT, .nilIface, by rw [HF.out.1]; rfl, fun h => (by rw [HF.out.1] at h; cases h), fun _ => rfl⟩
end
section
open Go.RowKit Tr
def rootW (ps : List En) : Nat → Nat := if mayE ps = 0 then hashN (enc (nodeT pkT HL 200 (entries ps))) else fun _ => 0
set_option maxHeartbeats 2000000 in
set_option maxRecDepth 100000 in
theorem Root_any (v : Value) (ps : List En) (w : World) (hv : PairsAt w v ps) (hn : ps.length ≤ 4611686018427387904) (hV : mayE ps = 0 → ∀ p ∈ ps, p.2.length ≤ 900000) :
    Calls Tryz.prog 9 #[v] w fun e w' => e = .returned (.tuple #[.agg (wf (rootW ps)), .int .i64 (mayE ps : Nat)]) ∧ Tch [] w w' := by
  have hS := St.start w
  by_cases hm : mayE ps = 0
  · have HG := hQz (fun (w1 : World) (hT : Tch [] w w1) => show Calls Tryz.prog 22 #[v] w1 fun e w' => Tch [] w1 w' ∧ ∃ u, e = .returned (.tuple #[u, .int .i64 0]) ∧ ItemOK u (nodeT pkT HL 200 (entries ps)) w' ∧ (enc (nodeT pkT HL 200 (entries ps))).length ≤ 901000 ∧ dep (nodeT pkT HL 200 (entries ps)) ≤ 32 from
      (tgrow_any v ps w1 (hv.tch hT) hn hV).mono fun e w' h => by
        obtain ⟨h1, u, h2, h3, _⟩ := h
        rw [hm] at h2
        exact ⟨h1, u, h2, h3 hm⟩)
    have HE := hQz (fun (u : Value) (w1 : World) (h : ItemOK u (nodeT pkT HL 200 (entries ps)) w1) (h1 : (enc (nodeT pkT HL 200 (entries ps))).length ≤ 901000) (h2 : dep (nodeT pkT HL 200 (entries ps)) ≤ 32) => encode_any u _ w1 h h1 h2)
    have hrw : rootW ps = hashN (enc (nodeT pkT HL 200 (entries ps))) := by unfold rootW; rw [if_pos hm]
    rw [hrw, hm]
    obtain ⟨it, hit⟩ : ∃ it, it = nodeT pkT HL 200 (entries ps) := ⟨_, rfl⟩
    rw [← hit] at HE HG ⊢
    clear hrw hit hv hn hV hm
    obtain ⟨L, hL⟩ : ∃ L, L = enc it := ⟨_, rfl⟩
    rw [← hL] at HE HG ⊢
    clear hL
    go_enter Tryz.func9, Tryz.ntmps9
    go_wp2_with (first
      | (refine qe3 hS rfl 32 rfl qd5 ?_; clear hS; intro w1 b1 hS)
      | (go_at_call 22; refine (HG.out _ hS.frame).mono ?_; rintro e w2 ⟨hT, u, rfl, hok, hl1, hl2⟩; have HLL := hQz hl1; replace hS := hS.call hT; clear hT)
      | (go_at_call 25; refine (HE.out u _ hok hl1 hl2).mono ?_; rintro e w3 ⟨hT, b, hb, rfl, hr⟩; replace hS := hS.call hT; clear hT hb hok hl1 hl2)
      | (go_at_call 23; refine (rsum_any _ L _ hr (by have := HLL.out; omega)).mono ?_; rintro e w4 ⟨rfl, hT⟩; replace hS := hS.call hT; clear hT hr)
      | (refine qe4 (b := b1) (c' := wf (hashN L)) hS rfl 32 _ _ rfl rfl rfl .head qb4 (qa5 _) (qa5 _) (qj1 _) ?_; clear hS; intro w5 hS))
    exact post_cell_one 2 3 32 rfl rfl rfl rfl (hS.get .head) qc7 rfl qb4 (qa5 _) ⟨rfl, hS.frame⟩
  · have HG := hQz (fun (w1 : World) (hT : Tch [] w w1) => show Calls Tryz.prog 22 #[v] w1 fun e w' => Tch [] w1 w' ∧ e = .returned (.tuple #[.nilIface, .int .i64 (mayE ps : Nat)]) from
      (tgrow_any v ps w1 (hv.tch hT) hn hV).mono fun e w' h => by
        obtain ⟨h1, u, h2, _, h4⟩ := h
        rw [h4 hm] at h2
        exact ⟨h1, h2⟩)
    have hrw : rootW ps = fun _ => 0 := by unfold rootW; rw [if_neg hm]
    rw [hrw]
    have hml : mayE ps ≤ 3 := by unfold mayE; split <;> (try split) <;> omega
    obtain ⟨m, hmm⟩ : ∃ m, m = mayE ps := ⟨_, rfl⟩
    rw [← hmm] at HG hm hml ⊢
    have hne : ((m : Int) != 0) = true := by simp; omega
    have hne2 : ((m : Int) == 0) = false := beq_eq_false_iff_ne.2 (by omega)
    have hne3 : ¬ (m : Int) = 0 := by omega
    have hne4 : ¬ m = 0 := hm
    have kb := build_word0
    clear hv hn hV hmm hrw hml
    go_enter Tryz.func9, Tryz.ntmps9
    go_wp2_with (first
      | (refine qe3 hS rfl 32 rfl qd5 ?_; clear hS; intro w1 b1 hS)
      | (go_at_call 22; refine (HG.out _ hS.frame).mono ?_; rintro e w2 ⟨hT, rfl⟩; replace hS := hS.call hT; clear hT)
      | (refine qe4 (b := b1) (c' := wf fun _ => 0) hS rfl 32 _ _ rfl rfl rfl .head qb4 (qa5 _) (qa5 _) (qj1 _) ?_; clear hS; intro w5 hS))
    exact post_cell_one 2 3 32 rfl rfl rfl rfl (hS.get .head) qc7 rfl qb4 (qa5 _) ⟨rfl, hS.frame⟩
end
end Go.Proofs.YtanmpcgackfpaaaGreat
