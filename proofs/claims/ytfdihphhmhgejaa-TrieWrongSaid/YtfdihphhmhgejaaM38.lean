/- item, with the closure that keeps: leaves and extensions. -/
import Derived.Test.YtfdihphhmhgejaaM37
import Derived.Test.YtfdihphhmhgejaaM34
import Derived.Test.YtfdihphhmhgejaaM18
import Derived.Deep.MidRow
import Derived.Lib.SliceRun
set_option linter.unusedVariables false
set_option linter.unusedSimpArgs false
namespace Go.Proofs.Ytfdihphhmhgejaa
open Go.RowKit Tr
set_option linter.unusedVariables false
set_option maxRecDepth 100000

theorem off_lt {X : List Nat} {m bf : Nat} {L : KList} {v : Value} {w : World} (hK : KN bf m L v w) (hX : OffN X m bf v w) : ∀ x ∈ zsOf bf v ++ X, x < w.heap.size := fun x hx => by
  rcases List.mem_append.1 hx with hx | hx
  · exact (hK.lt x hx).2
  · exact (hX x hx).2.1
theorem item_leafK (m bf : Nat) (wm : World) (hm : m = wm.heap.size) (b : Nat) (pv uv : Value) (p : List Nat) (u : List Nat) (hB : Blk wm b 100 #[pv, uv]) (hp : RdB wm pv p) (hu : RdB wm uv u) (hl : p.length ≤ 128) (hx : ∀ x ∈ p, x < 16) (hul : u.length ≤ 900000) :
    ItemOKN m bf wm (.iface 99 (.pointer (some ⟨b, 0, none⟩))) (.lst [.str (pkT p true), .str u]) [] := by
  intro X w L v hTm hK hX hlen
  have hA : RdA (zsOf bf v ++ X) w uv u := by
    have h0 : RdA [] wm uv u := hu.rdA0
    have h1 : RdA (zsOf bf v ++ X) wm uv u := h0.mono (fun y hy => .inr (by
      rcases List.mem_append.1 hy with hy | hy
      · have := (hK.lt y hy).1; omega
      · have := (hX y hy).1; omega))
    exact h1.tch (hTm.mono (by simp))
  refine (item_leafN (zsOf bf v ++ X) b pv uv p u _ w (hTm.blk hB (by simp)) (hp.tch hTm (by simp)) hA (off_lt hK hX) hl hx hul).mono ?_
  rintro e w' ⟨hT, t, q, n, c, r, k, d, rfl, hI⟩
  exact ⟨[], v, KStep.refl bf v hT, by rw [List.append_nil]; exact hK.call hT, rfl, _, _, _, _, _, _, _, rfl, hI⟩
theorem item_noneK (m bf : Nat) (wm : World) : ItemOKN m bf wm .nilIface (.str []) [] := by
  intro X w L v hTm hK hX hlen
  refine (item_none _ w).mono ?_
  rintro e w2 ⟨rfl, hT⟩
  refine ⟨[], v, KStep.refl bf v hT, by rw [List.append_nil]; exact hK.call hT, rfl, _, _, _, _, _, _, _, rfl, ?_⟩
  show ItC _ w2 (dep (.str []) + 1) _ _ _ (.str [])
  rw [dep_str]
  unfold ItC
  exact ⟨rfl, ⟨none, 0, rfl, Nat.le_refl _, by simp, fun h => absurd rfl h⟩, by simp⟩
set_option maxHeartbeats 4000000 in
theorem item_extN (m bf : Nat) (wm : World) (hm : m = wm.heap.size) (b : Nat) (pv uv : Value) (p : List Nat) (u : It) (es : List (List Nat)) (hB : Blk wm b 103 #[pv, uv]) (hp : RdB wm pv p) (hr : RefOKN m bf wm uv u es) (hk : uv.oneCell' = true) (hl : p.length ≤ 128) (hx : ∀ x ∈ p, x < 16) :
    ItemOKN m bf wm (.iface 101 (.pointer (some ⟨b, 0, none⟩))) (.lst [.str (pkT p false), u]) es := by
  intro X w L v hTm hK hX hlen
  have hS := St.start w
  have k1 := ta_e_l
  have k2 := ta_e_e
  have k0 := eql_node
  obtain ⟨ds, hds⟩ := item_tyS
  obtain ⟨p1, c1, rfl⟩ := hp.shape'
  have HC0 := Lib.hid (fun (w' : World) (hT : Tch [] wm w') => (hT.cell (p := ⟨b, 0, none⟩) hB.lt (by simp)).trans (hB.cell (j := 0) rfl))
  have HC1 := Lib.hid (fun (w' : World) (hT : Tch [] wm w') => (hT.cell (p := ⟨b, 1, none⟩) hB.lt (by simp)).trans (hB.cell (j := 1) rfl))
  have HP := Lib.hid (fun (Y : List Nat) (w' : World) (hT : Tch [] wm w') (hY : ∀ x ∈ Y, x < w'.heap.size) => packed_anyN Y _ p false w' (hp.tch hT (by simp)) hY hl hx)
  have HU := Lib.hid (fun (Y : List Nat) (w' : World) (hT : Tch [] wm w') (hT2 : Tch [] w w') (hY : OffN Y m bf v w') => hr Y w' L v hT (hK.call hT2) hY hlen)
  have HX := Lib.hid (And.intro hK hX)
  have HX2 := Lib.hid hm
  clear hp hr hX hl hx hK hlen hm
  generalize pkT p false = P at *
  go_enter Try.func37, Try.ntmps37
  go_upto_region 8 with (first
    | (refine st_new hS rfl 27 rfl item_zero ?_; clear hS; intro w1 b1 hS))
  have hW1 : Tch [] w w1 := hS.frame
  have hb1 : w.heap.size ≤ b1 := (hS.own .head).resolve_right (by simp)
  have hB1 := hS.get .head
  clear hS
  refine wp_region_held_drew (S := fun w' => Tch [] wm w') (by kernel_rfl) ((hTm.trans hW1).drew) (fun hC => ?_)
  have hTd : Tch [] w1 w1.drew := (Tch.refl _ _).drew
  have hW0 : Tch [] w w1.drew := hW1.drew
  generalize World.drew w1 = u0 at hC hTd hW0 ⊢
  have hB10 := hTd.blk hB1 (by simp)
  refine held_in (v := .pointer (some ⟨b, 0, none⟩)) 0 rfl (by kernel_rfl) (by kernel_rfl) (by kernel_rfl) (fun _ _ _ h => h) hC rfl (fun w' hw' => x_val (.inl rfl) rfl) ?_
  try simp only [Act.put, List.setIfInBounds_toArray, List.set_cons_zero, List.set_cons_succ]
  refine held_in (v := .pointer (some ⟨b, 0, none⟩)) 1 rfl (by kernel_rfl) (by kernel_rfl) (by kernel_rfl) (fun _ _ _ h => h) hC rfl (fun w' hw' => x_nilck _ rfl rfl) ?_
  try simp only [Act.put, List.setIfInBounds_toArray, List.set_cons_zero, List.set_cons_succ]
  refine held_in (v := .pointer (some ⟨b, 0, none⟩)) 2 rfl (by kernel_rfl) (by kernel_rfl) (by kernel_rfl) (fun _ _ _ h => h) hC rfl (fun w' hw' => x_fa _ _ _ rfl rfl (fa_ex0 _ _)) ?_
  try simp only [Act.put, List.setIfInBounds_toArray, List.set_cons_zero, List.set_cons_succ]
  refine held_in (v := .slice p1 p.length c1) 3 rfl (by kernel_rfl) (by kernel_rfl) (by kernel_rfl) (fun _ _ _ h => h) hC rfl (fun w' hw' => x_cell _ _ rfl rfl (HC0.out w' hw') bytes_agg) ?_
  try simp only [Act.put, List.setIfInBounds_toArray, List.set_cons_zero, List.set_cons_succ]
  refine held_in (v := .pointer (some ⟨b, 0, none⟩)) 5 rfl (by kernel_rfl) (by kernel_rfl) (by kernel_rfl) (fun _ _ _ h => h) hC rfl (fun w' hw' => x_val (.inl rfl) rfl) ?_
  try simp only [Act.put, List.setIfInBounds_toArray, List.set_cons_zero, List.set_cons_succ]
  refine held_in (v := .pointer (some ⟨b, 0, none⟩)) 6 rfl (by kernel_rfl) (by kernel_rfl) (by kernel_rfl) (fun _ _ _ h => h) hC rfl (fun w' hw' => x_nilck _ rfl rfl) ?_
  try simp only [Act.put, List.setIfInBounds_toArray, List.set_cons_zero, List.set_cons_succ]
  refine held_in (v := .pointer (some ⟨b, 1, none⟩)) 7 rfl (by kernel_rfl) (by kernel_rfl) (by kernel_rfl) (fun _ _ _ h => h) hC rfl (fun w' hw' => x_fa _ _ _ rfl rfl (fa_ex1 _ _)) ?_
  try simp only [Act.put, List.setIfInBounds_toArray, List.set_cons_zero, List.set_cons_succ]
  refine held_in (v := uv) 8 rfl (by kernel_rfl) (by kernel_rfl) (by kernel_rfl) (fun _ _ _ h => h) hC rfl (fun w' hw' => x_cell _ _ rfl rfl (HC1.out w' hw') tnode_agg) ?_
  try simp only [Act.put, List.setIfInBounds_toArray, List.set_cons_zero, List.set_cons_succ]
  refine held_in (v := (.func (.func 22) #[] #[.pointer (some ⟨bf, 0, none⟩)])) 9 rfl (by kernel_rfl) (by kernel_rfl) (by kernel_rfl) (fun _ _ _ h => h) hC rfl (fun w' hw' => x_val (.inl rfl) rfl) ?_
  try simp only [Act.put, List.setIfInBounds_toArray, List.set_cons_zero, List.set_cons_succ]
  have hX0 : OffN (b1 :: X) m bf v u0 := HX.out.2.cons HX.out.1 hW0 hb1 hB10.lt
  have hlt0 : ∀ x ∈ zsOf bf v ++ b1 :: X, x < u0.heap.size := off_lt (HX.out.1.call hW0) hX0
  refine held_one 4 (by kernel_rfl) ?_
  refine held_call2 (v1 := .slice p1 p.length c1) (v2 := .bool false) rfl rfl rfl (by rfl) (by rfl) Try.call57 (HP.out (zsOf bf v ++ b1 :: X) u0 hC hlt0) ?_
  rintro e u1 ⟨hT1, t1, q1, n1, d1, r1, m1, e1, rfl, hI1⟩
  have hC1 := hC.trans hT1
  have hW2 := hW0.trans hT1
  refine ⟨_, rfl, hC1, ?_⟩
  try simp only [Act.put, List.setIfInBounds_toArray, List.set_cons_zero, List.set_cons_succ]
  refine held_one 10 (by kernel_rfl) ?_
  refine held_call2 (v1 := uv) (v2 := (.func (.func 22) #[] #[.pointer (some ⟨bf, 0, none⟩)])) rfl rfl rfl (by rfl) (by rfl) Try.call59 (HU.out (b1 :: X) u1 hC1 hW2 (hX0.step (KStep.refl bf v hT1))) ?_
  rintro e u2 ⟨Ls, v1, hKS, hKN, hes, t2, q2, n2, d2, r2, m2, e2, rfl, hI2⟩
  have hC2 : Tch [] wm u2 := hC1.fresh hKS.1 (fun x hx => by have := (HX.out.1.lt x hx).1; have := HX2.out; omega)
  have hKS0 := (KStep.refl bf v hW2).trans hKS
  have hX2 : OffN (b1 :: X) m bf v1 u2 := (hX0.step (KStep.refl bf v hT1)).step hKS
  refine ⟨_, rfl, hC2, ?_⟩
  try simp only [Act.put, List.setIfInBounds_toArray, List.set_cons_zero, List.set_cons_succ]
  refine held_one 11 (by kernel_rfl) ?_
  refine held_bs2 rfl rfl rfl (by rfl) (by rfl) ?_
  have hTa : Tch [] u2 (u2.alloc (.cells #[.bool t1, .slice q1 n1 d1, .slice r1 m1 e1, .bool t2, .slice q2 n2 d2, .slice r2 m2 e2] 27)) := (Tch.refl _ _).alloc _
  have hBa := Blk.new u2 27 #[.bool t1, .slice q1 n1 d1, .slice r1 m1 e1, .bool t2, .slice q2 n2 d2, .slice r2 m2 e2]
  have hC3 := hC2.trans hTa
  refine ⟨hC3, ?_⟩
  generalize u2.alloc (.cells #[.bool t1, .slice q1 n1 d1, .slice r1 m1 e1, .bool t2, .slice q2 n2 d2, .slice r2 m2 e2] 27) = u3 at hTa hBa hC3 ⊢
  try simp only [Act.put, List.setIfInBounds_toArray, List.set_cons_zero, List.set_cons_succ]
  have hLs : ItC (zsOf bf v1 ++ b1 :: X) u3 (dep (.lst [.str P, u]) + 1) (.bool true) (.slice none 0 0) (.slice (some ⟨u2.heap.size, 0, none⟩) 2 2) (.lst [.str P, u]) := by
    refine itc_list (fun i => if i = 0 then (.bool t1, .slice q1 n1 d1, .slice r1 m1 e1) else (.bool t2, .slice q2 n2 d2, .slice r2 m2 e2)) rfl (by decide) hBa.lt (fun hm => Nat.lt_irrefl _ (off_lt hKN hX2 _ hm)) fun i hi => ?_
    match i, hi with
    | 0, _ => exact ⟨hBa.cell (j := 0) rfl, hBa.cell (j := 1) rfl, hBa.cell (j := 2) rfl, (hI1.step hKS).tch hTa.toX⟩
    | 1, _ => exact ⟨hBa.cell (j := 3) rfl, hBa.cell (j := 4) rfl, hBa.cell (j := 5) rfl, hI2.tch hTa.toX⟩
  refine held_one 12 (by kernel_rfl) ?_
  refine held_call (v1 := .slice (some ⟨u2.heap.size, 0, none⟩) 2 2) rfl rfl rfl (by rfl) Try.call56 (list_any (zsOf bf v1 ++ b1 :: X) _ _ u3 hLs) ?_
  rintro e u4 ⟨hT4, t4, q4, n4, d4, r4, m4, e4, rfl, hI4⟩
  have hC4 := hC3.trans hT4
  refine ⟨_, rfl, hC4, ?_⟩
  try simp only [Act.put, List.setIfInBounds_toArray, List.set_cons_zero, List.set_cons_succ]
  have hB12 := hKS.1.blk (hT1.blk hB10 (by simp)) ((hX0 b1 List.mem_cons_self).2.2)
  have hB14 := hT4.blk (hTa.blk hB12 (by simp)) (by simp)
  have hKN4 := (hKN.call hTa).call hT4
  refine held_one 13 (by kernel_rfl) ?_
  refine held_storeB (c' := #[.bool t4, .slice q4 n4 d4, .slice r4 m4 e4]) hB14 item_sizeT rfl rfl (item3_one _ _ _ _ _ _ _) rfl rfl rfl (by rfl) (by rfl) ?_
  intro u5 hO hB15
  have hC5 := hC4.only hO (.inl (Nat.le_trans hTm.size hb1))
  refine ⟨hC5, ?_⟩
  refine wpAnyH_done (by kernel_rfl) ?_ _
  have hKN5 := hKN4.store hB14 (NoB.item _ _ _ _ _ _ _) hO ((hX2 b1 List.mem_cons_self).2.2)
  have hKS5 : KStep bf v v1 w u5 := (hKS0.trans (KStep.refl bf v1 (hTa.trans hT4))).only hO hb1
  have hI5 := (hI4.tch (hO.tch.mono (fun x hx => .inl (by rw [List.mem_singleton] at hx; rw [hx]; exact List.mem_append_right _ List.mem_cons_self)))).mono (Y := zsOf bf v1 ++ X) (by intro y hy; refine .inl ?_; rcases List.mem_append.1 hy with hy | hy; exact List.mem_append_left _ hy; exact List.mem_append_right _ (List.mem_cons_of_mem _ hy))
  clear HC0 HC1 HP HU HX HX2 hC hC1 hC2 hC3 hC4 hTd hT1 hTa hT4 hI1 hI2 hI4 hLs hX0 hX2 hB10 hB12 hB14 hB1 hBa hO hW1 hW0 hW2 hlt0 hKS hKS0 hKN hKN4
  go_wp2
  exact post_cell 4 27 rfl rfl rfl hB15 hds rfl item_sizeT rfl ⟨Ls, v1, hKS5, hKN5, hes, _, _, _, _, _, _, _, rfl, hI5⟩

end Go.Proofs.Ytfdihphhmhgejaa

/- item, with the closure that keeps: branches. -/
namespace Go.Proofs.Ytfdihphhmhgejaa
open Go.RowKit Tr
set_option linter.unusedVariables false
set_option maxRecDepth 100000

/-- What the first d nodes below keep. -/
def esTo (es : Nat → List (List Nat)) (d : Nat) : List (List Nat) := (List.range d).flatMap es
theorem esTo_succ (es : Nat → List (List Nat)) (d : Nat) : esTo es (d + 1) = esTo es d ++ es d := by
  unfold esTo
  rw [List.range_succ, List.flatMap_append]
  simp
theorem esTo_le (es : Nat → List (List Nat)) {d : Nat} : ∀ {n : Nat}, d ≤ n → (esTo es d).length ≤ (esTo es n).length
  | 0, h => by obtain rfl : d = 0 := by omega
               exact Nat.le_refl _
  | n + 1, h => by
    rcases Nat.lt_or_ge d (n + 1) with h1 | h1
    · have := esTo_le es (d := d) (n := n) (by omega)
      rw [esTo_succ, List.length_append]; omega
    · obtain rfl : d = n + 1 := by omega
      exact Nat.le_refl _
theorem BrI.mono {X Y : List Nat} {s : Nat → It} {d : Nat} {g : Nat → Value} {w : World} (h : BrI X s d g w) (hY : ∀ y ∈ Y, y ∈ X ∨ w.heap.size ≤ y) : BrI Y s d g w := ⟨h.1, fun j hj => by
  obtain ⟨t, p, n, c, q, m, e, h1, h2, h3, h4⟩ := h.2 j hj
  exact ⟨t, p, n, c, q, m, e, h1, h2, h3, h4.mono hY⟩⟩
theorem BrI.stepK {bf : Nat} {v v' : Value} {X : List Nat} {s : Nat → It} {d : Nat} {g : Nat → Value} {w w' : World} (h : BrI (zsOf bf v ++ X) s d g w) (hK : KStep bf v v' w w') : BrI (zsOf bf v' ++ X) s d g w' := ⟨h.1, fun j hj => by
  obtain ⟨t, p, n, c, q, m, e, h1, h2, h3, h4⟩ := h.2 j hj
  exact ⟨t, p, n, c, q, m, e, h1, h2, h3, h4.step hK⟩⟩
/-- What holds of a branch's list behind d nodes. -/
def BrK (X : List Nat) (S : Nat → It) (es : Nat → List (List Nat)) (m bf bt b1 : Nat) (L : KList) (v : Value) (w : World) (d : Nat) (g : Nat → Value) (Ls : KList) (v1 : Value) (wr : World) : Prop :=
  BrI (zsOf bf v1 ++ bt :: b1 :: X) S d g wr ∧ KN bf m (L ++ Ls) v1 wr ∧ KStep bf v v1 w wr ∧ OffN (bt :: b1 :: X) m bf v1 wr ∧ Ls.map (·.1) = esTo es (min d 16)
theorem brk_wm {X : List Nat} {S : Nat → It} {es : Nat → List (List Nat)} {m bf bt b1 : Nat} {L : KList} {v : Value} {w : World} {d : Nat} {g : Nat → Value} {Ls : KList} {v1 : Value} {wr wm : World} (h : BrK X S es m bf bt b1 L v w d g Ls v1 wr) (hTm : Tch [] wm w) (hm : m = wm.heap.size) (hz : ∀ x ∈ zsOf bf v, m ≤ x ∧ x < w.heap.size) : Tch [] wm wr :=
  hTm.fresh h.2.2.1.1 (fun x hx => by have := (hz x hx).1; omega)
theorem brk_ref {X : List Nat} {S : Nat → It} {es : Nat → List (List Nat)} {m bf bt b1 : Nat} {L : KList} {v : Value} {w : World} {d : Nat} {g : Nat → Value} {Ls Ls2 : KList} {v1 v2 x0 vb vl : Value} {k : Nat} {wr w3 : World} (h : BrK X S es m bf bt b1 L v w d g Ls v1 wr) (hd : d < 16) (hKS : KStep bf v1 v2 wr w3) (hKN : KN bf m (L ++ Ls ++ Ls2) v2 w3) (hes : Ls2.map (·.1) = es d) (hI : ItC (zsOf bf v2 ++ bt :: b1 :: X) w3 k x0 vb vl (S d)) :
    BrI (zsOf bf v2 ++ bt :: b1 :: X) S d g w3 ∧ ItC (zsOf bf v2 ++ bt :: b1 :: X) w3 k x0 vb vl (S d) ∧ KN bf m (L ++ (Ls ++ Ls2)) v2 w3 ∧ KStep bf v v2 w w3 ∧ OffN (bt :: b1 :: X) m bf v2 w3 ∧ (Ls ++ Ls2).map (·.1) = esTo es (min (d + 1) 16) :=
  ⟨h.1.stepK hKS, hI, by rw [← List.append_assoc]; exact hKN, h.2.2.1.trans hKS, h.2.2.2.1.step hKS, by
    rw [List.map_append, h.2.2.2.2, hes, show min d 16 = d by omega, show min (d + 1) 16 = d + 1 by omega, esTo_succ]⟩
theorem brk_store {X : List Nat} {S : Nat → It} {es : Nat → List (List Nat)} {m bf bt b1 : Nat} {L : KList} {v : Value} {w : World} {d j : Nat} {g : Nat → Value} {Ls : KList} {v2 : Value} {t : Bool} {p q : Option Addr} {n c k e : Nat} {w3 w4 : World} (hj : j = d * 3)
    (h : BrI (zsOf bf v2 ++ bt :: b1 :: X) S d g w3 ∧ ItC (zsOf bf v2 ++ bt :: b1 :: X) w3 (dep (S d) + 1) (.bool t) (.slice p n c) (.slice q k e) (S d) ∧ KN bf m (L ++ Ls) v2 w3 ∧ KStep bf v v2 w w3 ∧ OffN (bt :: b1 :: X) m bf v2 w3 ∧ Ls.map (·.1) = esTo es (min (d + 1) 16))
    (hO : Only bt w3 w4) (hB : Blk w3 bt 114 (cf 51 g)) (hbt : w.heap.size ≤ bt) :
    BrK X S es m bf bt b1 L v w (d + 1) (fun i => if i = j then .bool t else if i = j + 1 then .slice p n c else if i = j + 2 then .slice q k e else g i) Ls v2 w4 := by
  subst hj
  have hT4 := hO.tch.mono (cs := zsOf bf v2 ++ bt :: b1 :: X) (fun x hx => .inl (by rw [List.mem_singleton] at hx; rw [hx]; exact List.mem_append_right _ List.mem_cons_self))
  refine ⟨(h.1.tch hT4).step (h.2.1.tch hT4), h.2.2.1.store hB h.1.noB hO (h.2.2.2.2.1 bt List.mem_cons_self).2.2, h.2.2.2.1.only hO hbt, fun x hx => ?_, h.2.2.2.2.2⟩
  obtain ⟨h1, h2, h3⟩ := h.2.2.2.2.1 x hx
  exact ⟨h1, by rw [hO.size]; exact h2, h3⟩
theorem brk_len {X : List Nat} {S : Nat → It} {es : Nat → List (List Nat)} {m bf bt b1 : Nat} {L : KList} {v : Value} {w : World} {d : Nat} {g : Nat → Value} {Ls : KList} {v1 : Value} {wr : World} (h : BrK X S es m bf bt b1 L v w d g Ls v1 wr) (hd : d < 16) (hl : L.length + (esTo es 16).length ≤ 50000000) : (L ++ Ls).length + (es d).length ≤ 50000000 := by
  have h1 := h.2.2.2.2
  rw [show min d 16 = d by omega] at h1
  have h2 : Ls.length = (esTo es d).length := by rw [← h1, List.length_map]
  have h3 := esTo_le es (d := d + 1) (n := 16) (by omega)
  rw [esTo_succ, List.length_append] at h3
  rw [List.length_append]; omega
theorem brk_zs {X : List Nat} {S : Nat → It} {es : Nat → List (List Nat)} {m bf bt b1 : Nat} {L : KList} {v : Value} {w : World} {d : Nat} {g : Nat → Value} {Ls : KList} {v1 : Value} {wr : World} (h : BrK X S es m bf bt b1 L v w d g Ls v1 wr) {t1 t2 : TypeId} {c1 c2 : Array Value} : ∀ e ∈ ([(bt, t1, c1), (b1, t2, c2)] : List Ent), e.1 ∉ zsOf bf v1 := fun e he => by
  rcases List.mem_cons.1 he with rfl | he
  · exact (h.2.2.2.1 _ List.mem_cons_self).2.2
  · rw [List.mem_singleton.1 he]
    exact (h.2.2.2.1 _ (List.mem_cons_of_mem _ List.mem_cons_self)).2.2
theorem off_ge {X : List Nat} {m bf : Nat} {L : KList} {v : Value} {w : World} (hK : KN bf m L v w) (hX : OffN X m bf v w) : ∀ x ∈ zsOf bf v ++ X, m ≤ x := fun x hx => by
  rcases List.mem_append.1 hx with hx | hx
  · exact (hK.lt x hx).1
  · exact (hX x hx).1
theorem brk_text {X : List Nat} {S : Nat → It} {es : Nat → List (List Nat)} {m bf bt b1 : Nat} {L : KList} {v : Value} {w : World} {g : Nat → Value} {Ls : KList} {v1 x0 vb vl : Value} {k : Nat} {wr w3 : World} (h : BrK X S es m bf bt b1 L v w 16 g Ls v1 wr) (hT : Tch [] wr w3) (hI : ItC (zsOf bf v1 ++ bt :: b1 :: X) w3 k x0 vb vl (S 16)) :
    BrI (zsOf bf v1 ++ bt :: b1 :: X) S 16 g w3 ∧ ItC (zsOf bf v1 ++ bt :: b1 :: X) w3 k x0 vb vl (S 16) ∧ KN bf m (L ++ Ls) v1 w3 ∧ KStep bf v v1 w w3 ∧ OffN (bt :: b1 :: X) m bf v1 w3 ∧ Ls.map (·.1) = esTo es (min (16 + 1) 16) :=
  ⟨h.1.tch (hT.mono (by simp)), hI, h.2.1.call hT, h.2.2.1.trans (KStep.refl bf v1 hT), h.2.2.2.1.step (KStep.refl bf v1 hT), h.2.2.2.2⟩
theorem brk_list {X : List Nat} {S : Nat → It} {es : Nat → List (List Nat)} {m bf bt b1 : Nat} {L : KList} {v : Value} {w : World} {g : Nat → Value} {Ls : KList} {v1 : Value} {wr : World} {l : List It}
    (HLS : ∀ (Y : List Nat) (g : Nat → Value) (W : World) (bt b1 : Nat), BrI (bt :: b1 :: Y) S 17 g W → Blk W bt 114 (cf 51 g) → bt ∉ b1 :: Y → ItC (b1 :: Y) W (dep (.lst l) + 1) (.bool true) (.slice none 0 0) (.slice (some ⟨bt, 0, none⟩) 17 17) (.lst l))
    (h : BrK X S es m bf bt b1 L v w (16 + 1) g Ls v1 wr) (hB : Blk wr bt 114 (cf 51 g)) (hn : bt ∉ b1 :: X) : ItC (zsOf bf v1 ++ b1 :: X) wr (dep (.lst l) + 1) (.bool true) (.slice none 0 0) (.slice (some ⟨bt, 0, none⟩) 17 17) (.lst l) := by
  have h1 : BrI (bt :: b1 :: (zsOf bf v1 ++ X)) S 17 g wr := h.1.mono (fun y hy => .inl (by
    simp only [List.mem_cons, List.mem_append] at hy ⊢
    rcases hy with h | h | h | h
    · exact .inr (.inl h)
    · exact .inr (.inr (.inl h))
    · exact .inl h
    · exact .inr (.inr (.inr h))))
  refine (HLS (zsOf bf v1 ++ X) g wr bt b1 h1 hB (fun hm => ?_)).mono (fun y hy => .inl (by
    simp only [List.mem_cons, List.mem_append] at hy ⊢
    rcases hy with h | h | h
    · exact .inr (.inl h)
    · exact .inl h
    · exact .inr (.inr h)))
  simp only [List.mem_cons, List.mem_append] at hm hn
  rcases hm with h2 | h2 | h2
  · exact hn (.inl h2)
  · exact (h.2.2.2.1 bt List.mem_cons_self).2.2 h2
  · exact hn (.inr h2)
set_option maxHeartbeats 8000000 in
theorem item_branchN (m bf : Nat) (wm : World) (hm : m = wm.heap.size) (b : Nat) (c : Nat → Value) (uv : Value) (s : Nat → It) (u : List Nat) (es : Nat → List (List Nat)) (hB : Blk wm b 117 (brC c uv)) (hu : RdB wm uv u) (hr : ∀ d, d < 16 → RefOKN m bf wm (c d) (s d) (es d)) (hul : u.length ≤ 900000) :
    ItemOKN m bf wm (.iface 113 (.pointer (some ⟨b, 0, none⟩))) (.lst ((List.range 16).map s ++ [.str u])) (esTo es 16) := by
  intro X w L v hTm hK hX hlen
  have k0 := eql_node
  have k1 := ta_b_l
  have k2 := ta_b_e
  have k3 := ta_b_b
  have k4 := fa_br0
  have k5 := fa_br1
  obtain ⟨ds, hds⟩ := item_tyS
  obtain ⟨p2, c2, rfl⟩ := hu.shape'
  obtain ⟨S, hSd, hS16⟩ : ∃ S : Nat → It, (∀ d, d < 16 → S d = s d) ∧ S 16 = .str u := ⟨fun i => if i < 16 then s i else .str u, fun d hd => if_pos hd, rfl⟩
  obtain ⟨l, hlq⟩ : ∃ l, l = (List.range 16).map s ++ [.str u] := ⟨_, rfl⟩
  have hll : l.length = 17 := by rw [hlq]; simp
  have hlS : ∀ i (h : i < l.length), l[i] = S i := by
    intro i h
    subst hlq
    rcases Nat.lt_or_ge i 16 with h16 | h16
    · rw [hSd i h16, List.getElem_append_left (by simpa using h16)]; simp
    · have : i = 16 := by omega
      subst this
      rw [hS16]; simp
  rw [← hlq]
  have HLS := Lib.hid (fun (Y : List Nat) (g : Nat → Value) (W : World) (bt b1 : Nat) (hI : BrI (bt :: b1 :: Y) S 17 g W) (hB : Blk W bt 114 (cf 51 g)) (hn : bt ∉ b1 :: Y) => branch_list hll hlS hI hB hn)
  clear hlS hll hlq
  obtain ⟨cl, hcl⟩ : ∃ cl : List Value, cl = (List.range 16).map c := ⟨_, rfl⟩
  have hcll : (Try.prog.info? 115).map (·.size) = some cl.length := by rw [hcl]; exact arr16_size
  have HL := Lib.hid (fun (w' : World) (hT : Tch [] wm w') (j : Nat) (v : Value) (hv : cl[j]? = some v) => show w'.cell? ⟨b, 0 + j, none⟩ = some v from by
    rw [hcl] at hv
    have hj : j < 16 := by
      rcases Nat.lt_or_ge j 16 with h | h
      · exact h
      · rw [List.getElem?_eq_none (by simpa using h)] at hv; cases hv
    rw [hT.cell (p := ⟨b, 0 + j, none⟩) hB.lt (by simp), Nat.zero_add]
    have e : v = c j := by simpa [hj] using hv.symm
    rw [e]
    exact hB.cell (brC_get c _ hj))
  have HIX := Lib.hid (fun (d : Nat) (hd : d < 16) (w' : World) => show (Instr.index 115 (.agg cl.toArray) (.int .i64 (d : Int))).run Try.prog w' = .ok (c d) w' from by rw [hcl]; exact index16 c hd w')
  clear hcl
  have HC := Lib.hid (fun (w' : World) (hT : Tch [] wm w') => (hT.cell (p := ⟨b, 16, none⟩) hB.lt (by simp)).trans (hB.cell (j := 16) (brC_last c _)))
  have HU := Lib.hid (fun (Y : List Nat) (w' : World) (hT : Tch [] wm w') (hY : ∀ y ∈ Y, m ≤ y) => text_anyN Y _ u w' ((hu.rdA0.mono (Y := Y) (fun y hy => .inr (by have := hY y hy; omega))).tch (hT.mono (by simp))) (by omega))
  rw [← hS16] at HU
  have HR := Lib.hid (fun (d : Nat) (hd : d < 16) => show RefOKN m bf wm (c d) (S d) (es d) from by rw [hSd d hd]; exact hr d hd)
  have HX := Lib.hid (And.intro hK hX)
  have HM := Lib.hid (And.intro hTm (And.intro hm (And.intro hK.lt hlen)))
  have hS : St [] w w [] := St.start w
  clear hu hr hX hul hB hSd hS16 hTm hK hlen hm
  go_enter Try.func37, Try.ntmps37
  go_wp2_with (first
    | (refine st_newT hS rfl 27 rfl item_zero ?_; clear hS; intro w1 b1 hS hT1 hb1; have H1 := Lib.hid (And.intro hT1 (And.intro hb1 (hS.get .head).lt)); clear hT1 hb1)
    | (refine st_newT hS rfl 114 rfl arr17_zero ?_; clear hS; intro w2 bt hS hT2 hb2; have H2 := Lib.hid (And.intro hT2 (And.intro hb2 (hS.get .head).lt)); clear hT2 hb2)
    | (refine wpList_load_mid rfl 115 _ rfl b 0 rfl cl _ (HL.out _ (HM.out.1.trans hS.frame)) arr16_ty rfl hcll ?_))
  have hX1 : OffN (b1 :: X) m bf v w1 := HX.out.2.cons HX.out.1 H1.out.1 H1.out.2.1 H1.out.2.2
  have hX2 : OffN (bt :: b1 :: X) m bf v w2 := hX1.cons (HX.out.1.call H1.out.1) H2.out.1 H2.out.2.1 H2.out.2.2
  have hK2 : KN bf m (L ++ []) v w2 := by rw [List.append_nil]; exact HX.out.1.call hS.frame
  have hS0 : St (zsOf bf v) w w2 [(bt, 114, cf 51 gz), (b1, 27, #[.bool false, .slice none 0 0, .slice none 0 0])] := ⟨hS.frame.mono (by simp), fun e he => ⟨(hS.blk e he).1, (hS.blk e he).2.imp id (by simp)⟩, hS.apart⟩
  have hbt : w.heap.size ≤ bt := (hS.own .head).resolve_right (by simp)
  have HBT := Lib.hid (And.intro hbt (show bt ∉ b1 :: X from fun hm => by
    rcases List.mem_cons.1 hm with h | h
    · exact (List.pairwise_cons.1 hS.apart).1 _ List.mem_cons_self h
    · have h1 := (HX.out.2 bt h).2.1
      omega))
  have hst : BrK X S es m bf bt b1 L v w 0 gz [] v w2 := ⟨BrI.zero _ _ _, hK2, KStep.refl bf v hS.frame, hX2, rfl⟩
  clear hS hX1 hX2 hK2 hbt
  go_loopw [59] (fun i wr => ∃ (d : Nat) (g : Nat → Value) (Ls : KList) (v1 : Value), i = .int .i64 (d : Int) ∧ d ≤ 16 ∧ St (zsOf bf v) w wr [(bt, 114, cf 51 g), (b1, 27, #[.bool false, .slice none 0 0, .slice none 0 0])] ∧ Hid (BrK X S es m bf bt b1 L v w d g Ls v1 wr)) (fun i _ => 16 - (intOf i).toNat)
  case atStart => exact ⟨0, gz, [], v, rfl, by decide, hS0, Lib.hid hst⟩
  case round =>
    clear hS0 hst
    obtain ⟨d, g, Ls, v1, rfl, hd, hS, HI⟩ := hrel
    by_cases hlt : d < 16
    · have d1 : (d : Int) < 16 := by omega
      have d0 : (0 : Int) ≤ (d : Int) := by omega
      have kx := HIX.out d hlt
      have ki := idx17 bt (d := d) (by omega)
      have HD := Lib.hid hlt
      go_wp2_with (first
        | (go_at_call 59; refine (HR.out d HD.out (bt :: b1 :: X) _ (L ++ Ls) v1 (brk_wm HI.out HM.out.1 HM.out.2.1 HM.out.2.2.1) HI.out.2.1 HI.out.2.2.2.1 (brk_len HI.out HD.out HM.out.2.2.2)).mono ?_; rintro e w3 ⟨Ls2, v2, hKS2, hKN2, hes2, t, p, n, cc, q, k, ee, rfl, hI⟩; have HI2 := Lib.hid (brk_ref HI.out HD.out hKS2 hKN2 hes2 hI); replace hS := hS.keep hKS2 HI.out.2.2.1.2 (brk_zs HI.out); clear hKS2 hKN2 hes2 hI)
        | (refine arm_store3 (hS.get .head) (by rw [cf_size]; omega) (item3_one _ _ _ _ _ _ _) rfl _ _ rfl rfl rfl ?_; intro w4 hO hB4; rw [cf_put g (by omega)] at hB4; have HI3 := Lib.hid (brk_store rfl HI2.out hO (hS.get .head) HBT.out.1); replace hS := hS.upd .head hO hB4; clear hO hB4))
      go_roundw
      case rel => exact ⟨d + 1, _, _, _, by go_num, by omega, hS, HI3⟩
      case measure => simp [intOf]; omega
    · obtain rfl : d = 16 := by omega
      have hcu := HC.out _ (brk_wm HI.out HM.out.1 HM.out.2.1 HM.out.2.2.1)
      have ki : ∀ w, (Instr.indexAt 114 (.pointer (some ⟨bt, 0, none⟩)) (.int .i64 16)).run Try.prog w = .ok (.pointer (some ⟨bt, 48, none⟩)) w := fun w => idx17 bt (d := 16) (by decide) w
      have ks := slice17
      go_wp2_with (first
        | (go_at_call 58; refine (HU.out (zsOf bf v1 ++ bt :: b1 :: X) _ (brk_wm HI.out HM.out.1 HM.out.2.1 HM.out.2.2.1) (off_ge HI.out.2.1 HI.out.2.2.2.1)).mono ?_; rintro e w3 ⟨hT, t, p, n, cc, q, k, ee, rfl, hI⟩; have HI2 := Lib.hid (brk_text HI.out hT hI); replace hS := hS.call hT; clear hT hI)
        | (refine arm_store3 (j := 48) (hS.get .head) (by rw [cf_size]; decide) (item3_one _ _ _ _ _ _ _) rfl _ _ rfl rfl rfl ?_; intro w4 hO hB4; rw [cf_put g (by decide)] at hB4; have HI3 := Lib.hid (brk_store (d := 16) rfl HI2.out hO (hS.get .head) HBT.out.1); replace hS := hS.upd .head hO hB4; clear hO hB4)
        | (go_at_call 56; refine (list_any (zsOf bf v1 ++ b1 :: X) _ l _ (brk_list HLS.out HI3.out (hS.get .head) HBT.out.2)).mono ?_; rintro e w5 ⟨hT, t5, p5, n5, c5, q5, m5, e5, rfl, hI5⟩; have HI5 := Lib.hid (And.intro hT hI5); replace hS := hS.call hT; clear hT hI5)
        | (refine st_storeO (b := b1) (c' := #[.bool t5, .slice p5 n5 c5, .slice q5 m5 e5]) hS rfl 27 _ _ rfl rfl rfl (.tail .head) item_sizeT rfl rfl (item3_one _ _ _ _ _ _ _) ?_; have hB1 := hS.get (.tail .head); clear hS; intro w6 hS hO; have HO := Lib.hid (And.intro hO hB1); clear hO hB1))
      refine st_post hS 4 27 rfl rfl rfl (.tail .head) hds rfl item_sizeT rfl (fun hT => ?_)
      exact ⟨Ls, v1, ⟨hT, HI3.out.2.2.1.2⟩, (HI3.out.2.1.call HI5.out.1).store HO.out.2 (NoB.item _ _ _ _ _ _ _) HO.out.1 (HI3.out.2.2.2.1 b1 (List.mem_cons_of_mem _ List.mem_cons_self)).2.2, HI3.out.2.2.2.2, _, _, _, _, _, _, _, rfl, (HI5.out.2.tch (HO.out.1.tch.mono (fun x hx => .inl (by rw [List.mem_singleton.1 hx]; exact List.mem_append_right _ List.mem_cons_self)))).mono (by intro y hy; refine .inl ?_; rcases List.mem_append.1 hy with hy | hy; exact List.mem_append_left _ hy; exact List.mem_append_right _ (List.mem_cons_of_mem _ hy))⟩
end Go.Proofs.Ytfdihphhmhgejaa

/- CompactFunc of nodes: its closure, its mathematics, its steps. -/
namespace Go.Proofs.Ytfdihphhmhgejaa
open Go.RowKit Tr
set_option linter.unusedVariables false
set_option maxRecDepth 100000

theorem bytes_beq (l1 l2 : List Nat) : (bytesOfN 32 (hashN l1) == bytesOfN 32 (hashN l2)) = (HL l1 == HL l2) := by
  have e : ∀ l : List Nat, (bytesOfN 32 (hashN l)).map UInt8.toNat = HL l := fun l => by
    unfold bytesOfN HL
    rw [List.map_map]
    apply List.map_congr_left
    intro i _
    simp [Function.comp, Nat.mod_eq_of_lt (outN_lt _ i)]
    exact outN_lt _ i
  by_cases h : bytesOfN 32 (hashN l1) = bytesOfN 32 (hashN l2)
  · rw [← e l1, ← e l2, h, beq_self_eq_true, beq_self_eq_true]
  · have h2 : HL l1 ≠ HL l2 := fun q => h (by
      rw [← e l1, ← e l2] at q
      exact (List.map_inj_right (fun x y hxy => UInt8.toNat_inj.1 hxy)).1 q)
    rw [beq_eq_false_iff_ne.2 h, beq_eq_false_iff_ne.2 h2]
theorem run_eql_hash2 (l1 l2 : List Nat) (w : World) : (binOp .eql 33 (.agg (wf (hashN l1))) (.agg (wf (hashN l2)))).run Try.prog w = .ok (.bool (HL l1 == HL l2)) w := by
  have := run_eql_bytes (P := Try.prog) w 33 5 32 word_type byteN_ty (fun w => sizeOf_u8 w) (bytesOfN 32 (hashN l1)) (bytesOfN 32 (hashN l2)) (by simp [bytesOfN]) (by simp [bytesOfN])
  rw [← bc_bytesN 32 (hashN l1) (fun i _ => outN_lt _ _), ← bc_bytesN 32 (hashN l2) (fun i _ => outN_lt _ _), bc_wf, bc_wf, bytes_beq] at this
  exact this
section
variable {a : Act} {w : World} {o : Oper}
theorem st_hash2 {ops : Array Oper} {rest : List Oper} {Q : Exit → Act → World → Prop} {l1 l2 : List Nat} (hgd : o.guard = none) (xo yo : Operand) (yt : TypeId) (ho : o.op = .binOp .eql 33 xo yo yt) (hxe : a.eval xo = .agg (wf (hashN l1))) (hye : a.eval yo = .agg (wf (hashN l2)))
    (h : wpList Try.prog ops Q rest (a.put o.dst (.bool (HL l1 == HL l2))) w) : wpList Try.prog ops Q (o :: rest) a w :=
  wpList_plain hgd fun K hK => by
    have := run_eql_hash2 l1 l2 w
    have hr : (execOp a.eval o).run Try.prog w = .ok (.value (.bool (HL l1 == HL l2))) w := by
      unfold execOp
      simp only [ho, hxe, hye]
      show Sem.run _ _ w = _
      simp [eqGuard, this]
    unfold Oper.wp
    rw [hr]
    exact hK _ _ h
end
theorem nd_range {W : World} {b : Nat} {t : TypeId} {cur : Array Value} {L : KList} {i : Nat} (hB : Blk W b t cur) (hc : cur.toList.take (L.length * 33) = kCells L) (hi : i < L.length) : W.rangeAt b (i * 33) (ndA (hashN L[i].1) L[i].2).toList := fun q u hu => by
  rw [Array.getElem?_toList] at hu
  have hq : q < 33 := by
    rcases Nat.lt_or_ge q 33 with h | h
    · exact h
    · rw [Array.getElem?_eq_none (by rw [ndA_size]; exact h)] at hu; cases hu
  refine hB.cell ?_
  rw [← kCells_get L i q hi hq] at hu
  have hb : i * 33 + 33 ≤ L.length * 33 := by
    have := Nat.mul_le_mul_right 33 (show i + 1 ≤ L.length from hi)
    omega
  have hb2 : i * 33 + q < L.length * 33 := by omega
  rw [← hu, ← hc, List.getElem?_take_of_lt hb2, Array.getElem?_toList]
theorem nd_rangeW {W : World} {b : Nat} {t : TypeId} {f : Nat → Nat} {v : Value} (hB : Blk W b t (ndA f v)) : W.rangeAt b 0 (wf f).toList := fun q u hu => by
  rw [Array.getElem?_toList] at hu
  have hq : q < 32 := by
    rcases Nat.lt_or_ge q 32 with h | h
    · exact h
    · rw [wf_none h] at hu; cases hu
  rw [Nat.zero_add]
  refine hB.cell ?_
  unfold ndA
  rw [Array.getElem?_append_left (by rw [wf_size]; exact hq)]
  exact hu
/-- The closure that compares. -/
theorem eqN_any (l1 l2 : List Nat) (u1 u2 : Value) (W : World) :
    Calls Try.prog 27 #[.agg (ndA (hashN l1) u1), .agg (ndA (hashN l2) u2)] W fun e w' => e = .returned (.bool (HL l1 == HL l2)) ∧ Tch [] W w' := by
  have kf := fa_nd0
  have hS := St.start W
  have hsz : (wf (hashN l1)).toList.length = 32 := by rw [Array.length_toList, wf_size]
  have hsz2 : (wf (hashN l2)).toList.length = 32 := by rw [Array.length_toList, wf_size]
  have HW := Lib.hid (And.intro hsz hsz2)
  clear hsz hsz2
  go_enter Try.func27, Try.ntmps27
  go_wp2_with (first
    | (have _g := hM1; refine st_box hS rfl 64 _ rfl rfl ?_; clear hS; intro w2 b2 hS)
    | (refine st_box hS rfl 64 _ rfl rfl ?_; clear hS; intro w1 b1 hS; have hM1 := True.intro)
    | (refine wpList_load_mid rfl 33 _ rfl b1 0 rfl (wf (hashN l1)).toList _ (nd_rangeW (hS.get (.tail .head))) word_type rfl (by rw [HW.out.1]; exact word_size) ?_)
    | (refine wpList_load_mid rfl 33 _ rfl b2 0 rfl (wf (hashN l2)).toList _ (nd_rangeW (hS.get .head)) word_type rfl (by rw [HW.out.2]; exact word_size) ?_)
    | (refine st_hash2 (l1 := l1) (l2 := l2) rfl _ _ _ rfl rfl rfl ?_))
  go_ret
  exact ⟨rfl, hS.frame⟩
/-- Is this node kept? -/
def kp (L : KList) (j : Nat) : Bool := j == 0 || !(HL (L.getD j ([], .slice none 0 0)).1 == HL (L.getD (j - 1) ([], .slice none 0 0)).1)
/-- What is kept of the first n. -/
def cmp (L : KList) (n : Nat) : KList := ((List.range n).filter (kp L)).map fun j => L.getD j ([], .slice none 0 0)
theorem cmp_succ (L : KList) (n : Nat) : cmp L (n + 1) = cmp L n ++ (if kp L n = true then [L.getD n ([], .slice none 0 0)] else []) := by
  unfold cmp
  rw [List.range_succ, List.filter_append, List.map_append]
  congr 1
  by_cases h : kp L n = true
  · simp [h]
  · simp [h]
theorem cmp_le (L : KList) (n : Nat) : (cmp L n).length ≤ n := by
  unfold cmp
  rw [List.length_map]
  exact Nat.le_trans (List.length_filter_le _ _) (by simp)
theorem cmp_all (L : KList) : ∀ n, n ≤ L.length → (∀ j, j < n → kp L j = true) → cmp L n = L.take n
  | 0, _, _ => by simp [cmp]
  | n + 1, hn, h => by
    rw [cmp_succ, cmp_all L n (by omega) (fun j hj => h j (by omega)), if_pos (h n (by omega)), List.take_add_one]
    have : L[n]? = some L[n] := List.getElem?_eq_getElem (by omega)
    rw [this, List.getD_eq_getElem?_getD, this]
    rfl
theorem cmp_mem {L : KList} {n : Nat} (hn : n ≤ L.length) : ∀ p ∈ cmp L n, p ∈ L := fun p hp => by
  unfold cmp at hp
  obtain ⟨j, hj, rfl⟩ := List.mem_map.1 hp
  have hjn : j < n := List.mem_range.1 (List.mem_filter.1 hj).1
  rw [List.getD_eq_getElem?_getD, List.getElem?_eq_getElem (by omega)]
  exact List.getElem_mem _
/-- The row, while it is compacted. -/
def CI (L : KList) (j kk : Nat) (M : KList) : Prop := M.length = L.length ∧ M.take kk = cmp L j ∧ kk = (cmp L j).length ∧ kk + 1 ≤ j ∧ ∀ i, j ≤ i + 1 → i < L.length → M[i]? = L[i]?
theorem CI.start {L : KList} {k : Nat} (hk : k < L.length) (h : ∀ j, j < k → kp L j = true) (hd : kp L k = false) : CI L (k + 1) k L := by
  have e : cmp L (k + 1) = L.take k := by rw [cmp_succ, hd, cmp_all L k (by omega) h]; simp
  refine ⟨rfl, e.symm, ?_, Nat.le_refl _, fun _ _ _ => rfl⟩
  rw [e, List.length_take]; omega
theorem CI.skip {L M : KList} {j kk : Nat} (h : CI L j kk M) (hd : kp L j = false) : CI L (j + 1) kk M := by
  obtain ⟨h1, h2, h3, h4, h5⟩ := h
  have e : cmp L (j + 1) = cmp L j := by rw [cmp_succ, hd]; simp
  exact ⟨h1, by rw [e]; exact h2, by rw [e]; exact h3, by omega, fun i hi hl => h5 i (by omega) hl⟩
theorem CI.keep {L M : KList} {j kk : Nat} (h : CI L j kk M) (hj : j < L.length) (hd : kp L j = true) : CI L (j + 1) (kk + 1) (M.set kk L[j]) := by
  obtain ⟨h1, h2, h3, h4, h5⟩ := h
  have e : cmp L (j + 1) = cmp L j ++ [L[j]] := by
    rw [cmp_succ, if_pos hd, List.getD_eq_getElem?_getD, List.getElem?_eq_getElem hj]; rfl
  refine ⟨by rw [List.length_set, h1], ?_, by rw [e, List.length_append, ← h3]; rfl, by omega, fun i hi hl => ?_⟩
  · have hkk : kk < (M.set kk L[j]).length := by rw [List.length_set]; omega
    rw [List.take_add_one, List.getElem?_eq_getElem hkk, List.getElem_set_self, List.take_set_of_le (Nat.le_refl _), h2, e]
    rfl
  · rw [List.getElem?_set_ne (by omega)]
    exact h5 i (by omega) hl
theorem kCells_append (A B : KList) : kCells (A ++ B) = kCells A ++ kCells B := by simp [kCells]
theorem kCells_set (M : KList) (k : Nat) (x : List Nat × Value) (h : k < M.length) : kCells (M.set k x) = (kCells M).take (k * 33) ++ (ndA (hashN x.1) x.2).toList ++ (kCells M).drop (k * 33 + 33) := by
  have e1 : M.set k x = M.take k ++ [x] ++ M.drop (k + 1) := by rw [List.set_eq_take_append_cons_drop, if_pos h]; simp
  have e2 : M = M.take k ++ [M[k]] ++ M.drop (k + 1) := by
    conv => lhs; rw [← List.take_append_drop k M]
    rw [List.drop_eq_getElem_cons h]; simp
  have l1 : (kCells (M.take k)).length = k * 33 := by rw [kCells_len, List.length_take, Nat.min_eq_left (by omega)]
  have l2 : (kCells (M.take k ++ [M[k]])).length = k * 33 + 33 := by rw [kCells_append, List.length_append, l1, kCells_len]; rfl
  rw [e1, kCells_append, kCells_append]
  conv => rhs; rw [e2]
  rw [kCells_append (M.take k ++ [M[k]]), List.drop_left' l2, List.append_assoc, List.take_append_of_le_length (by rw [l2]; omega), kCells_append, List.take_left' l1]
  simp [kCells]
section
variable {o : Oper} {a : Act} {ops : Array Oper} {rest : List Oper} {C : World → Prop} {Q : Act → Prop}
/-- A call of a function value. -/
theorem k_callV2 {v v1 v2 : Value} {f : FuncId} {ts : Array TypeId} {xf x1 x2 : Operand} (hw : Region.wanted o (yielded ops a.tmps) = true) (ho : o.op = .call { callee := .value xf, args := #[x1, x2], argTypes := ts }) (hxf : a.eval xf = .func (.func f) #[] #[]) (h1 : a.eval x1 = v1) (h2 : a.eval x2 = v2)
    (hf : ∀ args w, (callFunc f args).run Try.prog w = .ok (.enter f args) w) (hc : ∀ w, C w → Calls Try.prog f #[v1, v2] w fun e w' => e = .returned v ∧ C w')
    (h : KQ ops C Q rest (a.put o.dst v)) : KQ ops C Q (o :: rest) a := by
  constructor
  unfold wpQuiet
  rw [if_pos hw]
  refine ⟨v, fun w hC => ?_, h.go⟩
  have hr : (execOp a.eval o).run Try.prog w = .ok (.enter f #[v1, v2]) w := by
    unfold execOp; simp [ho, resolve, invoke, h1, h2, hf, hxf, Deferred.ofValue]
  unfold Oper.quietAt
  rw [hr]
  exact ⟨rfl, hc w hC⟩
theorem k_idxNj {g n c i q : Nat} (hw : Region.wanted o (yielded ops a.tmps) = true) (x y : Operand) (ho : o.op = .indexAddr 44 x y) (hx : a.eval x = .slice (some ⟨g, q, none⟩) n c) (hy : a.eval y = .int .i64 (i : Int)) (hn : i < n)
    (h : KQ ops C Q rest (a.put o.dst (.pointer (some ⟨g, q + i * 33, none⟩)))) : KQ ops C Q (o :: rest) a :=
  k_pure hw (fun w => by
    have hadd : (⟨g, q, none⟩ : Addr).add (i * 33) = ⟨g, q + i * 33, none⟩ := by unfold Addr.add; split <;> simp_all
    have hsz : (Try.prog.info? 64).map (·.size) = some 33 := by kernel_rfl
    have hr : (Instr.indexAt 44 (.slice (some ⟨g, q, none⟩) n c) (.int .i64 (i : Int))).run Try.prog w = .ok (.pointer (some ⟨g, q + i * 33, none⟩)) w := by
      simp [Instr.indexAt, run_underlying nodes_ty, Instr.sureAddr, asIntOf, sizeOf_one hsz, hn, hadd]
    unfold execOp
    simp only [ho, hx, hy, Sem.run_bind, hr, Result.andThen_ok, Sem.run_pure]) h
theorem k_loadN {b i : Nat} {f : Nat → Nat} {v : Value} (hw : Region.wanted o (yielded ops a.tmps) = true) (x : Operand) (ho : o.op = .load 64 x) (hx : a.eval x = .pointer (some ⟨b, i, none⟩)) (hc : ∀ w, C w → w.rangeAt b i (ndA f v).toList)
    (h : KQ ops C Q rest (a.put o.dst (.agg (ndA f v)))) : KQ ops C Q (o :: rest) a :=
  k_in hw (fun w hC => by
    obtain ⟨d, hd, hr0⟩ : ∃ d, Try.prog.underlying 64 = some d ∧ d.isRow = true := by
      obtain ⟨d, hd⟩ : ∃ d, Try.prog.underlying 64 = some (.struct d) := struct_of (by kernel_rfl)
      exact ⟨_, hd, rfl⟩
    have hr := run_loadAt_mid (P := Try.prog) w b i 64 (ndA f v).toList d (hc w hC) hd hr0 (by rw [Array.length_toList, ndA_size]; kernel_rfl)
    unfold execOp
    simp only [ho, hx, Sem.run_bind, hr, Result.andThen_ok, Sem.run_pure, Array.toArray_toList]) h
end
end Go.Proofs.Ytfdihphhmhgejaa
