/- grow, with the tree that it answers. -/
import Derived.Test.YtfdihphhmhgejaaM34
import Derived.Test.YtfdihphhmhgejaaM32
import Derived.Deep.AppendLies
set_option linter.unusedVariables false
set_option linter.unusedSimpArgs false
namespace Go.Proofs.Ytfdihphhmhgejaa
open Go.RowKit Tr

/-- A tree of these pairs in memory. -/
def TreeOf (ps : List En) (w : World) (u : Value) : Prop := ∃ B T m, TreeV B w T u ∧ WT T ∧ T = buildT 200 m ∧ itemT pkT HL T = nodeT pkT HL 200 (entries ps) ∧ (entries ps).Perm m ∧ Sorted m
/-- What grow answers, the tree told. -/
def TTreePost (ps : List En) (w : World) (e : Ending) (w' : World) : Prop :=
  Tch [] w w' ∧ ∃ u, e = .returned (.tuple #[u, .int .i64 (mayE ps : Nat)]) ∧ (mayE ps = 0 → TreeOf ps w' u) ∧ (mayE ps ≠ 0 → u = .nilIface)
set_option maxHeartbeats 2000000 in
set_option maxRecDepth 100000 in
theorem tgrow_tree (v : Value) (ps : List En) (w : World) (hv : PairsAt w v ps) (hn : ps.length ≤ 4611686018427387904) (hV : mayE ps = 0 → ∀ p ∈ ps, p.2.length ≤ 900000) :
    Calls Try.prog 17 #[v] w (TTreePost ps w) := by
  have HTL := Lib.hid (tooLong_any v ps w hv hn)
  by_cases hlong : 100000 < ps.length ∨ ps.any longP = true
  · have hm : mayE ps = 3 := by unfold mayE; rw [if_pos hlong]
    have hb : (decide (100000 < ps.length) || ps.any longP) = true := by
      rcases hlong with h | h
      · rw [decide_eq_true h, Bool.true_or]
      · rw [h, Bool.or_true]
    rw [hb] at HTL
    have HF := Lib.hid hm
    clear hV hb hlong hm hv hn
    go_enter Try.func17, Try.ntmps17
    go_wp2_with (go_at_call 29; refine HTL.out.mono ?_; rintro e w1 ⟨rfl, hT⟩)
    go_ret2
    exact ⟨hT, .nilIface, by rw [HF.out]; rfl, fun h => (by rw [HF.out] at h; cases h), fun _ => rfl⟩
  · have hb : (decide (100000 < ps.length) || ps.any longP) = false := by
      have h1 : ¬ 100000 < ps.length := fun h => hlong (.inl h)
      have h2 : ps.any longP = false := by
        cases hq : ps.any longP with
        | false => rfl
        | true => exact absurd (.inr hq) hlong
      rw [decide_eq_false h1, h2]; rfl
    rw [hb] at HTL
    have hn1 : ps.length ≤ 100000 := Decidable.byContradiction fun h => hlong (.inl (by omega))
    have hk : ∀ p ∈ ps, p.1.length ≤ 64 := fun p hp => Decidable.byContradiction fun h => hlong (.inr (List.any_eq_true.2 ⟨p, hp, by unfold longP; rw [decide_eq_true (by omega), Bool.true_or]⟩))
    have hm : mayE ps = if Empty' ps = true ∨ ¬ Apart ps then 1 else 0 := by unfold mayE; rw [if_neg hlong]
    have HSO := Lib.hid (fun (w1 : World) (hT : Tch [] w w1) => (sorted_any v ps w1 (hv.tch hT) hn1 hk).mono fun e w' h => h.pairs)
    have hlt := hv.lt
    have hfacts : ∀ m : List En, (entries ps).Perm m → m.Pairwise (fun x y => ¬ lt y.1 x.1) → m.length = ps.length ∧ m.any noValue = Empty' ps ∧ (twB m = false ↔ Apart ps) := fun m hp hs =>
      ⟨by rw [← hp.length_eq]; simp [entries], by rw [← entries_any]; exact (hp.any_eq).symm, by rw [twB_unlike]; exact unlike_iff hp hs⟩
    have HFA := Lib.hid (And.intro hfacts hn1)
    have HEM := Lib.hid (fun (m : List En) (v' : Value) (w1 : World) (hp : (entries ps).Perm m) (hs : m.Pairwise (fun x y => ¬ lt y.1 x.1)) (hv' : PairsAt w1 v' m) => hasEmpty_any v' m w1 hv' (by rw [(hfacts m hp hs).1]; omega))
    have HTW := Lib.hid (fun (m : List En) (v' : Value) (w1 : World) (hp : (entries ps).Perm m) (hs : m.Pairwise (fun x y => ¬ lt y.1 x.1)) (hv' : PairsAt w1 v' m) => hasTwice_any v' m w1 hv' (by rw [(hfacts m hp hs).1]; omega))
    by_cases he : Empty' ps = true
    · rw [if_pos (.inl he)] at hm
      have HF := Lib.hid (And.intro hm he)
      clear hV hb hlong hm hv hn hfacts he hn1 hk hlt
      go_enter Try.func17, Try.ntmps17
      go_wp2_with (first
        | (go_at_call 29; refine HTL.out.mono ?_; rintro e w1 ⟨rfl, hT⟩)
        | (go_at_call 30; refine (HSO.out _ hT).mono ?_; rintro e w2 ⟨hT2, m, v', hp, hs, rfl, hv'⟩; have HM := Lib.hid (And.intro hp hs); clear hp hs; replace hT := hT.trans hT2; clear hT2)
        | (go_at_call 31; refine (HEM.out m v' _ HM.out.1 HM.out.2 hv').mono ?_; rintro e w3 ⟨rfl, hT3⟩; replace hT := hT.trans hT3; clear hT3; rw [(HFA.out.1 m HM.out.1 HM.out.2).2.1, HF.out.2]))
      go_ret2
      exact ⟨hT, .nilIface, by rw [HF.out.1]; rfl, fun h => (by rw [HF.out.1] at h; cases h), fun _ => rfl⟩
    · have he' : Empty' ps = false := by
        cases hq : Empty' ps with
        | false => rfl
        | true => exact absurd hq he
      by_cases ha : Apart ps
      · rw [if_neg (fun q => q.elim he (fun h => h ha))] at hm
        have HBU := Lib.hid (fun (m : List En) (v' : Value) (w1 : World) (hp : (entries ps).Perm m) (hs : m.Pairwise (fun x y => ¬ lt y.1 x.1)) (hv' : PairsAt w1 v' m) => show Calls Try.prog 33 #[v', .int .i64 0] w1 fun e w' => Tch [] w1 w' ∧ ∃ u, e = .returned u ∧ TreeOf ps w' u from by
          have hso : Sorted m := sorted_of hs ((unlike_iff hp hs).2 ha)
          have hmem : ∀ e ∈ m, e.1.length ≤ 128 ∧ (∀ x ∈ e.1, x < 16) ∧ e.2.length ≤ 900000 := fun e hem => by
            obtain ⟨p, hpp, rfl⟩ := List.mem_map.1 (hp.symm.mem_iff.1 hem)
            have h1 := hk p hpp
            have h2 := nibT_len p.1
            exact ⟨by show (nibT p.1).length ≤ 128; omega, nibT_lt (hlt p hpp).1, hV hm p hpp⟩
          have hg : GoodE 0 m := ⟨by rw [(hfacts m hp hs).1]; exact hn1, fun e hem => ⟨Nat.zero_le _, (hmem e hem).1, (hmem e hem).2.1⟩, by rw [rests_zero]; exact hso⟩
          have hlo : longest (rests 0 m) < 200 := by
            rw [rests_zero]
            have := longest_le.2 (fun e hem => (hmem e hem).1)
            omega
          refine (build_all 200 v' m 0 w1 hv' hg (by decide) hlo).mono ?_
          rintro e w2 ⟨hT, u, rfl, hTV⟩
          rw [rests_zero] at hTV
          have hWT := build_WT 200 m hmem
          have hit : itemT pkT HL (buildT 200 m) = nodeT pkT HL 200 (entries ps) := by
            rw [item_build pkT HL 200 m hso]
            exact (nodeT_perm pkT HL 200 _ _ (hso.apart.perm hp.symm) hp).symm
          exact ⟨hT, u, rfl, _, _, m, hTV, hWT, rfl, hit, hp, hso⟩)
        have HF := Lib.hid (And.intro hm (And.intro he' ha))
        clear hV hb hlong hm hv hn hfacts he he' hn1 hk hlt ha
        go_enter Try.func17, Try.ntmps17
        go_wp2_with (first
          | (go_at_call 29; refine HTL.out.mono ?_; rintro e w1 ⟨rfl, hT⟩)
          | (go_at_call 30; refine (HSO.out _ hT).mono ?_; rintro e w2 ⟨hT2, m, v', hp, hs, rfl, hv'⟩; have HM := Lib.hid (And.intro hp hs); clear hp hs; replace hT := hT.trans hT2; clear hT2)
          | (go_at_call 31; refine (HEM.out m v' _ HM.out.1 HM.out.2 hv').mono ?_; rintro e w3 ⟨rfl, hT3⟩; replace hv' := hv'.tch hT3; replace hT := hT.trans hT3; clear hT3; rw [(HFA.out.1 m HM.out.1 HM.out.2).2.1, HF.out.2.1])
          | (go_at_call 32; refine (HTW.out m v' _ HM.out.1 HM.out.2 hv').mono ?_; rintro e w4 ⟨rfl, hT4⟩; replace hv' := hv'.tch hT4; replace hT := hT.trans hT4; clear hT4; rw [(HFA.out.1 m HM.out.1 HM.out.2).2.2.2 HF.out.2.2])
          | (go_at_call 33; refine (HBU.out m v' _ HM.out.1 HM.out.2 hv').mono ?_; rintro e w5 ⟨hT5, u, rfl, hfin⟩; replace hT := hT.trans hT5; clear hT5))
        go_ret2
        exact ⟨hT, u, by rw [HF.out.1]; rfl, fun _ => hfin, fun h => absurd HF.out.1 h⟩
      · rw [if_pos (.inr ha)] at hm
        have HF := Lib.hid (And.intro hm (And.intro he' ha))
        clear hV hb hlong hm hv hn hfacts he he' hn1 hk hlt ha
        go_enter Try.func17, Try.ntmps17
        go_wp2_with (first
          | (go_at_call 29; refine HTL.out.mono ?_; rintro e w1 ⟨rfl, hT⟩)
          | (go_at_call 30; refine (HSO.out _ hT).mono ?_; rintro e w2 ⟨hT2, m, v', hp, hs, rfl, hv'⟩; have HM := Lib.hid (And.intro hp hs); clear hp hs; replace hT := hT.trans hT2; clear hT2)
          | (go_at_call 31; refine (HEM.out m v' _ HM.out.1 HM.out.2 hv').mono ?_; rintro e w3 ⟨rfl, hT3⟩; replace hv' := hv'.tch hT3; replace hT := hT.trans hT3; clear hT3; rw [(HFA.out.1 m HM.out.1 HM.out.2).2.1, HF.out.2.1])
          | (go_at_call 32; refine (HTW.out m v' _ HM.out.1 HM.out.2 hv').mono ?_; rintro e w4 ⟨rfl, hT4⟩; replace hT := hT.trans hT4; clear hT4; rw [show twB m = true from by cases hq : twB m with | true => rfl | false => exact absurd ((HFA.out.1 m HM.out.1 HM.out.2).2.2.1 hq) HF.out.2.2]))
        go_ret2
        exact ⟨hT, .nilIface, by rw [HF.out.1]; rfl, fun h => (by rw [HF.out.1] at h; cases h), fun _ => rfl⟩
end Go.Proofs.Ytfdihphhmhgejaa

/- text, packed and item's leaf, of any closure; what is answered lies off given blocks. -/
namespace Go.Proofs.Ytfdihphhmhgejaa
open Go.RowKit Tr

theorem RdA.freshX {X : List Nat} {w w1 : World} {v : Value} {l : List Nat} {b : Nat} (h : RdA X w v l) (hT : Tch [] w w1) (hb : w.heap.size ≤ b) : RdA (b :: X) w1 v l := by
  obtain ⟨p, c, h1, h2, h3, h4⟩ := h
  refine ⟨p, c, h1, h2, h3, fun hl => ?_⟩
  obtain ⟨b', o, h5, h6, h7, h8⟩ := h4 hl
  exact ⟨b', o, h5, Nat.lt_of_lt_of_le h6 hT.size, fun hm => (List.mem_cons.1 hm).elim (fun e => by omega) h7, fun i hi => by rw [hT.cell (p := ⟨b', o + i, none⟩) h6 (by simp)]; exact h8 i hi⟩
theorem lt_cons {X Z : List Nat} {w w1 : World} {b : Nat} (h : ∀ x ∈ X, x < w.heap.size) (hT : Tch Z w w1) (hb : b < w1.heap.size) : ∀ x ∈ b :: X, x < w1.heap.size := fun x hx => by
  rcases List.mem_cons.1 hx with rfl | hx
  · exact hb
  · exact Nat.lt_of_lt_of_le (h x hx) hT.size
theorem text_anyN (X : List Nat) (v : Value) (l : List Nat) (w : World) (hv : RdA X w v l) (hl : l.length < 4611686018427387904) : Calls Try.prog 58 #[v] w (ItemPost X (.str l) w) := by
  have hS := St.start w
  have kb := build_text
  obtain ⟨p, c, rfl⟩ := hv.rdB.shape'
  have HV := Lib.hid (And.intro hv hl)
  clear hv hl
  go_enter Try.func58, Try.ntmps58
  go_wp2_with (first
    | (refine st_new hS rfl 27 rfl item_zero ?_; clear hS; intro w1 b1 hS)
    | (refine st_store (b := b1) (c' := #[.bool false, .slice p l.length c, .slice none 0 0]) hS rfl 27 _ _ rfl rfl rfl .head item_sizeT rfl rfl (item3_one _ _ _ _ _ _ _) ?_; clear hS; intro w2 hS))
  obtain ⟨d, hd⟩ := item_tyS
  refine st_post hS 2 27 rfl rfl rfl .head hd rfl item_sizeT rfl (fun hT => ⟨hT, _, _, _, _, _, _, _, rfl, ?_⟩)
  rw [dep_str]
  unfold ItC
  exact ⟨rfl, HV.out.1.tch hT.toX, HV.out.2⟩
theorem packed_anyN (X : List Nat) (v : Value) (l : List Nat) (leaf : Bool) (w : World) (hv : RdB w v l) (hX : ∀ x ∈ X, x < w.heap.size) (hl : l.length ≤ 128) (hx : ∀ x ∈ l, x < 16) : Calls Try.prog 57 #[v, .bool leaf] w (ItemPost X (.str (pkT l leaf)) w) := by
  have hS := St.start w
  have HP := Lib.hid (fun (w' : World) (hT : Tch [] w w') => (Pack_new v l leaf w' (by omega) (hv.tch hT (by simp)).rdA0))
  rw [packL_T leaf hx] at HP
  have hlen := pkT_len l leaf
  have HL := Lib.hid (And.intro (show (pkT l leaf).length < 4611686018427387904 by omega) hX)
  clear hlen hv hl hx hX
  generalize pkT l leaf = L at *
  go_enter Try.func57, Try.ntmps57
  go_wp2_with (first
    | (refine st_new hS rfl 27 rfl item_zero ?_; clear hS; intro w1 b1 hS)
    | (go_at_call 78; refine (HP.out _ hS.frame).mono ?_; rintro e w2 ⟨⟨hT, u, rfl, _⟩, hnew⟩; have hu := hnew u _ rfl (b1 :: X) (lt_cons HL.out.2 hS.frame (hS.get .head).lt); clear hnew; replace hS := hS.call hT; clear hT)
    | (go_at_call 58; refine (text_anyN (b1 :: X) u L _ hu HL.out.1).mono ?_; rintro e w3 ⟨hT, t, p, n, c, q, m, d, rfl, hI⟩; replace hS := hS.call hT; clear hT)
    | (refine st_storeO (b := b1) (c' := #[.bool t, .slice p n c, .slice q m d]) hS rfl 27 _ _ rfl rfl rfl .head item_sizeT rfl rfl (item3_one _ _ _ _ _ _ _) ?_; clear hS; intro w4 hS hO; replace hI := hI.tch (Tch.mono (cs := b1 :: X) hO.tch (fun x hx => .inl (by rw [List.mem_singleton] at hx; rw [hx]; exact List.mem_cons_self)))))
  obtain ⟨d', hd⟩ := item_tyS
  exact st_post hS 4 27 rfl rfl rfl .head hd rfl item_sizeT rfl (fun hT => ⟨hT, _, _, _, _, _, _, _, rfl, hI.mono (by intro y hy; exact .inl (List.mem_cons_of_mem _ hy))⟩)

set_option maxHeartbeats 4000000 in
set_option maxRecDepth 100000 in
theorem item_leafN (X : List Nat) (b : Nat) (pv uv : Value) (p : List Nat) (u : List Nat) (fv : Value) (w : World) (hB : Blk w b 100 #[pv, uv]) (hp : RdB w pv p) (hu : RdA X w uv u) (hX : ∀ x ∈ X, x < w.heap.size) (hl : p.length ≤ 128) (hx : ∀ x ∈ p, x < 16) (hul : u.length ≤ 900000) :
    Calls Try.prog 37 #[.iface 99 (.pointer (some ⟨b, 0, none⟩)), fv] w (ItemPost X (.lst [.str (pkT p true), .str u]) w) := by
  have hS := St.start w
  have k1 := ta_l_l
  have k0 := eql_node
  obtain ⟨ds, hds⟩ := item_tyS
  obtain ⟨p1, c1, rfl⟩ := hp.shape'
  obtain ⟨p2, c2, rfl⟩ := hu.rdB.shape'
  have HC0 := Lib.hid (fun (w' : World) (hT : Tch [] w w') => (hT.cell (p := ⟨b, 0, none⟩) hB.lt (by simp)).trans (hB.cell (j := 0) rfl))
  have HC1 := Lib.hid (fun (w' : World) (hT : Tch [] w w') => (hT.cell (p := ⟨b, 1, none⟩) hB.lt (by simp)).trans (hB.cell (j := 1) rfl))
  have HP := Lib.hid (fun (Y : List Nat) (w' : World) (hT : Tch [] w w') (hY : ∀ x ∈ Y, x < w'.heap.size) => packed_anyN Y _ p true w' (hp.tch hT (by simp)) hY hl hx)
  have HU := Lib.hid (fun (b1 : Nat) (w' : World) (hT : Tch [] w w') (hb : w.heap.size ≤ b1) => text_anyN (b1 :: X) _ u w' (hu.freshX hT hb) (by omega))
  have HX := Lib.hid hX
  clear hp hu hX hl hx hul
  generalize pkT p true = P at *
  go_enter Try.func37, Try.ntmps37
  go_upto_region 5 with (first
    | (refine st_new hS rfl 27 rfl item_zero ?_; clear hS; intro w1 b1 hS))
  have hW1 : Tch [] w w1 := hS.frame
  have hb1 : w.heap.size ≤ b1 := (hS.own .head).resolve_right (by simp)
  have hB1 := hS.get .head
  clear hS
  refine wp_region_held_drew (S := fun w' => Tch [] w w') (by kernel_rfl) (hW1.drew) (fun hC => ?_)
  have hTd : Tch [] w1 w1.drew := (Tch.refl _ _).drew
  generalize World.drew w1 = u0 at hC hTd ⊢
  have hB10 := hTd.blk hB1 (by simp)
  refine held_in (v := .pointer (some ⟨b, 0, none⟩)) 0 rfl (by kernel_rfl) (by kernel_rfl) (by kernel_rfl) (fun _ _ _ h => h) hC rfl (fun w' hw' => x_val (.inl rfl) rfl) ?_
  try simp only [Act.put, List.setIfInBounds_toArray, List.set_cons_zero, List.set_cons_succ]
  refine held_in (v := .pointer (some ⟨b, 0, none⟩)) 1 rfl (by kernel_rfl) (by kernel_rfl) (by kernel_rfl) (fun _ _ _ h => h) hC rfl (fun w' hw' => x_nilck _ rfl rfl) ?_
  try simp only [Act.put, List.setIfInBounds_toArray, List.set_cons_zero, List.set_cons_succ]
  refine held_in (v := .pointer (some ⟨b, 0, none⟩)) 2 rfl (by kernel_rfl) (by kernel_rfl) (by kernel_rfl) (fun _ _ _ h => h) hC rfl (fun w' hw' => x_fa _ _ _ rfl rfl (fa_lf0 _ _)) ?_
  try simp only [Act.put, List.setIfInBounds_toArray, List.set_cons_zero, List.set_cons_succ]
  refine held_in (v := .slice p1 p.length c1) 3 rfl (by kernel_rfl) (by kernel_rfl) (by kernel_rfl) (fun _ _ _ h => h) hC rfl (fun w' hw' => x_cell _ _ rfl rfl (HC0.out w' hw') bytes_agg) ?_
  try simp only [Act.put, List.setIfInBounds_toArray, List.set_cons_zero, List.set_cons_succ]
  refine held_in (v := .pointer (some ⟨b, 0, none⟩)) 5 rfl (by kernel_rfl) (by kernel_rfl) (by kernel_rfl) (fun _ _ _ h => h) hC rfl (fun w' hw' => x_val (.inl rfl) rfl) ?_
  try simp only [Act.put, List.setIfInBounds_toArray, List.set_cons_zero, List.set_cons_succ]
  refine held_in (v := .pointer (some ⟨b, 0, none⟩)) 6 rfl (by kernel_rfl) (by kernel_rfl) (by kernel_rfl) (fun _ _ _ h => h) hC rfl (fun w' hw' => x_nilck _ rfl rfl) ?_
  try simp only [Act.put, List.setIfInBounds_toArray, List.set_cons_zero, List.set_cons_succ]
  refine held_in (v := .pointer (some ⟨b, 1, none⟩)) 7 rfl (by kernel_rfl) (by kernel_rfl) (by kernel_rfl) (fun _ _ _ h => h) hC rfl (fun w' hw' => x_fa _ _ _ rfl rfl (fa_lf1 _ _)) ?_
  try simp only [Act.put, List.setIfInBounds_toArray, List.set_cons_zero, List.set_cons_succ]
  refine held_in (v := .slice p2 u.length c2) 8 rfl (by kernel_rfl) (by kernel_rfl) (by kernel_rfl) (fun _ _ _ h => h) hC rfl (fun w' hw' => x_cell _ _ rfl rfl (HC1.out w' hw') bytes_agg) ?_
  try simp only [Act.put, List.setIfInBounds_toArray, List.set_cons_zero, List.set_cons_succ]
  have hX0 := lt_cons HX.out hC hB10.lt
  refine held_one 4 (by kernel_rfl) ?_
  refine held_call2 (v1 := .slice p1 p.length c1) (v2 := .bool true) rfl rfl rfl (by rfl) (by rfl) Try.call57 (HP.out (b1 :: X) u0 hC hX0) ?_
  rintro e u1 ⟨hT1, t1, q1, n1, d1, r1, m1, e1, rfl, hI1⟩
  have hC1 := hC.trans hT1
  refine ⟨_, rfl, hC1, ?_⟩
  try simp only [Act.put, List.setIfInBounds_toArray, List.set_cons_zero, List.set_cons_succ]
  refine held_one 9 (by kernel_rfl) ?_
  refine held_call (v1 := .slice p2 u.length c2) rfl rfl rfl (by rfl) Try.call58 (HU.out b1 u1 hC1 hb1) ?_
  rintro e u2 ⟨hT2, t2, q2, n2, d2, r2, m2, e2, rfl, hI2⟩
  have hC2 := hC1.trans hT2
  refine ⟨_, rfl, hC2, ?_⟩
  try simp only [Act.put, List.setIfInBounds_toArray, List.set_cons_zero, List.set_cons_succ]
  refine held_one 10 (by kernel_rfl) ?_
  refine held_bs2 rfl rfl rfl (by rfl) (by rfl) ?_
  have hTa : Tch [] u2 (u2.alloc (.cells #[.bool t1, .slice q1 n1 d1, .slice r1 m1 e1, .bool t2, .slice q2 n2 d2, .slice r2 m2 e2] 27)) := (Tch.refl _ _).alloc _
  have hBa := Blk.new u2 27 #[.bool t1, .slice q1 n1 d1, .slice r1 m1 e1, .bool t2, .slice q2 n2 d2, .slice r2 m2 e2]
  have hC3 := hC2.trans hTa
  refine ⟨hC3, ?_⟩
  generalize u2.alloc (.cells #[.bool t1, .slice q1 n1 d1, .slice r1 m1 e1, .bool t2, .slice q2 n2 d2, .slice r2 m2 e2] 27) = u3 at hTa hBa hC3 ⊢
  try simp only [Act.put, List.setIfInBounds_toArray, List.set_cons_zero, List.set_cons_succ]
  have hLs : ItC (b1 :: X) u3 (dep (.lst [.str P, .str u]) + 1) (.bool true) (.slice none 0 0) (.slice (some ⟨u2.heap.size, 0, none⟩) 2 2) (.lst [.str P, .str u]) := by
    refine itc_list (fun i => if i = 0 then (.bool t1, .slice q1 n1 d1, .slice r1 m1 e1) else (.bool t2, .slice q2 n2 d2, .slice r2 m2 e2)) rfl (by decide) hBa.lt (fun hm => Nat.lt_irrefl _ (Nat.lt_of_lt_of_le (hX0 _ hm) (hT1.trans hT2).size)) fun i hi => ?_
    match i, hi with
    | 0, _ => exact ⟨hBa.cell (j := 0) rfl, hBa.cell (j := 1) rfl, hBa.cell (j := 2) rfl, (hI1.tch hT2.toX).tch hTa.toX⟩
    | 1, _ => exact ⟨hBa.cell (j := 3) rfl, hBa.cell (j := 4) rfl, hBa.cell (j := 5) rfl, hI2.tch hTa.toX⟩
  refine held_one 11 (by kernel_rfl) ?_
  refine held_call (v1 := .slice (some ⟨u2.heap.size, 0, none⟩) 2 2) rfl rfl rfl (by rfl) Try.call56 (list_any (b1 :: X) _ _ u3 hLs) ?_
  rintro e u4 ⟨hT4, t4, q4, n4, d4, r4, m4, e4, rfl, hI4⟩
  have hC4 := hC3.trans hT4
  refine ⟨_, rfl, hC4, ?_⟩
  try simp only [Act.put, List.setIfInBounds_toArray, List.set_cons_zero, List.set_cons_succ]
  have hB14 := hT4.blk (hTa.blk (hT2.blk (hT1.blk hB10 (by simp)) (by simp)) (by simp)) (by simp)
  refine held_one 12 (by kernel_rfl) ?_
  refine held_storeB (c' := #[.bool t4, .slice q4 n4 d4, .slice r4 m4 e4]) hB14 item_sizeT rfl rfl (item3_one _ _ _ _ _ _ _) rfl rfl rfl (by rfl) (by rfl) ?_
  intro u5 hO hB15
  have hC5 := hC4.only hO (.inl hb1)
  refine ⟨hC5, ?_⟩
  refine wpAnyH_done (by kernel_rfl) ?_ _
  have hI5 := (hI4.tch (hO.tch.mono (fun x hx => .inl (by rw [List.mem_singleton] at hx; rw [hx]; exact List.mem_cons_self)))).mono (Y := X) (by intro y hy; exact .inl (List.mem_cons_of_mem _ hy))
  clear HC0 HC1 HP HU HX hC hC1 hC2 hC3 hC4 hTd hT1 hT2 hTa hT4 hI1 hI2 hI4 hLs hX0 hB10 hB14 hB1 hBa hO hW1
  go_wp2
  exact post_cell 4 27 rfl rfl rfl hB15 hds rfl item_sizeT rfl ⟨hC5, _, _, _, _, _, _, _, rfl, hI5⟩
end Go.Proofs.Ytfdihphhmhgejaa

/- What trie.Nodes keeps: the closure that hashes, and keeps what it hashed. -/
namespace Go.Proofs.Ytfdihphhmhgejaa
open Go.RowKit Tr
set_option linter.unusedVariables false
set_option maxRecDepth 100000

/-- A node's cells: its hash, and its bytes. -/
def ndA (f : Nat → Nat) (v : Value) : Array Value := wf f ++ #[v]
theorem ndA_size (f : Nat → Nat) (v : Value) : (ndA f v).size = 33 := by simp [ndA, wf_size]
theorem ndA_one (f : Nat → Nat) {v : Value} (hv : v.oneCell' = true) : (ndA f v).all (·.oneCell') = true := by
  unfold ndA
  rw [Array.all_append, wf_one]
  simp [hv]
/-- Nodes in a row. -/
abbrev KList := List (List Nat × Value)
def kCells (L : KList) : List Value := L.flatMap fun p => (ndA (hashN p.1) p.2).toList
/-- The blocks that the closure turns: the variable's own, and the row's. -/
def zsOf (bf : Nat) (v : Value) : List Nat := bf :: v.ownBlock.toList
/-- What was kept so far. -/
def KN (bf m : Nat) (L : KList) (v : Value) (w : World) : Prop :=
  m ≤ bf ∧ Blk w bf 44 #[v] ∧ w.ownsRow m 64 33 v L.length (kCells L) ∧ ∀ p ∈ L, RdA (zsOf bf v) w p.2 p.1
/-- What a call of the closure does to memory. -/
def KStep (bf : Nat) (v v' : Value) (w w' : World) : Prop := Tch (zsOf bf v) w w' ∧ ∀ x ∈ zsOf bf v', x ∈ zsOf bf v ∨ w.heap.size ≤ x
theorem KStep.refl (bf : Nat) (v : Value) {w w' : World} (h : Tch [] w w') : KStep bf v v w w' := ⟨h.mono (by simp), fun x hx => .inl hx⟩
theorem KStep.trans {bf : Nat} {v v' v'' : Value} {w w' w'' : World} (h : KStep bf v v' w w') (k : KStep bf v' v'' w' w'') : KStep bf v v'' w w'' := by
  refine ⟨⟨k.1.os.trans h.1.os, k.1.tape.trans h.1.tape, k.1.output.trans h.1.output, Nat.le_trans h.1.size k.1.size, fun i hi hb => ?_⟩, fun x hx => ?_⟩
  · refine (k.1.block i (Nat.lt_of_lt_of_le hi h.1.size) fun hm => ?_).trans (h.1.block i hi hb)
    rcases h.2 i hm with h2 | h2
    · exact hb h2
    · omega
  · rcases k.2 x hx with h2 | h2
    · exact h.2 x h2
    · exact .inr (Nat.le_trans h.1.size h2)
theorem own_eq {w w' : World} {base k n : Nat} {e : TypeId} {v : Value} {xs : List Value} (h : w.ownsRow base e k v n xs) (he : ∀ g, v.ownBlock = some g → w'.heap[g]? = w.heap[g]?) : w'.ownsRow base e k v n xs := by
  refine ⟨h.1, ?_⟩
  rcases h.2 with h2 | ⟨g, cap, cur, h1, h2, h3, h4⟩
  · exact .inl h2
  · exact .inr ⟨g, cap, cur, h1, h2, (he g (by rw [h1]; rfl)).trans h3, h4⟩
theorem ItC.step {bf : Nat} {v v' : Value} {X : List Nat} {w w' : World} {k : Nat} {x y z : Value} {t : It} (h : ItC (zsOf bf v ++ X) w k x y z t) (hK : KStep bf v v' w w') : ItC (zsOf bf v' ++ X) w' k x y z t := by
  have h1 : ItC ((zsOf bf v ++ X) ++ zsOf bf v') w k x y z t := h.mono (fun q hq => by
    rcases List.mem_append.1 hq with hq | hq
    · exact .inl hq
    · exact (hK.2 q hq).imp (fun h => List.mem_append_left _ h) id)
  exact (h1.tch (hK.1.mono (fun q hq => .inl (List.mem_append_left _ (List.mem_append_left _ hq))))).mono (fun q hq => .inl (by
    rcases List.mem_append.1 hq with hq | hq
    · exact List.mem_append_right _ hq
    · exact List.mem_append_left _ (List.mem_append_right _ hq)))
theorem RdA.step {bf : Nat} {v v' : Value} {X : List Nat} {w w' : World} {y : Value} {l : List Nat} (h : RdA (zsOf bf v ++ X) w y l) (hK : KStep bf v v' w w') : RdA (zsOf bf v' ++ X) w' y l := by
  have h1 : RdA ((zsOf bf v ++ X) ++ zsOf bf v') w y l := h.mono (fun q hq => by
    rcases List.mem_append.1 hq with hq | hq
    · exact .inl hq
    · exact (hK.2 q hq).imp (fun h => List.mem_append_left _ h) id)
  exact (h1.tch (hK.1.mono (fun q hq => .inl (List.mem_append_left _ (List.mem_append_left _ hq))))).mono (fun q hq => .inl (by
    rcases List.mem_append.1 hq with hq | hq
    · exact List.mem_append_right _ hq
    · exact List.mem_append_left _ (List.mem_append_right _ hq)))
theorem KN.lt {bf m : Nat} {L : KList} {v : Value} {w : World} (h : KN bf m L v w) : ∀ x ∈ zsOf bf v, m ≤ x ∧ x < w.heap.size := fun x hx => by
  rcases List.mem_cons.1 hx with rfl | hx
  · exact ⟨h.1, h.2.1.lt⟩
  · exact h.2.2.1.lt x (by simpa using hx)
theorem KN.call {bf m : Nat} {L : KList} {v : Value} {w w' : World} (h : KN bf m L v w) (hT : Tch [] w w') : KN bf m L v w' :=
  ⟨h.1, hT.blk h.2.1 (by simp), own_eq h.2.2.1 (fun g hg => hT.block g (h.2.2.1.lt g hg).2 (by simp)), fun p hp => (h.2.2.2 p hp).tch (hT.mono (by simp))⟩
theorem KN.ne {bf m : Nat} {L : KList} {v : Value} {w : World} (h : KN bf m L v w) : v.ownBlock ≠ some bf := fun e => by
  rcases h.2.2.1.2 with ⟨rfl, _⟩ | ⟨g, cap, cur, rfl, _, hg, _⟩
  · cases e
  · obtain rfl : g = bf := Option.some.inj e
    have hB := h.2.1
    unfold Blk at hB
    rw [hB] at hg
    injection hg with hg
    injection hg with _ hg _
    exact absurd hg (by decide)
/-- A call turns blocks that St doesn't list. -/
theorem St.callX {bs xs : List Nat} {w0 w w' : World} {L : List Ent} (h : St bs w0 w L) (hT : Tch xs w w') (hx : ∀ x ∈ xs, x ∈ bs ∨ w0.heap.size ≤ x) (hL : ∀ e ∈ L, e.1 ∉ xs) : St bs w0 w' L :=
  ⟨⟨hT.os.trans h.frame.os, hT.tape.trans h.frame.tape, hT.output.trans h.frame.output, Nat.le_trans h.frame.size hT.size, fun k hk hb => (hT.block k (Nat.lt_of_lt_of_le hk h.frame.size) fun hm => (hx k hm).elim hb (fun h => by omega)).trans (h.frame.block k hk hb)⟩, fun e he => ⟨hT.blk (h.blk e he).1 (hL e he), (h.blk e he).2⟩, h.apart⟩
theorem node_infos : (Try.prog.info? 64).map (fun i => (i.zero, i.size, i.bytes)) = some (some (.agg (ndA (fun _ => 0) (.slice none 0 0))), 33, 56) := by
  unfold ndA; rw [wf_zeros]; kernel_rfl
theorem nodes_size : (Try.prog.info? 44).map (·.size) = some 1 := by kernel_rfl
theorem nodes_agg (w : World) : (isAgg 44).run Try.prog w = .ok false w := by kernel_rfl
theorem build_node (f : Nat → Nat) (p : Option Addr) (n c : Nat) (w : World) : (Instr.build 64 #[(0, .agg (wf f)), (1, .slice p n c)]).run Try.prog w = .ok (.agg (ndA f (.slice p n c))) w := by kernel_rfl
theorem buildN1 (f : Nat → Nat) (p : Option Addr) (n c : Nat) (w : World) : (Instr.buildSlice 44 1 #[(0, .agg (ndA f (.slice p n c)))]).run Try.prog w = .ok (.slice (some ⟨w.heap.size, 0, none⟩) 1 1) (w.alloc (.cells (ndA f (.slice p n c)) 64)) := by kernel_rfl
section
variable {ops : Array Oper} {rest : List Oper} {o : Oper} {a : Act} {w : World} {Q : Exit → Act → World → Prop}
/-- A struct is built. -/
theorem st_bld {ty : TypeId} {parts : Array (Nat × Operand)} {v : Value} (vals : Array (Nat × Value)) (hgd : o.guard = none) (ho : o.op = .build ty parts)
    (hv : (parts.map fun (i, x) => (i, a.eval x)) = vals) (hr : (Instr.build ty vals).run Try.prog w = .ok v w) (h : wpList Try.prog ops Q rest (a.put o.dst v) w) : wpList Try.prog ops Q (o :: rest) a w :=
  wpList_plain hgd fun K hK => by
    subst hv
    unfold Oper.wp execOp
    simp only [ho, Sem.run_bind, hr, Result.andThen_ok, Sem.run_pure]
    exact hK _ _ h
/-- A node more. -/
theorem st_appN {m n : Nat} {v : Value} {us : List Value} {c : Array Value} (hgd : o.guard = none) (s x : Operand)
    (ho : o.op = .call { callee := .builtin .append, args := #[s, x], argTypes := #[44, 44] }) (hs : a.eval s = v) (hx : a.eval x = .slice (some ⟨w.heap.size, 0, none⟩) 1 1)
    (hown : w.ownsRow m 64 33 v n us) (hm : m ≤ w.heap.size) (hsz : c.size = 33) (hone : c.all (·.oneCell') = true) (hlen : n ≤ 100000000)
    (h : ∀ v' w', w'.ownsRow m 64 33 v' (n + 1) (us ++ c.toList) → Tch v.ownBlock.toList w w' → (∀ g, v'.ownBlock = some g → v.ownBlock = some g ∨ w.heap.size ≤ g) → wpList Try.prog ops Q rest (a.put o.dst v') w') :
    wpList Try.prog ops Q (o :: rest) a (w.alloc (.cells c 64)) := by
  obtain ⟨i0, hi, hz0, hz1, hz2⟩ := info_parts node_infos
  have hnews : ∀ j u, c.toList[j]? = some u → (w.alloc (.cells c 64)).cell? ((⟨w.heap.size, 0, none⟩ : Addr).add j) = some u := World.news_of_block (cs := c) (t := 64) (fr := (0, 0)) (heap_alloc_new w _)
  refine wpList_append_own_at (w := w.alloc (.cells c 64)) hgd s x 44 ho m 64 i0 _ 33 56 nodes_ty hi hz0 hz1 hz2 (ndA_size _ _) (by decide) v n us hs (hown.alloc _) ⟨w.heap.size, 0, none⟩ 1 1 c.toList hx (by rw [Array.length_toList, hsz]) hnews (fun u hu => (Array.all_eq_true_iff_forall_mem.1 hone) u (by simpa using hu)) (by unfold maxLen; omega) (by omega) (by simp; omega) ?_
  intro v' w' hown' hgrow _ hv'
  refine h v' w' hown' (((Tch.refl _ _).alloc _).trans ⟨hgrow.os, hgrow.tape, hgrow.output, hgrow.size, fun k hk hm' => hgrow.block k hk (fun e => hm' (by rw [← e]; simp))⟩) (fun g hg => ?_)
  rcases hv' with e | e
  · rw [e] at hg; exact .inl hg
  · rw [e] at hg
    have := Option.some.inj hg
    simp at this
    exact .inr (by omega)
end
theorem keep_off {bf m b4 b1 s : Nat} {v : Value} {t1 t2 t3 : TypeId} {c1 c2 c3 : Array Value} (hne : v.ownBlock ≠ some bf) (hlt : ∀ x ∈ zsOf bf v, m ≤ x ∧ x < s) (o4 : s ≤ b4) (o1 : s ≤ b1) : ∀ e ∈ ([(bf, t1, c1), (b4, t2, c2), (b1, t3, c3)] : List Ent), e.1 ∉ v.ownBlock.toList := fun e he hm => by
  have hm' : v.ownBlock = some e.1 := by simpa using hm
  have hs := (hlt e.1 (List.mem_cons_of_mem _ (by simpa using hm'))).2
  rcases List.mem_cons.1 he with rfl | he
  · exact hne hm'
  rcases List.mem_cons.1 he with rfl | he
  · exact absurd hs (Nat.not_lt.2 o4)
  rcases List.mem_singleton.1 he with rfl
  exact absurd hs (Nat.not_lt.2 o1)
theorem keep_zs {bf : Nat} {v v' : Value} {w w5 : World} (hvv : ∀ g, v'.ownBlock = some g → v.ownBlock = some g ∨ w5.heap.size ≤ g) (h5 : w.heap.size ≤ w5.heap.size) : ∀ x ∈ zsOf bf v', x ∈ zsOf bf v ∨ w.heap.size ≤ x := fun x hx => by
  rcases List.mem_cons.1 hx with rfl | hx
  · exact .inl List.mem_cons_self
  · rcases hvv x (by simpa using hx) with h | h
    · exact .inl (List.mem_cons_of_mem _ (by simp [h]))
    · exact .inr (Nat.le_trans h5 h)
theorem kCells_snoc (L : KList) (p : List Nat × Value) : kCells (L ++ [p]) = kCells L ++ (ndA (hashN p.1) p.2).toList := by simp [kCells]
theorem keep_end {bf m b1 : Nat} {L : KList} {v v' bv : Value} {l : List Nat} {H : Nat → Nat} {w w5 w7 w8 w9 : World} (hK : KN bf m L v w) (hb : RdA (zsOf bf v) w bv l) (hH : H = hashN l) (hT : Tch (zsOf bf v) w w9) (hB : Blk w9 bf 44 #[v'])
    (hown : w7.ownsRow m 64 33 v' (L.length + 1) (kCells L ++ (ndA H bv).toList)) (hvv : ∀ g, v'.ownBlock = some g → v.ownBlock = some g ∨ w5.heap.size ≤ g) (o1 : w.heap.size ≤ b1) (h5 : w.heap.size ≤ w5.heap.size) (l1 : b1 < w5.heap.size) (hO8 : Only bf w7 w8) (hO9 : Only b1 w8 w9) :
    KN bf m (L ++ [(l, bv)]) v' w9 := by
  have hKS : KStep bf v v' w w9 := ⟨hT, keep_zs hvv h5⟩
  refine ⟨hK.1, hB, ?_, fun p hp => ?_⟩
  · rw [kCells_snoc, List.length_append, List.length_singleton, ← hH]
    refine own_eq hown (fun g hg => ?_)
    have hgb : g ≠ bf := by
      rcases hvv g hg with h | h
      · exact fun e => hK.ne (by rw [← e]; exact h)
      · have := hK.2.1.lt; omega
    have hg1 : g ≠ b1 := by
      rcases hvv g hg with h | h
      · have := (hK.2.2.1.lt g h).2; omega
      · omega
    have hg7 : g < w7.heap.size := (hown.lt g hg).2
    exact (hO9.block g hg1).trans (hO8.block g hgb)
  · have key : ∀ q : List Nat × Value, RdA (zsOf bf v) w q.2 q.1 → RdA (zsOf bf v') w9 q.2 q.1 := fun q hq => by
      have := RdA.step (X := []) (by rw [List.append_nil]; exact hq) hKS
      rwa [List.append_nil] at this
    rcases List.mem_append.1 hp with hp | hp
    · exact key p (hK.2.2.2 p hp)
    · rw [List.mem_singleton.1 hp]
      exact key (l, bv) hb
theorem own_one {w : World} {base k n : Nat} {e : TypeId} {v : Value} {xs : List Value} (h : w.ownsRow base e k v n xs) : v.oneCell' = true := by
  rcases h.2 with ⟨rfl, _⟩ | ⟨g, cap, cur, rfl, _⟩ <;> rfl
set_option maxHeartbeats 2000000 in
/-- The closure: it hashes, and keeps. -/
theorem keep_any (bf m : Nat) (L : KList) (v bv : Value) (l : List Nat) (w : World) (hK : KN bf m L v w) (hb : RdA (zsOf bf v) w bv l) (hl : l.length < 1000000) (hn : L.length ≤ 100000000) :
    Calls Try.prog 22 #[bv, .pointer (some ⟨bf, 0, none⟩)] w fun e w' => e = .returned (.agg (wf (hashN l))) ∧ ∃ v', KN bf m (L ++ [(l, bv)]) v' w' ∧ KStep bf v v' w w' := by
  obtain ⟨pa, n, ca, rfl⟩ := slice_keep hb
  have hS := St.start w
  obtain ⟨H, hH⟩ : ∃ H, H = hashN l := ⟨_, rfl⟩
  have HC0 := fun (w1 : World) (b : Nat) (hT : Tch [] w w1) (hB : Blk w1 b 22 #[.slice pa n ca]) => sum_one b _ l w1 (hB.cell (j := 0) rfl) hB.lt (hb.rdB.tch hT (by simp)) hl
  rw [← hH] at HC0
  have HC := Lib.hid HC0
  clear HC0
  rw [← hH]
  have HH := Lib.hid hH
  clear hH
  have HKN := Lib.hid hK
  have HB := Lib.hid hb
  have HN := Lib.hid (And.intro hn (And.intro hK.lt hK.ne))
  clear hK hb hl hn
  go_enter Try.func22, Try.ntmps22
  go_upto_region 2 with (first
    | (have _g := hTs; refine st_new hS rfl 33 rfl word_zero ?_; clear hS; intro w4 b4 hS)
    | (refine st_new hS rfl 33 rfl word_zero ?_; clear hS; intro w1 b1 hS)
    | (refine st_buildV #[(0, .slice pa n ca)] hS rfl rfl (by simp only [List.map_toArray, List.map_cons, List.map_nil]; rfl) (buildB1 _ _ _) ?_; clear hS; intro w2 b2 hS)
    | (go_at_call 19; refine (HC.out _ _ hS.frame (hS.get .head)).mono ?_; rintro e w3 ⟨rfl, hTs⟩; replace hS := hS.call hTs)
    | (refine st_store (b := b4) (c' := wf H) hS rfl 33 _ _ rfl rfl rfl .head word_size (wf_size _) (wf_size _) (wf_one _) ?_; clear hS; intro w5 hS))
  clear hTs HC
  have hK5 := HKN.out.call hS.frame
  have h4 := hS.get .head
  have h1 := hS.get (.tail (.tail .head))
  have o4 : w.heap.size ≤ b4 := (hS.own .head).resolve_right (by simp)
  have o1 : w.heap.size ≤ b1 := (hS.own (.tail (.tail .head))).resolve_right (by simp)
  have l1 : b1 < w5.heap.size := h1.lt
  have n41 : b4 ≠ b1 := (List.pairwise_cons.1 hS.apart).1 _ (List.mem_cons_of_mem _ List.mem_cons_self)
  have hlt : bf < w.heap.size := HKN.out.2.1.lt
  have hS2 : St (zsOf bf v) w w5 [(bf, 44, #[v]), (b4, 33, wf (H)), (b1, 33, wf fun _ => 0)] := by
    refine ⟨hS.frame.mono (by simp), fun e he => ?_, ?_⟩
    · rcases List.mem_cons.1 he with rfl | he
      · exact ⟨hK5.2.1, .inr List.mem_cons_self⟩
      rcases List.mem_cons.1 he with rfl | he
      · exact ⟨h4, .inl o4⟩
      rcases List.mem_singleton.1 he with rfl
      exact ⟨h1, .inl o1⟩
    · refine List.pairwise_cons.2 ⟨fun e he => ?_, List.pairwise_cons.2 ⟨fun e he => ?_, List.pairwise_singleton _ _⟩⟩
      · rcases List.mem_cons.1 he with rfl | he
        · show bf ≠ b4; omega
        rcases List.mem_singleton.1 he with rfl
        show bf ≠ b1; omega
      · rcases List.mem_singleton.1 he with rfl
        exact n41
  have hT5 := hS.frame.size
  clear hS h4 h1
  have hS := hS2
  clear hS2
  have HO := Lib.hid (And.intro hK5.2.2.1 (And.intro o4 (And.intro o1 (And.intro hlt (And.intro hT5 l1)))))
  clear hK5 o4 o1 n41 hlt hT5 l1
  have kb := build_node (H) pa n ca
  go_upto_region 3 with (first
    | (refine st_cell hS rfl 44 _ rfl rfl .head rfl nodes_agg ?_)
    | (refine st_load (b := b4) hS rfl 33 _ rfl rfl (.tail .head) word_type rfl word_size (wf_size _) ?_)
    | (refine st_bld #[(0, .agg (wf H)), (1, .slice pa n ca)] rfl rfl (by simp only [List.map_toArray, List.map_cons, List.map_nil]; rfl) (build_node _ _ _ _ _) ?_)
    | (refine st_buildC #[(0, .agg (ndA (H) (.slice pa n ca)))] rfl rfl (by simp only [List.map_toArray, List.map_cons, List.map_nil]; rfl) (buildN1 _ _ _ _) ?_; intro w6 hw6)
    | (subst hw6; refine st_appN rfl _ _ rfl rfl rfl HO.out.1 (by have := HN.out.2.1 bf List.mem_cons_self; have := HO.out; omega) (ndA_size _ _) (ndA_one _ rfl) HN.out.1 ?_; intro v' w7 hown hTa hvv; have HOW := Lib.hid (And.intro hown hvv); clear hown hvv; have hSa := hS.callX hTa (fun x hx => .inl (List.mem_cons_of_mem _ hx)) (keep_off HN.out.2.2 HN.out.2.1 HO.out.2.1 HO.out.2.2.1); clear hTa hS; have hS := hSa; clear hSa)
    | (refine st_storeV (v := v') (j := 0) hS rfl 44 _ _ rfl rfl rfl (own_one HOW.out.1) nodes_size .head (show 0 < 1 by decide) ?_; clear hS; intro w8 hS hO8; have HO8 := Lib.hid hO8; clear hO8))
  go_wp2_with (first
    | (refine st_load (b := b4) hS rfl 33 _ rfl rfl (.tail .head) word_type rfl word_size (wf_size _) ?_)
    | (refine st_storeO (b := b1) (c' := wf H) hS rfl 33 _ _ rfl rfl rfl (.tail (.tail .head)) word_size (wf_size _) (wf_size _) (wf_one _) ?_; clear hS; intro w9 hS hO9; have HO9 := Lib.hid hO9; clear hO9))
  refine st_post hS 3 33 rfl rfl rfl (.tail (.tail .head)) word_type rfl word_size (wf_size _) (fun hT => ⟨rfl, v', ?_, hT, ?_⟩)
  · exact keep_end HKN.out HB.out HH.out hT (hS.get .head) HOW.out.1 HOW.out.2 HO.out.2.2.1 HO.out.2.2.2.2.1 HO.out.2.2.2.2.2 HO8.out HO9.out
  · exact keep_zs HOW.out.2 HO.out.2.2.2.2.1
end Go.Proofs.Ytfdihphhmhgejaa
