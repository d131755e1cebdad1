/- Nodes of any pairs. -/
import Derived.Test.YtfdihphhmhgejaaM39
import Derived.Test.YtfdihphhmhgejaaM34
import Derived.Test.YtfdihphhmhgejaaM20
set_option linter.unusedVariables false
set_option linter.unusedSimpArgs false
namespace Go.Proofs.Ytfdihphhmhgejaa
open Go.RowKit Tr
set_option linter.unusedVariables false
set_option maxRecDepth 100000

theorem encode_keep (m bf : Nat) (wm : World) (tv : Value) (it : It) (es : List (List Nat)) (HI : ItemOKN m bf wm tv it es) (he : (enc it).length ≤ 901000) (hd : dep it ≤ 32) (w : World) (L : KList) (v : Value) (hTm : Tch [] wm w) (hK : KN bf m L v w) (hlen : L.length + es.length ≤ 50000000) :
    Calls Try.prog 20 #[tv, (.func (.func 22) #[] #[.pointer (some ⟨bf, 0, none⟩)])] w fun e w' => ∃ (Ls : KList) (v' : Value) (b' : Nat), KStep bf v v' w w' ∧ KN bf m (L ++ Ls) v' w' ∧ Ls.map (·.1) = es ∧ e = .returned (.slice (some ⟨b', 0, none⟩) (enc it).length (enc it).length) ∧ RdA (zsOf bf v') w' (.slice (some ⟨b', 0, none⟩) (enc it).length (enc it).length) (enc it) := by
  have HIT := Lib.hid (HI [] w L v hTm hK (by intro x hx; cases hx) hlen)
  have HPK := Lib.hid (fun (Y : List Nat) (w1 : World) (x0 vb vl : Value) (hI : ItC Y w1 (dep it + 1) x0 vb vl it) => And.intro (tpack_any (dep it + 1) x0 vb vl it w1 (hI.mono (Y := []) (by simp)) ⟨hd, by omega⟩) (enc_lt (w := w1) hI (by omega)))
  clear HI he hd hTm hK hlen
  generalize enc it = Lb at *
  go_enter Try.func20, Try.ntmps20
  go_wp2_with (first
    | (go_at_call 37; refine HIT.out.mono ?_; rintro e w1 ⟨Ls, v1, hKS, hKN, hes, t, p, n, c, q, k, d, rfl, hI⟩; have HGt := Lib.hid (And.intro hKS (And.intro hKN (And.intro hes hI))); clear hKS hKN hes hI)
    | (go_at_call 36; have hb256 := (HPK.out _ _ _ _ _ HGt.out.2.2.2).2; refine (HPK.out _ _ _ _ _ HGt.out.2.2.2).1.mono ?_; rintro e w2 hpk; obtain ⟨hT, b, hb, rfl, hr⟩ := PkV.rd hpk hb256))
  go_ret
  exact ⟨Ls, v1, b, HGt.out.1.trans (KStep.refl bf v1 hT), HGt.out.2.1.call hT, HGt.out.2.2.1, rfl, rdB_at hr (pk_off HGt.out.2.1 hb)⟩
theorem eql_nodeN (w : World) : (binOp .eql 53 .nilIface .nilIface).run Try.prog w = .ok (.bool true) w := by kernel_rfl
theorem may_small {ps : List En} (hm : mayE ps = 0) : ps.length ≤ 100000 ∧ ∀ p ∈ ps, p.1.length ≤ 64 := by
  have hl : ¬ (100000 < ps.length ∨ ps.any longP = true) := fun h => by
    unfold mayE at hm
    rw [if_pos h] at hm
    cases hm
  refine ⟨Decidable.byContradiction fun h => hl (.inl (by omega)), fun p hp => Decidable.byContradiction fun h => hl (.inr (List.any_eq_true.2 ⟨p, hp, ?_⟩))⟩
  unfold longP
  rw [decide_eq_true (show 64 < p.1.length by omega), Bool.true_or]
/-- What Nodes answers. -/
def NodesPost (ps : List En) (w : World) (e : Ending) (w' : World) : Prop :=
  Tch [] w w' ∧ if mayE ps = 0 ∧ ps ≠ [] then ∃ (T : TN) (K M : KList) (g cap : Nat) (cz : Array Value), itemT pkT HL T = nodeT pkT HL 200 (entries ps) ∧ K.map (·.1) = below pkT HL T ++ [enc (itemT pkT HL T)] ∧ M.Perm K ∧ M.Pairwise (fun x y => ¬ lt (HL y.1) (HL x.1)) ∧ w.heap.size ≤ g ∧ e = .returned (.tuple #[.slice (some ⟨g, 0, none⟩) (cmp M M.length).length cap, .int .i64 0]) ∧ Blk w' g 64 cz ∧ cz.size = cap * 33 ∧ cz.toList.take ((cmp M M.length).length * 33) = kCells (cmp M M.length) ∧ ∀ p ∈ cmp M M.length, RdA [g] w' p.2 p.1
    else e = .returned (.tuple #[.slice none 0 0, .int .i64 (mayE ps : Nat)])
theorem tree_some {ps : List En} {w : World} {u : Value} (h : TreeOf ps w u) (hne : ps ≠ []) (hm : mayE ps = 0) : ∃ (t : TypeId) (x : Value) (B : Nat) (T : TN), u = .iface t x ∧ TreeV B w T u ∧ WT T ∧ itemT pkT HL T = nodeT pkT HL 200 (entries ps) ∧ (below pkT HL T).length + 1 ≤ 12900000 := by
  obtain ⟨B, T, m, hT, hW, rfl, hit, hp, _⟩ := h
  have hmne : m ≠ [] := fun e => by
    rw [e] at hp
    have := hp.length_eq
    simp [entries] at this
    exact hne this
  have hs := may_small hm
  have hlen : m.length ≤ 100000 := by rw [← hp.length_eq]; simpa [entries] using hs.1
  have hpl : ∀ e ∈ m, e.1.length ≤ 128 := fun e he => by
    obtain ⟨p, hpp, rfl⟩ := List.mem_map.1 (hp.symm.mem_iff.1 he)
    have h1 := hs.2 p hpp
    have h2 := nibT_len p.1
    show (nibT p.1).length ≤ 128
    omega
  have hb := below_len pkT HL 200 m hmne
  have hmu := mu_le hpl
  have hshape : ∃ (t : TypeId) (x : Value), u = .iface t x := by
    match m, hmne, hT with
    | [e], _, hT => obtain ⟨b, pv, uv, rfl, _⟩ := hT; exact ⟨_, _, rfl⟩
    | e :: e2 :: l, _, hT =>
      unfold buildT at hT
      simp only at hT
      split at hT
      · obtain ⟨b, pv, sv, rfl, _⟩ := hT; exact ⟨_, _, rfl⟩
      · obtain ⟨b, c, uv, rfl, _⟩ := hT; exact ⟨_, _, rfl⟩
  obtain ⟨t, x, hu⟩ := hshape
  exact ⟨t, x, B, _, hu, hT, hW, hit, by omega⟩
theorem tree_none {w : World} {u : Value} (h : TreeOf [] w u) : u = .nilIface := by
  obtain ⟨B, T, m, hT, hW, rfl, hit, hp, _⟩ := h
  have hm : m = [] := hp.symm.eq_nil
  subst hm
  exact hT
theorem Nodes_no (v : Value) (ps : List En) (w : World) (hv : PairsAt w v ps) (hn : ps.length ≤ 4611686018427387904) (hV : mayE ps = 0 → ∀ p ∈ ps, p.2.length ≤ 900000) (hc : ¬ (mayE ps = 0 ∧ ps ≠ [])) :
    Calls Try.prog 13 #[v] w (NodesPost ps w) := by
  have HG := Lib.hid (show Calls Try.prog 17 #[v] w fun e w' => Tch [] w w' ∧ e = .returned (.tuple #[.nilIface, .int .i64 (mayE ps : Nat)]) from (tgrow_tree v ps w hv hn hV).mono fun e w' h => by
    obtain ⟨h1, u, h2, h3, h4⟩ := h
    refine ⟨h1, ?_⟩
    by_cases hm : mayE ps = 0
    · have hps : ps = [] := Decidable.byContradiction fun h => hc ⟨hm, h⟩
      subst hps
      rw [tree_none (h3 hm)] at h2
      exact h2
    · rw [h4 hm] at h2
      exact h2)
  have HCc := Lib.hid hc
  clear hv hn hV hc
  have k0 := eql_nodeN
  go_enter Try.func13, Try.ntmps13
  go_wp2_with (go_at_call 17; refine HG.out.mono ?_; rintro e w1 ⟨hT, rfl⟩)
  go_ret2
  refine ⟨hT, ?_⟩
  rw [if_neg HCc.out]
  rfl
set_option maxHeartbeats 4000000 in
theorem Nodes_yes (v : Value) (ps : List En) (w : World) (hv : PairsAt w v ps) (hn : ps.length ≤ 4611686018427387904) (hV : mayE ps = 0 → ∀ p ∈ ps, p.2.length ≤ 900000) (hc : mayE ps = 0 ∧ ps ≠ []) :
    Calls Try.prog 13 #[v] w (NodesPost ps w) := by
  have HG := Lib.hid (show Calls Try.prog 17 #[v] w fun e w' => Tch [] w w' ∧ ∃ (t : TypeId) (x : Value) (B : Nat) (T : TN), e = .returned (.tuple #[.iface t x, .int .i64 0]) ∧ TreeV B w' T (.iface t x) ∧ WT T ∧ itemT pkT HL T = nodeT pkT HL 200 (entries ps) ∧ (below pkT HL T).length + 1 ≤ 12900000 from (tgrow_tree v ps w hv hn hV).mono fun e w' h => by
    obtain ⟨h1, u, h2, h3, h4⟩ := h
    obtain ⟨t, x, B, T, rfl, g1, g2, g3, g4⟩ := tree_some (h3 hc.1) hc.2 hc.1
    rw [hc.1] at h2
    exact ⟨h1, t, x, B, T, h2, g1, g2, g3, g4⟩)
  have HCc := Lib.hid hc
  clear hv hn hV hc
  have hmf : ∀ (fn : Fn) (first cap : Array Value) (w : World), (Instr.makeFunc fn first cap).run Try.prog w = .ok (.func fn first cap) w := fun _ _ _ _ => rfl
  have k0 := eql_node
  have hS := St.start w
  go_enter Try.func13, Try.ntmps13
  go_upto_region 6 with (first
    | (go_at_call 17; refine HG.out.mono ?_; rintro e w1 ⟨hT1, t, x, B, T, rfl, g1, g2, g3, g4⟩; have HF := Lib.hid (And.intro g1 (And.intro g2 (And.intro g3 g4))); clear g1 g2 g3 g4; replace hS := hS.call hT1; have HT1 := Lib.hid hT1; clear hT1)
    | (refine st_newV hS rfl 44 rfl nodes_zero ?_; clear hS; intro w2 bf hS hT2 hbf))
  have hK2 : KN bf w1.heap.size [] (.slice none 0 0) w2 := ⟨hbf, hS.get .head, ⟨rfl, .inl ⟨rfl, rfl⟩⟩, by simp⟩
  have HE2 := Lib.hid (encode_keep w1.heap.size bf w1 _ _ _ (item_allN _ bf rfl HF.out.1 HF.out.2.1) (item_enc HL_len HF.out.2.1) (item_dep _) w2 [] _ hT2 hK2 (by have := HF.out.2.2.2; simp; omega))
  obtain ⟨E, hE⟩ : ∃ E, E = enc (itemT pkT HL T) := ⟨_, rfl⟩
  have hEl : E.length ≤ 901000 := by rw [hE]; exact item_enc HL_len HF.out.2.1
  rw [← hE] at HE2
  have HEE := Lib.hid (And.intro hE hEl)
  clear hE hEl
  have HK2 := Lib.hid (And.intro hS.frame (And.intro HT1.out.size hT2))
  clear hK2 hS hbf hT2
  go_upto_region 7 with (first
    | (go_at_call 20; refine HE2.out.mono ?_; rintro e w3 ⟨Ls, v3, b', hKS3, hKN3, hes, rfl, hr⟩; have HR := Lib.hid (And.intro hKS3 (And.intro hKN3 (And.intro hes hr))); clear hKS3 hKN3 hes hr)
    | (go_at_call 22; refine (keep_any bf _ ([] ++ Ls) v3 _ E w3 HR.out.2.1 HR.out.2.2.2 (by have := HEE.out.2; omega) (cnt_ok HR.out.2.2.1 (by have := HF.out.2.2.2; simp; omega))).mono ?_; rintro e w4 ⟨rfl, v', hK4, hs⟩))
  rw [List.nil_append] at hK4
  have hz3 := HR.out.2.1.lt
  have hKS := HR.out.1.trans hs
  have hT4 : Tch [] w w4 := HK2.out.1.fresh hKS.1 (fun x hx => by
    have : x = bf := by simpa [zsOf, Value.ownBlock] using hx
    rw [this]; exact Nat.le_trans HK2.out.2.1 hK4.1)
  have hlt4 := hK4.2.2.1.lt
  have hKl : (Ls ++ [(E, Value.slice (some ⟨b', 0, none⟩) E.length E.length)]).length ≤ 100000000 := by
    have := cnt_ok (L := []) HR.out.2.2.1 (by have := HF.out.2.2.2; simp; omega)
    have h2 : Ls.length = (below pkT HL T).length := by rw [← HR.out.2.2.1, List.length_map]
    have := HF.out.2.2.2
    rw [List.length_append]; simp; omega
  obtain ⟨g, cap, cur0, rfl, hg0, _⟩ := hK4.2.2.1.2.resolve_left (fun h => by
    have := h.2
    rw [List.length_append] at this
    simp at this)
  obtain ⟨K, hKK⟩ : ∃ K : KList, K = Ls ++ [(E, Value.slice (some ⟨b', 0, none⟩) E.length E.length)] := ⟨_, rfl⟩
  have hKm : K.map (·.1) = below pkT HL T ++ [E] := by rw [hKK, List.map_append, HR.out.2.2.1]; rfl
  have hKne : K ≠ [] := by rw [hKK]; simp
  rw [← hKK] at hK4 hKl hlt4
  have HK4 := Lib.hid (And.intro hK4 (And.intro hKne (And.intro hKl (And.intro hlt4 hKm))))
  have HT4 := Lib.hid hT4
  have hS : St [] w w4 [(bf, 44, #[.slice (some ⟨g, 0, none⟩) K.length cap])] := ⟨hT4, fun e he => by rcases List.mem_singleton.1 he with rfl; exact ⟨hK4.2.1, .inl (Nat.le_trans HK2.out.2.1 hK4.1)⟩, List.pairwise_singleton _ _⟩
  clear hK4 hs hT4 hlt4 hg0 HR hKS hz3 hKne hKl hKK hKm HE2
  go_upto_region 8 with (first
    | (refine st_cell hS rfl 44 _ rfl rfl .head rfl nodes_agg ?_)
    | (go_at_call 23; refine (sortN_any bf _ K _ _ HK4.out.1 HK4.out.2.1 HK4.out.2.2.1).mono ?_; rintro e w5 ⟨rfl, hT5, M, hp, hso, hK5⟩; have HK5 := Lib.hid (And.intro hK5 (And.intro hp (And.intro hT5 hso))); clear hK5 hp hT5 hso))
  have hT5 : Tch [] w w5 := HT4.out.fresh HK5.out.2.2.1 (fun x hx => Nat.le_trans HK2.out.2.1 (HK4.out.2.2.2.1 x (by simpa using hx)).1)
  have hlen : K.length = M.length := HK5.out.2.1.length_eq.symm
  have hS2 : St [] w w5 [(bf, 44, #[.slice (some ⟨g, 0, none⟩) K.length cap])] := ⟨hT5, fun e he => by rcases List.mem_singleton.1 he with rfl; exact ⟨HK5.out.1.2.1, .inl (Nat.le_trans HK2.out.2.1 HK5.out.1.1)⟩, List.pairwise_singleton _ _⟩
  clear hS
  have hS := hS2
  clear hS2
  obtain ⟨g', cap', cur, hvv, hmg, hgB, hcapM, _, hcs, htk⟩ := HK5.out.1.2.2.1.2.resolve_left (fun h => by cases h.1)
  injection hvv with hv1 hv2 hv3
  injection hv1 with hv1
  injection hv1 with hv1 _ _
  subst hv1 hv3
  have hgw : w.heap.size ≤ g := Nat.le_trans HK2.out.2.1 hmg
  have HCP := Lib.hid (compact_any g cap M cur w5 hgB hcapM hcs htk (by rw [← hlen]; have := HK4.out.2.2.1; omega) (fun p hp => rdA_one (HK5.out.1.2.2.2 p hp)))
  rw [← hlen] at HCP
  have HL5 := Lib.hid (And.intro hlen (And.intro hgw hT5))
  clear hgB hcapM hcs htk hlen hmg hgw hT5 hv2
  go_wp2_with (first
    | (refine st_cell hS rfl 44 _ rfl rfl .head rfl nodes_agg ?_)
    | (go_at_call 26; refine HCP.out.mono ?_; rintro e w6 ⟨rfl, hT6, cz, hBz, hz1, hz2⟩))
  go_ret2
  refine ⟨HL5.out.2.2.fresh hT6 (fun x hx => by rw [List.mem_singleton.1 hx]; exact HL5.out.2.1), ?_⟩
  rw [if_pos HCc.out]
  refine ⟨T, K, M, g, cap, cz, HF.out.2.2.1, by rw [← HEE.out.1]; exact HK4.out.2.2.2.2, HK5.out.2.1, HK5.out.2.2.2, HL5.out.2.1, rfl, hBz, hz1, hz2, fun p hp => ?_⟩
  have hpM := cmp_mem (Nat.le_refl _) p hp
  exact ((HK5.out.1.2.2.2 p hpM).mono (Y := [g]) (fun y hy => .inl (by rw [List.mem_singleton.1 hy]; exact List.mem_cons_of_mem _ (by simp [Value.ownBlock])))).tch hT6
theorem Nodes_any (v : Value) (ps : List En) (w : World) (hv : PairsAt w v ps) (hn : ps.length ≤ 4611686018427387904) (hV : mayE ps = 0 → ∀ p ∈ ps, p.2.length ≤ 900000) :
    Calls Try.prog 13 #[v] w (NodesPost ps w) := by
  by_cases hc : mayE ps = 0 ∧ ps ≠ []
  · exact Nodes_yes v ps w hv hn hV hc
  · exact Nodes_no v ps w hv hn hV hc
end Go.Proofs.Ytfdihphhmhgejaa

/- The example's root. -/
namespace Go.Proofs.Ytfdihphhmhgejaa
open Go.RowKit Tr

def dogPs : List En := [([100, 111, 103], [112, 117, 112, 112, 121]), ([100, 111], [118, 101, 114, 98]), ([100, 111, 103, 101], [99, 111, 105, 110]), ([104, 111, 114, 115, 101], [115, 116, 97, 108, 108, 105, 111, 110])]
theorem dogs_may : mayE dogPs = 0 := by decide
theorem HL_of {l m : List Nat} (hm : m.length = 32) (h : ∀ i, i < 32 → hashN l i = m.getD i 0) : HL l = m := by
  unfold HL
  apply List.ext_getElem
  · simp [hm]
  · intro i h1 h2
    have hi : i < 32 := by simpa using h1
    simp only [List.getElem_map, List.getElem_range]
    rw [h i hi, List.getD_eq_getElem?_getD, List.getElem?_eq_getElem h2]
    rfl
theorem dogs_root : enc (nodeT pkT HL 200 (entries dogPs)) = dogrootL := by
  have h := root_dogs HL (HL_of rfl hash_dog0) (HL_of rfl hash_dog1) (HL_of rfl hash_dog2)
  unfold rootB at h
  rw [if_neg (by simp)] at h
  exact h
theorem dogs_rootW : ∀ i, i < 32 → rootW dogPs i = dogrootH.getD i 0 := by
  intro i hi
  unfold rootW
  rw [if_pos dogs_may, dogs_root]
  exact hash_dogroot i hi
theorem none_may : mayE [] = 0 := by decide
theorem none_rootW : ∀ i, i < 32 → rootW [] i = emptyH.getD i 0 := by
  intro i hi
  unfold rootW
  rw [if_pos none_may]
  have : enc (nodeT pkT HL 200 (entries [])) = emptyL := by
    show enc (.str []) = _
    exact enc_empty
  rw [this]
  exact hash_empty i hi
/-- A word in memory, as bytes. -/
theorem word_rdL {w : World} {b : Nat} {t : TypeId} {f : Nat → Nat} {m : List Nat} (h : Blk w b t (wf f)) (hm : m.length = 32) (hf : ∀ i, i < 32 → f i = m.getD i 0) (hlt : ∀ x ∈ m, x < 256) : RdB w (.slice (some ⟨b, 0, none⟩) 32 32) m := by
  have hlt2 : ∀ i, i < 32 → f i < 256 := fun i hi => by
    rw [hf i hi, List.getD_eq_getElem?_getD, List.getElem?_eq_getElem (by omega)]
    exact hlt _ (List.getElem_mem _)
  have e : (List.range 32).map f = m := by
    apply List.ext_getElem
    · simp [hm]
    · intro i h1 h2
      have hi : i < 32 := by simpa using h1
      simp only [List.getElem_map, List.getElem_range]
      rw [hf i hi, List.getD_eq_getElem?_getD, List.getElem?_eq_getElem h2]
      rfl
  rw [← e]
  exact RdB.blk (n := 32) (f := f) h hlt2
end Go.Proofs.Ytfdihphhmhgejaa
