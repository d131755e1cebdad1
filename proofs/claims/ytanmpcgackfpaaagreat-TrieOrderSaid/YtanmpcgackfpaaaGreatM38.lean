/- What a builder of the document's keeps, told by its laws alone. -/
import Derived.Test.YtanmpcgackfpaaaGreatM01
import Derived.Test.YtanmpcgackfpaaaGreatM25
import Derived.Test.YtanmpcgackfpaaaGreatM36
import Derived.Test.YtanmpcgackfpaaaGreatM37
set_option linter.unusedVariables false
set_option linter.unusedSimpArgs false
namespace Go.Proofs.YtanmpcgackfpaaaGreat
section
open Go.RowKit Tr
set_option maxRecDepth 100000
def ZS (z z' : List Nat) (w w' : World) : Prop := Tch z w w' ∧ ∀ x ∈ z', x ∈ z ∨ w.heap.size ≤ x
theorem ZS.refl (z : List Nat) {w w' : World} (h : Tch [] w w') : ZS z z w w' := ⟨h.mono (by simp), fun x hx => .inl hx⟩
theorem ZS.trans {z z' z'' : List Nat} {w w' w'' : World} (h : ZS z z' w w') (k : ZS z' z'' w' w'') : ZS z z'' w w'' := by
  refine ⟨⟨k.1.os.trans h.1.os, k.1.tape.trans h.1.tape, k.1.output.trans h.1.output, Nat.le_trans h.1.size k.1.size, fun i hi hb => ?_⟩, fun x hx => ?_⟩
  · refine (k.1.block i (Nat.lt_of_lt_of_le hi h.1.size) fun hm => ?_).trans (h.1.block i hi hb)
    rcases h.2 i hm with h2 | h2
    · exact hb h2
    · omega
  · rcases k.2 x hx with h2 | h2
    · exact h.2 x h2
    · exact .inr (Nat.le_trans h.1.size h2)
theorem ZS.only {z z' : List Nat} {b : Nat} {w w1 w2 : World} (h : ZS z z' w w1) (hO : Only b w1 w2) (hb : w.heap.size ≤ b) : ZS z z' w w2 := ⟨h.1.only hO (.inl hb), h.2⟩
theorem ZS.app {z z' X : List Nat} {w w' : World} (hK : ZS z z' w w') : (∀ q ∈ (z ++ X) ++ z', q ∈ z ++ X ∨ w.heap.size ≤ q) ∧ Tch ((z ++ X) ++ z') w w' ∧ ∀ q ∈ z' ++ X, q ∈ (z ++ X) ++ z' := by
  refine ⟨fun q hq => ?_, hK.1.mono (fun q hq => .inl (List.mem_append_left _ (List.mem_append_left _ hq))), fun q hq => ?_⟩
  · rcases List.mem_append.1 hq with hq | hq
    · exact .inl hq
    · exact (hK.2 q hq).imp (fun h => List.mem_append_left _ h) id
  · rcases List.mem_append.1 hq with hq | hq
    · exact List.mem_append_right _ hq
    · exact List.mem_append_left _ (List.mem_append_right _ hq)
theorem ItC.zs {z z' X : List Nat} {w w' : World} {k : Nat} {x y u : Value} {t : It} (h : ItC (z ++ X) w k x y u t) (hK : ZS z z' w w') : ItC (z' ++ X) w' k x y u t :=
  ((h.mono (hK.app (X := X)).1).tch (hK.app (X := X)).2.1).mono (fun q hq => .inl ((hK.app (X := X)).2.2 q hq))
theorem RdA.zs {z z' X : List Nat} {w w' : World} {y : Value} {l : List Nat} (h : RdA (z ++ X) w y l) (hK : ZS z z' w w') : RdA (z' ++ X) w' y l :=
  ((h.mono (hK.app (X := X)).1).tch (hK.app (X := X)).2.1).mono (fun q hq => .inl ((hK.app (X := X)).2.2 q hq))
theorem PairsX.zs {z z' X : List Nat} {w w' : World} {y : Value} {l : List En} (h : PairsX (z ++ X) w y l) (hK : ZS z z' w w') : PairsX (z' ++ X) w' y l :=
  ((h.mono (hK.app (X := X)).1).tch (hK.app (X := X)).2.1).mono (fun q hq => .inl ((hK.app (X := X)).2.2 q hq))
structure Keep (σ : Type) where
  K : σ → List Nat → World → Prop
  Z : σ → List Nat
  R : σ → List Nat → σ → Prop
  N : σ → Nat
def Chain {σ : Type} (R : σ → List Nat → σ → Prop) : σ → List (List Nat) → σ → Prop
  | s, [], s' => s' = s
  | s, x :: l, s' => ∃ m, R s x m ∧ Chain R m l s'
theorem Chain.append {σ : Type} {R : σ → List Nat → σ → Prop} : ∀ {a b : List (List Nat)} {s m s' : σ}, Chain R s a m → Chain R m b s' → Chain R s (a ++ b) s'
  | [], _, _, _, _, h, k => by
    have h' : _ = _ := h
    subst h'
    exact k
  | x :: a, b, s, m, s', h, k => by
    obtain ⟨q, h1, h2⟩ := h
    exact ⟨q, h1, Chain.append h2 k⟩
theorem Chain.one {σ : Type} {R : σ → List Nat → σ → Prop} {s s' : σ} {x : List Nat} (h : R s x s') : Chain R s [x] s' := ⟨s', h, rfl⟩
structure KeepOK {σ : Type} (P : Keep σ) (bb : Nat) : Prop where
  lt : ∀ s X w, P.K s X w → ∀ x ∈ P.Z s, x < w.heap.size
  off : ∀ s X w, P.K s X w → ∀ x ∈ X, x < w.heap.size ∧ x ∉ P.Z s
  go : ∀ s X Y w w', P.K s X w → Tch X w w' → (∀ y ∈ Y, (y ∈ X ∨ w.heap.size ≤ y) ∧ y < w'.heap.size) → P.K s Y w'
  put : ∀ s X w v l, P.K s X w → RdA (P.Z s ++ X) w v l → l.length ≤ 1000000 → P.N s < 50000000 → Calls Tryz.prog 41 #[.pointer (some ⟨bb, 0, none⟩), v] w fun e w' => ∃ s', ZS (P.Z s) (P.Z s') w w' ∧ P.K s' X w' ∧ P.R s l s' ∧ P.N s' ≤ P.N s + 1 ∧ e = .returned (.agg (wf (hashN l)))
section
variable {σ : Type} {P : Keep σ} {bb : Nat}
theorem KeepOK.call (H : KeepOK P bb) {s : σ} {X : List Nat} {w w' : World} (h : P.K s X w) (hT : Tch [] w w') : P.K s X w' := H.go _ _ _ _ _ h hT.toX (fun y hy => ⟨.inl hy, Nat.lt_of_lt_of_le (H.off _ _ _ h y hy).1 hT.size⟩)
theorem KeepOK.cons (H : KeepOK P bb) {s : σ} {X : List Nat} {b : Nat} {w w' : World} (h : P.K s X w) (hT : Tch [] w w') (hb : w.heap.size ≤ b) (hb1 : b < w'.heap.size) : P.K s (b :: X) w' := H.go _ _ _ _ _ h hT.toX (fun y hy => by
  rcases List.mem_cons.1 hy with rfl | hy
  · exact ⟨.inr hb, hb1⟩
  · exact ⟨.inl hy, Nat.lt_of_lt_of_le (H.off _ _ _ h y hy).1 hT.size⟩)
theorem KeepOK.drop (H : KeepOK P bb) {s : σ} {X : List Nat} {b : Nat} {w w' : World} (h : P.K s (b :: X) w) (hT : Tch (b :: X) w w') : P.K s X w' := H.go _ _ _ _ _ h hT (fun y hy => ⟨.inl (List.mem_cons_of_mem _ hy), Nat.lt_of_lt_of_le (H.off _ _ _ h y (List.mem_cons_of_mem _ hy)).1 hT.size⟩)
theorem KeepOK.all (H : KeepOK P bb) {s : σ} {X : List Nat} {w : World} (h : P.K s X w) : ∀ x ∈ P.Z s ++ X, x < w.heap.size := fun x hx => by
  rcases List.mem_append.1 hx with hx | hx
  · exact H.lt _ _ _ h x hx
  · exact (H.off _ _ _ h x hx).1
variable (P) (bb)
def ItemPostK (X : List Nat) (it : It) (es : List (List Nat)) (s : σ) (w : World) (e : Ending) (w' : World) : Prop :=
  ∃ s' : σ, ZS (P.Z s) (P.Z s') w w' ∧ P.K s' X w' ∧ Chain P.R s es s' ∧ P.N s' ≤ P.N s + es.length ∧ ∃ (t : Bool) (p : Option Addr) (n c : Nat) (q : Option Addr) (k d : Nat), e = .returned (.agg #[.bool t, .slice p n c, .slice q k d]) ∧ ItC (P.Z s' ++ X) w' (dep it + 1) (.bool t) (.slice p n c) (.slice q k d) it
def GoodB (f : Nat) (es : List En) : Prop := es ≠ [] ∧ Apart es ∧ longest es < f ∧ (∀ e ∈ es, e.1.length ≤ 128 ∧ (∀ x ∈ e.1, x < 16) ∧ e.2.length ≤ 900000) ∧ es.length ≤ 100000
def BNodeOK (f : Nat) : Prop := ∀ (es : List En) (X : List Nat) (w : World) (s : σ) (v : Value), P.K s X w → PairsX (P.Z s ++ X) w v es → GoodB f es → P.N s + (nodeE pkT HL f es).length ≤ 50000000 → Calls Tryz.prog 40 #[.pointer (some ⟨bb, 0, none⟩), v] w (ItemPostK P X (nodeT pkT HL f es) (nodeE pkT HL f es) s w)
def refT (f : Nat) (es : List En) : It := if es = [] then .str [] else refI HL (nodeT pkT HL f es)
def refE (f : Nat) (es : List En) : List (List Nat) := if es = [] then [] else nodeE pkT HL f es ++ selfT (nodeT pkT HL f es)
def BRefOK (f : Nat) : Prop := ∀ (es : List En) (X : List Nat) (w : World) (s : σ) (v : Value), P.K s X w → PairsX (P.Z s ++ X) w v es → (es = [] ∨ GoodB f es) → P.N s + (refE f es).length ≤ 50000000 → Calls Tryz.prog 68 #[.pointer (some ⟨bb, 0, none⟩), v] w (ItemPostK P X (refT f es) (refE f es) s w)
end
theorem node_small {f : Nat} {es : List En} (h : GoodB f es) : (enc (nodeT pkT HL f es)).length ≤ 901000 ∧ dep (nodeT pkT HL f es) ≤ 32 := by
  obtain ⟨m, h1, h2⟩ := sort_ex es h.2.1
  have e : nodeT pkT HL f es = itemT pkT HL (buildT f m) := by
    rw [qh1 pkT HL f m h2]
    exact qh2 pkT HL f es m h.2.1 h1
  rw [e]
  exact ⟨ql5 HL_len (build_WT f m (fun x hx => h.2.2.2.1 x (h1.mem_iff.2 hx))), qk2 _⟩
theorem rBytes_e (p : Option Addr) (n c : Nat) (w : World) : Calls Tryz.prog 66 #[.slice p n c] w fun e w' => e = .returned (.agg #[.bool false, .slice p n c, .slice none 0 0]) ∧ Tch [] w w' := by
  have hS := St.start w
  have kb := build_text
  obtain ⟨d, hd⟩ := qg0
  go_enter Tryz.func66, Tryz.ntmps66
  go_wp2_with (first
    | (refine qe3 hS rfl 101 rfl qc9 ?_; clear hS; intro w1 b1 hS)
    | (refine qe4 (b := b1) (c' := #[.bool false, .slice p n c, .slice none 0 0]) hS rfl 101 _ _ rfl rfl rfl .head qa4 rfl rfl (qc4 _ _ _ _ _ _ _) ?_; clear hS; intro w2 hS))
  exact qf5 hS 2 101 rfl rfl rfl .head hd rfl qa4 rfl (fun hT => ⟨rfl, hT⟩)
theorem rList_e (p : Option Addr) (n c : Nat) (w : World) : Calls Tryz.prog 65 #[.slice p n c] w fun e w' => e = .returned (.agg #[.bool true, .slice none 0 0, .slice p n c]) ∧ Tch [] w w' := by
  have hS := St.start w
  have kb := build_list
  obtain ⟨d, hd⟩ := qg0
  go_enter Tryz.func65, Tryz.ntmps65
  go_wp2_with (first
    | (refine qe3 hS rfl 101 rfl qc9 ?_; clear hS; intro w1 b1 hS)
    | (refine qe4 (b := b1) (c' := #[.bool true, .slice none 0 0, .slice p n c]) hS rfl 101 _ _ rfl rfl rfl .head qa4 rfl rfl (qc4 _ _ _ _ _ _ _) ?_; clear hS; intro w2 hS))
  exact qf5 hS 2 101 rfl rfl rfl .head hd rfl qa4 rfl (fun hT => ⟨rfl, hT⟩)
end
section
open Go.RowKit Tr
set_option maxRecDepth 100000
section
variable {σ : Type} {P : Keep σ} {bb : Nat}
theorem St.callZ {bs z : List Nat} {w0 w w' : World} {L : List Ent} (h : St bs w0 w L) (hT : Tch z w w') (hx : ∀ x ∈ z, x ∈ bs ∨ w0.heap.size ≤ x) (hL : ∀ e ∈ L, e.1 ∉ z) : St bs w0 w' L := h.callX hT hx hL
theorem node_got (H : KeepOK P bb) {s s1 : σ} {b1 : Nat} {w w1 w2 : World} {X : List Nat} (hZ : ZS (P.Z s) (P.Z s1) w1 w2) (hK : P.K s1 (b1 :: X) w2) (hT1 : Tch [] w w1) : b1 ∉ P.Z s1 ∧ P.K s1 (b1 :: X) w2 ∧ ZS (P.Z s) (P.Z s1) w w2 :=
  ⟨(H.off _ _ _ hK b1 List.mem_cons_self).2, hK, (ZS.refl _ hT1).trans hZ⟩
theorem off_one {b1 : Nat} {z : List Nat} (h : b1 ∉ z) {t : TypeId} {c : Array Value} : ∀ e ∈ ([(b1, t, c)] : List Ent), e.1 ∉ z := fun e he => by
  rw [List.mem_singleton.1 he]; exact h
theorem off_two {b1 b2 : Nat} {z : List Nat} (h : b1 ∉ z) (h2 : b2 ∉ z) {t t2 : TypeId} {c c2 : Array Value} : ∀ e ∈ ([(b2, t2, c2), (b1, t, c)] : List Ent), e.1 ∉ z := fun e he => by
  rcases List.mem_cons.1 he with rfl | he
  · exact h2
  · rw [List.mem_singleton.1 he]; exact h
theorem ref_end (H : KeepOK P bb) {s s1 : σ} {b1 k : Nat} {w w2 w5 w6 w7 : World} {X : List Nat} {it : It} {t : Bool} {p q : Option Addr} {n c m d : Nat} (hZ : ZS (P.Z s) (P.Z s1) w w2) (hK : P.K s1 (b1 :: X) w2) (hT5 : Tch (b1 :: X) w2 w5) (hO : Only b1 w5 w6) (hb : w.heap.size ≤ b1) (hT7 : Tch (P.Z s) w w7) (e7 : Tch [] w6 w7) (hI : ItC (P.Z s1 ++ b1 :: X) w5 k (.bool t) (.slice p n c) (.slice q m d) it) : ZS (P.Z s) (P.Z s1) w w7 ∧ P.K s1 X w7 ∧ ItC (P.Z s1 ++ X) w7 k (.bool t) (.slice p n c) (.slice q m d) it :=
  ⟨⟨hT7, hZ.2⟩, H.drop hK ((hT5.trans (hO.tch.mono (fun x hx => .inl (by rw [List.mem_singleton.1 hx]; exact List.mem_cons_self)))).trans e7.toX), (((hI.tch (hO.tch.mono (fun x hx => .inl (by rw [List.mem_singleton.1 hx]; exact List.mem_append_right _ List.mem_cons_self)))).tch e7.toX).mono (by
    intro y hy
    refine .inl ?_
    rcases List.mem_append.1 hy with hy | hy
    · exact List.mem_append_left _ hy
    · exact List.mem_append_right _ (List.mem_cons_of_mem _ hy)))⟩
end
set_option maxHeartbeats 4000000 in
theorem ref_nil {σ : Type} {P : Keep σ} {bb : Nat} (H : KeepOK P bb) (f : Nat) (X : List Nat) (w : World) (s : σ) (v : Value) (hK : P.K s X w) (hv : PairsX (P.Z s ++ X) w v []) : Calls Tryz.prog 68 #[.pointer (some ⟨bb, 0, none⟩), v] w (ItemPostK P X (refT f []) (refE f []) s w) := by
  obtain ⟨p, c, rfl, _, _⟩ := hv
  rw [List.length_nil]
  obtain ⟨ds, hds⟩ := qg0
  have hS : St [] w w [] := St.start w
  have HB := hQz (fun (w' : World) => rBytes_e none 0 0 w')
  have HE := hQz (fun (w' : World) (hT : Tch [] w w') => show ItemPostK P X (refT f []) (refE f []) s w (.returned (.agg #[.bool false, .slice none 0 0, .slice none 0 0])) w' from ⟨s, ZS.refl _ hT, H.call hK hT, rfl, Nat.le_refl _, _, _, _, _, _, _, _, rfl, by
    unfold refT; rw [if_pos rfl, qg4]; unfold ItC; exact ⟨rfl, ⟨none, 0, rfl, Nat.le_refl _, by simp, fun h => absurd rfl h⟩, by decide⟩⟩)
  generalize ItemPostK P X (refT f []) (refE f []) s w = R at HE ⊢
  clear hK
  go_enter Tryz.func68, Tryz.ntmps68
  go_wp2_with (first
    | (refine qi4 hS rfl 101 rfl qc9 ?_; clear hS; intro w1 b1 hS hT1 hb1)
    | (go_at_call 66; refine (HB.out _).mono ?_; rintro e w2 ⟨rfl, hT2⟩; replace hS := hS.call hT2)
    | (refine qd1 (b := b1) (c' := #[.bool false, .slice none 0 0, .slice none 0 0]) hS rfl 101 _ _ rfl rfl rfl .head qa4 rfl rfl (qc4 _ _ _ _ _ _ _) ?_; clear hS; intro w4 hS hO))
  exact qf5 hS 4 101 rfl rfl rfl .head hds rfl qa4 rfl (fun hT => HE.out _ hT)
section
variable {σ : Type} {P : Keep σ} {bb : Nat}
theorem ref_put (H : KeepOK P bb) {s s1 s2 : σ} {b1 : Nat} {w w2 w5 w6 : World} {X : List Nat} (hg : b1 ∉ P.Z s1 ∧ P.K s1 (b1 :: X) w2 ∧ ZS (P.Z s) (P.Z s1) w w2) (hT : Tch [] w2 w5) (hZ : ZS (P.Z s1) (P.Z s2) w5 w6) (hK : P.K s2 (b1 :: X) w6) : b1 ∉ P.Z s2 ∧ P.K s2 (b1 :: X) w6 ∧ ZS (P.Z s) (P.Z s2) w w6 :=
  ⟨(H.off _ _ _ hK b1 List.mem_cons_self).2, hK, (hg.2.2.trans (ZS.refl _ hT)).trans hZ⟩
end
set_option maxHeartbeats 4000000 in
theorem ref_some {σ : Type} {P : Keep σ} {bb : Nat} (H : KeepOK P bb) (f : Nat) (HN : BNodeOK P bb f) (es : List En) (X : List Nat) (w : World) (s : σ) (v : Value) (hK : P.K s X w) (hv : PairsX (P.Z s ++ X) w v es) (hg : GoodB f es) (hlen : P.N s + (nodeE pkT HL f es ++ selfT (nodeT pkT HL f es)).length ≤ 50000000) : Calls Tryz.prog 68 #[.pointer (some ⟨bb, 0, none⟩), v] w (ItemPostK P X (refI HL (nodeT pkT HL f es)) (nodeE pkT HL f es ++ selfT (nodeT pkT HL f es)) s w) := by
  obtain ⟨hsz, hdp⟩ := node_small hg
  obtain ⟨pv, cv, hvv⟩ : ∃ pv cv, v = .slice pv es.length cv := ⟨_, _, hv.choose_spec.choose_spec.1⟩
  have hne : 0 < es.length := List.length_pos_iff.2 hg.1
  obtain ⟨it, hit⟩ : ∃ it, it = nodeT pkT HL f es := ⟨_, rfl⟩
  obtain ⟨Ls, hLs⟩ : ∃ Ls, Ls = nodeE pkT HL f es := ⟨_, rfl⟩
  have HND := hQz (fun (b1 : Nat) (w1 : World) (hT : Tch [] w w1) (hb : w.heap.size ≤ b1) (hb1 : b1 < w1.heap.size) => show Calls Tryz.prog 40 #[.pointer (some ⟨bb, 0, none⟩), v] w1 (ItemPostK P (b1 :: X) it Ls s w1) from by
    rw [hit, hLs]
    exact HN es (b1 :: X) w1 s v (H.cons hK hT hb hb1) ((hv.mono (Y := P.Z s ++ b1 :: X) (fun y hy => by
      rcases List.mem_append.1 hy with hy | hy
      · exact .inl (List.mem_append_left _ hy)
      · rcases List.mem_cons.1 hy with rfl | hy
        · exact .inr hb
        · exact .inl (List.mem_append_right _ hy))).tch hT.toX) hg (by rw [List.length_append] at hlen; omega))
  rw [← hit, ← hLs] at hlen ⊢
  rw [← hit] at hsz hdp
  have HPK := hQz (fun (Y : List Nat) (w1 : World) (x0 vb vl : Value) (hI : ItC Y w1 (dep it + 1) x0 vb vl it) => refPack_yesN (dep it + 1) x0 vb vl it w1 (hI.mono (Y := []) (by simp)) ⟨hdp, by omega⟩)
  have HH := hQz (And.intro H hK)
  obtain ⟨Lb, hLb⟩ : ∃ Lb, Lb = enc it := ⟨_, rfl⟩
  have hLle : Lb.length ≤ 901000 := by rw [hLb]; exact hsz
  rw [← hLb] at HPK
  have HLL := hQz (And.intro hLb hLle)
  have HP0 := hQz hsz
  have ks := slice_word
  obtain ⟨ds, hds⟩ := qg0
  have hS : St (P.Z s) w w [] := ⟨Tch.refl _ _, fun _ h => by simp at h, .nil⟩
  by_cases hlt : Lb.length < 32
  · have e1 : (Lb.length : Int) < 32 := by omega
    have hpost : refI HL it = it := by unfold refI; rw [if_pos (by rw [← hLb]; exact hlt)]
    have hself : selfT it = [] := by unfold selfT; rw [if_pos (by rw [← hLb]; exact hlt)]
    rw [hpost, hself, List.append_nil]
    subst hvv
    generalize es.length = en at *
    have e0 : ((en : Int) == 0) = false := by rw [beq_eq_false_iff_ne]; omega
    clear hLb hLle hlt hpost hself hlen hK hv hg hit hLs hsz hdp
    go_enter Tryz.func68, Tryz.ntmps68
    go_wp2_with (first
      | (have hq := HGt; refine qi4 hS rfl 101 rfl qc9 ?_; clear hS; intro w3 b5 hS hTn hbn; have HT3 := hQz (And.intro hTn hbn); clear hTn hbn)
      | (refine qi4 hS rfl 101 rfl qc9 ?_; clear hS; intro w1 b1 hS hT1 hb1; have H1 := hQz (And.intro hT1 (And.intro hb1 (hS.get .head).lt)); clear hT1 hb1)
      | (go_at_call 40; refine (HND.out b1 _ H1.out.1 H1.out.2.1 H1.out.2.2).mono ?_; rintro e w2 ⟨s1, hZ1, hK1, hC1, hN1, t, p, n, c, q, k, d, rfl, hI⟩; have HGt := hQz (And.intro (node_got HH.out.1 hZ1 hK1 H1.out.1) (And.intro hC1 (And.intro hN1 hI))); replace hS := hS.callZ hZ1.1 (fun x hx => .inl hx) (off_one (fun hm => by have h1 := HH.out.1.lt _ _ _ HH.out.2 _ hm; have h2 := H1.out.2.1; omega)); clear hZ1 hK1 hC1 hN1 hI)
      | (refine qd1 (b := b5) (c' := #[.bool t, .slice p n c, .slice q k d]) hS rfl 101 _ _ rfl rfl rfl .head qa4 rfl rfl (qc4 _ _ _ _ _ _ _) ?_; clear hS; intro w4 hS hO; have HT4 := hQz (HT3.out.1.only hO (.inl HT3.out.2)); clear hO)
      | (refine st_load (b := b5) hS rfl 101 _ rfl rfl .head hds rfl qa4 rfl ?_)
      | (go_at_call 39; refine (HPK.out _ _ _ _ _ (HGt.out.2.2.2.tch HT4.out.toX)).mono ?_; rintro e w5 ⟨xv, rfl, hT, hx⟩; obtain ⟨xp, xc, rfl⟩ : ∃ xp xc, xv = .slice xp Lb.length xc := (hx [] (by simp)).shape'; have HT5 := hQz (And.intro (HT4.out.trans hT) (And.intro HT4.out.size hx)); replace hS := hS.call hT; clear hT hx)
      | (refine qd1 (b := b1) (c' := #[.bool t, .slice p n c, .slice q k d]) hS rfl 101 _ _ rfl rfl rfl (.tail .head) qa4 rfl rfl (qc4 _ _ _ _ _ _ _) ?_; have hB1 := hS.get (.tail .head); clear hS; intro w6 hS hO; have HO := hQz (And.intro hO hB1); clear hO hB1))
    refine qf5 hS 4 101 rfl rfl rfl (.tail .head) hds rfl qa4 rfl (fun hT => ?_)
    obtain ⟨r1, r2, r3⟩ := ref_end HH.out.1 HGt.out.1.2.2 HGt.out.1.2.1 HT5.out.1.toX HO.out.1 H1.out.2.1 hT (Tch.refl _ _) (HGt.out.2.2.2.tch HT5.out.1.toX)
    exact ⟨s1, r1, r2, HGt.out.2.1, HGt.out.2.2.1, _, _, _, _, _, _, _, rfl, r3⟩
  · have e1 : ¬ (Lb.length : Int) < 32 := by omega
    have hpost : refI HL it = .str (HL Lb) := by unfold refI; rw [if_neg (by rw [← hLb]; exact hlt), ← hLb]
    have hself : selfT it = [Lb] := by unfold selfT; rw [if_neg (by rw [← hLb]; exact hlt), ← hLb]
    rw [hself, List.length_append, List.length_singleton] at hlen
    rw [hpost, hself]
    have HCN := hQz hlen
    subst hvv
    generalize es.length = en at *
    have e0 : ((en : Int) == 0) = false := by rw [beq_eq_false_iff_ne]; omega
    clear hLb hLle hlt hpost hself hlen hK hv hg hit hLs hsz hdp
    go_enter Tryz.func68, Tryz.ntmps68
    go_wp2_with (first
      | (have hq := HGt; refine qi4 hS rfl 101 rfl qc9 ?_; clear hS; intro w3 b5 hS hTn hbn; have HT3 := hQz (And.intro hTn hbn); clear hTn hbn)
      | (refine qi4 hS rfl 101 rfl qc9 ?_; clear hS; intro w1 b1 hS hT1 hb1; have H1 := hQz (And.intro hT1 (And.intro hb1 (hS.get .head).lt)); clear hT1 hb1)
      | (go_at_call 40; refine (HND.out b1 _ H1.out.1 H1.out.2.1 H1.out.2.2).mono ?_; rintro e w2 ⟨s1, hZ1, hK1, hC1, hN1, t, p, n, c, q, k, d, rfl, hI⟩; have HGt := hQz (And.intro (node_got HH.out.1 hZ1 hK1 H1.out.1) (And.intro hC1 (And.intro hN1 hI))); replace hS := hS.callZ hZ1.1 (fun x hx => .inl hx) (off_one (fun hm => by have h1 := HH.out.1.lt _ _ _ HH.out.2 _ hm; have h2 := H1.out.2.1; omega)); clear hZ1 hK1 hC1 hN1 hI)
      | (refine qd1 (b := b5) (c' := #[.bool t, .slice p n c, .slice q k d]) hS rfl 101 _ _ rfl rfl rfl .head qa4 rfl rfl (qc4 _ _ _ _ _ _ _) ?_; clear hS; intro w4 hS hO; have HT4 := hQz (HT3.out.1.only hO (.inl HT3.out.2)); clear hO)
      | (refine st_load (b := b5) hS rfl 101 _ rfl rfl .head hds rfl qa4 rfl ?_)
      | (go_at_call 39; refine (HPK.out _ _ _ _ _ (HGt.out.2.2.2.tch HT4.out.toX)).mono ?_; rintro e w5 ⟨xv, rfl, hT, hx⟩; obtain ⟨xp, xc, rfl⟩ : ∃ xp xc, xv = .slice xp Lb.length xc := (hx [] (by simp)).shape'; have HT5 := hQz (And.intro (HT4.out.trans hT) (And.intro HT4.out.size hx)); replace hS := hS.call hT; clear hT hx)
      | (go_at_call 41; refine (HH.out.1.put s1 (b1 :: X) _ _ Lb (HH.out.1.call HGt.out.1.2.1 HT5.out.1) (HT5.out.2.2 _ (fun x hx => Nat.lt_of_lt_of_le (HH.out.1.all HGt.out.1.2.1 x hx) HT5.out.2.1)) (by have := HLL.out.2; omega) (by have h1 := HGt.out.2.2.1; have h2 := HCN.out; omega)).mono ?_; rintro e w6 ⟨s2, hZ2, hK2, hR2, hN2, rfl⟩; have HSz := hQz hS.frame.size; have HK2 := hQz (And.intro (ref_put HH.out.1 HGt.out.1 HT5.out.1 hZ2 hK2) (And.intro hR2 hN2)); replace hS := hS.callZ hZ2.1 (HGt.out.1.2.2.2) (off_two HGt.out.1.1 (fun hm => by have h1 := HH.out.1.lt _ _ _ HGt.out.1.2.1 _ hm; have h2 := HT3.out.2; omega)); clear hZ2 hK2 hR2 hN2)
      | (have _t := HK2; clear _t; refine qi4 hS rfl 32 rfl qd5 ?_; clear hS; intro w7 b7 hS hT7 hb7; have HT7 := hQz (And.intro hT7 hb7); clear hT7 hb7)
      | (refine qd1 (b := b7) (c' := wf (hashN Lb)) hS rfl 32 _ _ rfl rfl rfl .head qb4 (qa5 _) (qa5 _) (qj1 _) ?_; clear hS; intro w8 hS hO; have HT8 := hQz (HT7.out.1.only hO (.inl HT7.out.2)); have HB7 := hQz (hS.get .head); clear hO)
      | (go_at_call 66; refine (rBytes_e _ _ _ _).mono ?_; rintro e w9 ⟨rfl, hT9⟩; have HT9 := hQz hT9; replace hS := hS.call hT9; clear hT9)
      | (refine qd1 (b := b1) (c' := #[.bool false, .slice (some ⟨b7, 0, none⟩) 32 32, .slice none 0 0]) hS rfl 101 _ _ rfl rfl rfl (.tail (.tail .head)) qa4 rfl rfl (qc4 _ _ _ _ _ _ _) ?_; have hB1 := hS.get (.tail (.tail .head)); clear hS; intro wa hS hO; have HO := hQz (And.intro hO hB1); clear hO hB1))
    refine qf5 hS 4 101 rfl rfl rfl (.tail (.tail .head)) hds rfl qa4 rfl (fun hT => ?_)
    have hoff : b7 ∉ P.Z s2 ++ b1 :: X := fun hm => by
      have hs6 := HT7.out.2
      have := HH.out.1.all HK2.out.1.2.1 _ hm
      omega
    have hI : ItC (P.Z s2 ++ b1 :: X) w9 (dep (.str (HL Lb)) + 1) (.bool false) (.slice (some ⟨b7, 0, none⟩) 32 32) (.slice none 0 0) (.str (HL Lb)) := by
      rw [qg4]
      unfold ItC
      exact ⟨rfl, (rdB_at (hash_rd Lb HB7.out) hoff).tch HT9.out.toX, by rw [HL_len]; decide⟩
    obtain ⟨r1, r2, r3⟩ := ref_end HH.out.1 HK2.out.1.2.2 HK2.out.1.2.1 (HT8.out.trans HT9.out).toX HO.out.1 H1.out.2.1 hT (Tch.refl _ _) hI
    exact ⟨s2, r1, r2, HGt.out.2.1.append (Chain.one HK2.out.2.1), by rw [List.length_append, List.length_singleton]; have h1 := HGt.out.2.2.1; have h2 := HK2.out.2.2; omega, _, _, _, _, _, _, _, rfl, r3⟩
theorem ref_of_node {σ : Type} {P : Keep σ} {bb : Nat} (H : KeepOK P bb) (f : Nat) (HN : BNodeOK P bb f) : BRefOK P bb f := by
  intro es X w s v hK hv hg hlen
  by_cases h0 : es = []
  · subst h0
    exact ref_nil H f X w s v hK hv
  · have hg := hg.resolve_left h0
    unfold refT refE at *
    rw [if_neg h0] at hlen
    rw [if_neg h0, if_neg h0]
    exact ref_some H f HN es X w s v hK hv hg hlen
end
section
open Go.RowKit Tr
set_option maxRecDepth 100000
section
variable {a : Act} {w : World} {o : Oper} {ops : Array Oper} {rest : List Oper} {Q : Exit → Act → World → Prop}
theorem qc1 {v : Value} (hgd : o.guard = none) (hr : (execOp a.eval o).run Tryz.prog w = .ok (.value v) w) (h : wpList Tryz.prog ops Q rest (a.put o.dst v) w) : wpList Tryz.prog ops Q (o :: rest) a w :=
  wpList_plain hgd fun K hK => by
    unfold Oper.wp
    rw [hr]
    exact hK _ _ h
end
theorem qk4 {X : List Nat} {w : World} {v : Value} {es : List En} (h : PairsX X w v es) : ∃ p n c, v = .slice p n c ∧ n = es.length ∧ (0 < n → ∃ b o, p = some ⟨b, o, none⟩ ∧ b < w.heap.size ∧ b ∉ X ∧ ∀ i (hi : i < es.length), ∃ p1 c1 p2 c2, w.cell? ⟨b, o + i * 2, none⟩ = some (.slice p1 es[i].1.length c1) ∧ w.cell? ⟨b, o + i * 2 + 1, none⟩ = some (.slice p2 es[i].2.length c2) ∧ RdA X w (.slice p1 es[i].1.length c1) es[i].1 ∧ RdA X w (.slice p2 es[i].2.length c2) es[i].2) := by
  obtain ⟨p, c, h1, h2, h3⟩ := h
  refine ⟨p, _, c, h1, rfl, fun hn => ?_⟩
  obtain ⟨b, o, h4, h5, h6, h7⟩ := h3 (List.length_pos_iff.1 hn)
  refine ⟨b, o, h4, h5, h6, fun i hi => ?_⟩
  obtain ⟨kv, vv, g0, g1, g2, g3⟩ := h7 i hi
  obtain ⟨p1, c1, rfl⟩ := g2.shape'
  obtain ⟨p2, c2, rfl⟩ := g3.shape'
  exact ⟨p1, c1, p2, c2, g0, g1, g2, g3⟩
set_option maxHeartbeats 8000000 in
theorem node_leaf {σ : Type} {P : Keep σ} {bb : Nat} (H : KeepOK P bb) (en : En) (X : List Nat) (w : World) (s : σ) (v : Value) (hK : P.K s X w) (hv : PairsX (P.Z s ++ X) w v [en]) (hg : en.1.length ≤ 128 ∧ (∀ x ∈ en.1, x < 16) ∧ en.2.length ≤ 900000) : Calls Tryz.prog 40 #[.pointer (some ⟨bb, 0, none⟩), v] w (ItemPostK P X (.lst [.str (pkT en.1 true), .str en.2]) [] s w) := by
  obtain ⟨p, n, c, rfl, hn, hat⟩ := qk4 hv
  obtain rfl : n = 1 := hn
  obtain ⟨b, o, rfl, hb, hbX, hc⟩ := hat (by decide)
  obtain ⟨p1, c1, p2, c2, g0, g1, g2, g3⟩ := hc 0 (by simp)
  rw [Nat.zero_mul, Nat.add_zero] at g0 g1
  simp only [List.getElem_cons_zero] at g0 g1 g2 g3
  obtain ⟨n1, hn1⟩ : ∃ n1, n1 = en.1.length := ⟨_, rfl⟩
  obtain ⟨n2, hn2⟩ : ∃ n2, n2 = en.2.length := ⟨_, rfl⟩
  rw [← hn1] at g0 g2
  rw [← hn2] at g1 g3
  have HC0 := hQz (fun (w' : World) (hT : Tch [] w w') => show w'.cell? ⟨b, o, none⟩ = some (.slice p1 n1 c1) from (hT.cell (p := ⟨b, o, none⟩) hb (by simp)).trans g0)
  have HC1 := hQz (fun (w' : World) (hT : Tch [] w w') => show w'.cell? ⟨b, o + 1, none⟩ = some (.slice p2 n2 c2) from (hT.cell (p := ⟨b, o + 1, none⟩) hb (by simp)).trans g1)
  have HP := hQz (fun (w' : World) (hT : Tch [] w w') => show Calls Tryz.prog 64 #[.slice p1 n1 c1, .bool true] w' (NewPost w' (some (pkT en.1 true))) from by
    rw [← packL_T true hg.2.1]
    exact refPack_newP _ en.1 true w' (by omega) ((g2.tch hT.toX).mono (by simp)))
  have HU := hQz (And.intro hg (And.intro (show RdA (P.Z s ++ X) w (.slice p2 n2 c2) en.2 from g3) (show (pkT en.1 true).length ≤ 130 from Nat.le_trans (pkT_len _ _) (by omega))))
  have HH := hQz (And.intro H hK)
  obtain ⟨ds, hds⟩ := qg0
  have hS : St [] w w [] := St.start w
  clear hK hv hg hat hc g0 g1 g2 g3 hn1 hn2 hbX hb
  go_enter Tryz.func40, Tryz.ntmps40
  go_upto_region 3 with (first
    | (refine qi4 hS rfl 101 rfl qc9 ?_; clear hS; intro w1 b1 hS hT1 hb1; have H1 := hQz (And.intro hT1 (And.intro hb1 (hS.get .head).lt)); clear hT1 hb1)
    | (refine qc1 rfl (x_idxR (j := 0) _ _ rfl rfl rfl (by decide)) ?_)
    | (refine qc1 rfl (x_fa 93 _ 0 rfl rfl (fa_R0 _ _ _)) ?_)
    | (refine qc1 rfl (qe2 23 _ rfl rfl (HC0.out _ hS.frame) qa9) ?_)
    | (go_at_call 64; refine (HP.out _ hS.frame).mono ?_; rintro e w2 ⟨hT2, pv, rfl, hnw⟩; obtain ⟨pp, pc, rfl⟩ : ∃ pp pc, pv = .slice pp (pkT en.1 true).length pc := (hnw [] (by simp)).shape'; have H2 := hQz (And.intro hS.frame.size (And.intro hT2 hnw)); replace hS := hS.call hT2; clear hT2 hnw))
  try simp only [Act.put, ppA, ppB, ppC]
  have hB1 := hS.get .head
  have hT := hS.frame
  refine wp_region_held_drew (S := fun w' => Tch [] w w') (by kernel_rfl) hT.drew (fun hC => ?_)
  have hB10 := ((Tch.refl [] w2).drew).blk hB1 (by simp)
  have hTd : Tch [] w2 w2.drew := (Tch.refl [] w2).drew
  generalize World.drew w2 = u0 at hC hB10 hTd ⊢
  refine qa0 (v := .slice pp (pkT en.1 true).length pc) 0 rfl (by kernel_rfl) (by kernel_rfl) (by kernel_rfl) (fun _ _ _ h => h) hC rfl (fun w' hw' => qb2 (.inl rfl) rfl) ?_
  try simp only [Act.put, ppA, ppB, ppC]
  refine qa0 (v := .slice (some ⟨b, o, none⟩) 1 c) 2 rfl (by kernel_rfl) (by kernel_rfl) (by kernel_rfl) (fun _ _ _ h => h) hC rfl (fun w' hw' => qb2 (.inl rfl) rfl) ?_
  try simp only [Act.put, ppA, ppB, ppC]
  refine qa0 (v := .pointer (some ⟨b, o, none⟩)) 3 rfl (by kernel_rfl) (by kernel_rfl) (by kernel_rfl) (fun _ _ _ h => h) hC rfl (fun w' hw' => x_idxR (j := 0) _ _ rfl rfl rfl (by decide)) ?_
  try simp only [Act.put, ppA, ppB, ppC]
  refine qa0 (v := .pointer (some ⟨b, o + 1, none⟩)) 4 rfl (by kernel_rfl) (by kernel_rfl) (by kernel_rfl) (fun _ _ _ h => h) hC rfl (fun w' hw' => x_fa _ _ _ rfl rfl (fa_R1 _ _ _)) ?_
  try simp only [Act.put, ppA, ppB, ppC]
  refine qa0 (v := .slice p2 n2 c2) 5 rfl (by kernel_rfl) (by kernel_rfl) (by kernel_rfl) (fun _ _ _ h => h) hC rfl (fun w' hw' => qe2 _ _ rfl rfl (HC1.out w' hw') qa9) ?_
  try simp only [Act.put, ppA, ppB, ppC]
  refine qa6 1 (by kernel_rfl) ?_
  refine qk6 (v1 := .slice pp (pkT en.1 true).length pc) rfl rfl rfl (by rfl) Tryz.call66 (rBytes_e _ _ _ u0) ?_
  rintro e u1 ⟨rfl, hT1⟩
  have hC1 := hC.trans hT1
  refine ⟨_, rfl, hC1, ?_⟩
  try simp only [Act.put, ppA, ppB, ppC]
  refine qa6 6 (by kernel_rfl) ?_
  refine qk6 (v1 := .slice p2 n2 c2) rfl rfl rfl (by rfl) Tryz.call66 (rBytes_e _ _ _ u1) ?_
  rintro e u2 ⟨rfl, hT2⟩
  have hC2 := hC1.trans hT2
  refine ⟨_, rfl, hC2, ?_⟩
  try simp only [Act.put, ppA, ppB, ppC]
  refine qa6 7 (by kernel_rfl) ?_
  refine held_bs2 rfl rfl rfl (by rfl) (by rfl) ?_
  have hTa : Tch [] u2 (u2.alloc (.cells #[.bool false, .slice pp (pkT en.1 true).length pc, .slice none 0 0, .bool false, .slice p2 n2 c2, .slice none 0 0] 101)) := (Tch.refl _ _).alloc _
  have hBa := Blk.new u2 101 #[.bool false, .slice pp (pkT en.1 true).length pc, .slice none 0 0, .bool false, .slice p2 n2 c2, .slice none 0 0]
  have hC3 := hC2.trans hTa
  refine ⟨hC3, ?_⟩
  generalize u2.alloc (.cells #[.bool false, .slice pp (pkT en.1 true).length pc, .slice none 0 0, .bool false, .slice p2 n2 c2, .slice none 0 0] 101) = u3 at hTa hBa hC3 ⊢
  try simp only [Act.put, ppA, ppB, ppC]
  refine qa6 8 (by kernel_rfl) ?_
  refine qk6 (v1 := .slice (some ⟨u2.heap.size, 0, none⟩) 2 2) rfl rfl rfl (by rfl) Tryz.call65 (rList_e _ _ _ u3) ?_
  rintro e u4 ⟨rfl, hT4⟩
  have hC4 := hC3.trans hT4
  refine ⟨_, rfl, hC4, ?_⟩
  try simp only [Act.put, ppA, ppB, ppC]
  have hB14 := hT4.blk (hTa.blk (hT2.blk (hT1.blk hB10 (by simp)) (by simp)) (by simp)) (by simp)
  refine qa6 9 (by kernel_rfl) ?_
  refine held_storeB (c' := #[.bool true, .slice none 0 0, .slice (some ⟨u2.heap.size, 0, none⟩) 2 2]) hB14 qa4 rfl rfl (qc4 _ _ _ _ _ _ _) rfl rfl rfl (by rfl) (by rfl) ?_
  intro u5 hO hB15
  have hC5 := hC4.only hO (.inl H1.out.2.1)
  refine ⟨hC5, ?_⟩
  refine wpAnyH_done (by kernel_rfl) ?_ _
  have hoff : ∀ x ∈ P.Z s ++ b1 :: X, x < w1.heap.size := HH.out.1.all (HH.out.1.cons HH.out.2 H1.out.1 H1.out.2.1 H1.out.2.2)
  have hw12 : w1.heap.size ≤ w2.heap.size := H2.out.2.1.size
  have hu2 : w2.heap.size ≤ u2.heap.size := Nat.le_trans hTd.size (Nat.le_trans hT1.size hT2.size)
  have hIp : RdA (P.Z s ++ b1 :: X) u3 (.slice pp (pkT en.1 true).length pc) (pkT en.1 true) := ((((H2.out.2.2 _ hoff).tch hTd.toX).tch hT1.toX).tch hT2.toX).tch hTa.toX
  have hIu : RdA (P.Z s ++ b1 :: X) u3 (.slice p2 n2 c2) en.2 := (HU.out.2.1.mono (Y := P.Z s ++ b1 :: X) (fun y hy => by
    rcases List.mem_append.1 hy with hy | hy
    · exact .inl (List.mem_append_left _ hy)
    · rcases List.mem_cons.1 hy with rfl | hy
      · exact .inr H1.out.2.1
      · exact .inl (List.mem_append_right _ hy))).tch hC3.toX
  have hLs : ItC (P.Z s ++ b1 :: X) u3 (dep (.lst [.str (pkT en.1 true), .str en.2]) + 1) (.bool true) (.slice none 0 0) (.slice (some ⟨u2.heap.size, 0, none⟩) 2 2) (.lst [.str (pkT en.1 true), .str en.2]) := by
    refine itc_list (fun i => if i = 0 then (.bool false, .slice pp (pkT en.1 true).length pc, .slice none 0 0) else (.bool false, .slice p2 n2 c2, .slice none 0 0)) rfl (by decide) hBa.lt (fun hm => by have := hoff _ hm; omega) fun i hi => ?_
    match i, hi with
    | 0, _ => exact ⟨hBa.cell (j := 0) rfl, hBa.cell (j := 1) rfl, hBa.cell (j := 2) rfl, by show ItC _ _ (dep (.str _) + 1) _ _ _ _; rw [qg4]; unfold ItC; exact ⟨rfl, hIp, by have := HU.out.2.2; omega⟩⟩
    | 1, _ => exact ⟨hBa.cell (j := 3) rfl, hBa.cell (j := 4) rfl, hBa.cell (j := 5) rfl, by show ItC _ _ (dep (.str _) + 1) _ _ _ _; rw [qg4]; unfold ItC; exact ⟨rfl, hIu, by have := HU.out.1.2.2; omega⟩⟩
  obtain ⟨r1, r2, r3⟩ := ref_end (X := X) (w2 := w1) (w5 := u4) (w7 := u5) HH.out.1 (ZS.refl _ H1.out.1) (HH.out.1.cons HH.out.2 H1.out.1 H1.out.2.1 H1.out.2.2) (((((H2.out.2.1.trans hTd).trans hT1).trans hT2).trans hTa).trans hT4).toX hO H1.out.2.1 (hC5.mono (by simp)) (Tch.refl _ _) (hLs.tch hT4.toX)
  have HF := hQz (And.intro hB15 (show ItemPostK P X (.lst [.str (pkT en.1 true), .str en.2]) [] s w (.returned (.agg #[.bool true, .slice none 0 0, .slice (some ⟨u2.heap.size, 0, none⟩) 2 2])) u5 from ⟨s, r1, r2, rfl, Nat.le_refl _, _, _, _, _, _, _, _, rfl, r3⟩))
  clear HC0 HC1 HP hC hC1 hC2 hC3 hC4 hTd hT1 hT2 hTa hT4 hLs hB10 hB14 hB1 hBa hO hB15 r1 r2 r3 hIp hIu hoff hw12 hu2 hC5 hT hS
  go_wp2
  exact post_cell 4 101 rfl rfl rfl HF.out.1 hds rfl qa4 rfl HF.out.2
end
section
open Go.RowKit Tr
set_option maxRecDepth 100000
namespace Tr
def cpK (p : List Nat) (es : List En) (k : Nat) : Nat := (es.take k).foldl (fun n e => min n (cp p e.1)) p.length
theorem cpK_succ (p : List Nat) (es : List En) (k : Nat) (h : k < es.length) : cpK p es (k + 1) = min (cpK p es k) (cp p es[k].1) := by
  unfold cpK
  rw [List.take_add_one, List.getElem?_eq_getElem h, Option.toList_some, List.foldl_append]
  rfl
theorem cp_self : ∀ p : List Nat, cp p p = p.length
  | [] => rfl
  | x :: p => by unfold cp; rw [if_pos rfl, cp_self p]; rfl
theorem cpK_one (es : List En) (h : 0 < es.length) : cpK es[0].1 es 1 = es[0].1.length := by
  rw [cpK_succ _ _ 0 h]
  unfold cpK
  rw [List.take_zero, List.foldl_nil, cp_self, Nat.min_self]
theorem cpK_all (es : List En) (h : 0 < es.length) : cpK es[0].1 es es.length = cpAll es.head!.1 es.tail := by
  match es, h with
  | e :: l, _ =>
    unfold cpK cpAll
    rw [List.take_length, List.foldl_cons]
    show List.foldl _ (min e.1.length (cp e.1 e.1)) l = _
    rw [cp_self, Nat.min_self]
    rfl
end Tr
theorem slice_toQ (p : Option Addr) (n c k : Nat) (hk : k ≤ n) (hc : n ≤ c) (w : World) : (Instr.sliceAt 23 (.slice p n c) none (some (.int .i64 (k : Int))) none).run Tryz.prog w = .ok (.slice p k c) w := by
  have hel : Tryz.prog.elem 23 = 5 := by kernel_rfl
  have ht : Tryz.prog.underlying 23 = some (.slice (Tryz.prog.elem 23)) := by rw [hel]; exact qb5
  have e1 := run_sliceAt_slice (P := Tryz.prog) (w := w) 23 (.slice p n c) none (some (.int .i64 (k : Int))) none ht
  have e2 := run_slice_h (P := Tryz.prog) (w := w) 23 p n c ht .i64 (k : Int) (by omega) (by omega)
  rw [e1, e2, hel, sizeOf_u8]
  cases p <;> simp [Result.andThen, sliced, Addr.add]
section
variable {o : Oper} {a : Act} {ops : Array Oper} {rest : List Oper} {C : World → Prop} {Q : Act → Prop}
theorem k_idxR {b off j n c : Nat} (hw : Region.wanted o (yielded ops a.tmps) = true) (x y : Operand) (ho : o.op = .indexAddr 90 x y) (hx : a.eval x = .slice (some ⟨b, off, none⟩) n c) (hy : a.eval y = .int .i64 (j : Int)) (hj : j < n)
    (h : KQ ops C Q rest (a.put o.dst (.pointer (some ⟨b, off + j * 2, none⟩)))) : KQ ops C Q (o :: rest) a := qd6 hw (fun _ => x_idxR x y ho hx hy hj) h
theorem k_idxRz {b off n c : Nat} (hw : Region.wanted o (yielded ops a.tmps) = true) (x y : Operand) (ho : o.op = .indexAddr 90 x y) (hx : a.eval x = .slice (some ⟨b, off, none⟩) n c) (hy : a.eval y = .int .i64 0) (hj : 0 < n)
    (h : KQ ops C Q rest (a.put o.dst (.pointer (some ⟨b, off, none⟩)))) : KQ ops C Q (o :: rest) a := qd6 hw (fun _ => by
      have h2 := x_idxR (j := 0) x y ho hx hy hj (w := ‹World›)
      simpa using h2) h
end
theorem St.toZ {z : List Nat} {w w' : World} {L : List Ent} (h : St [] w w' L) : St z w w' L := ⟨h.frame.mono (by simp), fun e he => ⟨(h.blk e he).1, (h.blk e he).2.imp id (by simp)⟩, h.apart⟩
theorem st_bs2 {ops : Array Oper} {rest : List Oper} {o : Oper} {a : Act} {bs : List Nat} {w0 w : World} {Q : Exit → Act → World → Prop} {L : List Ent} {x1 x2 : Operand} {t t' : Bool} {p q p' q' : Option Addr} {n1 c1 m1 d1 n2 c2 m2 d2 : Nat} (hS : St bs w0 w L) (hgd : o.guard = none) (ho : o.op = .buildSlice 99 2 #[(0, x1), (1, x2)])
    (h1 : a.eval x1 = .agg #[.bool t, .slice p n1 c1, .slice q m1 d1]) (h2 : a.eval x2 = .agg #[.bool t', .slice p' n2 c2, .slice q' m2 d2])
    (h : ∀ w' g, w.heap.size ≤ g → Tch [] w w' → St bs w0 w' ((g, 101, #[.bool t, .slice p n1 c1, .slice q m1 d1, .bool t', .slice p' n2 c2, .slice q' m2 d2]) :: L) → wpList Tryz.prog ops Q rest (a.put o.dst (.slice (some ⟨g, 0, none⟩) 2 2)) w') : wpList Tryz.prog ops Q (o :: rest) a w :=
  wpList_plain hgd fun K hK => by
    have hr := buildI2 t t' p q p' q' n1 c1 m1 d1 n2 c2 m2 d2 w
    unfold Oper.wp execOp
    simp only [ho, List.map_toArray, List.map_cons, List.map_nil, h1, h2, Sem.run_bind, hr, Result.andThen_ok, Sem.run_pure]
    exact hK _ _ (h _ _ (Nat.le_refl _) ((Tch.refl _ _).alloc _) (hS.new _ _))
theorem two_items {X : List Nat} {w : World} {g : Nat} {i1 i2 : It} {t t' : Bool} {p q p' q' : Option Addr} {n1 c1 m1 d1 n2 c2 m2 d2 : Nat} (hB : Blk w g 101 #[.bool t, .slice p n1 c1, .slice q m1 d1, .bool t', .slice p' n2 c2, .slice q' m2 d2]) (hg : g ∉ X) (h1 : ItC X w (dep i1 + 1) (.bool t) (.slice p n1 c1) (.slice q m1 d1) i1) (h2 : ItC X w (dep i2 + 1) (.bool t') (.slice p' n2 c2) (.slice q' m2 d2) i2) : ItC X w (dep (.lst [i1, i2]) + 1) (.bool true) (.slice none 0 0) (.slice (some ⟨g, 0, none⟩) 2 2) (.lst [i1, i2]) := by
  refine itc_list (fun i => if i = 0 then (.bool t, .slice p n1 c1, .slice q m1 d1) else (.bool t', .slice p' n2 c2, .slice q' m2 d2)) rfl (by decide) hB.lt hg fun i hi => ?_
  match i, hi with
  | 0, _ => exact ⟨hB.cell (j := 0) rfl, hB.cell (j := 1) rfl, hB.cell (j := 2) rfl, h1⟩
  | 1, _ => exact ⟨hB.cell (j := 3) rfl, hB.cell (j := 4) rfl, hB.cell (j := 5) rfl, h2⟩
theorem share_first {es : List En} (h : 2 ≤ es.length) : ∀ e ∈ es, cpAll es.head!.1 es.tail ≤ e.1.length := by
  match es, h with
  | e :: l, h =>
    intro x hx
    exact ((qg3 (e := e) (l := l)).1 (Nat.le_refl _) x hx).1
theorem cp_le_first {es : List En} (h : 2 ≤ es.length) : cpAll es.head!.1 es.tail ≤ es.head!.1.length := by
  match es, h with
  | e :: l, h => exact share_first (es := e :: l) h e List.mem_cons_self
theorem good_rests {f : Nat} {es : List En} (hg : GoodB (f + 1) es) (h : 2 ≤ es.length) (hp : 0 < cpAll es.head!.1 es.tail) : GoodB f (rests (cpAll es.head!.1 es.tail) es) := by
  match es, h with
  | e :: l, _ =>
    have hs : Share (e :: l) (cpAll e.1 l) := qg3.1 (Nat.le_refl _)
    refine ⟨by simp [rests], hg.2.1.rests hs, ?_, fun x hx => ?_, by unfold rests; rw [List.length_map]; exact hg.2.2.2.2⟩
    · exact (qd7 hp hs hg.2.2.1).resolve_right (by simp)
    · obtain ⟨y, hy, rfl⟩ := List.mem_map.1 hx
      obtain ⟨k1, k2, k3⟩ := hg.2.2.2.1 y hy
      exact ⟨by show (y.1.drop _).length ≤ 128; rw [List.length_drop]; omega, fun z hz => k2 z (List.mem_of_mem_drop hz), k3⟩
theorem zmono {z X : List Nat} {w : World} {b1 : Nat} (hb : w.heap.size ≤ b1) : ∀ y ∈ z ++ b1 :: X, y ∈ z ++ X ∨ w.heap.size ≤ y := fun y hy => by
  rcases List.mem_append.1 hy with hy | hy
  · exact .inl (List.mem_append_left _ hy)
  · rcases List.mem_cons.1 hy with rfl | hy
    · exact .inr hb
    · exact .inl (List.mem_append_right _ hy)
set_option maxHeartbeats 16000000 in
theorem node_ext {σ : Type} {P : Keep σ} {bb : Nat} (H : KeepOK P bb) (f : Nat) (HR : BRefOK P bb f) (es : List En) (X : List Nat) (w : World) (s : σ) (v : Value) (hK : P.K s X w) (hv : PairsX (P.Z s ++ X) w v es) (hg : GoodB (f + 1) es) (hlen2 : 2 ≤ es.length) (hpos : 0 < cpAll es.head!.1 es.tail) (hcnt : P.N s + (refE f (rests (cpAll es.head!.1 es.tail) es)).length ≤ 50000000) : Calls Tryz.prog 40 #[.pointer (some ⟨bb, 0, none⟩), v] w (ItemPostK P X (.lst [.str (pkT (es.head!.1.take (cpAll es.head!.1 es.tail)) false), refT f (rests (cpAll es.head!.1 es.tail) es)]) (refE f (rests (cpAll es.head!.1 es.tail) es)) s w) := by
  have hhd : es.head!.1 = (es[0]'(by omega)).1 := by
    match es, hlen2 with
    | e :: l, _ => rfl
  have hgr := good_rests hg hlen2 hpos
  have hrr : ∀ e ∈ es, cpAll es.head!.1 es.tail ≤ e.1.length := share_first hlen2
  obtain ⟨p, n, c, rfl, hn, hat⟩ := qk4 hv
  have hn2 : 2 ≤ n := by rw [hn]; exact hlen2
  have hnb : n ≤ 100000 := by rw [hn]; exact hg.2.2.2.2
  obtain ⟨b, o, rfl, hb, hbX, hc⟩ := hat (by omega)
  have h0n : 0 < es.length := by omega
  obtain ⟨p1, c1, p2, c2, g0, -, g2, -⟩ := hc 0 h0n
  rw [Nat.zero_mul, Nat.add_zero] at g0
  obtain ⟨q0, hq0⟩ : ∃ q0, q0 = (es[0]'h0n).1 := ⟨_, rfl⟩
  rw [← hq0] at g0 g2
  obtain ⟨n1, hn1⟩ : ∃ n1, n1 = q0.length := ⟨_, rfl⟩
  rw [← hn1] at g0 g2
  have hgd := hg.2.2.2.1
  have hq0m : es[0]'h0n ∈ es := List.getElem_mem h0n
  have hq0l : q0.length ≤ 128 := by rw [hq0]; exact (hgd _ hq0m).1
  have hn1l : n1 ≤ 128 := by rw [hn1]; exact hq0l
  have HC0 := hQz (fun (w' : World) (hT : Tch [] w w') => show w'.cell? ⟨b, o, none⟩ = some (.slice p1 n1 c1) from (hT.cell (p := ⟨b, o, none⟩) hb (by simp)).trans g0)
  have HCM := hQz (fun (w' : World) (hT : Tch [] w w') (v2 : Value) (l2 : List Nat) (h2 : l2.length ≤ 128) (h : RdA [] w v2 l2) => rcommon_any (.slice p1 n1 c1) v2 q0 l2 w' (by omega) (by omega) ((g2.mono (by simp)).tch hT) (h.tch hT))
  have HAT := hQz hc
  have HB := hQz hb
  have HGD := hQz (fun (k : Nat) (hk : k < es.length) => hgd es[k] (List.getElem_mem _))
  have HMS := hQz (fun (k : Nat) (hk : k < es.length) => cpK_succ q0 es k hk)
  have HNE := hQz hn
  have hm1 : cpK q0 es 1 = n1 := by rw [hn1, hq0]; exact cpK_one es h0n
  have hmn : cpK q0 es n = cpAll es.head!.1 es.tail := by rw [hn, hq0]; exact cpK_all es h0n
  obtain ⟨N, hN⟩ : ∃ N, N = cpAll es.head!.1 es.tail := ⟨_, rfl⟩
  rw [← hN] at hmn hpos
  have HH := hQz (And.intro H hK)
  obtain ⟨ds, hds⟩ := qg0
  have hS : St [] w w [] := St.start w
  have hNle : N ≤ n1 := by rw [hN, hn1, hq0, ← hhd]; exact (cp_le_first hlen2)
  rw [← hN] at hgr hrr hcnt ⊢
  rw [show es.head!.1 = q0 from hhd.trans hq0.symm]
  have hq16 : ∀ x ∈ q0.take N, x < 16 := fun x hx => by
    have := List.mem_of_mem_take hx
    rw [hq0] at this
    exact (hgd _ hq0m).2.1 x this
  have htl : (q0.take N).length ≤ 128 := by rw [List.length_take]; omega
  have HP := hQz (fun (w' : World) (hT : Tch [] w w') => show Calls Tryz.prog 64 #[.slice p1 N c1, .bool false] w' (NewPost w' (some (pkT (q0.take N) false))) from by
    rw [← packL_T false hq16]
    exact refPack_newP _ (q0.take N) false w' (by omega) (((g2.take hNle).tch hT.toX).mono (by simp)))
  have hcc1 : n1 ≤ c1 := by
    obtain ⟨p', c', h1, h2, _⟩ := g2
    injection h1 with _ _ h3
    omega
  have HSL := hQz (fun w' => slice_toQ p1 n1 c1 N hNle hcc1 w')
  have HRS := hQz (fun (b1 : Nat) (w' : World) (hT : Tch [] w w') (hb1 : w.heap.size ≤ b1) (hb2 : b1 < w'.heap.size) => rest_anyX (P.Z s ++ b1 :: X) (.slice (some ⟨b, o, none⟩) n c) es N w' ((hv.mono (Y := P.Z s ++ b1 :: X) (zmono hb1)).tch hT.toX) (H.all (H.cons hK hT hb1 hb2)) hg.2.2.2.2 hrr (fun e he => by have := (hgd e he).1; omega))
  have HRF := hQz (fun (b1 : Nat) (w' : World) (v' : Value) (hT : Tch [] w w') (hb1 : w.heap.size ≤ b1) (hb2 : b1 < w'.heap.size) (h : PairsX (P.Z s ++ b1 :: X) w' v' (rests N es)) => HR (rests N es) (b1 :: X) w' s v' (H.cons hK hT hb1 hb2) h (.inr hgr) hcnt)
  obtain ⟨pkl, hpkl⟩ : ∃ pkl, pkl = pkT (q0.take N) false := ⟨_, rfl⟩
  have hpll : pkl.length ≤ 130 := by rw [hpkl]; exact Nat.le_trans (pkT_len _ _) (by omega)
  rw [← hpkl] at HP ⊢
  obtain ⟨itr, hitr⟩ : ∃ itr, itr = refT f (rests N es) := ⟨_, rfl⟩
  obtain ⟨Lr, hLr⟩ : ∃ Lr, Lr = refE f (rests N es) := ⟨_, rfl⟩
  rw [← hitr, ← hLr] at HRF ⊢
  have HPL := hQz hpll
  have hNpos : (0 : Int) < (N : Int) := by omega
  clear hK hv hg hat hc g0 g2 hn1 hbX hb hgd hq0m hq0l hN hcnt hgr hrr hq16 htl hpkl hpll hitr hLr hlen2 hhd hn hq0
  have e1 : ((n : Int) == 1) = false := by rw [beq_eq_false_iff_ne]; omega
  go_enter Tryz.func40, Tryz.ntmps40
  go_wp2_with (first
    | (refine qi4 hS rfl 101 rfl qc9 ?_; clear hS; intro w1 b1 hS hT1 hb1; have H1 := hQz (And.intro hT1 (And.intro hb1 (hS.get .head).lt)); clear hT1 hb1)
    | (refine qc1 rfl (x_idxR (j := 0) _ _ rfl rfl rfl (by omega)) ?_)
    | (refine qc1 rfl (x_fa 93 _ 0 rfl rfl (fa_R0 _ _ _)) ?_)
    | (refine qc1 rfl (qe2 23 _ rfl rfl (HC0.out _ hS.frame) qa9) ?_))
  go_loopw [7, 8] (fun s7 s8 wr => ∃ k : Nat, s8 = .int .i64 (k : Int) ∧ 1 ≤ k ∧ k ≤ n ∧ s7 = .int .i64 ((cpK q0 es k : Nat) : Int) ∧ St [] w wr [(b1, 101, #[.bool false, .slice none 0 0, .slice none 0 0])]) (fun _ i _ => n - (intOf i).toNat)
  case atStart => exact ⟨1, rfl, Nat.le_refl _, by omega, by rw [hm1], hS⟩
  case round =>
    clear hS
    obtain ⟨k, rfl, hk1, hk, rfl, hS⟩ := hrel
    by_cases hlt : k < n
    · have d1 : (k : Int) < (n : Int) := by omega
      have d0 : (0 : Int) ≤ (k : Int) := by omega
      have hkl : k < es.length := by rw [← HNE.out]; exact hlt
      obtain ⟨pk, ck, _, _, f0, -, f2, -⟩ := HAT.out k hkl
      have hlk := (HGD.out k hkl).1
      have hms := HMS.out k hkl
      obtain ⟨qk, hqk⟩ : ∃ qk, qk = (es[k]'hkl).1 := ⟨_, rfl⟩
      rw [← hqk] at f0 f2 hlk hms
      obtain ⟨nk, hnk⟩ : ∃ nk, nk = qk.length := ⟨_, rfl⟩
      rw [← hnk] at f0 f2
      have HCK := hQz (fun (w' : World) (hT : Tch [] w w') => show w'.cell? ⟨b, o + k * 2, none⟩ = some (.slice pk nk ck) from (hT.cell (p := ⟨b, o + k * 2, none⟩) HB.out (by simp)).trans f0)
      have HCC := hQz (fun (w' : World) (hT : Tch [] w w') => HCM.out w' hT _ qk hlk (f2.mono (by simp)))
      have hcle : lcp q0 qk = cp q0 qk := lcp_cp q0 qk
      rw [hcle] at HCC
      have HMS2 := hQz hms
      have HLT := hQz (And.intro hlt (show 0 < n by omega))
      generalize cpK q0 es k = m at *
      generalize cp q0 qk = cc at *
      clear f0 f2 hlk hms hqk hnk hcle hkl
      go_upto_region 8 with (fail)
      try simp only [Act.put, ppA, ppB, ppC]
      refine qb7 (C := fun w' => St [] w w' [(b1, 101, #[.bool false, .slice none 0 0, .slice none 0 0])]) (by kernel_rfl) (by kernel_rfl) hS.drew ?_
      refine qb0 (p := some ⟨b, o, none⟩) (l := n) (c := c) rfl _ rfl rfl ?_; try simp only [Act.put, ppA, ppB, ppC]
      refine k_idxRz rfl _ _ rfl rfl rfl HLT.out.2 ?_; try simp only [Act.put, ppA, ppB, ppC]
      refine k_fa rfl 93 _ 0 rfl rfl (fa_R0 b o) ?_; try simp only [Act.put, ppA, ppB, ppC]
      refine qc2 (b := b) (j := o) (v := .slice p1 n1 c1) rfl _ _ rfl rfl (fun w' h => HC0.out w' h.frame) qa9 ?_; try simp only [Act.put, ppA, ppB, ppC]
      refine qb0 (p := some ⟨b, o, none⟩) (l := n) (c := c) rfl _ rfl rfl ?_; try simp only [Act.put, ppA, ppB, ppC]
      refine qh3 (v := .int .i64 (k : Int)) rfl _ (.inl rfl) rfl ?_; try simp only [Act.put, ppA, ppB, ppC]
      refine k_idxR rfl _ _ rfl rfl rfl HLT.out.1 ?_; try simp only [Act.put, ppA, ppB, ppC]
      refine k_fa rfl 93 _ 0 rfl rfl (fa_R0 b (o + k * 2)) ?_; try simp only [Act.put, ppA, ppB, ppC]
      refine qc2 (b := b) (j := o + k * 2) (v := .slice pk nk ck) rfl _ _ rfl rfl (fun w' h => HCK.out w' h.frame) qa9 ?_; try simp only [Act.put, ppA, ppB, ppC]
      refine qk3 (v := .int .i64 (cc : Int)) (v1 := .slice p1 n1 c1) (v2 := .slice pk nk ck) rfl rfl rfl rfl Tryz.call67 (fun w' h => (HCC.out w' h.frame).mono (fun e w'' h2 => ⟨h2.1, h.call h2.2⟩)) ?_; try simp only [Act.put, ppA, ppB, ppC]
      refine qh3 (v := .int .i64 (cc : Int)) rfl _ (.inr rfl) rfl ?_; try simp only [Act.put, ppA, ppB, ppC]
      refine qc8 ?_
      clear hS
      intro w3 hS
      by_cases hcm : cc < m
      · have d2 : (cc : Int) < (m : Int) := by omega
        have hmm : cpK q0 es (k + 1) = cc := by rw [HMS2.out]; omega
        have HMM := hQz hmm
        clear hmm
        go_wp2
        go_roundw
        case rel => exact ⟨k + 1, by go_num, by omega, by have := HLT.out.1; omega, by rw [HMM.out], hS⟩
        case measure => have := HLT.out.1; simp [intOf]; omega
      · have d2 : ¬ (cc : Int) < (m : Int) := by omega
        have hmm : cpK q0 es (k + 1) = m := by rw [HMS2.out]; omega
        have HMM := hQz hmm
        clear hmm
        go_wp2
        go_roundw
        case rel => exact ⟨k + 1, by go_num, by omega, by have := HLT.out.1; omega, by rw [HMM.out], hS⟩
        case measure => have := HLT.out.1; simp [intOf]; omega
    · obtain rfl : k = n := by omega
      have d1 : ¬ (k : Int) < (k : Int) := by omega
      rw [hmn]
      have hb1S : b1 < wr.heap.size := (hS.get .head).lt
      have h0k : 0 < k := by omega
      clear hk1 hk hlt
      go_wp2_with (first
        | (refine qc1 rfl (x_idxR (j := 0) _ _ rfl rfl rfl h0k) ?_)
        | (refine qc1 rfl (x_fa 93 _ 0 rfl rfl (fa_R0 _ _ _)) ?_)
        | (refine qc1 rfl (qe2 23 _ rfl rfl (HC0.out _ hS.frame) qa9) ?_)
        | (refine qc1 rfl (x_to _ _ 23 rfl rfl rfl (HSL.out _)) ?_)
        | (go_at_call 64; refine (HP.out _ hS.frame).mono ?_; rintro e w4 ⟨hT4, pv, rfl, hnw⟩; obtain ⟨pp, pc, rfl⟩ : ∃ pp pc, pv = .slice pp pkl.length pc := (hnw [] (by simp)).shape'; have H4 := hQz (hnw (P.Z s ++ b1 :: X) (HH.out.1.all (HH.out.1.cons HH.out.2 hS.frame H1.out.2.1 (hS.get .head).lt))); replace hS := hS.call hT4; clear hT4 hnw)
        | (go_at_call 66; refine (rBytes_e _ _ _ _).mono ?_; rintro e w5 ⟨rfl, hT5⟩; have H5 := hQz (H4.out.tch hT5.toX); replace hS := hS.call hT5; clear hT5)
        | (go_at_call 69; refine (HRS.out b1 _ hS.frame H1.out.2.1 (hS.get .head).lt).mono ?_; rintro e w6 ⟨hT6, v6, rfl, hv6⟩; have H6 := hQz (And.intro (H5.out.tch hT6.toX) hv6); replace hS := hS.call hT6; clear hT6 hv6)
        | (go_at_call 68; refine (HRF.out b1 _ v6 hS.frame H1.out.2.1 (hS.get .head).lt H6.out.2).mono ?_; rintro e w7 ⟨s1, hZ1, hK1, hC1, hN1, t, pi, ni, ci, qi, ki, di, rfl, hI⟩; have H7 := hQz (And.intro (node_got HH.out.1 hZ1 hK1 hS.frame) (And.intro hC1 (And.intro hN1 (And.intro hI (H6.out.1.zs hZ1))))); replace hS := (hS.toZ (z := P.Z s)).callZ hZ1.1 (fun x hx => .inl hx) (off_one (fun hm => by have h1 := HH.out.1.lt _ _ _ HH.out.2 _ hm; have h2 := H1.out.2.1; omega)); clear hZ1 hK1 hC1 hN1 hI)
        | (refine st_bs2 hS rfl rfl rfl rfl ?_; clear hS; intro w8 g hg8 hT8 hS; have H8 := hQz (And.intro hg8 (And.intro hT8 (hS.get .head))); clear hg8 hT8)
        | (go_at_call 65; refine (rList_e _ _ _ _).mono ?_; rintro e w9 ⟨rfl, hT9⟩; have H9 := hQz hT9; replace hS := hS.call hT9; clear hT9)
        | (refine qd1 (b := b1) (c' := #[.bool true, .slice none 0 0, .slice (some ⟨g, 0, none⟩) 2 2]) hS rfl 101 _ _ rfl rfl rfl (.tail .head) qa4 rfl rfl (qc4 _ _ _ _ _ _ _) ?_; have hB1 := hS.get (.tail .head); clear hS; intro wa hS hO; have HO := hQz (And.intro hO hB1); clear hO hB1))
      refine qf5 hS 4 101 rfl rfl rfl (.tail .head) hds rfl qa4 rfl (fun hT => ?_)
      have hgoff : g ∉ P.Z s1 ++ b1 :: X := fun hm => by
        have h8 := H8.out.1
        have := HH.out.1.all H7.out.1.2.1 _ hm
        omega
      have hI1 : ItC (P.Z s1 ++ b1 :: X) w8 (dep (.str pkl) + 1) (.bool false) (.slice pp pkl.length pc) (.slice none 0 0) (.str pkl) := by
        rw [qg4]; unfold ItC; exact ⟨rfl, H7.out.2.2.2.2.tch H8.out.2.1.toX, by have := HPL.out; omega⟩
      have hI := two_items H8.out.2.2 hgoff hI1 (H7.out.2.2.2.1.tch H8.out.2.1.toX)
      obtain ⟨r1, r2, r3⟩ := ref_end HH.out.1 H7.out.1.2.2 H7.out.1.2.1 (H8.out.2.1.trans H9.out).toX HO.out.1 H1.out.2.1 hT (Tch.refl _ _) (hI.tch H9.out.toX)
      exact ⟨s1, r1, r2, H7.out.2.1, H7.out.2.2.1, _, _, _, _, _, _, _, rfl, r3⟩
end
end Go.Proofs.YtanmpcgackfpaaaGreat
