/- The document's (*Seen).Add, (*Seen).Trie. -/
import Derived.Test.YtanmpcgackfpaaaGreatM01
import Derived.Test.YtanmpcgackfpaaaGreatM39
import Derived.Test.YtanmpcgackfpaaaGreatM40
set_option linter.unusedVariables false
set_option linter.unusedSimpArgs false
namespace Go.Proofs.YtanmpcgackfpaaaGreat
section
open Go.RowKit Tr
set_option maxRecDepth 100000
theorem Tch.seq {A B : List Nat} {w w1 w2 : World} (h : Tch A w w1) (k : Tch B w1 w2) (hB : ∀ y ∈ B, y ∈ A ∨ w.heap.size ≤ y) : Tch A w w2 := by
  refine ⟨k.os.trans h.os, k.tape.trans h.tape, k.output.trans h.output, Nat.le_trans h.size k.size, fun i hi hb => (k.block i (Nat.lt_of_lt_of_le hi h.size) fun hm => ?_).trans (h.block i hi hb)⟩
  rcases hB i hm with q | q
  · exact hb q
  · omega
def keepS (bb sb m : Nat) : Keep (Value × KList × Bool × Value × KList) where
  K := fun s X w => KS bb sb m X w s.1 s.2.1 s.2.2.1 s.2.2.2.1 s.2.2.2.2
  Z := fun s => bb :: sb :: s.2.2.2.1.ownBlock.toList
  R := fun s l s' => (s'.2.2.1 = false → s.2.2.1 = false ∧ l ∈ s'.2.2.2.2.map (·.1)) ∧ (∀ x ∈ s.2.2.2.2.map (·.1), x ∈ s'.2.2.2.2.map (·.1))
  N := fun s => max s.2.1.length s.2.2.2.2.length
theorem ks_lt {bb sb m : Nat} {X : List Nat} {w : World} {v : Value} {L : KList} {c : Bool} {vS : Value} {LS : KList} (h : KS bb sb m X w v L c vS LS) : ∀ x ∈ bb :: sb :: vS.ownBlock.toList, x < w.heap.size := fun x hx => by
  rcases List.mem_cons.1 hx with rfl | hx
  · exact h.1.lt
  · rcases List.mem_cons.1 hx with rfl | hx
    · exact h.2.2.2.1.lt
    · exact (h.2.2.2.2.2.1.lt x (by simpa using hx)).2
theorem keepS_ok (bb sb m : Nat) : KeepOK (keepS bb sb m) bb where
  lt := fun s X w h => ks_lt h
  off := fun s X w h x hx => ⟨(h.2.1 x hx).1, fun hm => by
    rcases List.mem_cons.1 hm with e | hm
    · exact (h.2.1 x hx).2 e
    · have h2 := h.2.2.2.2.2.2.2.1 x (List.mem_cons_of_mem _ hx)
      rcases List.mem_cons.1 hm with e | hm
      · exact h2.2.1 e
      · exact h2.2.2 (by simpa using hm)⟩
  go := fun s X Y w w' h hT hY => by
    have hbX : bb ∉ X := fun hm => (h.2.1 bb hm).2 rfl
    refine ⟨hT.blk h.1 hbX, fun y hy => ⟨(hY y hy).2, fun e => ?_⟩, h.2.2.1.re hT (fun y hy => ?_) (fun y hy => .inl (List.mem_cons_of_mem _ (List.mem_cons_of_mem _ (List.mem_append_right _ hy)))), h.2.2.2.re (hT.mono (fun y hy => .inl (List.mem_cons_of_mem _ hy))) (fun y hy => ?_)⟩
    · rcases (hY y hy).1 with q | q
      · exact hbX (e ▸ q)
      · have := h.1.lt; omega
    · rcases List.mem_cons.1 hy with e | hy
      · rw [e]; exact .inl List.mem_cons_self
      · rcases List.mem_cons.1 hy with e | hy
        · rw [e]; exact .inl (List.mem_cons_of_mem _ List.mem_cons_self)
        · rcases List.mem_append.1 hy with hy | hy
          · exact .inl (List.mem_cons_of_mem _ (List.mem_cons_of_mem _ (List.mem_append_left _ hy)))
          · exact (hY y hy).1.imp (fun q => List.mem_cons_of_mem _ (List.mem_cons_of_mem _ (List.mem_append_right _ q))) id
    · rcases List.mem_cons.1 hy with e | hy
      · rw [e]; exact ⟨.inl List.mem_cons_self, Nat.lt_of_lt_of_le h.1.lt hT.size⟩
      · exact ⟨(hY y hy).1.imp (fun q => List.mem_cons_of_mem _ q) id, (hY y hy).2⟩
  put := fun s X w v l h hv hl hN => by
    have h1 : s.2.1.length ≤ 50000000 := Nat.le_trans (Nat.le_max_left _ _) (Nat.le_of_lt hN)
    have h2 : s.2.2.2.2.length ≤ 50000000 := Nat.le_trans (Nat.le_max_right _ _) (Nat.le_of_lt hN)
    refine (bput_seen bb sb m X s.1 s.2.1 s.2.2.1 s.2.2.2.1 s.2.2.2.2 l v w h hv hl h1 h2).mono ?_
    rintro e w' ⟨rfl, v', L', c', vS', LS', hT, hv, hK, hc, hi, hl1, hl2⟩
    refine ⟨(v', L', c', vS', LS'), ⟨hT, fun x hx => ?_⟩, hK, ⟨hc, hi⟩, ?_, rfl⟩
    · rcases List.mem_cons.1 hx with e | hx
      · rw [e]; exact .inl List.mem_cons_self
      · rcases List.mem_cons.1 hx with e | hx
        · rw [e]; exact .inl (List.mem_cons_of_mem _ List.mem_cons_self)
        · rcases hv x (by simpa using hx) with q | q
          · exact .inl (List.mem_cons_of_mem _ (List.mem_cons_of_mem _ (by simp [q])))
          · exact .inr q
    · show max L'.length LS'.length ≤ max s.2.1.length s.2.2.2.2.length + 1
      omega
theorem chain_seen {bb sb m : Nat} : ∀ {ls : List (List Nat)} {s s' : Value × KList × Bool × Value × KList}, Chain (keepS bb sb m).R s ls s' → (s'.2.2.1 = false → s.2.2.1 = false ∧ ∀ l ∈ ls, l ∈ s'.2.2.2.2.map (·.1)) ∧ (∀ x ∈ s.2.2.2.2.map (·.1), x ∈ s'.2.2.2.2.map (·.1))
  | [], s, s', h => by
    have h' : s' = s := h
    subst h'
    exact ⟨fun q => ⟨q, fun l hl => by cases hl⟩, fun x hx => hx⟩
  | x :: ls, s, s', h => by
    obtain ⟨q, h1, h2⟩ := h
    obtain ⟨k1, k2⟩ := chain_seen h2
    refine ⟨fun hc => ?_, fun y hy => k2 y (h1.2 y hy)⟩
    obtain ⟨j1, j2⟩ := k1 hc
    obtain ⟨i1, i2⟩ := h1.1 j1
    refine ⟨i1, fun l hl => ?_⟩
    rcases List.mem_cons.1 hl with rfl | hl
    · exact k2 _ i2
    · exact j2 l hl
set_option maxHeartbeats 4000000 in
theorem seenAddB_any (sb m : Nat) (X : List Nat) (v : Value) (L : KList) (l : List Nat) (vd : Value) (w : World) (h : SeenAt sb m X w v L) (hd : RdA (sb :: (v.ownBlock.toList ++ X)) w vd l) (hl : l.length ≤ 1000000) (hn : L.length ≤ 50000000) :
    Calls Tryz.prog 37 #[.pointer (some ⟨sb, 0, none⟩), vd] w (AddPost sb m X v L l w) := by
  have HKE := hQz (fun (W : World) (h : Tch [] w W) => keccak_any vd l W hl (hd.nilX.tch h))
  have HAD := hQz (fun (W : World) (hT : Tch [] w W) => (seenAdd_any sb m X v L l vd W (h.call hT) (hd.tch hT.toX) hl hn).mono (R' := fun e w' => AddPost sb m X v L l w e w' ∧ ∃ r : Bool, e = .returned (.bool r)) (fun e w' q => by
    obtain ⟨r, v', L', q1, q2, q3, q4, q5, q6, q7⟩ := q
    exact ⟨⟨r, v', L', q1, (hT.mono (by simp)).trans q2, fun g hg => (q3 g hg).imp id (fun z => Nat.le_trans hT.size z), q4, q5, q6, q7⟩, r, q1⟩))
  obtain ⟨p, c, rfl⟩ := hd.shape'
  have hS := St.start w
  clear h hd hl hn
  go_enter Tryz.func37, Tryz.ntmps37
  go_wp2_with (first
    | (go_at_call 12; go_must (refine (HKE.out _ hS.frame).mono ?_; rintro e wK ⟨rfl, hTK⟩; replace hS := hS.call hTK; clear hTK))
    | (go_at_call 61; go_must (refine (HAD.out _ hS.frame).mono ?_; rintro e wA ⟨hA, r, rfl⟩; have HA := hQz hA; clear hA)))
  go_ret
  exact HA.out
end
section
open Go.RowKit Tr
set_option maxRecDepth 100000
def TriePost (sb m : Nat) (X : List Nat) (v : Value) (L : KList) (ps : List En) (w : World) (e : Ending) (w' : World) : Prop :=
  ∃ (r : Bool) (v' : Value) (L' : KList), e = .returned (.bool r) ∧ Tch (sb :: v.ownBlock.toList) w w' ∧ (∀ g, v'.ownBlock = some g → v.ownBlock = some g ∨ w.heap.size ≤ g) ∧ SeenAt sb m X w' v' L' ∧ (r = true → [128] ∈ L'.map (·.1) ∧ (ps ≠ [] → ∀ x ∈ allE pkT HL ps, x ∈ L'.map (·.1))) ∧ (∀ x ∈ L.map (·.1), x ∈ L'.map (·.1)) ∧ L'.length ≤ L.length + 129 * ps.length + 3
theorem pairs_ownY {Y : List Nat} {B : Nat} {wr : World} {v : Value} {xs : List VV} {es : List En} (hown : wr.ownsRow B 93 2 v es.length (vCells xs)) (hr : RdEX Y wr xs es) (hX : ∀ x ∈ Y, x < B) : PairsX Y wr v es := by
  have hl : xs.length = es.length := hr.1
  rcases hown.2 with ⟨rfl, h0⟩ | ⟨g, cap, cur, rfl, hg, hB, hcap, _, hcs, htk⟩
  · refine ⟨none, 0, by rw [h0], by omega, fun hne => absurd (List.eq_nil_of_length_eq_zero h0) hne⟩
  · refine ⟨_, cap, rfl, hcap, fun _ => ⟨g, 0, rfl, (Array.getElem?_eq_some_iff.1 hB).1, fun hm => by have := hX g hm; omega, fun i hi => ?_⟩⟩
    have hB' : Blk wr g 93 cur := hB
    have hxi : i < xs.length := by omega
    obtain ⟨c0, c1⟩ := vCells_get xs i hxi
    have hb : i * 2 + 1 < es.length * 2 := by omega
    rw [← htk, List.getElem?_take_of_lt (by omega), Array.getElem?_toList] at c0 c1
    have h3 := hr.2 i hxi hi
    exact ⟨_, _, by rw [Nat.zero_add]; exact hB'.cell c0, by rw [Nat.zero_add]; exact hB'.cell c1, h3.1, h3.2⟩
theorem RdEX.re {A B C : List Nat} {w w' : World} {xs : List VV} {es : List En} (h : RdEX A w xs es) (hT : Tch C w w') (hB : ∀ y ∈ B, y ∈ A ∨ w.heap.size ≤ y) (hC : ∀ y ∈ C, y ∈ A ∨ w.heap.size ≤ y) : RdEX B w' xs es := ⟨h.1, fun i h1 h2 => ⟨(h.2 i h1 h2).1.re hT hB hC, (h.2 i h1 h2).2.re hT hB hC⟩⟩
def InT (Y : List Nat) (B : Nat) (w : World) (v : Value) (es : List En) : Prop := ∃ xs, w.ownsRow B 93 2 v es.length (vCells xs) ∧ RdEX (v.ownBlock.toList ++ Y) w xs es
theorem InT.zero (Y : List Nat) (B : Nat) (w : World) : InT Y B w (.slice none 0 0) [] := ⟨[], ⟨rfl, .inl ⟨rfl, rfl⟩⟩, rfl, fun i h => absurd h (by simp)⟩
theorem InT.snoc {Y : List Nat} {B : Nat} {u u' : World} {v v' v1 v2 : Value} {es : List En} {e : En} {xs : List VV} (hr : RdEX (v.ownBlock.toList ++ Y) u xs es) (h1 : RdA (v.ownBlock.toList ++ Y) u v1 e.1) (h2 : RdA (v.ownBlock.toList ++ Y) u v2 e.2) (hT : Tch v.ownBlock.toList u u') (hv : ∀ g, v'.ownBlock = some g → v.ownBlock = some g ∨ u.heap.size ≤ g) (hown : u'.ownsRow B 93 2 v' (es.length + 1) (vCells xs ++ [v1, v2])) : InT Y B u' v' (es ++ [e]) := by
  have hB : ∀ y ∈ v'.ownBlock.toList ++ Y, y ∈ v.ownBlock.toList ++ Y ∨ u.heap.size ≤ y := fun y hy => by
    rcases List.mem_append.1 hy with hy | hy
    · exact (hv y (by simpa using hy)).imp (fun q => List.mem_append_left _ (by simp [q])) id
    · exact .inl (List.mem_append_right _ hy)
  have hC : ∀ y ∈ v.ownBlock.toList, y ∈ v.ownBlock.toList ++ Y ∨ u.heap.size ≤ y := fun y hy => .inl (List.mem_append_left _ hy)
  refine ⟨xs ++ [(v1, v2)], ?_, (hr.re hT hB hC).snoc (h1.re hT hB hC) (h2.re hT hB hC)⟩
  rw [vCells_snoc, List.length_append]
  exact hown
theorem held_appRK {l0 : List Oper} {n N : Nat} {o : Oper} {a : Act} {w : World} {Q : Exit → Act → World → Prop} {K : Act → World → Prop} {base : Nat} {v : Value} {us : List Value} {c : Array Value} (s x : Operand) (ho : l0[n]? = some o) (hw : Region.wanted o (yielded l0.toArray a.tmps) = true)
    (hop : o.op = .call { callee := .builtin .append, args := #[s, x], argTypes := #[90, 90] }) (hs : a.eval s = v) (hx : a.eval x = .slice (some ⟨w.heap.size, 0, none⟩) 1 1)
    (hown : w.ownsRow base 93 2 v N us) (hb : base ≤ w.heap.size) (hsz : c.size = 2) (hone : c.all (·.oneCell') = true) (hlen : N ≤ 100000000)
    (h : ∀ v' w', w'.ownsRow base 93 2 v' (N + 1) (us ++ c.toList) → Tch v.ownBlock.toList w w' → (∀ g, v'.ownBlock = some g → v.ownBlock = some g ∨ w.heap.size ≤ g) → K (a.put o.dst v') w') : wpOp Tryz.prog l0.toArray Q n K a (w.alloc (.cells c 93)) := by
  have ho' : l0.toArray[n]? = some o := by rw [List.getElem?_toArray]; exact ho
  obtain ⟨i0, hi, hz0, hz1, hz2⟩ := info_parts entR_infos
  have hnews : ∀ j u, c.toList[j]? = some u → (w.alloc (.cells c 93)).cell? ((⟨w.heap.size, 0, none⟩ : Addr).add j) = some u := World.news_of_block (cs := c) (t := 93) (fr := (0, 0)) (heap_alloc_new w _)
  obtain ⟨v', w', hr, h2, hgrow, _, hv'⟩ := run_append_own_at (P := Tryz.prog) (w.alloc (.cells c 93)) base 90 o.type 93 i0 _ 2 48 entR_ty hi hz0 hz1 hz2 rfl (by decide) v N us (hown.alloc _) ⟨w.heap.size, 0, none⟩ 1 1 c.toList (by rw [Array.length_toList, hsz]) hnews (fun u hu => (Array.all_eq_true_iff_forall_mem.1 hone) u (by simpa using hu)) (by unfold maxLen; omega) (by omega) (by simp; omega)
  unfold wpOp
  simp only [ho', hw, if_true]
  refine .inl ?_
  unfold Oper.wp execOp
  simp only [hop, resolve, invoke, builtin, Sem.run_bind, Sem.run_pure, Result.andThen_ok, List.map_toArray, List.map_cons, List.map_nil, hs, hx, hr]
  refine h v' w' h2 (((Tch.refl _ _).alloc _).trans ⟨hgrow.os, hgrow.tape, hgrow.output, hgrow.size, fun k hk hm' => hgrow.block k hk (fun e => hm' (by rw [← e]; simp))⟩) (fun g hg => ?_)
  rcases hv' with e | e
  · rw [e] at hg; exact .inl hg
  · rw [e] at hg
    have := Option.some.inj hg
    simp at this
    exact .inr (by omega)
theorem build_buS (b : Nat) (w : World) : (Instr.build 96 #[(1, .pointer (some ⟨b, 0, none⟩))]).run Tryz.prog w = .ok (.agg #[.slice none 0 0, .pointer (some ⟨b, 0, none⟩), .bool false]) w := by kernel_rfl
theorem build128 (w : World) : (Instr.buildSlice 23 1 #[(0, .int .u8 128)]).run Tryz.prog w = .ok (.slice (some ⟨w.heap.size, 0, none⟩) 1 1) (w.alloc (.cells #[.int .u8 128] 5)) := by kernel_rfl
theorem RdEX.tch2 {A : List Nat} {w w' : World} {xs : List VV} {es : List En} (h : RdEX A w xs es) (hT : Tch A w w') : RdEX A w' xs es := ⟨h.1, fun i h1 h2 => ⟨(h.2 i h1 h2).1.tch hT, (h.2 i h1 h2).2.tch hT⟩⟩
theorem entries_take {ps : List En} {k : Nat} (h : k < ps.length) : entries (ps.take (k + 1)) = entries (ps.take k) ++ [(nibT ps[k].1, ps[k].2)] := by
  unfold entries
  rw [List.take_add_one, List.getElem?_eq_getElem h, Option.toList_some, List.map_append]
  rfl
theorem good_entries {ps : List En} (hm : mayE ps = 0) (h0 : ps ≠ []) (hb : ∀ p ∈ ps, ∀ x ∈ p.1, x < 256) (hV : ∀ p ∈ ps, p.2.length ≤ 900000) : GoodB 200 (entries ps) := by
  obtain ⟨k1, k2, k3, k4⟩ := mayE_ok hm
  refine ⟨fun h => h0 (by simpa [entries] using h), qd8.2 k4, by have := longest_entries (fun p hp => (k2 p hp).1); omega, fun e he => ?_, by unfold entries; rw [List.length_map]; exact k1⟩
  obtain ⟨p, hp, rfl⟩ := List.mem_map.1 he
  exact ⟨by show (nibT p.1).length ≤ 128; rw [nibT_len]; have := (k2 p hp).1; omega, nibT_lt (hb p hp), hV p hp⟩
theorem count_entries {ps : List En} (hm : mayE ps = 0) (h0 : ps ≠ []) : (nodeE pkT HL 200 (entries ps)).length + 1 ≤ 129 * ps.length := by
  obtain ⟨k1, k2, k3, k4⟩ := mayE_ok hm
  obtain ⟨q, h1, h2⟩ := sort_ex (entries ps) (qd8.2 k4)
  have hq : q ≠ [] := fun e => h0 (by rw [e] at h1; have := h1.eq_nil; simpa [entries] using this)
  rw [nodeE_perm pkT HL 200 (entries ps) q (qd8.2 k4) h1, nodeE_below pkT HL 200 q h2]
  have h3 := below_len pkT HL 200 q hq
  have h4 := mu_le (l := q) (fun e he => by
    have := h1.mem_iff.2 he
    obtain ⟨p, hp, rfl⟩ := List.mem_map.1 this
    show (nibT p.1).length ≤ 128
    rw [nibT_len]; have := (k2 p hp).1; omega)
  have h5 : q.length = ps.length := by rw [← h1.length_eq]; unfold entries; rw [List.length_map]
  rw [h5] at h4
  omega
theorem st_build0_128 {ops : Array Oper} {rest : List Oper} {o : Oper} {a : Act} {bs : List Nat} {w0 w : World} {Q : Exit → Act → World → Prop} {L : List Ent} {n : Nat} {ty t : TypeId} {c : Array Value} {parts : Array (Nat × Operand)} (hS : St bs w0 w L) (vals : Array (Nat × Value)) (hgd : o.guard = none) (ho : o.op = .buildSlice ty n parts)
    (hv : (parts.map fun (i, x) => (i, a.eval x)) = vals) (hr : ∀ w : World, (Instr.buildSlice ty n vals).run Tryz.prog w = .ok (.slice (some ⟨w.heap.size, 0, none⟩) n n) (w.alloc (.cells c t)))
    (h : ∀ w' b, St bs w0 w' ((b, t, c) :: L) → wpList Tryz.prog ops Q rest (a.put o.dst (.slice (some ⟨b, 0, none⟩) n n)) w') : wpList Tryz.prog ops Q (o :: rest) a w :=
  wpList_plain hgd fun K hK => by
    subst hv
    have hr2 := hr w
    unfold Oper.wp execOp
    simp only [ho, Sem.run_bind, hr2, Result.andThen_ok, Sem.run_pure]
    exact hK _ _ (h _ _ (hS.new t c))
theorem st_call2E {o : Oper} {ops : Array Oper} {rest : List Oper} {a : Act} {w : World} {Q : Exit → Act → World → Prop} {f : FuncId} {ts : Array TypeId} {x1 x2 : Operand} {v1 v2 : Value} {R : Ending → World → Prop} (hgd : o.guard = none) (hop : o.op = .call { callee := .value (.func f), args := #[x1, x2], argTypes := ts }) (h1 : a.eval x1 = v1) (h2 : a.eval x2 = v2) (hf : ∀ args w, (callFunc f args).run Tryz.prog w = .ok (.enter f args) w)
    (hc : Calls Tryz.prog f #[v1, v2] w R) (h : ∀ e w', R e w' → ∃ v, e = .returned v ∧ wpList Tryz.prog ops Q rest (a.put o.dst v) w') : wpList Tryz.prog ops Q (o :: rest) a w :=
  wpList_plain hgd fun K hK => by
    have hr : (execOp a.eval o).run Tryz.prog w = .ok (.enter f #[v1, v2]) w := by unfold execOp; simp [hop, resolve, invoke, h1, h2, hf, show a.eval (.func f) = .func (.func f) #[] #[] from rfl, Deferred.ofValue]
    unfold Oper.wp
    rw [hr]
    exact hc.mono fun e w' hR => by
      obtain ⟨v, rfl, hk⟩ := h e w' hR
      exact hK _ _ hk
theorem seen_lt {sb m : Nat} {X : List Nat} {w : World} {v : Value} {L : KList} (h : SeenAt sb m X w v L) : ∀ y ∈ sb :: (v.ownBlock.toList ++ X), y < w.heap.size := fun y hy => by
  rcases List.mem_cons.1 hy with rfl | hy
  · exact h.1.lt
  · rcases List.mem_append.1 hy with hy | hy
    · exact (h.2.2.1.lt y (by simpa using hy)).2
    · exact (h.2.2.2.2.1 y hy).1
theorem RdA.ofLit {Y : List Nat} {w w1 : World} {b : Nat} {t : TypeId} (h : Blk w1 b t #[.int .u8 128]) (hb : w.heap.size ≤ b) (hY : ∀ y ∈ Y, y < w.heap.size) : RdA Y w1 (.slice (some ⟨b, 0, none⟩) 1 1) [128] :=
  ⟨_, 1, rfl, Nat.le_refl _, by decide, fun _ => ⟨b, 0, rfl, h.lt, fun hm => by have := hY b hm; omega, fun i hi => by
    have e : i = 0 := by simpa using hi
    subst e
    exact h.cell rfl⟩⟩
theorem trie_ks {bb sb m : Nat} {X : List Nat} {w2 wr w4 : World} {v1 : Value} {L1 : KList} (hS : SeenAt sb m X w2 v1 L1) (hT : Tch [] w2 wr) (hT4 : Tch [] wr w4) (hb : wr.heap.size ≤ bb) (hB : Blk w4 bb 96 #[.slice none 0 0, .pointer (some ⟨sb, 0, none⟩), .bool false]) : (keepS bb sb m).K (.slice none 0 0, [], false, v1, L1) X w4 := by
  have hT2 := hT.trans hT4
  refine ⟨hB, fun x hx => ?_, NodesAt.nil _ _, hS.re hT2.toX (fun y hy => ?_)⟩
  · have h1 := (hS.2.2.2.2.1 x hx).1
    exact ⟨Nat.lt_of_lt_of_le h1 hT2.size, fun e => by have := hT.size; omega⟩
  · rcases List.mem_cons.1 hy with e | hy
    · rw [e]; exact ⟨.inr (Nat.le_trans hT.size hb), hB.lt⟩
    · exact ⟨.inl hy, Nat.lt_of_lt_of_le (hS.2.2.2.2.1 y hy).1 hT2.size⟩
theorem trie_px {bb sb m : Nat} {X : List Nat} {wr w4 : World} {v1 iv : Value} {L1 : KList} {es : List En} (h : PairsX (sb :: (v1.ownBlock.toList ++ X)) wr iv es) (hT4 : Tch [] wr w4) (hb : wr.heap.size ≤ bb) : PairsX ((keepS bb sb m).Z (.slice none 0 0, [], false, v1, L1) ++ X) w4 iv es :=
  (h.mono (fun y hy => by
    rcases List.mem_append.1 hy with hy | hy
    · rcases List.mem_cons.1 hy with e | hy
      · rw [e]; exact .inr hb
      · rcases List.mem_cons.1 hy with e | hy
        · rw [e]; exact .inl List.mem_cons_self
        · exact .inl (List.mem_cons_of_mem _ (List.mem_append_left _ hy))
    · exact .inl (List.mem_cons_of_mem _ (List.mem_append_right _ hy)))).tch hT4.toX
theorem trie_last {bb sb m : Nat} {X : List Nat} {v v1 : Value} {L L1 : KList} {ps : List En} {w w2 wr w4 w5 w6 w7 : World} {s1 s2 : Value × KList × Bool × Value × KList} {Ls : List (List Nat)} {Lb : List Nat} {r : Bool} (h1 : Tch (sb :: v.ownBlock.toList) w w2) (hv1 : ∀ g, v1.ownBlock = some g → v.ownBlock = some g ∨ w.heap.size ≤ g) (h128 : [128] ∈ L1.map (·.1)) (hi1 : ∀ x ∈ L.map (·.1), x ∈ L1.map (·.1)) (hl1 : L1.length ≤ L.length + 1)
    (hT : Tch [] w2 wr) (hT4 : Tch [] wr w4) (hb : wr.heap.size ≤ bb) (hZ1 : ZS ((keepS bb sb m).Z (.slice none 0 0, [], false, v1, L1)) ((keepS bb sb m).Z s1) w4 w5) (hT6 : Tch [] w5 w6) (hZ2 : ZS ((keepS bb sb m).Z s1) ((keepS bb sb m).Z s2) w6 w7) (hK : (keepS bb sb m).K s2 X w7) (hC1 : Chain (keepS bb sb m).R (.slice none 0 0, [], false, v1, L1) Ls s1) (hR2 : (keepS bb sb m).R s1 Lb s2) (hN1 : (keepS bb sb m).N s1 ≤ (keepS bb sb m).N (.slice none 0 0, [], false, v1, L1) + Ls.length) (hN2 : (keepS bb sb m).N s2 ≤ (keepS bb sb m).N s1 + 1)
    (hLs : Ls = nodeE pkT HL 200 (entries ps)) (hLb : Lb = enc (nodeT pkT HL 200 (entries ps))) (hcnt : Ls.length + 1 ≤ 129 * ps.length) (hr : r = !s2.2.2.1) : TriePost sb m X v L ps w (.returned (.bool r)) w7 := by
  subst hr
  have hz := (hZ1.trans (ZS.refl _ hT6)).trans hZ2
  have hw4 : Tch (sb :: v.ownBlock.toList) w w4 := h1.trans ((hT.trans hT4).mono (by simp))
  have hs2 : w.heap.size ≤ wr.heap.size := Nat.le_trans h1.size hT.size
  have hB : ∀ y ∈ bb :: sb :: v1.ownBlock.toList, y ∈ sb :: v.ownBlock.toList ∨ w.heap.size ≤ y := fun y hy => by
    rcases List.mem_cons.1 hy with e | hy
    · rw [e]; exact .inr (Nat.le_trans hs2 hb)
    · rcases List.mem_cons.1 hy with e | hy
      · rw [e]; exact .inl List.mem_cons_self
      · exact (hv1 y (by simpa using hy)).imp (fun q => List.mem_cons_of_mem _ (by simp [q])) id
  have hSA := hK.2.2.2
  have hch := chain_seen (hC1.append (Chain.one hR2))
  refine ⟨_, s2.2.2.2.1, s2.2.2.2.2, rfl, hw4.seq hz.1 hB, fun g hg => ?_, hSA.re ((Tch.refl [] w7).toX) (fun y hy => ⟨.inl (List.mem_cons_of_mem _ hy), (hSA.2.2.2.2.1 y (List.mem_cons_of_mem _ hy)).1⟩), fun hrt => ?_, fun x hx => hch.2 x (hi1 x hx), ?_⟩
  · rcases hz.2 g (List.mem_cons_of_mem _ (List.mem_cons_of_mem _ (by simp [hg]))) with q | q
    · rcases List.mem_cons.1 q with e | q
      · exact absurd hg (by rw [e]; exact (hSA.2.2.2.2.1 bb List.mem_cons_self).2.2)
      · rcases List.mem_cons.1 q with e | q
        · exact absurd hg (by rw [e]; exact hSA.2.2.2.1)
        · exact hv1 g (by simpa using q)
    · exact .inr (Nat.le_trans hw4.size q)
  · have hc : s2.2.2.1 = false := by simpa using hrt
    have hall := (hch.1 hc).2
    refine ⟨hch.2 _ h128, fun _ x hx => hall x ?_⟩
    rw [hLs, hLb]
    exact hx
  · have e0 : (keepS bb sb m).N (.slice none 0 0, [], false, v1, L1) = max 0 L1.length := rfl
    have e2 : (keepS bb sb m).N s2 = max s2.2.1.length s2.2.2.2.2.length := rfl
    rw [e0] at hN1
    rw [e2] at hN2
    omega
set_option maxHeartbeats 16000000 in
theorem seenTrie_any (sb m : Nat) (X : List Nat) (v : Value) (L : KList) (pv : Value) (ps : List En) (w : World) (h : SeenAt sb m X w v L) (hp : PairsX (sb :: (v.ownBlock.toList ++ X)) w pv ps) (hm : mayE ps = 0) (hV : ∀ p ∈ ps, p.2.length ≤ 900000) (hcnt : ps.length ≤ 1000) (hN : L.length ≤ 40000000) :
    Calls Tryz.prog 21 #[.pointer (some ⟨sb, 0, none⟩), pv] w (TriePost sb m X v L ps w) := by
  have HSA := hQz h
  have HP := hQz hp
  have HMY := hQz (And.intro hm (And.intro hV (And.intro hcnt hN)))
  obtain ⟨pp, n, cp, rfl, hn, hat⟩ := qk4 hp
  have HNL := hQz hn
  have HAT := hQz hat
  have hnb : n ≤ 1000 := by omega
  have hS : St [] w w [] := St.start w
  have hone : ∀ x ∈ ([128] : List Nat), x < 256 := by decide
  clear h hp hm hV hcnt hN hn hat
  go_enter Tryz.func21, Tryz.ntmps21
  go_upto_region 1 with (fail)
  try simp only [Act.put, ppA, ppB, ppC]
  refine wp_region_lit ?_
  refine qc1 (v := .pointer (some ⟨sb, 0, none⟩)) rfl (qb2 (.inl rfl) rfl) ?_; try simp only [Act.put, ppA, ppB, ppC]
  refine st_build0_128 (parts := #[(0, .const (.int .u8 128))]) hS #[(0, .int .u8 128)] rfl rfl (by simp; rfl) build128 ?_
  clear hS
  intro w1 b9 hS
  try simp only [Act.put, ppA, ppB, ppC]
  refine st_call2E (v1 := .pointer (some ⟨sb, 0, none⟩)) (v2 := .slice (some ⟨b9, 0, none⟩) 1 1) rfl rfl rfl rfl Tryz.call37 (seenAddB_any sb m X v L [128] _ _ (HSA.out.call hS.frame) (RdA.ofLit (hS.get .head) ((hS.own .head).resolve_right (by simp)) (fun y hy => seen_lt HSA.out y hy)) (by decide) (by have := HMY.out.2.2.2; omega)) ?_
  rintro e w2 ⟨r1, v1, L1, rfl, hT1, hv1, hSA1, ha1, hb1, hc1⟩
  refine ⟨_, rfl, ?_⟩
  have hTw : Tch (sb :: v.ownBlock.toList) w w2 := (hS.frame.mono (by simp)).trans hT1
  have hvw : ∀ g, v1.ownBlock = some g → v.ownBlock = some g ∨ w.heap.size ≤ g := fun g hg => (hv1 g hg).imp id (fun h => Nat.le_trans hS.frame.size h)
  have HS1 := hQz (And.intro hTw (And.intro hvw (And.intro hSA1 (And.intro ha1 (And.intro hb1 hc1)))))
  clear hS hT1 hv1 hSA1 ha1 hb1 hc1 hTw hvw
  try simp only [Act.put, ppA, ppB, ppC]
  refine qc1 (v := .bool (!r1)) rfl (x_notE rfl rfl) ?_; try simp only [Act.put, ppA, ppB, ppC]
  refine ql2 ?_
  cases r1 with
  | false =>
    go_wp2
    go_ret
    exact ⟨false, v1, L1, rfl, HS1.out.1, HS1.out.2.1, HS1.out.2.2.1, (fun h => by cases h), HS1.out.2.2.2.2.1, by have := HS1.out.2.2.2.2.2; omega⟩
  | true =>
  by_cases h0 : n = 0
  · have e0 : ((n : Int) == 0) = true := by rw [beq_iff_eq]; omega
    have hps : ps = [] := List.eq_nil_of_length_eq_zero (by rw [← HNL.out]; exact h0)
    have HE := hQz hps
    clear hps h0
    go_wp2
    go_ret
    exact ⟨true, v1, L1, rfl, HS1.out.1, HS1.out.2.1, HS1.out.2.2.1, fun _ => ⟨HS1.out.2.2.2.1 (by simp), fun h => absurd HE.out h⟩, HS1.out.2.2.2.2.1, by have := HS1.out.2.2.2.2.2; omega⟩
  have e0 : ((n : Int) == 0) = false := by rw [beq_eq_false_iff_ne]; omega
  have hYlt : ∀ y ∈ sb :: (v1.ownBlock.toList ++ X), y < w2.heap.size := seen_lt HS1.out.2.2.1
  have HY := hQz hYlt
  have H0 := hQz (show ps ≠ [] from fun q => h0 (by rw [HNL.out, q]; rfl))
  clear hYlt h0
  go_wp2
  go_loopw [5, 6] (fun s5 s6 wr => ∃ (k : Nat) (iv : Value), iv = s5 ∧ s6 = .int .i64 (k : Int) ∧ k ≤ n ∧ Tch [] w2 wr ∧ Hid (InT (sb :: (v1.ownBlock.toList ++ X)) w2.heap.size wr iv (entries (ps.take k)))) (fun _ i _ => n - (intOf i).toNat)
  case atStart => exact ⟨0, _, rfl, rfl, Nat.zero_le _, Tch.refl _ _, hQz (InT.zero _ _ _)⟩
  case round =>
    obtain ⟨k, iv, rfl, rfl, hk, hT, HI⟩ := hrel
    by_cases hlt : k < n
    · have d1 : (k : Int) < (n : Int) := by omega
      have hkl : k < ps.length := by rw [← HNL.out]; exact hlt
      obtain ⟨b, o, rfl, hb, hbX, hc⟩ := HAT.out (by omega)
      obtain ⟨p1, c1, p2, c2, g0, g1, g2, g3⟩ := hc k hkl
      obtain ⟨-, kk, -, -⟩ := mayE_ok HMY.out.1
      have hkb := (kk _ (List.getElem_mem hkl)).1
      have hvb := HMY.out.2.1 _ (List.getElem_mem hkl)
      have het := entries_take hkl
      obtain ⟨ky, hky⟩ : ∃ ky, ky = (ps[k]'hkl).1 := ⟨_, rfl⟩
      obtain ⟨vy, hvy⟩ : ∃ vy, vy = (ps[k]'hkl).2 := ⟨_, rfl⟩
      rw [← hky] at g0 g2 hkb het
      rw [← hvy] at g1 g3 hvb het
      obtain ⟨n1, hn1⟩ : ∃ n1, n1 = ky.length := ⟨_, rfl⟩
      obtain ⟨n2, hn2⟩ : ∃ n2, n2 = vy.length := ⟨_, rfl⟩
      rw [← hn1] at g0 g2 hkb
      rw [← hn2] at g1 g3
      have hTt : Tch (sb :: v.ownBlock.toList) w wr := HS1.out.1.trans (hT.mono (by simp))
      have hbX2 : b ∉ sb :: v.ownBlock.toList := fun hm => hbX (by
        rcases List.mem_cons.1 hm with h | h
        · rw [h]; exact List.mem_cons_self
        · exact List.mem_cons_of_mem _ (List.mem_append_left _ h))
      obtain ⟨xs, hown, hrd⟩ := HI.out
      have hbI : b ∉ iv.ownBlock.toList := fun hm => by have h1 := (hown.lt b (by simpa using hm)).1; have h2 := HS1.out.1.size; omega
      have HC0 := hQz (fun (w' : World) (h : Tch iv.ownBlock.toList wr w') => show w'.cell? ⟨b, o + k * 2, none⟩ = some (.slice p1 n1 c1) from (h.cell (p := ⟨b, o + k * 2, none⟩) (Nat.lt_of_lt_of_le hb hTt.size) hbI).trans ((hTt.cell (p := ⟨b, o + k * 2, none⟩) hb hbX2).trans g0))
      have HC1 := hQz (fun (w' : World) (h : Tch iv.ownBlock.toList wr w') => show w'.cell? ⟨b, o + k * 2 + 1, none⟩ = some (.slice p2 n2 c2) from (h.cell (p := ⟨b, o + k * 2 + 1, none⟩) (Nat.lt_of_lt_of_le hb hTt.size) hbI).trans ((hTt.cell (p := ⟨b, o + k * 2 + 1, none⟩) hb hbX2).trans g1))
      have hwide : ∀ y ∈ iv.ownBlock.toList ++ (sb :: (v1.ownBlock.toList ++ X)), y ∈ sb :: (v.ownBlock.toList ++ X) ∨ w.heap.size ≤ y := fun y hy => by
        rcases List.mem_append.1 hy with hy | hy
        · exact .inr (Nat.le_trans HS1.out.1.size (hown.lt y (by simpa using hy)).1)
        · rcases List.mem_cons.1 hy with h | hy
          · rw [h]; exact .inl List.mem_cons_self
          · rcases List.mem_append.1 hy with hy | hy
            · exact (HS1.out.2.1 y (by simpa using hy)).imp (fun q => List.mem_cons_of_mem _ (List.mem_append_left _ (by simp [q]))) id
            · exact .inl (List.mem_cons_of_mem _ (List.mem_append_right _ hy))
      have hturn : ∀ y ∈ sb :: v.ownBlock.toList, y ∈ sb :: (v.ownBlock.toList ++ X) ∨ w.heap.size ≤ y := fun y hy => .inl (by
        rcases List.mem_cons.1 hy with h | h
        · rw [h]; exact List.mem_cons_self
        · exact List.mem_cons_of_mem _ (List.mem_append_left _ h))
      have HKR := hQz (fun (w' : World) (h : Tch [] wr w') => refSplit_any (.slice p1 n1 c1) ky w' (by omega) ((g2.re hTt (B := []) (by simp) hturn).tch h))
      have HVR := hQz (g3.re hTt hwide hturn)
      have HNB := hQz (show ∀ y ∈ nibs ky, y < 256 from fun y hy => Nat.lt_of_lt_of_le (nibT_lt (fun z hz => g2.choose_spec.choose_spec.2.2.1 z hz) y hy) (by decide))
      have HK := hQz (And.intro hlt (And.intro het (show (entries (ps.take k)).length = k from by unfold entries; rw [List.length_map, List.length_take]; omega)))
      have HTS := hQz (And.intro hT hT.size)
      have HRO := hQz (And.intro hown hrd)
      clear g0 g1 g2 g3 hc hbX hbX2 hTt hwide hturn hown hrd het hky hvy hn1 hn2 kk
      go_upto_region 9 with (fail)
      try simp only [Act.put, ppA, ppB, ppC]
      refine wp_region_held_drew (S := fun w' => Tch iv.ownBlock.toList wr w') (by kernel_rfl) ((Tch.refl _ wr).drew) (fun hC => ?_)
      have hD0 : Tch [] wr wr.drew := (Tch.refl [] wr).drew
      generalize World.drew wr = u0 at hC hD0 ⊢
      refine qa0 (v := iv) 0 rfl (by kernel_rfl) (by kernel_rfl) (by kernel_rfl) (fun _ _ _ h => h) hC rfl (fun w' hw' => qb2 (.inl rfl) rfl) ?_
      try simp only [Act.put, ppA, ppB, ppC]
      refine qa0 (v := .slice (some ⟨b, o, none⟩) n cp) 1 rfl (by kernel_rfl) (by kernel_rfl) (by kernel_rfl) (fun _ _ _ h => h) hC rfl (fun w' hw' => qb2 (.inl rfl) rfl) ?_
      try simp only [Act.put, ppA, ppB, ppC]
      refine qa0 (v := .int .i64 (k : Int)) 2 rfl (by kernel_rfl) (by kernel_rfl) (by kernel_rfl) (fun _ _ _ h => h) hC rfl (fun w' hw' => qb2 (.inl rfl) rfl) ?_
      try simp only [Act.put, ppA, ppB, ppC]
      refine qa0 (v := .pointer (some ⟨b, o + k * 2, none⟩)) 3 rfl (by kernel_rfl) (by kernel_rfl) (by kernel_rfl) (fun _ _ _ h => h) hC rfl (fun w' hw' => x_idxPr _ _ rfl rfl rfl HK.out.1) ?_
      try simp only [Act.put, ppA, ppB, ppC]
      refine qa0 (v := .pointer (some ⟨b, o + k * 2, none⟩)) 4 rfl (by kernel_rfl) (by kernel_rfl) (by kernel_rfl) (fun _ _ _ h => h) hC rfl (fun w' hw' => x_fa _ _ _ rfl rfl (fa_Pr0 _ _ _)) ?_
      try simp only [Act.put, ppA, ppB, ppC]
      refine qa0 (v := .slice p1 n1 c1) 5 rfl (by kernel_rfl) (by kernel_rfl) (by kernel_rfl) (fun _ _ _ h => h) hC rfl (fun w' hw' => qe2 _ _ rfl rfl (HC0.out w' hw') qa9) ?_
      try simp only [Act.put, ppA, ppB, ppC]
      refine qa0 (v := .slice (some ⟨b, o, none⟩) n cp) 7 rfl (by kernel_rfl) (by kernel_rfl) (by kernel_rfl) (fun _ _ _ h => h) hC rfl (fun w' hw' => qb2 (.inl rfl) rfl) ?_
      try simp only [Act.put, ppA, ppB, ppC]
      refine qa0 (v := .int .i64 (k : Int)) 8 rfl (by kernel_rfl) (by kernel_rfl) (by kernel_rfl) (fun _ _ _ h => h) hC rfl (fun w' hw' => qb2 (.inl rfl) rfl) ?_
      try simp only [Act.put, ppA, ppB, ppC]
      refine qa0 (v := .pointer (some ⟨b, o + k * 2, none⟩)) 9 rfl (by kernel_rfl) (by kernel_rfl) (by kernel_rfl) (fun _ _ _ h => h) hC rfl (fun w' hw' => x_idxPr _ _ rfl rfl rfl HK.out.1) ?_
      try simp only [Act.put, ppA, ppB, ppC]
      refine qa0 (v := .pointer (some ⟨b, o + k * 2 + 1, none⟩)) 10 rfl (by kernel_rfl) (by kernel_rfl) (by kernel_rfl) (fun _ _ _ h => h) hC rfl (fun w' hw' => x_fa _ _ _ rfl rfl (fa_Pr1 _ _ _)) ?_
      try simp only [Act.put, ppA, ppB, ppC]
      refine qa0 (v := .slice p2 n2 c2) 11 rfl (by kernel_rfl) (by kernel_rfl) (by kernel_rfl) (fun _ _ _ h => h) hC rfl (fun w' hw' => qe2 _ _ rfl rfl (HC1.out w' hw') qa9) ?_
      try simp only [Act.put, ppA, ppB, ppC]
      refine qa6 6 (by kernel_rfl) ?_
      refine qk6 (v1 := .slice p1 n1 c1) rfl rfl rfl (by rfl) Tryz.call38 (HKR.out u0 hD0) ?_
      rintro e u1 ⟨kv, rfl, hT1, hownk⟩
      have hC1 := hC.trans hT1.toX
      have hD1 := hD0.trans hT1
      obtain ⟨pk, ck, rfl⟩ := own_form hownk
      refine ⟨_, rfl, hC1, ?_⟩
      try simp only [Act.put, ppA, ppB, ppC]
      refine qa0 (v := .agg #[.slice pk (nibs ky).length ck, .slice p2 n2 c2]) 12 rfl (by kernel_rfl) (by kernel_rfl) (by kernel_rfl) (fun _ _ _ h => h) hC1 rfl (fun w' hw' => x_buildR ⟨_, _, rfl, rfl, rfl⟩ (build_R _ _ _ _ _ _ _)) ?_
      try simp only [Act.put, ppA, ppB, ppC]
      refine qa6 13 (by kernel_rfl) ?_
      refine held_bsR rfl rfl rfl (by rfl) ?_
      have hTa : Tch [] u1 (u1.alloc (.cells #[.slice pk (nibs ky).length ck, .slice p2 n2 c2] 93)) := (Tch.refl _ _).alloc _
      refine ⟨hC1.trans hTa.toX, ?_⟩
      try simp only [Act.put, ppA, ppB, ppC]
      refine qa6 14 (by kernel_rfl) ?_
      refine held_appRK (base := w2.heap.size) (v := iv) (c := #[.slice pk (nibs ky).length ck, .slice p2 n2 c2]) _ _ rfl rfl rfl rfl rfl (own_eq HRO.out.1 (fun g hg => hD1.block g (HRO.out.1.lt g hg).2 (by simp))) (Nat.le_trans HTS.out.2 hD1.size) rfl (pair2_one _ _ _ _ _ _) (by rw [HK.out.2.2]; omega) ?_
      intro jv u2 hownj hT2 hvj
      have hC2 : Tch [] w2 u2 := (HTS.out.1.trans hD1).fresh hT2 (fun x hx => (HRO.out.1.lt x (by simpa using hx)).1)
      have hZ1 : ∀ y ∈ iv.ownBlock.toList ++ (sb :: (v1.ownBlock.toList ++ X)), y < u0.heap.size := fun y hy => by
        rcases List.mem_append.1 hy with hy | hy
        · exact Nat.lt_of_lt_of_le (HRO.out.1.lt y (by simpa using hy)).2 hD0.size
        · exact Nat.lt_of_lt_of_le (HY.out y hy) (Nat.le_trans HTS.out.2 hD0.size)
      have HJ := hQz (show InT (sb :: (v1.ownBlock.toList ++ X)) w2.heap.size u2 jv (entries (ps.take (k + 1))) from by
        rw [HK.out.2.1]
        exact InT.snoc (HRO.out.2.tch2 hD1.toX) (own_newA hownk HNB.out _ hZ1) (HVR.out.tch hD1.toX) hT2 hvj hownj)
      have hC3 : Tch iv.ownBlock.toList wr u2 := (hD1.mono (by simp)).trans hT2
      refine ⟨hC3, ?_⟩
      try simp only [Act.put, ppA, ppB, ppC]
      refine qa0 (v := jv) 15 rfl (by kernel_rfl) (by kernel_rfl) (by kernel_rfl) (fun _ _ _ h => h) hC3 rfl (fun w' hw' => qb2 (.inr rfl) rfl) ?_
      try simp only [Act.put, ppA, ppB, ppC]
      refine wpAnyH_done (by kernel_rfl) ?_ _
      clear HC0 HC1 HKR hC hD0 hT1 hownk hC1 hD1 hTa hownj hT2 hvj hZ1 hC3
      go_wp2
      go_roundw
      case rel => exact ⟨k + 1, jv, rfl, by go_num, by omega, hC2, HJ⟩
      case measure => simp [intOf]; omega
    · obtain rfl : k = n := by omega
      have d1 : ¬ (k : Int) < (k : Int) := by omega
      have htk : ps.take k = ps := List.take_of_length_le (by rw [HNL.out]; exact Nat.le_refl _)
      have hbyt : ∀ p ∈ ps, ∀ x ∈ p.1, x < 256 := fun p hp => by
        obtain ⟨i, hi, rfl⟩ := List.getElem_of_mem hp
        obtain ⟨b, o, -, -, -, hc⟩ := HAT.out (by rw [HNL.out]; omega)
        obtain ⟨p1, c1, p2, c2, -, -, g2, -⟩ := hc i hi
        exact g2.choose_spec.choose_spec.2.2.1
      have hgood := good_entries HMY.out.1 H0.out hbyt HMY.out.2.1
      have hcount := count_entries HMY.out.1 H0.out
      have hsmall := node_small hgood
      have HG := hQz (And.intro hgood (And.intro hcount hsmall))
      have HPX := hQz (show PairsX (sb :: (v1.ownBlock.toList ++ X)) wr iv (entries ps) from by
        obtain ⟨xs, hown, hrd⟩ := HI.out
        rw [htk] at hown hrd
        exact pairs_ownY hown (hrd.re (Tch.refl [] _) (fun y hy => .inl (List.mem_append_right _ hy)) (by simp)) HY.out)
      have HTL := hQz (And.intro hT hT.size)
      obtain ⟨it, hit⟩ : ∃ it, it = nodeT pkT HL 200 (entries ps) := ⟨_, rfl⟩
      obtain ⟨Ls, hLs⟩ : ∃ Ls, Ls = nodeE pkT HL 200 (entries ps) := ⟨_, rfl⟩
      obtain ⟨Lb, hLb⟩ : ∃ Lb, Lb = enc it := ⟨_, rfl⟩
      have HND := hQz (fun (bb : Nat) (w' : World) (s : Value × KList × Bool × Value × KList) (hK : (keepS bb sb m).K s X w') (hp : PairsX ((keepS bb sb m).Z s ++ X) w' iv (entries ps)) (hn : (keepS bb sb m).N s + Ls.length ≤ 50000000) => show Calls Tryz.prog 40 #[.pointer (some ⟨bb, 0, none⟩), iv] w' (ItemPostK (keepS bb sb m) X it Ls s w') from by
        rw [hit, hLs]
        exact node_all (keepS_ok bb sb m) 200 (entries ps) X w' s iv hK hp HG.out.1 (by rw [hLs] at hn; exact hn))
      have HPK := hQz (fun (Y : List Nat) (w' : World) (x0 vb vl : Value) (hI : ItC Y w' (dep it + 1) x0 vb vl it) => show Calls Tryz.prog 39 #[.agg #[x0, vb, vl]] w' (fun e w'' => ∃ v, e = .returned (.tuple #[v, .int .i64 0]) ∧ Tch [] w' w'' ∧ ∀ X : List Nat, (∀ x ∈ X, x < w'.heap.size) → RdA X w'' v Lb) from by
        rw [hLb]
        exact refPack_yesN (dep it + 1) x0 vb vl it w' (hI.mono (Y := []) (by simp)) (by rw [hit]; exact ⟨HG.out.2.2.2, Nat.le_trans HG.out.2.2.1 (by decide)⟩))
      have HEQ := hQz (And.intro hit (And.intro hLs (And.intro hLb (And.intro (show Lb.length ≤ 901000 from by rw [hLb, hit]; exact HG.out.2.2.1) (show Ls.length + 1 ≤ 129 * ps.length from by rw [hLs]; exact HG.out.2.1)))))
      have hS : St [] wr wr [] := St.start wr
      have HL1 := hQz (show L1.length ≤ 40000001 from by have h1 := HS1.out.2.2.2.2.2; have h2 := HMY.out.2.2.2; omega)
      clear hT htk hbyt hgood hcount hsmall hit hLs hLb
      go_wp2_with (first
        | (refine st_bld #[(1, .pointer (some ⟨sb, 0, none⟩))] rfl rfl (by simp only [List.map_toArray, List.map_cons, List.map_nil]; rfl) (build_buS sb _) ?_)
        | (refine qi0 hS rfl 96 _ rfl rfl ?_; clear hS; intro w4 bb hS; have HB := hQz (And.intro (And.intro hS.frame ((hS.own .head).resolve_right (by simp))) (hS.get .head)))
        | (go_at_call 40; go_must (refine (HND.out bb _ (.slice none 0 0, [], false, v1, L1) (trie_ks HS1.out.2.2.1 HTL.out.1 HB.out.1.1 HB.out.1.2 HB.out.2) (trie_px HPX.out HB.out.1.1 HB.out.1.2) (by show max 0 L1.length + Ls.length ≤ 50000000; have h1 := HL1.out; have h2 := HEQ.out.2.2.2.2; have h3 := HMY.out.2.2.1; omega)).mono ?_; rintro e w5 ⟨s1, hZ1, hK1, hC1, hN1, t, p, n', c, q, k', d, rfl, hI⟩; have H5 := hQz (And.intro hZ1 (And.intro hK1 (And.intro hC1 (And.intro hN1 hI)))); clear hZ1 hK1 hC1 hN1 hI))
        | (go_at_call 39; go_must (refine (HPK.out _ _ _ _ _ H5.out.2.2.2.2).mono ?_; rintro e w6 ⟨xv, rfl, hT6, hx6⟩; obtain ⟨xp, xc, rfl⟩ : ∃ xp xc, xv = .slice xp Lb.length xc := (hx6 [] (by simp)).shape'; have H6 := hQz (And.intro hT6 hx6); clear hT6 hx6))
        | (go_at_call 41; go_must (refine ((keepS_ok bb sb m).put s1 X _ _ Lb ((keepS_ok bb sb m).call H5.out.2.1 H6.out.1) (H6.out.2 _ ((keepS_ok bb sb m).all H5.out.2.1)) (by have := HEQ.out.2.2.2.1; omega) (by have h0 := H5.out.2.2.2.1; have h00 : (keepS bb sb m).N (.slice none 0 0, [], false, v1, L1) = max 0 L1.length := rfl; rw [h00] at h0; have h1 := HL1.out; have h2 := HEQ.out.2.2.2.2; have h3 := HMY.out.2.2.1; omega)).mono ?_; rintro e w7 ⟨s2, hZ2, hK2, hR2, hN2, rfl⟩; have H7 := hQz (And.intro hZ2 (And.intro hK2 (And.intro hR2 hN2))); have HB2 := hQz (show Blk w7 bb 96 #[s2.1, .pointer (some ⟨sb, 0, none⟩), .bool s2.2.2.1] from hK2.1); clear hZ2 hK2 hR2 hN2))
        | (refine qc1 rfl (x_fa 96 _ 2 rfl rfl (fa_bu2 _ _)) ?_)
        | (refine qc1 rfl (qe2 4 _ rfl rfl (HB2.out.cell (j := 2) rfl) bool_agg) ?_))
      go_ret
      exact trie_last HS1.out.1 HS1.out.2.1 (HS1.out.2.2.2.1 (by simp)) HS1.out.2.2.2.2.1 HS1.out.2.2.2.2.2 HTL.out.1 HB.out.1.1 HB.out.1.2 H5.out.1 H6.out.1 H7.out.1 H7.out.2.1 H5.out.2.2.1 H7.out.2.2.1 H5.out.2.2.2.1 H7.out.2.2.2 (by rw [HEQ.out.2.1]) (by rw [HEQ.out.2.2.1, HEQ.out.1]) HEQ.out.2.2.2.2 rfl
end
section
open Go.RowKit Tr
set_option maxRecDepth 100000
def PairsLs (w : World) (v : Value) (pss : List (List En)) : Prop := ∃ p c, v = .slice p pss.length c ∧ (pss ≠ [] → ∃ b o, p = some ⟨b, o, none⟩ ∧ b < w.heap.size ∧ ∀ i (h : i < pss.length), ∃ vi, w.cell? ⟨b, o + i, none⟩ = some vi ∧ PairsAt w vi pss[i])
def ClearOf (S : List (List Nat)) (pss : List (List En)) : Prop := (∀ x ∈ S, ∀ y ∈ S, HL x = HL y → x = y) ∧ ∀ ps ∈ pss, mayE ps = 0 → [128] ∈ S ∧ (ps ≠ [] → ∀ x ∈ allE pkT HL ps, x ∈ S)
def ClPost (pss : List (List En)) (w : World) (e : Ending) (w' : World) : Prop := Tch [] w w' ∧ ∃ r : Bool, e = .returned (.bool r) ∧ (r = true → ∃ S, ClearOf S pss)
theorem lists_ty : Tryz.prog.underlying 30 = some (.slice 22) := by kernel_rfl
theorem pairs_size1 : (Tryz.prog.info? 22).map (·.size) = some 1 := by kernel_rfl
theorem pairs_agg1 (w : World) : (isAgg 22).run Tryz.prog w = .ok false w := by kernel_rfl
theorem x_idxLs {a : Act} {w : World} {o : Oper} {b off j n c : Nat} (x y : Operand) (ho : o.op = .indexAddr 30 x y) (hx : a.eval x = .slice (some ⟨b, off, none⟩) n c) (hy : a.eval y = .int .i64 (j : Int)) (hj : j < n) : (execOp a.eval o).run Tryz.prog w = .ok (.value (.pointer (some ⟨b, off + j, none⟩))) w := by
  have hadd : (⟨b, off, none⟩ : Addr).add j = ⟨b, off + j, none⟩ := by unfold Addr.add; split <;> simp_all
  unfold execOp
  simp [ho, hx, hy, Instr.indexAt, run_underlying lists_ty, Instr.sureAddr, asIntOf, qe1 pairs_size1, hj, hadd]
theorem build_sn0 (w : World) : (Instr.build 60 #[]).run Tryz.prog w = .ok (.agg #[.slice none 0 0]) w := by kernel_rfl
theorem big_le : 900000 ≤ 4611686018427387904 := Nat.le_of_ble_eq_true rfl
def ClK (sb : Nat) (pss : List (List En)) (w wr : World) (k : Nat) (vS : Value) (LS : KList) : Prop :=
  SeenAt sb w.heap.size [] wr vS LS ∧ LS.length ≤ k * 129003 ∧ ∀ i (h : i < pss.length), i < k → mayE pss[i] = 0 → [128] ∈ LS.map (·.1) ∧ (pss[i] ≠ [] → ∀ x ∈ allE pkT HL pss[i], x ∈ LS.map (·.1))
theorem seen_inj {L : KList} (h : L.Pairwise (fun p q => lt (HL p.1) (HL q.1))) : ∀ x ∈ L.map (·.1), ∀ y ∈ L.map (·.1), HL x = HL y → x = y := by
  intro x hx y hy e
  obtain ⟨p, hp, rfl⟩ := List.mem_map.1 hx
  obtain ⟨q, hq, rfl⟩ := List.mem_map.1 hy
  obtain ⟨i, hi, rfl⟩ := List.getElem_of_mem hp
  obtain ⟨j, hj, rfl⟩ := List.getElem_of_mem hq
  rcases Nat.lt_trichotomy i j with q | q | q
  · have := (List.pairwise_iff_getElem.1 h) i j hi hj q
    rw [e] at this
    exact absurd this (lt_irrefl _)
  · subst q; rfl
  · have := (List.pairwise_iff_getElem.1 h) j i hj hi q
    rw [e] at this
    exact absurd this (lt_irrefl _)
theorem seen_ge {sb m : Nat} {w : World} {v : Value} {L : KList} (h : SeenAt sb m [] w v L) : ∀ y ∈ sb :: (v.ownBlock.toList ++ []), m ≤ y := fun y hy => by
  rcases List.mem_cons.1 hy with rfl | hy
  · exact h.2.1
  · rw [List.append_nil] at hy
    exact (h.2.2.1.lt y (by simpa using hy)).1
set_option maxHeartbeats 16000000 in
theorem clear_any (v : Value) (pss : List (List En)) (w : World) (hv : PairsLs w v pss) (hn : pss.length ≤ 100) (hL : ∀ ps ∈ pss, ps.length ≤ 1000) (hV : ∀ ps ∈ pss, ∀ p ∈ ps, p.1.length ≤ 4611686018427387904 ∧ p.2.length ≤ 900000) :
    Calls Tryz.prog 8 #[v] w (ClPost pss w) := by
  obtain ⟨p, c, rfl, hat⟩ := hv
  obtain ⟨n, hnl⟩ : ∃ n, n = pss.length := ⟨_, rfl⟩
  rw [← hnl] at hn ⊢
  have HNL := hQz hnl
  have HAT := hQz hat
  have HB := hQz (And.intro hL hV)
  have hS : St [] w w [] := St.start w
  clear hnl hat hL hV
  go_enter Tryz.func8, Tryz.ntmps8
  go_wp2_with (first
    | (refine st_bld #[] rfl rfl (by simp only [List.map_toArray, List.map_cons, List.map_nil]) (build_sn0 _) ?_)
    | (refine qi0 hS rfl 60 _ rfl rfl ?_; clear hS; intro w1 sb hS))
  have HS0 := hQz (And.intro ((hS.own .head).resolve_right (by simp)) (And.intro hS.frame (hS.get .head)))
  go_loopw [4] (fun s4 wr => ∃ (k : Nat) (vS : Value) (LS : KList), s4 = .int .i64 (k : Int) ∧ k ≤ n ∧ Tch [] w wr ∧ Hid (ClK sb pss w wr k vS LS)) (fun i _ => n - (intOf i).toNat)
  case atStart => exact ⟨0, .slice none 0 0, [], rfl, Nat.zero_le _, hS.frame, hQz ⟨⟨hS.get .head, HS0.out.1, ⟨rfl, .inl ⟨rfl, rfl⟩⟩, by simp [Value.ownBlock], fun x hx => (by cases hx), fun q hq => (by cases hq), List.Pairwise.nil⟩, Nat.zero_le _, fun i _ h => absurd h (Nat.not_lt_zero _)⟩⟩
  case round =>
    clear hS
    obtain ⟨k, vS, LS, rfl, hk, hT, HI⟩ := hrel
    by_cases hlt : k < n
    · have d1 : (k : Int) < (n : Int) := by omega
      have hkl : k < pss.length := by rw [← HNL.out]; exact hlt
      obtain ⟨b, o, rfl, hb, hc⟩ := HAT.out (fun q => by rw [q] at hkl; simp at hkl)
      obtain ⟨vi, g0, g1⟩ := hc k hkl
      have hpl := HB.out.1 _ (List.getElem_mem hkl)
      have hpv := HB.out.2 _ (List.getElem_mem hkl)
      obtain ⟨ps, hps⟩ : ∃ ps, ps = pss[k]'hkl := ⟨_, rfl⟩
      rw [← hps] at g1 hpl hpv
      obtain ⟨pi, ci, hvi⟩ : ∃ pi ci, vi = .slice pi ps.length ci := ⟨_, _, g1.choose_spec.choose_spec.1⟩
      obtain ⟨ni, hni⟩ : ∃ ni, ni = ps.length := ⟨_, rfl⟩
      rw [← hni] at hvi
      subst hvi
      have HC := hQz (fun (w' : World) (h : Tch [] w w') => show w'.cell? ⟨b, o + k, none⟩ = some (.slice pi ni ci) from (h.cell (p := ⟨b, o + k, none⟩) hb (by simp)).trans g0)
      have HLT := hQz (And.intro hlt (And.intro hps (And.intro hpl hpv)))
      have HPA := hQz g1
      have HMP := hQz (fun (w' : World) (h : Tch [] w w') => mayPairs_any (.slice pi ni ci) ps w' (g1.tch h) (by omega) (fun q hq => ⟨(hpv q hq).1, Nat.le_trans (hpv q hq).2 big_le⟩))
      by_cases hm : mayE ps = 0
      · rw [hm] at HMP
        have HM := hQz hm
        have hS : St [] w wr [] := ⟨hT, fun _ h => by simp at h, .nil⟩
        clear hc g0 g1 hpl hpv hm hps hni
        go_upto_region 6 with (first
          | (refine qc1 rfl (x_idxLs _ _ rfl rfl rfl HLT.out.1) ?_)
          | (refine qc1 rfl (qe2 22 _ rfl rfl (HC.out _ hS.frame) pairs_agg1) ?_)
          | (go_at_call 7; go_must (refine (HMP.out _ hS.frame).mono ?_; rintro e w3 ⟨rfl, hT3⟩; have H3 := hQz hT3; replace hS := hS.call hT3; clear hT3)))
        try simp only [Act.put, ppA, ppB, ppC]
        refine wp_region_lit ?_
        refine qc1 (v := .pointer (some ⟨sb, 0, none⟩)) rfl (qb2 (.inl rfl) rfl) ?_; try simp only [Act.put, ppA, ppB, ppC]
        refine qc1 (v := .slice (some ⟨b, o, none⟩) n c) rfl (qb2 (.inl rfl) rfl) ?_; try simp only [Act.put, ppA, ppB, ppC]
        refine qc1 (v := .int .i64 (k : Int)) rfl (qb2 (.inl rfl) rfl) ?_; try simp only [Act.put, ppA, ppB, ppC]
        refine qc1 rfl (x_idxLs _ _ rfl rfl rfl HLT.out.1) ?_; try simp only [Act.put, ppA, ppB, ppC]
        refine qc1 rfl (qe2 22 _ rfl rfl (HC.out _ hS.frame) pairs_agg1) ?_; try simp only [Act.put, ppA, ppB, ppC]
        refine st_call2E (v1 := .pointer (some ⟨sb, 0, none⟩)) (v2 := .slice pi ni ci) rfl rfl rfl rfl Tryz.call21 (seenTrie_any sb w.heap.size [] vS LS _ ps _ (HI.out.1.call H3.out) ((HPA.out.x0.mono (fun y hy => .inr (seen_ge HI.out.1 y hy))).tch hS.frame.toX) HM.out (fun q hq => (HLT.out.2.2.2 q hq).2) HLT.out.2.2.1 (by have h1 := HI.out.2.1; omega)) ?_
        rintro e w4 ⟨r, v4, L4, rfl, hT4, hv4, hSA4, ha4, hb4, hc4⟩
        refine ⟨_, rfl, ?_⟩
        have hTw : Tch [] w w4 := hS.frame.fresh hT4 (fun y hy => seen_ge HI.out.1 y (by
          rcases List.mem_cons.1 hy with e | hy
          · rw [e]; exact List.mem_cons_self
          · exact List.mem_cons_of_mem _ (List.mem_append_left _ hy)))
        have HF := hQz (fun (hr : r = true) => show ClK sb pss w w4 (k + 1) v4 L4 from by
          refine ⟨hSA4, by have h1 := HI.out.2.1; have h2 := HLT.out.2.2.1; omega, fun i hi hik hmi => ?_⟩
          by_cases hie : i = k
          · subst hie
            have e := HLT.out.2.1
            rw [← e]
            exact ha4 hr
          · obtain ⟨q1, q2⟩ := HI.out.2.2 i hi (by omega) hmi
            exact ⟨hb4 _ q1, fun h x hx => hb4 _ (q2 h x hx)⟩)
        clear hT4 hv4 hSA4 ha4 hb4 hc4 hS
        try simp only [Act.put, ppA, ppB, ppC]
        refine qc1 (v := .bool r) rfl (qb2 (.inr rfl) rfl) ?_; try simp only [Act.put, ppA, ppB, ppC]
        refine ql2 ?_
        cases r with
        | false =>
          go_wp2
          go_ret
          exact ⟨hTw, false, rfl, fun h => by cases h⟩
        | true =>
          have HF2 := hQz (HF.out rfl)
          clear HF
          go_wp2
          go_roundw
          case rel => exact ⟨k + 1, v4, L4, by go_num, by have := HLT.out.1; omega, hTw, HF2⟩
          case measure => have := HLT.out.1; simp [intOf]; omega
      · have e1 : (((mayE ps : Nat) : Int) != 0) = true := by rw [bne_iff_ne]; omega
        have HF := hQz (show ∀ W, Tch [] wr W → ClK sb pss w W (k + 1) vS LS from fun W hW => ⟨HI.out.1.call hW, Nat.le_trans HI.out.2.1 (Nat.mul_le_mul_right 129003 (Nat.le_succ k)), fun i hi hik hmi => by
          by_cases hie : i = k
          · subst hie
            rw [← HLT.out.2.1] at hmi
            exact absurd hmi hm
          · exact HI.out.2.2 i hi (by omega) hmi⟩)
        have hS : St [] wr wr [] := St.start wr
        generalize mayE ps = mm at *
        clear hc g0 g1 hpl hpv hm hps hni
        go_wp2_with (first
          | (refine qc1 rfl (x_idxLs _ _ rfl rfl rfl HLT.out.1) ?_)
          | (refine qc1 rfl (qe2 22 _ rfl rfl (HC.out _ (hT.trans hS.frame)) pairs_agg1) ?_)
          | (go_at_call 7; go_must (refine (HMP.out _ (hT.trans hS.frame)).mono ?_; rintro e w3 ⟨rfl, hT3⟩; replace hS := hS.call hT3; clear hT3)))
        have hTx := hT.trans hS.frame
        go_roundw
        case rel => exact ⟨k + 1, vS, LS, by go_num, by have := HLT.out.1; omega, hTx, hQz (HF.out _ hS.frame)⟩
        case measure => have := HLT.out.1; simp [intOf]; omega
    · obtain rfl : k = n := by omega
      have d1 : ¬ (k : Int) < (k : Int) := by omega
      go_wp2
      go_ret
      refine ⟨hT, true, rfl, fun _ => ⟨LS.map (·.1), seen_inj HI.out.1.2.2.2.2.2.2, fun ps hp hm => ?_⟩⟩
      obtain ⟨i, hi, rfl⟩ := List.getElem_of_mem hp
      exact HI.out.2.2 i hi (by rw [HNL.out]; exact hi) hm
end
section
open Go.RowKit Tr
set_option maxRecDepth 100000
theorem pr_size (w : World) : (Go.sizeOf 28).run Tryz.prog w = .ok 2 w := by kernel_rfl
theorem pr_infos : (Tryz.prog.info? 28).map (fun i => (i.zero, i.size, i.bytes)) = some (some (.agg #[.slice none 0 0, .slice none 0 0]), 2, 48) := by kernel_rfl
theorem vCells_append (a b : List VV) : vCells (a ++ b) = vCells a ++ vCells b := by simp [vCells]
theorem vCells_drop : ∀ (xs : List VV) (k : Nat), vCells (xs.drop k) = (vCells xs).drop (k * 2)
  | [], k => by simp [vCells]
  | x :: r, 0 => by simp
  | x :: r, k + 1 => by
    have e : vCells (x :: r) = x.1 :: x.2 :: vCells r := rfl
    rw [List.drop_succ_cons, vCells_drop r k, e, show (k + 1) * 2 = k * 2 + 1 + 1 by omega, List.drop_succ_cons, List.drop_succ_cons]
theorem vCells_take : ∀ (xs : List VV) (k : Nat), vCells (xs.take k) = (vCells xs).take (k * 2)
  | [], k => by simp [vCells]
  | x :: r, 0 => by simp [vCells]
  | x :: r, k + 1 => by
    have e : vCells (x :: r) = x.1 :: x.2 :: vCells r := rfl
    have e2 : vCells (x :: r.take k) = x.1 :: x.2 :: vCells (r.take k) := rfl
    rw [List.take_succ_cons, e2, vCells_take r k, e, show (k + 1) * 2 = k * 2 + 1 + 1 by omega, List.take_succ_cons, List.take_succ_cons]
theorem vCells_set : ∀ (xs : List VV) (k : Nat) (h : k < xs.length) (y : Value), (vCells xs).set (k * 2 + 1) y = vCells (xs.set k (xs[k].1, y))
  | [], k, h, y => absurd h (by simp)
  | x :: r, 0, h, y => rfl
  | x :: r, k + 1, h, y => by
    have ih := vCells_set r k (by simpa using h) y
    have e : vCells (x :: r) = x.1 :: x.2 :: vCells r := rfl
    rw [e, show (k + 1) * 2 + 1 = (k * 2 + 1) + 1 + 1 by omega, List.set_cons_succ, List.set_cons_succ, ih]
    rfl
def CelX (w : World) (p : Option Addr) (xs : List VV) : Prop := xs ≠ [] → ∃ b o, p = some ⟨b, o, none⟩ ∧ b < w.heap.size ∧ ∀ j u, (vCells xs)[j]? = some u → w.cell? ⟨b, o + j, none⟩ = some u
theorem CelX.tch {w w' : World} {p : Option Addr} {xs : List VV} (h : CelX w p xs) (hT : Tch [] w w') : CelX w' p xs := fun hn => by
  obtain ⟨b, o, h1, h2, h3⟩ := h hn
  exact ⟨b, o, h1, Nat.lt_of_lt_of_le h2 hT.size, fun j u hu => (hT.cell (p := ⟨b, o + j, none⟩) h2 (by simp)).trans (h3 j u hu)⟩
theorem RdEX.one {X : List Nat} {w : World} {xs : List VV} {es : List En} (h : RdEX X w xs es) : ∀ x ∈ xs, x.1.oneCell' = true ∧ x.2.oneCell' = true := fun x hx => by
  obtain ⟨i, hi, rfl⟩ := List.getElem_of_mem hx
  obtain ⟨⟨_, _, e1, _⟩, ⟨_, _, e2, _⟩⟩ := h.2 i hi (by rw [← h.1]; exact hi)
  rw [e1, e2]
  exact ⟨rfl, rfl⟩
theorem RdEX.drop {X : List Nat} {w : World} {xs : List VV} {es : List En} (h : RdEX X w xs es) (k : Nat) : RdEX X w (xs.drop k) (es.drop k) := ⟨by rw [List.length_drop, List.length_drop, h.1], fun i h1 h2 => by
  rw [List.getElem_drop, List.getElem_drop]
  exact h.2 _ _ _⟩
theorem RdEX.take {X : List Nat} {w : World} {xs : List VV} {es : List En} (h : RdEX X w xs es) (k : Nat) : RdEX X w (xs.take k) (es.take k) := ⟨by rw [List.length_take, List.length_take, h.1], fun i h1 h2 => by
  rw [List.getElem_take, List.getElem_take]
  exact h.2 _ _ _⟩
theorem RdEX.append {X : List Nat} {w : World} {xs ys : List VV} {es fs : List En} (h : RdEX X w xs es) (g : RdEX X w ys fs) : RdEX X w (xs ++ ys) (es ++ fs) := ⟨by rw [List.length_append, List.length_append, h.1, g.1], fun i h1 h2 => by
  by_cases hi : i < xs.length
  · rw [List.getElem_append_left hi, List.getElem_append_left (by rw [← h.1]; exact hi)]
    exact h.2 _ _ _
  · have e9 := h.1
    rw [List.getElem_append_right (by omega), List.getElem_append_right (by omega)]
    have e0 := h.1
    have := g.2 (i - xs.length) (by rw [List.length_append] at h1; omega) (by rw [List.length_append] at h2; omega)
    simpa only [h.1] using this⟩
theorem RdEX.set {X : List Nat} {w : World} {xs : List VV} {es : List En} (h : RdEX X w xs es) (k : Nat) (hk : k < xs.length) (hk2 : k < es.length) {v : Value} {l : List Nat} (hv : RdA X w v l) : RdEX X w (xs.set k (xs[k].1, v)) (es.set k (es[k].1, l)) := ⟨by rw [List.length_set, List.length_set, h.1], fun i h1 h2 => by
  rw [List.length_set] at h1 h2
  by_cases e : k = i
  · subst e
    rw [List.getElem_set_self, List.getElem_set_self]
    exact ⟨(h.2 k h1 h2).1, hv⟩
  · rw [List.getElem_set_ne e, List.getElem_set_ne e]
    exact h.2 i h1 h2⟩
theorem pairs_cells {w : World} {v : Value} {ps : List En} (h : PairsAt w v ps) : ∃ p c xs, v = .slice p ps.length c ∧ ps.length ≤ c ∧ CelX w p xs ∧ RdEX [] w xs ps := by
  obtain ⟨p, c, h1, h2, h3⟩ := h.x0
  by_cases hn : ps = []
  · subst hn
    exact ⟨p, c, [], h1, h2, fun q => absurd rfl q, rfl, fun i q => absurd q (by simp)⟩
  · obtain ⟨b, o, rfl, hb, _, h4⟩ := h3 hn
    have h5 : ∀ i : Fin ps.length, ∃ kv vv, w.cell? ⟨b, o + i.1 * 2, none⟩ = some kv ∧ w.cell? ⟨b, o + i.1 * 2 + 1, none⟩ = some vv ∧ RdA [] w kv ps[i.1].1 ∧ RdA [] w vv ps[i.1].2 := fun i => h4 i.1 i.2
    obtain ⟨f, hf⟩ := Classical.axiomOfChoice h5
    obtain ⟨g, hg⟩ := Classical.axiomOfChoice hf
    refine ⟨_, c, List.ofFn fun i => (f i, g i), h1, h2, fun _ => ⟨b, o, rfl, hb, fun j u hu => ?_⟩, by rw [List.length_ofFn], fun i q1 q2 => ?_⟩
    · have hlen : (List.ofFn fun i => (f i, g i)).length = ps.length := List.length_ofFn
      have hj : j < ps.length * 2 := by
        have := (List.getElem?_eq_some_iff.1 hu).1
        rw [vCells_len, hlen] at this
        exact this
      have hi : j / 2 < ps.length := by omega
      obtain ⟨c0, c1⟩ := vCells_get (List.ofFn fun i => (f i, g i)) (j / 2) (by rw [hlen]; exact hi)
      rw [List.getElem_ofFn] at c0 c1
      have q := hg ⟨j / 2, hi⟩
      by_cases hp : j % 2 = 0
      · have e : j / 2 * 2 = j := by omega
        rw [e, hu] at c0
        have q1 := q.1
        simp only [e] at q1
        rw [q1, Option.some.inj c0]
      · have e : j / 2 * 2 + 1 = j := by omega
        rw [e, hu] at c1
        have q1 := q.2.1
        have e2 : o + j / 2 * 2 + 1 = o + j := by omega
        simp only [e2] at q1
        rw [q1, Option.some.inj c1]
    · rw [List.getElem_ofFn]
      exact (hg ⟨i, q2⟩).2.2
theorem slice_fromPr (p : Option Addr) (n c k : Nat) (hk : k ≤ n) (hc : n ≤ c) : ∃ p' c', (∀ w, (Instr.sliceAt 22 (.slice p n c) (some (.int .i64 (k : Int))) none none).run Tryz.prog w = .ok (.slice p' (n - k) c') w) ∧ (k < n → ∀ g o, p = some ⟨g, o, none⟩ → p' = some ⟨g, o + k * 2, none⟩) := by
  refine ⟨if c = k then p else p.map (·.add (k * 2)), c - k, fun w => ?_, fun h g o hg => ?_⟩
  · have hel : Tryz.prog.elem 22 = 28 := by kernel_rfl
    have ht : Tryz.prog.underlying 22 = some (.slice (Tryz.prog.elem 22)) := by rw [hel]; exact pairs_ty
    have e1 := run_sliceAt_slice (P := Tryz.prog) (w := w) 22 (.slice p n c) (some (.int .i64 (k : Int))) none none ht
    have e2 := run_slice_l (P := Tryz.prog) (w := w) 22 p n c ht .i64 (k : Int) (by omega) (by omega)
    rw [e1, e2, hel, pr_size]
    simp [Result.andThen, sliced]
  · rw [if_neg (by omega), hg]
    have hadd : (⟨g, o, none⟩ : Addr).add (k * 2) = ⟨g, o + k * 2, none⟩ := by unfold Addr.add; split <;> simp_all
    show some ((⟨g, o, none⟩ : Addr).add (k * 2)) = _
    rw [hadd]
theorem slice_toPr (p : Option Addr) (n c k : Nat) (hk : k ≤ n) (hc : n ≤ c) (w : World) : (Instr.sliceAt 22 (.slice p n c) none (some (.int .i64 (k : Int))) none).run Tryz.prog w = .ok (.slice p k c) w := by
  have hel : Tryz.prog.elem 22 = 28 := by kernel_rfl
  have ht : Tryz.prog.underlying 22 = some (.slice (Tryz.prog.elem 22)) := by rw [hel]; exact pairs_ty
  have e1 := run_sliceAt_slice (P := Tryz.prog) (w := w) 22 (.slice p n c) none (some (.int .i64 (k : Int))) none ht
  have e2 := run_slice_h (P := Tryz.prog) (w := w) 22 p n c ht .i64 (k : Int) (by omega) (by omega)
  rw [e1, e2, hel, pr_size]
  cases p <;> simp [Result.andThen, sliced, Addr.add]
theorem CelX.drop {w : World} {p p' : Option Addr} {xs : List VV} {k : Nat} (h : CelX w p xs) (hp : k < xs.length → ∀ g o, p = some ⟨g, o, none⟩ → p' = some ⟨g, o + k * 2, none⟩) : CelX w p' (xs.drop k) := fun hn => by
  have hk : k < xs.length := by
    rcases Nat.lt_or_ge k xs.length with q | q
    · exact q
    · exact absurd (List.drop_eq_nil_of_le q) hn
  obtain ⟨b, o, h1, h2, h3⟩ := h (fun q => by rw [q] at hk; simp at hk)
  refine ⟨b, o + k * 2, hp hk b o h1, h2, fun j u hu => ?_⟩
  rw [vCells_drop, List.getElem?_drop] at hu
  rw [Nat.add_assoc]
  exact h3 _ _ hu
theorem CelX.take {w : World} {p : Option Addr} {xs : List VV} (h : CelX w p xs) (k : Nat) : CelX w p (xs.take k) := fun hn => by
  obtain ⟨b, o, h1, h2, h3⟩ := h (fun q => hn (by rw [q, List.take_nil]))
  refine ⟨b, o, h1, h2, fun j u hu => h3 _ _ ?_⟩
  rw [vCells_take] at hu
  rcases Nat.lt_or_ge j (k * 2) with q | q
  · rwa [List.getElem?_take_of_lt q] at hu
  · rw [List.getElem?_eq_none (by rw [List.length_take]; omega)] at hu
    cases hu
theorem appP_run {w : World} {base N c n : Nat} {v : Value} {us : List Value} {p : Option Addr} {xs : List VV} (hn : n = xs.length) (hown : w.ownsRow base 28 2 v N us) (hb : base ≤ w.heap.size) (hx : CelX w p xs) (h1 : ∀ x ∈ xs, x.1.oneCell' = true ∧ x.2.oneCell' = true) (hN : N + n ≤ 100000000) (ty : TypeId) :
    ∃ v' w', (Builtin.append_ #[22, 22] ty #[v, .slice p n c]).run Tryz.prog w = .ok v' w' ∧ w'.ownsRow base 28 2 v' (N + n) (us ++ vCells xs) ∧ Tch v.ownBlock.toList w w' := by
  obtain ⟨i0, hi, hz0, hz1, hz2⟩ := info_parts pr_infos
  subst hn
  by_cases hM : xs = []
  · subst hM
    refine ⟨v, w, ?_, by simpa [vCells] using hown, Tch.refl _ _⟩
    have hform : ∃ b n cc, v = .slice b n cc ∧ n ≤ cc := by
      rcases hown.2 with ⟨rfl, _⟩ | ⟨g, cap, cur, rfl, _, _, hcap, _⟩
      · exact ⟨none, 0, 0, rfl, Nat.le_refl _⟩
      · exact ⟨_, _, _, rfl, hcap⟩
    obtain ⟨b, n, cc, rfl, hle⟩ := hform
    cases p <;> cases b <;> simp [Builtin.append_, run_underlying pairs_ty, sizeOf, typeInfo, hi, hle, Builtin.lenOf, Builtin.firstCells, loadCells, loadCellsFrom, storeCells, Result.andThen]
  · obtain ⟨g, o, rfl, _, hc⟩ := hx hM
    have hone : ∀ u ∈ vCells xs, u.oneCell' = true := by
      intro u hu
      unfold vCells at hu
      obtain ⟨q, hq, hu⟩ := List.mem_flatMap.1 hu
      have hq2 := h1 q hq
      rcases List.mem_cons.1 hu with e | hu
      · rw [e]; exact hq2.1
      · rw [List.mem_singleton.1 hu]; exact hq2.2
    obtain ⟨v', w', hr, h2, hgrow, _, _⟩ := run_append_own_at (P := Tryz.prog) w base 22 ty 28 i0 _ 2 48 pairs_ty hi hz0 hz1 hz2 rfl (by decide) v N us hown ⟨g, o, none⟩ xs.length c (vCells xs) (vCells_len xs) (fun j u hu => by
      have hadd : (⟨g, o, none⟩ : Addr).add j = ⟨g, o + j, none⟩ := by unfold Addr.add; split <;> simp_all
      rw [hadd]; exact hc j u hu) hone (by unfold maxLen; omega) (by omega) hb
    exact ⟨v', w', hr, h2, hgrow.os, hgrow.tape, hgrow.output, hgrow.size, fun k hk hm' => hgrow.block k hk (fun e => hm' (by rw [← e]; simp))⟩
section
variable {a : Act} {w : World} {o : Oper} {ops : Array Oper} {rest : List Oper} {Q : Exit → Act → World → Prop}
theorem st_appPr {base N c n : Nat} {v : Value} {us : List Value} {p : Option Addr} {xs : List VV} (hgd : o.guard = none) (s x : Operand)
    (ho : o.op = .call { callee := .builtin .append, args := #[s, x], argTypes := #[22, 22] }) (hs : a.eval s = v) (hxe : a.eval x = .slice p n c) (hn : n = xs.length)
    (hown : w.ownsRow base 28 2 v N us) (hb : base ≤ w.heap.size) (hx : CelX w p xs) (h1 : ∀ x ∈ xs, x.1.oneCell' = true ∧ x.2.oneCell' = true) (hN : N + n ≤ 100000000)
    (h : ∀ v' w', w'.ownsRow base 28 2 v' (N + n) (us ++ vCells xs) → Tch v.ownBlock.toList w w' → wpList Tryz.prog ops Q rest (a.put o.dst v') w') : wpList Tryz.prog ops Q (o :: rest) a w :=
  wpList_plain hgd fun K hK => by
    obtain ⟨v', w', hr, h2, h3⟩ := appP_run hn hown hb hx h1 hN (c := c) o.type
    unfold Oper.wp execOp
    simp only [ho, resolve, invoke, builtin, Sem.run_bind, Sem.run_pure, Result.andThen_ok, List.map_toArray, List.map_cons, List.map_nil, hs, hxe, hr]
    exact hK _ _ (h v' w' h2 h3)
theorem held_appP {l0 : List Oper} {m base N c n : Nat} {K : Act → World → Prop} {v : Value} {us : List Value} {p : Option Addr} {xs : List VV} (s x : Operand) (ho : l0[m]? = some o) (hw : Region.wanted o (yielded l0.toArray a.tmps) = true)
    (hop : o.op = .call { callee := .builtin .append, args := #[s, x], argTypes := #[22, 22] }) (hs : a.eval s = v) (hxe : a.eval x = .slice p n c) (hn : n = xs.length)
    (hown : w.ownsRow base 28 2 v N us) (hb : base ≤ w.heap.size) (hx : CelX w p xs) (h1 : ∀ x ∈ xs, x.1.oneCell' = true ∧ x.2.oneCell' = true) (hN : N + n ≤ 100000000)
    (h : ∀ v' w', w'.ownsRow base 28 2 v' (N + n) (us ++ vCells xs) → Tch v.ownBlock.toList w w' → K (a.put o.dst v') w') : wpOp Tryz.prog l0.toArray Q m K a w := by
  have ho' : l0.toArray[m]? = some o := by rw [List.getElem?_toArray]; exact ho
  obtain ⟨v', w', hr, h2, h3⟩ := appP_run hn hown hb hx h1 hN (c := c) o.type
  unfold wpOp
  simp only [ho', hw, if_true]
  refine .inl ?_
  unfold Oper.wp execOp
  simp only [hop, resolve, invoke, builtin, Sem.run_bind, Sem.run_pure, Result.andThen_ok, List.map_toArray, List.map_cons, List.map_nil, hs, hxe, hr]
  exact h v' w' h2 h3
theorem x_slP {p p' : Option Addr} {n c k m c' : Nat} {x y : Operand} (ho : o.op = .slice 22 x (some y) none none) (hx : a.eval x = .slice p n c) (hy : a.eval y = .int .i64 (k : Int)) (hr : (Instr.sliceAt 22 (.slice p n c) (some (.int .i64 (k : Int))) none none).run Tryz.prog w = .ok (.slice p' m c') w) : (execOp a.eval o).run Tryz.prog w = .ok (.value (.slice p' m c')) w := by
  unfold execOp
  simp only [ho, Option.map_some, Option.map_none, hx, hy, Sem.run_bind, hr, Result.andThen_ok, Sem.run_pure]
theorem x_slQ {p p' : Option Addr} {n c k m c' : Nat} {x y : Operand} (ho : o.op = .slice 22 x none (some y) none) (hx : a.eval x = .slice p n c) (hy : a.eval y = .int .i64 (k : Int)) (hr : (Instr.sliceAt 22 (.slice p n c) none (some (.int .i64 (k : Int))) none).run Tryz.prog w = .ok (.slice p' m c') w) : (execOp a.eval o).run Tryz.prog w = .ok (.value (.slice p' m c')) w := by
  unfold execOp
  simp only [ho, Option.map_some, Option.map_none, hx, hy, Sem.run_bind, hr, Result.andThen_ok, Sem.run_pure]
end
theorem sl_size1 : (Tryz.prog.info? 23).map (·.size) = some 1 := by kernel_rfl
theorem run_stP {w : World} {B g n c k : Nat} {xs : List VV} {y : Value} (h : w.ownsRow B 28 2 (.slice (some ⟨g, 0, none⟩) n c) n (vCells xs)) (hk : k < xs.length) (hy : y.oneCell' = true) (hcells : ∃ p m d, y = .slice p m d) :
    (Instr.storeAt 23 (.pointer (some ⟨g, k * 2 + 1, none⟩)) y).run Tryz.prog w = .ok () (w.setCell ⟨g, k * 2 + 1, none⟩ y) ∧ (w.setCell ⟨g, k * 2 + 1, none⟩ y).ownsRow B 28 2 (.slice (some ⟨g, 0, none⟩) n c) n (vCells (xs.set k (xs[k].1, y))) ∧ Only g w (w.setCell ⟨g, k * 2 + 1, none⟩ y) := by
  have hl := h.1
  rw [vCells_len] at hl
  obtain ⟨_, ⟨h1, _⟩ | ⟨g', cap, cur, he, hB, hb, hnc, hcm, hsz, htk⟩⟩ := h
  · cases h1
  injection he with e1 _ e3
  injection e1 with e1
  injection e1 with e1
  subst e1 e3
  have hBk : Blk w g 28 cur := hb
  have hj : k * 2 + 1 < cur.size := by omega
  have hc : w.cell? ⟨g, k * 2 + 1, none⟩ = some cur[k * 2 + 1] := hBk.cell (Array.getElem?_eq_getElem hj)
  refine ⟨?_, ⟨by rw [vCells_len, List.length_set]; omega, .inr ⟨g, c, cur.setIfInBounds (k * 2 + 1) y, rfl, hB, hBk.set (k * 2 + 1) _, hnc, hcm, by rw [Array.size_setIfInBounds]; exact hsz, ?_⟩⟩, Only.setCell w ⟨g, k * 2 + 1, none⟩ _⟩
  · obtain ⟨p, m, d, rfl⟩ := hcells
    cases hq : Tryz.prog.info? 23 with
    | none => have := sl_size1; simp [hq] at this
    | some i =>
      have hi : i.size = 1 := by have := sl_size1; simpa [hq] using this
      simp [Instr.storeAt, Instr.sureAddr, storeVar, sizeOf, typeInfo, hq, Value.cells, hi, storeCells, Addr.add, run_store Tryz.prog w ⟨g, k * 2 + 1, none⟩ (.slice p m d) .plain rfl, hc, hBk.free (k * 2 + 1)]
  · rw [Array.toList_setIfInBounds, List.take_set, htk, vCells_set xs k hk]
section
variable {a : Act} {w : World} {o : Oper} {ops : Array Oper} {rest : List Oper} {Q : Exit → Act → World → Prop}
theorem st_stP {B g n c k m d : Nat} {p : Option Addr} {xs : List VV} (hown : w.ownsRow B 28 2 (.slice (some ⟨g, 0, none⟩) n c) n (vCells xs)) (hk : k < xs.length) (hgd : o.guard = none) (xo yo : Operand) (ho : o.op = .store 23 xo yo) (hx : a.eval xo = .pointer (some ⟨g, k * 2 + 1, none⟩)) (hy : a.eval yo = .slice p m d)
    (h : ∀ w', Only g w w' → w'.ownsRow B 28 2 (.slice (some ⟨g, 0, none⟩) n c) n (vCells (xs.set k (xs[k].1, .slice p m d))) → wpList Tryz.prog ops Q rest (a.put o.dst undef) w') : wpList Tryz.prog ops Q (o :: rest) a w :=
  wpList_plain hgd fun K hK => by
    obtain ⟨hr, h1, h2⟩ := run_stP hown hk (y := .slice p m d) rfl ⟨_, _, _, rfl⟩
    unfold Oper.wp execOp
    simp only [ho, hx, hy, Sem.run_bind, hr, Result.andThen_ok, Sem.run_pure]
    exact hK _ _ (h _ h2 h1)
end
theorem pairs_ownP {Y : List Nat} {B : Nat} {wr : World} {v : Value} {n : Nat} {xs : List VV} {es : List En} (hn : n = es.length) (hown : wr.ownsRow B 28 2 v n (vCells xs)) (hr : RdEX Y wr xs es) : PairsAt wr v es := by
  have hl : xs.length = es.length := hr.1
  subst hn
  rcases hown.2 with ⟨rfl, h0⟩ | ⟨g, cap, cur, rfl, hg, hB, hcap, _, hcs, htk⟩
  · refine ⟨none, 0, by rw [h0], by omega, fun hne => absurd (List.eq_nil_of_length_eq_zero h0) hne⟩
  · refine ⟨_, cap, rfl, hcap, fun _ => ⟨g, 0, rfl, (Array.getElem?_eq_some_iff.1 hB).1, fun i hi => ?_⟩⟩
    have hB' : Blk wr g 28 cur := hB
    have hxi : i < xs.length := by omega
    obtain ⟨c0, c1⟩ := vCells_get xs i hxi
    have hb : i * 2 + 1 < es.length * 2 := by omega
    rw [← htk, List.getElem?_take_of_lt (by omega), Array.getElem?_toList] at c0 c1
    have h3 := hr.2 i hxi hi
    exact ⟨_, _, by rw [Nat.zero_add]; exact hB'.cell c0, by rw [Nat.zero_add]; exact hB'.cell c1, h3.1.rdB, h3.2.rdB⟩
end
end Go.Proofs.YtanmpcgackfpaaaGreat
