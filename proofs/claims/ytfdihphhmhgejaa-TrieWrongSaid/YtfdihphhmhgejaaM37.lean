/- The sort of nodes; CompactFunc where there is one. -/
import Derived.Test.YtfdihphhmhgejaaM35
import Derived.Test.YtfdihphhmhgejaaM36
import Derived.Shelf.SlSortCmp.WholeK
set_option linter.unusedVariables false
set_option linter.unusedSimpArgs false
namespace Go.Proofs.Ytfdihphhmhgejaa
open Go.RowKit Tr
open Go.Sort (grow alloc_eq_grow grow_grow putRow putCells HoldsK Holds flatK mapBlock SWO PermIn SortedIn size_flatK get_flatK)
open Go.Proofs (sortWorldK)
set_option linter.unusedVariables false
set_option maxRecDepth 100000

theorem fa_nd0 (b : Nat) (w : World) : (Instr.fieldAt 64 (.pointer (some ⟨b, 0, none⟩)) 0).run Try.prog w = .ok (.pointer (some ⟨b, 0, none⟩)) w := by kernel_rfl
theorem nd_rd {w : World} {b : Nat} {t : TypeId} {u : Value} (l : List Nat) (h : Blk w b t (ndA (hashN l) u)) : RdB w (.slice (some ⟨b, 0, none⟩) 32 32) (HL l) := by
  refine ⟨_, _, by rw [HL_len], by rw [HL_len]; exact Nat.le_refl _, fun x hx => ?_, fun _ => ⟨b, 0, rfl, h.lt, fun i hi => ?_⟩⟩
  · unfold HL at hx
    obtain ⟨i, _, rfl⟩ := List.mem_map.1 hx
    exact outN_lt _ i
  · rw [HL_len] at hi
    refine h.cell ?_
    unfold ndA
    rw [Array.getElem?_append_left (by rw [wf_size]; omega), Nat.zero_add, wf_get hi]
    simp [HL, List.getD_eq_getElem?_getD, hi]
/-- The sort's closure. -/
theorem sortN1_any (l1 l2 : List Nat) (u1 u2 : Value) (W : World) :
    Calls Try.prog 24 #[.agg (ndA (hashN l1) u1), .agg (ndA (hashN l2) u2)] W fun e w' => e = .returned (.int .i64 (cmpN (HL l1) (HL l2))) ∧ ∃ q os', w' = grow (W.drewN q) os' := by
  have kf := fa_nd0
  go_enter Try.func24, Try.ntmps24
  go_upto_region 1 with (fail)
  have hB1 : Blk (((W.alloc (.cells (ndA (hashN l1) u1) 64)).alloc (.cells (ndA (hashN l2) u2) 64)).drew) W.heap.size 64 (ndA (hashN l1) u1) := ((Blk.new W _ _).alloc _).drew
  have hB2 : Blk (((W.alloc (.cells (ndA (hashN l1) u1) 64)).alloc (.cells (ndA (hashN l2) u2) 64)).drew) (W.heap.size + 1) 64 (ndA (hashN l2) u2) := by
    have := (Blk.new (W.alloc (.cells (ndA (hashN l1) u1) 64)) 64 (ndA (hashN l2) u2)).drew
    rwa [show (W.alloc (.cells (ndA (hashN l1) u1) 64)).heap.size = W.heap.size + 1 from by simp] at this
  refine k_region (C := fun w' => w' = ((W.alloc (.cells (ndA (hashN l1) u1) 64)).alloc (.cells (ndA (hashN l2) u2) 64)).drew) (by kernel_rfl) (by kernel_rfl) rfl ?_
  refine k_fa rfl _ _ _ rfl rfl (fa_nd0 _) ?_; try simp only [Act.put, List.setIfInBounds_toArray, List.set_cons_zero, List.set_cons_succ]
  refine k_slw rfl _ rfl rfl ?_; try simp only [Act.put, List.setIfInBounds_toArray, List.set_cons_zero, List.set_cons_succ]
  refine k_fa rfl _ _ _ rfl rfl (fa_nd0 _) ?_; try simp only [Act.put, List.setIfInBounds_toArray, List.set_cons_zero, List.set_cons_succ]
  refine k_slw rfl _ rfl rfl ?_; try simp only [Act.put, List.setIfInBounds_toArray, List.set_cons_zero, List.set_cons_succ]
  refine k_callC2 (v := .int .i64 (cmpN (HL l1) (HL l2))) rfl rfl rfl rfl Try.call25 (fun w' h => (compare_any _ _ _ _ w' (by rw [h]; exact nd_rd l1 hB1) (by rw [h]; exact nd_rd l2 hB2)).mono fun e w'' h2 => ⟨h2.1, by rw [h2.2, h]⟩) ?_; try simp only [Act.put, List.setIfInBounds_toArray, List.set_cons_zero, List.set_cons_succ]
  refine k_inta rfl _ rfl rfl ?_; try simp only [Act.put, List.setIfInBounds_toArray, List.set_cons_zero, List.set_cons_succ]
  refine k_end ?_; try simp only [Act.put, List.setIfInBounds_toArray, List.set_cons_zero, List.set_cons_succ]
  rintro w' rfl
  go_wp2
  go_ret
  exact ⟨rfl, 1, _, by rw [alloc_eq_grow, alloc_eq_grow, grow_grow]; rfl⟩
theorem kCells_len : ∀ L : KList, (kCells L).length = L.length * 33
  | [] => rfl
  | p :: L => by
    have ih := kCells_len L
    unfold kCells at ih ⊢
    rw [List.flatMap_cons, List.length_append, ih, Array.length_toList, ndA_size, List.length_cons]
    omega
theorem kCells_get : ∀ (L : KList) (i j : Nat) (h : i < L.length), j < 33 → (kCells L)[i * 33 + j]? = (ndA (hashN L[i].1) L[i].2)[j]?
  | p :: L, 0, j, _, hj => by
    unfold kCells
    rw [List.flatMap_cons, Nat.zero_mul, Nat.zero_add, List.getElem?_append_left (by rw [Array.length_toList, ndA_size]; exact hj), Array.getElem?_toList]
    rfl
  | p :: L, i + 1, j, h, hj => by
    have ih := kCells_get L i j (by simpa using h) hj
    have hl : ((ndA (hashN p.1) p.2).toList).length = 33 := by rw [Array.length_toList, ndA_size]
    unfold kCells at ih ⊢
    rw [List.flatMap_cons, List.getElem?_append_right (by rw [hl]; omega), hl, show (i + 1) * 33 + j - 33 = i * 33 + j by omega, ih]
    rfl
/-- A node as the sort moves it. -/
def NdS : Type := { x : List Nat × Value // x.2.oneCell' = true }
instance : Inhabited NdS := ⟨⟨([], .slice none 0 0), rfl⟩⟩
def encN (x : NdS) : List Value := (ndA (hashN x.1.1) x.1.2).toList
def cfN (x y : NdS) : Int := cmpN (HL x.1.1) (HL y.1.1)
def rawN (x : NdS) : List Nat × Value := x.1
theorem rawN_all : ∀ L : KList, (∀ p ∈ L, p.2.oneCell' = true) → ∃ l : List NdS, l.map rawN = L
  | [], _ => ⟨[], rfl⟩
  | x :: xs, h => by
    obtain ⟨l, hl⟩ := rawN_all xs fun y hy => h y (List.mem_cons_of_mem _ hy)
    exact ⟨(⟨x, h x List.mem_cons_self⟩ : NdS) :: l, congrArg (x :: ·) hl⟩
theorem flatN (d : Array NdS) : flatK encN 33 d = (kCells (d.toList.map rawN)).toArray := by
  apply Array.ext
  · rw [size_flatK]
    show d.size * 33 = (kCells (d.toList.map rawN)).length
    rw [kCells_len, List.length_map, Array.length_toList]
  · intro i h1 h2
    have hi : i < d.size * 33 := by simpa using h1
    have hg := get_flatK encN 33 d i hi
    rw [getElem!_pos _ i h1] at hg
    have hq : i / 33 < d.size := by omega
    have hr : i % 33 < 33 := Nat.mod_lt _ (by decide)
    have hf := kCells_get (d.toList.map rawN) (i / 33) (i % 33) (by simpa using hq) hr
    rw [show i / 33 * 33 + i % 33 = i by omega] at hf
    have hx : (d.toList.map rawN)[i / 33]'(by simpa using hq) = rawN (d[i / 33]'hq) := by simp
    rw [hx] at hf
    rw [hg, getElem!_pos d (i / 33) hq]
    have h3 : (kCells (d.toList.map rawN))[i]? = some ((kCells (d.toList.map rawN)).toArray[i]'h2) := by
      rw [List.getElem_toArray, List.getElem?_eq_getElem]
    rw [h3] at hf
    unfold encN
    have hs : i % 33 < (ndA (hashN (d[i / 33]'hq).1.1) (d[i / 33]'hq).1.2).size := by rw [ndA_size]; exact hr
    rw [getElem!_pos _ _ (by rw [Array.length_toList]; exact hs), Array.getElem_toList]
    rw [show (ndA (hashN (rawN (d[i / 33]'hq)).1) (rawN (d[i / 33]'hq)).2) = ndA (hashN (d[i / 33]'hq).1.1) (d[i / 33]'hq).1.2 from rfl, Array.getElem?_eq_getElem hs] at hf
    exact (Option.some.inj hf).symm
theorem ltN (x y : NdS) : Go.Proofs.ltOf cfN x y = decide (lt (HL x.1.1) (HL y.1.1)) := by
  unfold Go.Proofs.ltOf cfN
  by_cases h : lt (HL x.1.1) (HL y.1.1)
  · rw [decide_eq_true h, decide_eq_true (cmp_neg.2 h)]
  · rw [decide_eq_false h, decide_eq_false (fun q => h (cmp_neg.1 q))]
theorem swoN : SWO (Go.Proofs.ltOf cfN) where
  irrefl x := by rw [ltN]; exact decide_eq_false (lt_irrefl _)
  trans x y z h1 h2 := by
    rw [ltN] at *
    exact decide_eq_true (lt_trans (of_decide_eq_true h1) (of_decide_eq_true h2))
  ntrans x y z h1 h2 := by
    rw [ltN] at *
    exact decide_eq_false (not_lt_trans (of_decide_eq_false h1) (of_decide_eq_false h2))
theorem cmpLaysN (w : World) (b off size : Nat) : Go.Proofs.CmpLays Try.prog 24 #[] encN 33 cfN b off size w := by
  intro m os dk _ x y
  exact sortN1_any x.1.1 y.1.1 x.1.2 y.1.2 _
theorem nd_agg (w : World) : (isAgg 64).run Try.prog w = .ok true w := by kernel_rfl
theorem nd_sizeOf (w : World) : (Go.sizeOf 64).run Try.prog w = .ok 33 w := by kernel_rfl
theorem sortWx_blk {α : Type} [Inhabited α] (enc : α → List Value) (k : Nat) {w : World} {b m : Nat} {t : TypeId} {c : Array Value} {d : Array α} {os : Array Obj} (hB : Blk w b t c) (hs : d.size * k ≤ c.size) :
    Blk (sortWorldK enc k w b 0 m d os) b t ((flatK enc k d).toList ++ c.toList.drop (d.size * k)).toArray := by
  have hsz : (mapBlock (Go.Sort.ahead w m) b (putCells id 0 (flatK enc k d))).heap.size = w.heap.size := by unfold mapBlock; simp [Go.Sort.ahead]
  have hfl : (flatK enc k d).toList.length = d.size * k := by rw [Array.length_toList, size_flatK]
  have hcells : putCells id 0 (flatK enc k d) c = ((flatK enc k d).toList ++ c.toList.drop (d.size * k)).toArray := by
    apply Array.ext
    · simp only [putCells, Array.size_mapIdx, List.size_toArray, List.length_append, hfl, List.length_drop, Array.length_toList]
      omega
    · intro i h1 h2
      have hi : i < c.size := by simpa [putCells] using h1
      simp only [putCells, Array.getElem_mapIdx, id, Nat.sub_zero, Nat.zero_le, true_and, Nat.zero_add, size_flatK, List.getElem_toArray]
      by_cases hk : i < d.size * k
      · rw [if_pos hk, List.getElem_append_left (by rw [hfl]; exact hk), getElem!_pos _ i (by rw [size_flatK]; exact hk), Array.getElem_toList]
      · rw [if_neg hk, List.getElem_append_right (by rw [hfl]; omega), List.getElem_drop, Array.getElem_toList]
        congr 1
        rw [hfl]; omega
  unfold Blk
  show ((mapBlock (Go.Sort.ahead w m) b (putCells id 0 (flatK enc k d))).heap ++ os)[b]? = _
  rw [Array.getElem?_append_left (by rw [hsz]; exact hB.lt)]
  unfold mapBlock
  unfold Blk at hB
  simp only [Go.Sort.ahead, Array.getElem?_modify, if_true]
  rw [hB]
  simp [hcells, Go.Sort.onCells]
/-- The sort of what was kept. -/
theorem sortN_any (bf m : Nat) (L : KList) (v : Value) (w : World) (hK : KN bf m L v w) (hne : L ≠ []) (hn : L.length ≤ 100000000) :
    Calls Try.prog 23 #[v, .func (.func 24) #[] #[]] w fun e w' => e = .returned (.tuple #[]) ∧ Tch v.ownBlock.toList w w' ∧ ∃ L' : KList, L'.Perm L ∧ L'.Pairwise (fun x y => ¬ lt (HL y.1) (HL x.1)) ∧ KN bf m L' v w' := by
  have eg : ∀ args w, (callFunc 24 args).run Try.prog w = .ok (.enter 24 args) w := enters_of Try.func24 (by kernel_rfl) rfl
  have hKK := hK
  obtain ⟨h1, h2, h3, h4⟩ := hK
  obtain ⟨hlen, hrow⟩ := h3
  obtain ⟨g, cap, cur, rfl, hmg, hB0, hcap, hcm, hcs, htk⟩ := hrow.resolve_left (fun h => hne (List.eq_nil_of_length_eq_zero h.2))
  have hB : Blk w g 64 cur := hB0
  obtain ⟨l, hl⟩ := rawN_all L (fun p hp => rdA_one (h4 p hp))
  obtain ⟨d, hd⟩ : ∃ d : Array NdS, d.toList.map rawN = L := ⟨l.toArray, hl⟩
  have hds : d.size = L.length := by rw [← hd, List.length_map, Array.length_toList]
  have hfl : flatK encN 33 d = (kCells L).toArray := by rw [flatN, hd]
  have hcon := AnyQ.slices_SortFunc Try.sortNd 33 nd_agg nd_sizeOf encN (fun x => by unfold encN; rw [Array.length_toList, ndA_size]) (fun x v hv => by
    unfold encN at hv
    exact (Array.all_eq_true_iff_forall_mem.1 (ndA_one _ x.2)) v (by simpa using hv)) cfN swoN 24 #[] g 0 cap d w eg (cmpLaysN w g 0 d.size) (fun j hj => by
      have hj' : j < d.size * 33 := by simpa using hj
      refine ⟨?_, hB.free _⟩
      rw [Nat.zero_add]
      have e1 : cur[j]? = (kCells L)[j]? := by
        rw [← htk, List.getElem?_take_of_lt (by rw [← hds]; exact hj'), Array.getElem?_toList]
      have e2 : j < (kCells L).length := by rw [kCells_len, ← hds]; exact hj'
      rw [hfl, hB.cell (v := (kCells L)[j]) (by rw [e1, List.getElem?_eq_getElem e2])]
      rw [getElem!_pos _ j (by simpa using e2)]
      simp) hB.lt (by omega)
  change Calls Try.prog 23 _ _ _ at hcon
  rw [hds] at hcon
  refine hcon.mono fun e w' h => ?_
  obtain ⟨he, d', n, os, hp, hso, rfl⟩ := h
  have hT := sortW_tch encN 33 w g 0 n d' os
  have hd's : d'.size = L.length := by rw [hp.1, hds]
  have hperm : d'.toList.Perm d.toList := by
    have := hp.2.2
    rw [← hds] at this
    rwa [show d'.extract 0 d.size = d' from by rw [← hp.1]; simp, show d.extract 0 d.size = d from by simp] at this
  have hP : (d'.toList.map rawN).Perm L := by rw [← hd]; exact hperm.map _
  have hB' := sortWx_blk encN 33 (m := n) (d := d') (os := os) hB (by rw [hd's, hcs]; exact Nat.mul_le_mul_right _ hcap)
  have hgb : bf ∉ [g] := fun hm => hKK.ne (by rw [List.mem_singleton.1 hm]; rfl)
  refine ⟨he, hT, d'.toList.map rawN, hP, ?_, h1, hT.blk h2 hgb, ?_, fun p hp => (h4 p (hP.mem_iff.1 hp)).tch (hT.mono (fun x hx => .inl (by rw [List.mem_singleton.1 hx]; exact List.mem_cons_of_mem _ (by simp [Value.ownBlock]))))⟩
  · rw [List.pairwise_iff_getElem]
    intro i j hi hj hij
    have hi' : i < d'.size := by simpa using hi
    have hj' : j < d'.size := by simpa using hj
    have := hso i j (Nat.zero_le _) hij (by omega)
    rw [ltN, getElem!_pos d' i hi', getElem!_pos d' j hj'] at this
    have := of_decide_eq_false this
    simp only [List.getElem_map, Array.getElem_toList]
    exact this
  · have hll : (d'.toList.map rawN).length = L.length := by rw [List.length_map, Array.length_toList, hd's]
    refine ⟨by rw [kCells_len], .inr ⟨g, cap, _, by rw [hll], hmg, hB', by rw [hll]; exact hcap, hcm, ?_, ?_⟩⟩
    · rw [flatN]
      simp only [List.size_toArray, List.length_append, kCells_len, hll, List.length_drop, Array.length_toList, hcs, hd's]
      have := Nat.mul_le_mul_right 33 hcap
      omega
    · rw [flatN, hll]
      show List.take _ ((kCells _) ++ _) = _
      rw [List.take_left' (by rw [kCells_len, hll])]
end Go.Proofs.Ytfdihphhmhgejaa

/- Nodes of one pair. -/
namespace Go.Proofs.Ytfdihphhmhgejaa
open Go.RowKit Tr
set_option linter.unusedVariables false
set_option maxRecDepth 100000

theorem encode_leafN (b : Nat) (pv uv : Value) (p : List Nat) (u : List Nat) (fv : Value) (w : World) (hB : Blk w b 100 #[pv, uv]) (hp : RdB w pv p) (hu : RdB w uv u) (hl : p.length ≤ 128) (hx : ∀ x ∈ p, x < 16) (hul : u.length ≤ 900000)
    (he : (enc (.lst [.str (pkT p true), .str u])).length ≤ 901000) (hd : dep (.lst [.str (pkT p true), .str u]) ≤ 32) :
    Calls Try.prog 20 #[.iface 99 (.pointer (some ⟨b, 0, none⟩)), fv] w fun e w' => Tch [] w w' ∧ ∃ b', w.heap.size ≤ b' ∧ e = .returned (.slice (some ⟨b', 0, none⟩) (enc (.lst [.str (pkT p true), .str u])).length (enc (.lst [.str (pkT p true), .str u])).length) ∧ RdB w' (.slice (some ⟨b', 0, none⟩) (enc (.lst [.str (pkT p true), .str u])).length (enc (.lst [.str (pkT p true), .str u])).length) (enc (.lst [.str (pkT p true), .str u])) := by
  have HIT := Lib.hid (fun (w1 : World) (hT : Tch [] w w1) => item_leafN [] b pv uv p u fv w1 (hT.blk hB (by simp)) (hp.tch hT (by simp)) (hu.tch hT (by simp)).rdA0 (by simp) hl hx hul)
  obtain ⟨it, hit⟩ : ∃ it, it = It.lst [.str (pkT p true), .str u] := ⟨_, rfl⟩
  rw [← hit] at HIT he hd ⊢
  have HPK := Lib.hid (fun (w1 : World) (x0 vb vl : Value) (hI : ItC [] w1 (dep it + 1) x0 vb vl it) => (tpack_any (dep it + 1) x0 vb vl it w1 hI ⟨hd, by omega⟩).mono fun e w' h => h.rd (enc_b hI he))
  clear hB hp hu hl hx hul he hd hit
  generalize enc it = L at *
  go_enter Try.func20, Try.ntmps20
  go_wp2_with (first
    | (go_at_call 37; refine (HIT.out _ (Tch.refl _ _)).mono ?_; rintro e w1 ⟨hT1, t, p, n, c, q, m, d, rfl, hI⟩)
    | (go_at_call 36; refine (HPK.out _ _ _ _ hI).mono ?_; rintro e w2 ⟨hT, b, hb, rfl, hB⟩))
  go_ret
  exact ⟨hT1.trans hT, b, Nat.le_trans hT1.size hb, rfl, hB⟩
/-- CompactFunc of one. -/
theorem compact_one (p : Option Addr) (c : Nat) (fv : Value) (w : World) : Calls Try.prog 26 #[.slice p 1 c, fv] w fun e w' => e = .returned (.slice p 1 c) ∧ w' = w := by
  go_enter Try.func26, Try.ntmps26
  go_wp2
  go_ret
  exact ⟨rfl, rfl⟩
theorem nodes_zero : (Try.prog.info? 44).bind (·.zero) = some (.slice none 0 0) := by kernel_rfl
section
variable {ops : Array Oper} {rest : List Oper} {o : Oper} {a : Act} {bs : List Nat} {w0 w : World} {Q : Exit → Act → World → Prop} {L : List Ent}
/-- A variable of a slice is made. -/
theorem st_newV {p : Option Addr} {n c : Nat} (hS : St bs w0 w L) (hgd : o.guard = none) (ty : TypeId) (ho : o.op = .alloc ty) (hz : (Try.prog.info? ty).bind (·.zero) = some (.slice p n c))
    (h : ∀ w' b, St bs w0 w' ((b, ty, #[.slice p n c]) :: L) → Tch [] w w' → w.heap.size ≤ b → wpList Try.prog ops Q rest (a.put o.dst (.pointer (some ⟨b, 0, none⟩))) w') : wpList Try.prog ops Q (o :: rest) a w :=
  wpList_plain hgd fun K hK => by
    have hr : (Instr.alloc ty true (.tuple #[])).run Try.prog w = .ok (.pointer (some ⟨w.heap.size, 0, none⟩)) (w.alloc (.cells #[.slice p n c] ty)) := by
      cases hq : Try.prog.info? ty with
      | none => simp [hq] at hz
      | some i =>
        have hz' : i.zero = some (.slice p n c) := by simpa [hq] using hz
        simp [Instr.alloc, zeroValue, typeInfo, hq, hz', newVar, newRow, Value.cells]
    unfold Oper.wp execOp
    simp only [ho, Sem.run_bind, hr, Result.andThen_ok, Sem.run_pure]
    exact hK _ _ (h _ _ (hS.new ty _) ((Tch.refl _ _).alloc _) (Nat.le_refl _))
end
theorem rdB_at {X : List Nat} {w : World} {b n c : Nat} {l : List Nat} (h : RdB w (.slice (some ⟨b, 0, none⟩) n c) l) (hb : b ∉ X) : RdA X w (.slice (some ⟨b, 0, none⟩) n c) l := by
  obtain ⟨p, c', h1, h2, h3, h4⟩ := h
  refine ⟨p, c', h1, h2, h3, fun hl => ?_⟩
  obtain ⟨b', o, h5, h6, h7⟩ := h4 hl
  refine ⟨b', o, h5, h6, ?_, h7⟩
  rw [h5] at h1
  injection h1 with h1
  injection h1 with h1
  injection h1 with h1
  rw [← h1]; exact hb
theorem one_off {bf b' s : Nat} (hb : s ≤ b') (hf : bf < s) : b' ∉ zsOf bf (.slice none 0 0) := fun hm => by
  have : b' = bf := by simpa [zsOf, Value.ownBlock] using hm
  omega
/-- The one pair's bytes. -/
def oneB (K V : List Nat) : List Nat := enc (.lst [.str (pkT (nibT K) true), .str V])
theorem one_cells {cur : Array Value} {p : List Nat × Value} (htk : cur.toList.take (([p] : KList).length * 33) = kCells [p]) (j : Nat) (hj : j < 33) : cur[j]? = (ndA (hashN p.1) p.2)[j]? := by
  have h1 : (cur.toList.take (([p] : KList).length * 33))[j]? = (kCells [p])[j]? := by rw [htk]
  rw [List.getElem?_take_of_lt (by simpa using hj), Array.getElem?_toList] at h1
  rw [h1]
  have h2 := kCells_get [p] 0 j (by simp) hj
  rw [Nat.zero_mul, Nat.zero_add] at h2
  exact h2
/-- What Nodes answers of one pair. -/
def OnePost (E : List Nat) (w : World) (e : Ending) (w' : World) : Prop :=
  Tch [] w w' ∧ ∃ g cap bv cur, e = .returned (.tuple #[.slice (some ⟨g, 0, none⟩) 1 cap, .int .i64 0]) ∧ Blk w' g 64 cur ∧ (∀ j, j < 33 → cur[j]? = (ndA (hashN E) bv)[j]?) ∧ RdB w' bv E
theorem tree_one {K V : List Nat} {w : World} {u : Value} (h : TreeOf [(K, V)] w u) : ∃ b pv uv, u = .iface 99 (.pointer (some ⟨b, 0, none⟩)) ∧ Blk w b 100 #[pv, uv] ∧ RdB w pv (nibT K) ∧ RdB w uv V ∧ WT (.leaf (nibT K) V) := by
  obtain ⟨B, T, m, hT, hW, rfl, _, hp, _⟩ := h
  have hm : m = [(nibT K, V)] := by
    have := hp.symm
    exact List.perm_singleton.1 this
  subst hm
  have e : buildT 200 [(nibT K, V)] = .leaf (nibT K) V := rfl
  rw [e] at hT hW
  obtain ⟨b, pv, uv, rfl, _, hB, hp, hu⟩ := hT
  exact ⟨b, pv, uv, rfl, hB, hp, hu, hW⟩
set_option maxHeartbeats 2000000 in
theorem Nodes_one (v : Value) (K V : List Nat) (w : World) (hv : PairsAt w v [(K, V)]) (hm : mayE [(K, V)] = 0) (hV : V.length ≤ 900000) :
    Calls Try.prog 13 #[v] w (OnePost (oneB K V) w) := by
  have HG := Lib.hid (show Calls Try.prog 17 #[v] w fun e w' => Tch [] w w' ∧ ∃ b pv uv, e = .returned (.tuple #[.iface 99 (.pointer (some ⟨b, 0, none⟩)), .int .i64 0]) ∧ Blk w' b 100 #[pv, uv] ∧ RdB w' pv (nibT K) ∧ RdB w' uv V ∧ WT (.leaf (nibT K) V) ∧ (oneB K V).length ≤ 901000 from
    (tgrow_tree v [(K, V)] w hv (by simp) (fun _ p hp => by simp only [List.mem_singleton] at hp; subst hp; exact hV)).mono fun e w' h => by
      obtain ⟨h1, u, h2, h3, _⟩ := h
      obtain ⟨b, pv, uv, rfl, g1, g2, g3, g4⟩ := tree_one (h3 hm)
      rw [hm] at h2
      exact ⟨h1, b, pv, uv, h2, g1, g2, g3, g4, item_enc (T := .leaf (nibT K) V) HL_len g4⟩)
  have HE := Lib.hid (fun (fv : Value) (b : Nat) (pv uv : Value) (w1 : World) (hB : Blk w1 b 100 #[pv, uv]) (hp : RdB w1 pv (nibT K)) (hu : RdB w1 uv V) (hW : WT (.leaf (nibT K) V)) => show Calls Try.prog 20 #[.iface 99 (.pointer (some ⟨b, 0, none⟩)), fv] w1 fun e w' => Tch [] w1 w' ∧ ∃ b', w1.heap.size ≤ b' ∧ e = .returned (.slice (some ⟨b', 0, none⟩) (oneB K V).length (oneB K V).length) ∧ RdB w' (.slice (some ⟨b', 0, none⟩) (oneB K V).length (oneB K V).length) (oneB K V) from
    encode_leafN b pv uv (nibT K) V fv w1 hB hp hu hW.1 hW.2.1 hW.2.2 (item_enc (T := .leaf (nibT K) V) HL_len hW) (item_dep (H := HL) (.leaf (nibT K) V)))
  clear hv hm hV
  generalize oneB K V = E at *
  have hmf : ∀ (fn : Fn) (first cap : Array Value) (w : World), (Instr.makeFunc fn first cap).run Try.prog w = .ok (.func fn first cap) w := fun _ _ _ _ => rfl
  have k0 := eql_node
  have hS := St.start w
  go_enter Try.func13, Try.ntmps13
  go_upto_region 6 with (first
    | (go_at_call 17; refine HG.out.mono ?_; rintro e w1 ⟨hT1, b, pv, uv, rfl, hB, hp, hu, hW, hE⟩; have HF := Lib.hid (And.intro hB (And.intro hp (And.intro hu (And.intro hW hE)))); clear hB hp hu hW hE; replace hS := hS.call hT1; clear hT1)
    | (refine st_newV hS rfl 44 rfl nodes_zero ?_; clear hS; intro w2 bf hS hT2 hbf))
  have hK2 : KN bf w.heap.size [] (.slice none 0 0) w2 := ⟨(hS.own .head).resolve_right (by simp), hS.get .head, ⟨rfl, .inl ⟨rfl, rfl⟩⟩, by simp⟩
  have hB2 := hT2.blk HF.out.1 (by simp)
  have HE2 := Lib.hid (HE.out (.func (.func 22) #[] #[.pointer (some ⟨bf, 0, none⟩)]) b pv uv w2 hB2 (HF.out.2.1.tch hT2 (by simp)) (HF.out.2.2.1.tch hT2 (by simp)) HF.out.2.2.2.1)
  have HK2 := Lib.hid (And.intro hK2 hS.frame)
  clear hK2 hB2 hS
  go_upto_region 7 with (first
    | (go_at_call 20; refine HE2.out.mono ?_; rintro e w3 ⟨hT3, b', hb', rfl, hr⟩; have HR := Lib.hid (And.intro hT3 (And.intro hb' hr)); clear hT3 hb' hr)
    | (go_at_call 22; refine (keep_any bf _ [] (.slice none 0 0) _ E w3 (HK2.out.1.call HR.out.1) (rdB_at HR.out.2.2 (one_off HR.out.2.1 HK2.out.1.2.1.lt)) (by have := HF.out.2.2.2.2; omega) (by decide)).mono ?_; rintro e w4 ⟨rfl, v', hK4, hs⟩))
  have hT4 : Tch [] w w4 := (HK2.out.2.trans HR.out.1).fresh hs.1 (fun x hx => by
    have : x = bf := by simpa [zsOf, Value.ownBlock] using hx
    rw [this]; exact HK2.out.1.1)
  rw [List.nil_append] at hK4
  have hlt4 := hK4.2.2.1.lt
  obtain ⟨g, cap, cur0, rfl, hg0, _⟩ := hK4.2.2.1.2.resolve_left (fun h => by cases h.2)
  have HK4 := Lib.hid hK4
  have HT4 := Lib.hid hT4
  have HR4 := Lib.hid (And.intro HR.out hlt4)
  have hS : St [] w w4 [(bf, 44, #[.slice (some ⟨g, 0, none⟩) 1 cap])] := ⟨hT4, fun e he => by rcases List.mem_singleton.1 he with rfl; exact ⟨hK4.2.1, .inl hK4.1⟩, List.pairwise_singleton _ _⟩
  clear hK4 hs hT4 hlt4 hg0 HR
  go_upto_region 8 with (first
    | (refine st_cell hS rfl 44 _ rfl rfl .head rfl nodes_agg ?_)
    | (go_at_call 23; refine (sortN_any bf _ _ _ _ HK4.out (List.cons_ne_nil _ _) (show 1 ≤ 100000000 by decide)).mono ?_; rintro e w5 ⟨rfl, hT5, L', hp, _, hK5⟩; have HK5 := Lib.hid (And.intro hK5 (And.intro hp hT5)); clear hK5 hp hT5))
  have hL' := List.perm_singleton.1 HK5.out.2.1
  have hT5 : Tch [] w w5 := HT4.out.fresh HK5.out.2.2 (fun x hx => (HR4.out.2 x (by simpa using hx)).1)
  have hS2 : St [] w w5 [(bf, 44, #[.slice (some ⟨g, 0, none⟩) 1 cap])] := ⟨hT5, fun e he => by rcases List.mem_singleton.1 he with rfl; exact ⟨HK5.out.1.2.1, .inl HK5.out.1.1⟩, List.pairwise_singleton _ _⟩
  clear hS
  have hS := hS2
  clear hS2
  go_wp2_with (first
    | (refine st_cell hS rfl 44 _ rfl rfl .head rfl nodes_agg ?_)
    | (go_at_call 26; refine (compact_one _ _ _ _).mono ?_; rintro e w6 ⟨rfl, rfl⟩))
  go_ret2
  have hK6 := HK5.out.1
  rw [hL'] at hK6
  obtain ⟨g', cap', cur, hv, _, hg, _, _, _, htk⟩ := hK6.2.2.1.2.resolve_left (fun h => by cases h.2)
  cases hv
  refine ⟨hT5, _, _, _, cur, rfl, hg, fun j hj => ?_, (hK6.2.2.2 _ List.mem_cons_self).rdB⟩
  exact one_cells htk j hj
end Go.Proofs.Ytfdihphhmhgejaa

/- reference, with the closure that keeps. -/
namespace Go.Proofs.Ytfdihphhmhgejaa
open Go.RowKit Tr
set_option linter.unusedVariables false
set_option maxRecDepth 100000

/-- Blocks of the caller's own, off what the closure turns. -/
def OffN (X : List Nat) (m bf : Nat) (v : Value) (w : World) : Prop := ∀ x ∈ X, m ≤ x ∧ x < w.heap.size ∧ x ∉ zsOf bf v
theorem OffN.step {X : List Nat} {m bf : Nat} {v v' : Value} {w w' : World} (h : OffN X m bf v w) (hK : KStep bf v v' w w') : OffN X m bf v' w' := fun x hx => by
  obtain ⟨h1, h2, h3⟩ := h x hx
  exact ⟨h1, Nat.lt_of_lt_of_le h2 hK.1.size, fun hm => (hK.2 x hm).elim h3 (fun h => by omega)⟩
theorem OffN.cons {X : List Nat} {m bf b : Nat} {L : KList} {v : Value} {w w1 : World} (h : OffN X m bf v w) (hK : KN bf m L v w) (hT : Tch [] w w1) (hb : w.heap.size ≤ b) (hb1 : b < w1.heap.size) : OffN (b :: X) m bf v w1 := fun x hx => by
  rcases List.mem_cons.1 hx with rfl | hx
  · refine ⟨Nat.le_trans (Nat.le_trans hK.1 (Nat.le_of_lt hK.2.1.lt)) hb, hb1, fun hm => ?_⟩
    have := (hK.lt _ hm).2
    omega
  · exact (h.step (KStep.refl bf v hT)) x hx
theorem KStep.only {bf b : Nat} {v v' : Value} {w w1 w2 : World} (h : KStep bf v v' w w1) (hO : Only b w1 w2) (hb : w.heap.size ≤ b) : KStep bf v v' w w2 := ⟨h.1.only hO (.inl hb), h.2⟩
theorem RdA.offB {X : List Nat} {w : World} {v : Value} {l : List Nat} {b : Nat} {t : TypeId} {c : Array Value} (h : RdA X w v l) (hB : Blk w b t c) (hc : NoB c) : RdA (b :: X) w v l := by
  obtain ⟨p, c', h1, h2, h3, h4⟩ := h
  refine ⟨p, c', h1, h2, h3, fun hl => ?_⟩
  obtain ⟨b', o, h5, h6, h7, h8⟩ := h4 hl
  refine ⟨b', o, h5, h6, fun hm => ?_, h8⟩
  rcases List.mem_cons.1 hm with rfl | hm
  · have h9 := h8 0 (List.length_pos_iff.2 hl)
    unfold Blk at hB
    rw [Lib.cell_of_heap hB] at h9
    exact hc _ _ h9
  · exact h7 hm
/-- A cell of the caller's own is stored, which holds no byte. -/
theorem KN.store {bf m b : Nat} {L : KList} {v : Value} {w w' : World} {t : TypeId} {c : Array Value} (h : KN bf m L v w) (hB : Blk w b t c) (hc : NoB c) (hO : Only b w w') (hb : b ∉ zsOf bf v) : KN bf m L v w' := by
  have hT : Tch [b] w w' := hO.tch
  refine ⟨h.1, hT.blk h.2.1 (fun hm => hb (by rw [← List.mem_singleton.1 hm]; exact List.mem_cons_self)), own_eq h.2.2.1 (fun g hg => hT.block g (h.2.2.1.lt g hg).2 (fun hm => hb (by rw [← List.mem_singleton.1 hm]; exact List.mem_cons_of_mem _ (by simp [hg])))), fun p hp => ?_⟩
  exact (((h.2.2.2 p hp).offB hB hc).tch (hT.mono (fun x hx => .inl (by rw [List.mem_singleton.1 hx]; exact List.mem_cons_self)))).mono (fun y hy => .inl (List.mem_cons_of_mem _ hy))
/-- What a call leaves that hands an item back, and keeps these bytes on its way. -/
def ItemPostN (X : List Nat) (it : It) (es : List (List Nat)) (m bf : Nat) (L : KList) (v : Value) (w : World) (e : Ending) (w' : World) : Prop :=
  ∃ (Ls : KList) (v' : Value), KStep bf v v' w w' ∧ KN bf m (L ++ Ls) v' w' ∧ Ls.map (·.1) = es ∧ ∃ (t : Bool) (p : Option Addr) (n c : Nat) (q : Option Addr) (k d : Nat), e = .returned (.agg #[.bool t, .slice p n c, .slice q k d]) ∧ ItC (zsOf bf v' ++ X) w' (dep it + 1) (.bool t) (.slice p n c) (.slice q k d) it
def ItemOKN (m bf : Nat) (wm : World) (tv : Value) (it : It) (es : List (List Nat)) : Prop := ∀ (X : List Nat) (w : World) (L : KList) (v : Value), Tch [] wm w → KN bf m L v w → OffN X m bf v w → L.length + es.length ≤ 50000000 → Calls Try.prog 37 #[tv, (.func (.func 22) #[] #[.pointer (some ⟨bf, 0, none⟩)])] w (ItemPostN X it es m bf L v w)
def RefOKN (m bf : Nat) (wm : World) (tv : Value) (it : It) (es : List (List Nat)) : Prop := ∀ (X : List Nat) (w : World) (L : KList) (v : Value), Tch [] wm w → KN bf m L v w → OffN X m bf v w → L.length + es.length ≤ 50000000 → Calls Try.prog 59 #[tv, (.func (.func 22) #[] #[.pointer (some ⟨bf, 0, none⟩)])] w (ItemPostN X it es m bf L v w)
/-- What reference hashes of a node. -/
def selfE (it : It) : List (List Nat) := if (enc it).length < 32 then [] else [enc it]
theorem St.keep {bs : List Nat} {bf : Nat} {v v' : Value} {w0 w w' : World} {L : List Ent} (h : St bs w0 w L) (hK : KStep bf v v' w w') (hx : ∀ x ∈ zsOf bf v, x ∈ bs ∨ w0.heap.size ≤ x) (hL : ∀ e ∈ L, e.1 ∉ zsOf bf v) : St bs w0 w' L := h.callX hK.1 hx hL
theorem ref_got {bf m b1 : Nat} {L Ls : KList} {v v1 : Value} {w w1 w2 : World} {es : List (List Nat)} {X : List Nat} {k : Nat} {x0 vb vl : Value} {it : It} (hKS : KStep bf v v1 w1 w2) (hKN : KN bf m (L ++ Ls) v1 w2) (hes : Ls.map (·.1) = es) (hI : ItC (zsOf bf v1 ++ b1 :: X) w2 k x0 vb vl it) (hZ : ∀ x ∈ zsOf bf v, m ≤ x ∧ x < w.heap.size) (hT1 : Tch [] w w1) (hb : w.heap.size ≤ b1) (hb1 : b1 < w1.heap.size) :
    Hid ((∀ x ∈ zsOf bf v1, x ∈ zsOf bf v ∨ w.heap.size ≤ x) ∧ KN bf m (L ++ Ls) v1 w2 ∧ Ls.map (·.1) = es ∧ b1 ∉ zsOf bf v1 ∧ ItC (zsOf bf v1 ++ b1 :: X) w2 k x0 vb vl it) :=
  Lib.hid ⟨((KStep.refl bf v hT1).trans hKS).2, hKN, hes, fun hm => by
    rcases hKS.2 b1 hm with h | h
    · have := (hZ b1 h).2; omega
    · omega, hI⟩
theorem ref_st {bf m b1 : Nat} {v v1 : Value} {w w1 w2 : World} {t : TypeId} {c : Array Value} (hS : St (zsOf bf v) w w1 [(b1, t, c)]) (hKS : KStep bf v v1 w1 w2) (hZ : ∀ x ∈ zsOf bf v, m ≤ x ∧ x < w.heap.size) (hb : w.heap.size ≤ b1) : St (zsOf bf v) w w2 [(b1, t, c)] :=
  hS.keep hKS (fun x hx => .inl hx) fun e he hm => by
    rw [List.mem_singleton.1 he] at hm
    have := (hZ b1 hm).2; omega
theorem pk_off {bf m b6 : Nat} {L : KList} {v : Value} {w2 : World} (hK : KN bf m L v w2) (hb : w2.heap.size ≤ b6) : b6 ∉ zsOf bf v := fun hm => by
  have := (hK.lt b6 hm).2; omega
theorem cnt_ok {L Ls : KList} {es : List (List Nat)} (h : Ls.map (·.1) = es) (hc : L.length + es.length ≤ 50000000) : (L ++ Ls).length ≤ 100000000 := by
  rw [← h, List.length_map] at hc
  rw [List.length_append]; omega
theorem h_off {bf m b1 b7 : Nat} {L : KList} {v v2 : Value} {w w6 : World} {X : List Nat} (hK : KN bf m L v2 w6) (h7 : w6.heap.size ≤ b7) (h71 : b7 ≠ b1) (hX : OffN X m bf v w) (hs : w.heap.size ≤ w6.heap.size) : b7 ∉ zsOf bf v2 ++ b1 :: X := fun hm => by
  rcases List.mem_append.1 hm with hm | hm
  · have := (hK.lt b7 hm).2; omega
  rcases List.mem_cons.1 hm with hm | hm
  · exact h71 hm
  · have := (hX b7 hm).2.1; omega
theorem ref_st2 {bf m b1 b5 : Nat} {L : KList} {v v1 v2 : Value} {w w2 w5 w6 : World} {t t5 : TypeId} {c c5 : Array Value} (hS : St (zsOf bf v) w w5 [(b5, t5, c5), (b1, t, c)]) (hKS : KStep bf v1 v2 w5 w6) (hz : ∀ x ∈ zsOf bf v1, x ∈ zsOf bf v ∨ w.heap.size ≤ x) (hK : KN bf m L v1 w2) (h1 : b1 ∉ zsOf bf v1) (h5 : w2.heap.size ≤ b5) : St (zsOf bf v) w w6 [(b5, t5, c5), (b1, t, c)] :=
  hS.keep hKS hz fun e he hm => by
    rcases List.mem_cons.1 he with rfl | he
    · have := (hK.lt b5 hm).2; omega
    · rw [List.mem_singleton.1 he] at hm
      exact h1 hm
set_option maxHeartbeats 4000000 in
theorem reference_keep (m bf : Nat) (wm : World) (tv : Value) (it : It) (es : List (List Nat)) (HI : ItemOKN m bf wm tv it es) (he : (enc it).length ≤ 901000) (hd : dep it ≤ 32) : RefOKN m bf wm tv (refI HL it) (es ++ selfE it) := by
  intro X w L v hTm hK hX hlen
  have hS : St (zsOf bf v) w w [] := ⟨Tch.refl _ _, fun _ h => by simp at h, .nil⟩
  have HIT := Lib.hid (fun (b1 : Nat) (w1 : World) (hT : Tch [] w w1) (hb : w.heap.size ≤ b1) (hb1 : b1 < w1.heap.size) => HI (b1 :: X) w1 L v (hTm.trans hT) (hK.call hT) (hX.cons hK hT hb hb1) (by rw [List.length_append] at hlen; omega))
  have HPK := Lib.hid (fun (Y : List Nat) (w1 : World) (x0 vb vl : Value) (hI : ItC Y w1 (dep it + 1) x0 vb vl it) => And.intro (tpack_any (dep it + 1) x0 vb vl it w1 (hI.mono (Y := []) (by simp)) ⟨hd, by omega⟩) (enc_lt (w := w1) hI (by omega)))
  have HZ := Lib.hid (And.intro hK.lt hX)
  obtain ⟨Lb, hLb⟩ : ∃ Lb, Lb = enc it := ⟨_, rfl⟩
  have hLle : Lb.length ≤ 901000 := by rw [hLb]; exact he
  rw [← hLb] at HPK
  have HLL := Lib.hid (And.intro hLb hLle)
  have ks := slice_word
  obtain ⟨ds, hds⟩ := item_tyS
  by_cases hlt : Lb.length < 32
  · have e1 : (Lb.length : Int) < 32 := by omega
    have hpost : refI HL it = it := by unfold refI; rw [if_pos (by rw [← hLb]; exact hlt)]
    have hself : selfE it = [] := by unfold selfE; rw [if_pos (by rw [← hLb]; exact hlt)]
    rw [hpost, hself, List.append_nil]
    clear hLb hLle hlt he HI hX hpost hself hTm hlen hK
    go_enter Try.func59, Try.ntmps59
    go_wp2_with (first
      | (have hq := HGt; refine st_newT hS rfl 27 rfl item_zero ?_; clear hS; intro w3 b5 hS hTn hbn; have HT3 := Lib.hid (And.intro hTn hbn); clear hTn hbn)
      | (refine st_newT hS rfl 27 rfl item_zero ?_; clear hS; intro w1 b1 hS hT1 hb1; have H1 := Lib.hid (And.intro hT1 hb1); clear hT1 hb1)
      | (go_at_call 37; refine (HIT.out b1 _ H1.out.1 H1.out.2 (hS.get .head).lt).mono ?_; rintro e w2 ⟨Ls, v1, hKS, hKN, hes, t, p, n, c, q, k, d, rfl, hI⟩; have HGt := ref_got hKS hKN hes hI HZ.out.1 H1.out.1 H1.out.2 (hS.get .head).lt; replace hS := ref_st hS hKS HZ.out.1 H1.out.2; clear hKS hKN hes hI)
      | (refine st_storeO (b := b5) (c' := #[.bool t, .slice p n c, .slice q k d]) hS rfl 27 _ _ rfl rfl rfl .head item_sizeT rfl rfl (item3_one _ _ _ _ _ _ _) ?_; clear hS; intro w4 hS hO; have HT4 := Lib.hid (HT3.out.1.only hO (.inl HT3.out.2)); clear hO)
      | (refine st_load (b := b5) hS rfl 27 _ rfl rfl .head hds rfl item_sizeT rfl ?_)
      | (go_at_call 36; refine (HPK.out _ _ _ _ _ (HGt.out.2.2.2.2.tch HT4.out.toX)).1.mono ?_; rintro e w5 ⟨hT, b6, hb6, rfl, hB6⟩; have HT5 := Lib.hid (HT4.out.trans hT); replace hS := hS.call hT; clear hT hB6 hb6)
      | (refine st_storeO (b := b1) (c' := #[.bool t, .slice p n c, .slice q k d]) hS rfl 27 _ _ rfl rfl rfl (.tail .head) item_sizeT rfl rfl (item3_one _ _ _ _ _ _ _) ?_; have hB1 := hS.get (.tail .head); clear hS; intro w6 hS hO; have HO := Lib.hid (And.intro hO hB1); clear hO hB1))
    refine st_post hS 4 27 rfl rfl rfl (.tail .head) hds rfl item_sizeT rfl (fun hT => ?_)
    have hKN5 := (HGt.out.2.1.call HT5.out).store HO.out.2 (NoB.item _ _ _ _ _ _ _) HO.out.1 HGt.out.2.2.2.1
    exact ⟨Ls, v1, ⟨hT, HGt.out.1⟩, hKN5, HGt.out.2.2.1, _, _, _, _, _, _, _, rfl, ((HGt.out.2.2.2.2.tch HT5.out.toX).tch (HO.out.1.tch.mono (fun x hx => .inl (by rw [List.mem_singleton.1 hx]; exact List.mem_append_right _ List.mem_cons_self)))).mono (by intro y hy; refine .inl ?_; rcases List.mem_append.1 hy with hy | hy; exact List.mem_append_left _ hy; exact List.mem_append_right _ (List.mem_cons_of_mem _ hy))⟩
  · have e1 : ¬ (Lb.length : Int) < 32 := by omega
    have hpost : refI HL it = .str (HL Lb) := by unfold refI; rw [if_neg (by rw [← hLb]; exact hlt), ← hLb]
    have hself : selfE it = [Lb] := by unfold selfE; rw [if_neg (by rw [← hLb]; exact hlt), ← hLb]
    rw [hpost, hself]
    have hcnt : L.length + es.length ≤ 50000000 := by rw [List.length_append] at hlen; omega
    have HCN := Lib.hid hcnt
    have hoffb : ∀ x ∈ zsOf bf v, x < w.heap.size := fun x hx => (hK.lt x hx).2
    clear hLb hLle hlt he HI hX hpost hself hTm hlen hK hcnt
    go_enter Try.func59, Try.ntmps59
    go_wp2_with (first
      | (have hq := HGt; refine st_newT hS rfl 27 rfl item_zero ?_; clear hS; intro w3 b5 hS hTn hbn; have HT3 := Lib.hid (And.intro hTn hbn); clear hTn hbn)
      | (refine st_newT hS rfl 27 rfl item_zero ?_; clear hS; intro w1 b1 hS hT1 hb1; have H1 := Lib.hid (And.intro hT1 (And.intro hb1 (hS.get .head).lt)); clear hT1 hb1)
      | (go_at_call 37; refine (HIT.out b1 _ H1.out.1 H1.out.2.1 (hS.get .head).lt).mono ?_; rintro e w2 ⟨Ls, v1, hKS, hKN, hes, t, p, n, c, q, k, d, rfl, hI⟩; have HGt := ref_got hKS hKN hes hI HZ.out.1 H1.out.1 H1.out.2.1 (hS.get .head).lt; replace hS := ref_st hS hKS HZ.out.1 H1.out.2.1; clear hKS hKN hes hI)
      | (refine st_storeO (b := b5) (c' := #[.bool t, .slice p n c, .slice q k d]) hS rfl 27 _ _ rfl rfl rfl .head item_sizeT rfl rfl (item3_one _ _ _ _ _ _ _) ?_; clear hS; intro w4 hS hO; have HT4 := Lib.hid (HT3.out.1.only hO (.inl HT3.out.2)); clear hO)
      | (refine st_load (b := b5) hS rfl 27 _ rfl rfl .head hds rfl item_sizeT rfl ?_)
      | (go_at_call 36; have hb256 := (HPK.out _ _ _ _ _ (HGt.out.2.2.2.2.tch HT4.out.toX)).2; refine (HPK.out _ _ _ _ _ (HGt.out.2.2.2.2.tch HT4.out.toX)).1.mono ?_; rintro e w5 hpk; obtain ⟨hT, b6, hb6, rfl, hr⟩ := PkV.rd hpk hb256; have HT5 := Lib.hid (And.intro (HT4.out.trans hT) (And.intro (Nat.le_trans HT4.out.size hb6) hr)); clear hpk hb256; replace hS := hS.call hT; have HT5s := Lib.hid hS.frame.size; clear hT hb6 hr)
      | (go_at_call 22; refine (keep_any bf m (L ++ Ls) v1 _ Lb _ (HGt.out.2.1.call HT5.out.1) (rdB_at HT5.out.2.2 (pk_off HGt.out.2.1 HT5.out.2.1)) (by have := HLL.out.2; omega) (cnt_ok HGt.out.2.2.1 HCN.out)).mono ?_; rintro e w6 ⟨rfl, v2, hKN2, hKS2⟩; have HK2 := Lib.hid (And.intro hKN2 (And.intro hKS2 (And.intro (hS.get (.tail .head)).lt (Nat.le_trans hS.frame.size hKS2.1.size)))); replace hS := ref_st2 hS hKS2 HGt.out.1 HGt.out.2.1 HGt.out.2.2.2.1 HT3.out.2; clear hKN2 hKS2)
      | (refine st_newT hS rfl 33 rfl word_zero ?_; clear hS; intro w7 b7 hS hT7 hb7; have HT7 := Lib.hid (And.intro hT7 hb7); clear hT7 hb7)
      | (refine st_storeO (b := b7) (c' := wf (hashN Lb)) hS rfl 33 _ _ rfl rfl rfl .head word_size (wf_size _) (wf_size _) (wf_one _) ?_; clear hS; intro w8 hS hO; have HT8 := Lib.hid (HT7.out.1.only hO (.inl HT7.out.2)); clear hO)
      | (go_at_call 58; refine (text_anyN (zsOf bf v2 ++ b1 :: X) _ (HL Lb) _ (show RdA (zsOf bf v2 ++ b1 :: X) _ _ (HL Lb) from rdB_at (hash_rd Lb (hS.get .head)) (h_off HK2.out.1 HT7.out.2 ((List.pairwise_cons.1 hS.apart).1 _ (List.mem_cons_of_mem _ List.mem_cons_self)) HZ.out.2 HK2.out.2.2.2)) (by rw [HL_len]; decide)).mono ?_; rintro e w9 ⟨hT, t2, p2, n2, c2, q2, k2, d2, rfl, hI⟩; have HT9 := Lib.hid (And.intro (HT8.out.trans hT) hI); replace hS := hS.call hT; clear hT hI)
      | (refine st_storeO (b := b1) (c' := #[.bool t2, .slice p2 n2 c2, .slice q2 k2 d2]) hS rfl 27 _ _ rfl rfl rfl (.tail (.tail .head)) item_sizeT rfl rfl (item3_one _ _ _ _ _ _ _) ?_; have hB1 := hS.get (.tail (.tail .head)); clear hS; intro wa hS hO; have HO := Lib.hid (And.intro hO hB1); clear hO hB1))
    refine st_post hS 4 27 rfl rfl rfl (.tail (.tail .head)) hds rfl item_sizeT rfl (fun hT => ?_)
    have hb1 : b1 ∉ zsOf bf v2 := fun hm => (HK2.out.2.1.2 b1 hm).elim HGt.out.2.2.2.1 (fun h => by have := HK2.out.2.2.1; omega)
    have hKN9 := (HK2.out.1.call HT9.out.1).store HO.out.2 (NoB.item _ _ _ _ _ _ _) HO.out.1 hb1
    refine ⟨Ls ++ [(Lb, _)], v2, ⟨hT, fun x hx => ?_⟩, by rw [← List.append_assoc]; exact hKN9, by rw [List.map_append, HGt.out.2.2.1]; rfl, _, _, _, _, _, _, _, rfl, (HT9.out.2.tch (HO.out.1.tch.mono (fun x hx => .inl (by rw [List.mem_singleton.1 hx]; exact List.mem_append_right _ List.mem_cons_self)))).mono (by intro y hy; refine .inl ?_; rcases List.mem_append.1 hy with hy | hy; exact List.mem_append_left _ hy; exact List.mem_append_right _ (List.mem_cons_of_mem _ hy))⟩
    rcases HK2.out.2.1.2 x hx with h | h
    · exact HGt.out.1 x h
    · exact .inr (Nat.le_trans (Nat.le_trans (Nat.le_of_eq rfl) HT5s.out) h)
end Go.Proofs.Ytfdihphhmhgejaa
