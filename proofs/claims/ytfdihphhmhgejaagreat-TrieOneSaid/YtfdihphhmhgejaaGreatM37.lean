/- The sort of nodes; CompactFunc where there is one. -/
import Derived.Test.YtfdihphhmhgejaaGreatM35
import Derived.Test.YtfdihphhmhgejaaGreatM36
import Derived.Shelf.SlSortCmp.WholeK
import Derived.Test.YtfdihphhmhgejaaGreatM34
import Derived.Test.YtfdihphhmhgejaaGreatM20
set_option linter.unusedVariables false
set_option linter.unusedSimpArgs false
namespace Go.Proofs.YtfdihphhmhgejaaGreat
open Go.RowKit Tr
open Go.Sort (grow alloc_eq_grow grow_grow putRow putCells HoldsK Holds flatK mapBlock SWO PermIn SortedIn size_flatK get_flatK)
open Go.Proofs (sortWorldK)
set_option linter.unusedVariables false
set_option maxRecDepth 100000

theorem fa_nd0 (b : Nat) (w : World) : (Instr.fieldAt 48 (.pointer (some ⟨b, 0, none⟩)) 0).run Tryz.prog w = .ok (.pointer (some ⟨b, 0, none⟩)) w := by kernel_rfl
theorem nd_rd {w : World} {b : Nat} {t : TypeId} {u : Value} (l : List Nat) (h : Blk w b t (ndA (hashN l) u)) : RdB w (.slice (some ⟨b, 0, none⟩) 32 32) (HL l) := by
  refine ⟨_, _, by rw [HL_len], by rw [HL_len]; exact Nat.le_refl _, fun x hx => ?_, fun _ => ⟨b, 0, rfl, h.lt, fun i hi => ?_⟩⟩
  · unfold HL at hx
    obtain ⟨i, _, rfl⟩ := List.mem_map.1 hx
    exact outN_lt _ i
  · rw [HL_len] at hi
    refine h.cell ?_
    unfold ndA
    rw [Array.getElem?_append_left (by rw [wf_size]; omega), Nat.zero_add, wf_get hi]
    simp [HL, List.getD_eq_getElem?_getD, hi]
/-- The sort's closure. -/
theorem sortN1_any (l1 l2 : List Nat) (u1 u2 : Value) (W : World) :
    Calls Tryz.prog 25 #[.agg (ndA (hashN l1) u1), .agg (ndA (hashN l2) u2)] W fun e w' => e = .returned (.int .i64 (cmpN (HL l1) (HL l2))) ∧ ∃ q os', w' = grow (W.drewN q) os' := by
  have kf := fa_nd0
  go_enter Tryz.func25, Tryz.ntmps25
  go_upto_region 1 with (fail)
  have hB1 : Blk (((W.alloc (.cells (ndA (hashN l1) u1) 48)).alloc (.cells (ndA (hashN l2) u2) 48)).drew) W.heap.size 48 (ndA (hashN l1) u1) := ((Blk.new W _ _).alloc _).drew
  have hB2 : Blk (((W.alloc (.cells (ndA (hashN l1) u1) 48)).alloc (.cells (ndA (hashN l2) u2) 48)).drew) (W.heap.size + 1) 48 (ndA (hashN l2) u2) := by
    have := (Blk.new (W.alloc (.cells (ndA (hashN l1) u1) 48)) 48 (ndA (hashN l2) u2)).drew
    rwa [show (W.alloc (.cells (ndA (hashN l1) u1) 48)).heap.size = W.heap.size + 1 from by simp] at this
  refine k_region (C := fun w' => w' = ((W.alloc (.cells (ndA (hashN l1) u1) 48)).alloc (.cells (ndA (hashN l2) u2) 48)).drew) (by kernel_rfl) (by kernel_rfl) rfl ?_
  refine k_fa rfl _ _ _ rfl rfl (fa_nd0 _) ?_; try simp only [Act.put, List.setIfInBounds_toArray, List.set_cons_zero, List.set_cons_succ]
  refine k_slw rfl _ rfl rfl ?_; try simp only [Act.put, List.setIfInBounds_toArray, List.set_cons_zero, List.set_cons_succ]
  refine k_fa rfl _ _ _ rfl rfl (fa_nd0 _) ?_; try simp only [Act.put, List.setIfInBounds_toArray, List.set_cons_zero, List.set_cons_succ]
  refine k_slw rfl _ rfl rfl ?_; try simp only [Act.put, List.setIfInBounds_toArray, List.set_cons_zero, List.set_cons_succ]
  refine k_callC2 (v := .int .i64 (cmpN (HL l1) (HL l2))) rfl rfl rfl rfl Tryz.call26 (fun w' h => (compare_any _ _ _ _ w' (by rw [h]; exact nd_rd l1 hB1) (by rw [h]; exact nd_rd l2 hB2)).mono fun e w'' h2 => ⟨h2.1, by rw [h2.2, h]⟩) ?_; try simp only [Act.put, List.setIfInBounds_toArray, List.set_cons_zero, List.set_cons_succ]
  refine k_inta rfl _ rfl rfl ?_; try simp only [Act.put, List.setIfInBounds_toArray, List.set_cons_zero, List.set_cons_succ]
  refine k_end ?_; try simp only [Act.put, List.setIfInBounds_toArray, List.set_cons_zero, List.set_cons_succ]
  rintro w' rfl
  go_wp2
  go_ret
  exact ⟨rfl, 1, _, by rw [alloc_eq_grow, alloc_eq_grow, grow_grow]; rfl⟩
theorem kCells_len : ∀ L : KList, (kCells L).length = L.length * 33
  | [] => rfl
  | p :: L => by
    have ih := kCells_len L
    unfold kCells at ih ⊢
    rw [List.flatMap_cons, List.length_append, ih, Array.length_toList, ndA_size, List.length_cons]
    omega
theorem kCells_get : ∀ (L : KList) (i j : Nat) (h : i < L.length), j < 33 → (kCells L)[i * 33 + j]? = (ndA (hashN L[i].1) L[i].2)[j]?
  | p :: L, 0, j, _, hj => by
    unfold kCells
    rw [List.flatMap_cons, Nat.zero_mul, Nat.zero_add, List.getElem?_append_left (by rw [Array.length_toList, ndA_size]; exact hj), Array.getElem?_toList]
    rfl
  | p :: L, i + 1, j, h, hj => by
    have ih := kCells_get L i j (by simpa using h) hj
    have hl : ((ndA (hashN p.1) p.2).toList).length = 33 := by rw [Array.length_toList, ndA_size]
    unfold kCells at ih ⊢
    rw [List.flatMap_cons, List.getElem?_append_right (by rw [hl]; omega), hl, show (i + 1) * 33 + j - 33 = i * 33 + j by omega, ih]
    rfl
/-- A node as the sort moves it. -/
def NdS : Type := { x : List Nat × Value // x.2.oneCell' = true }
instance : Inhabited NdS := ⟨⟨([], .slice none 0 0), rfl⟩⟩
def encN (x : NdS) : List Value := (ndA (hashN x.1.1) x.1.2).toList
def cfN (x y : NdS) : Int := cmpN (HL x.1.1) (HL y.1.1)
def rawN (x : NdS) : List Nat × Value := x.1
theorem rawN_all : ∀ L : KList, (∀ p ∈ L, p.2.oneCell' = true) → ∃ l : List NdS, l.map rawN = L
  | [], _ => ⟨[], rfl⟩
  | x :: xs, h => by
    obtain ⟨l, hl⟩ := rawN_all xs fun y hy => h y (List.mem_cons_of_mem _ hy)
    exact ⟨(⟨x, h x List.mem_cons_self⟩ : NdS) :: l, congrArg (x :: ·) hl⟩
theorem flatN (d : Array NdS) : flatK encN 33 d = (kCells (d.toList.map rawN)).toArray := by
  apply Array.ext
  · rw [size_flatK]
    show d.size * 33 = (kCells (d.toList.map rawN)).length
    rw [kCells_len, List.length_map, Array.length_toList]
  · intro i h1 h2
    have hi : i < d.size * 33 := by simpa using h1
    have hg := get_flatK encN 33 d i hi
    rw [getElem!_pos _ i h1] at hg
    have hq : i / 33 < d.size := by omega
    have hr : i % 33 < 33 := Nat.mod_lt _ (by decide)
    have hf := kCells_get (d.toList.map rawN) (i / 33) (i % 33) (by simpa using hq) hr
    rw [show i / 33 * 33 + i % 33 = i by omega] at hf
    have hx : (d.toList.map rawN)[i / 33]'(by simpa using hq) = rawN (d[i / 33]'hq) := by simp
    rw [hx] at hf
    rw [hg, getElem!_pos d (i / 33) hq]
    have h3 : (kCells (d.toList.map rawN))[i]? = some ((kCells (d.toList.map rawN)).toArray[i]'h2) := by
      rw [List.getElem_toArray, List.getElem?_eq_getElem]
    rw [h3] at hf
    unfold encN
    have hs : i % 33 < (ndA (hashN (d[i / 33]'hq).1.1) (d[i / 33]'hq).1.2).size := by rw [ndA_size]; exact hr
    rw [getElem!_pos _ _ (by rw [Array.length_toList]; exact hs), Array.getElem_toList]
    rw [show (ndA (hashN (rawN (d[i / 33]'hq)).1) (rawN (d[i / 33]'hq)).2) = ndA (hashN (d[i / 33]'hq).1.1) (d[i / 33]'hq).1.2 from rfl, Array.getElem?_eq_getElem hs] at hf
    exact (Option.some.inj hf).symm
theorem ltN (x y : NdS) : Go.Proofs.ltOf cfN x y = decide (lt (HL x.1.1) (HL y.1.1)) := by
  unfold Go.Proofs.ltOf cfN
  by_cases h : lt (HL x.1.1) (HL y.1.1)
  · rw [decide_eq_true h, decide_eq_true (cmp_neg.2 h)]
  · rw [decide_eq_false h, decide_eq_false (fun q => h (cmp_neg.1 q))]
theorem swoN : SWO (Go.Proofs.ltOf cfN) where
  irrefl x := by rw [ltN]; exact decide_eq_false (lt_irrefl _)
  trans x y z h1 h2 := by
    rw [ltN] at *
    exact decide_eq_true (lt_trans (of_decide_eq_true h1) (of_decide_eq_true h2))
  ntrans x y z h1 h2 := by
    rw [ltN] at *
    exact decide_eq_false (not_lt_trans (of_decide_eq_false h1) (of_decide_eq_false h2))
theorem cmpLaysN (w : World) (b off size : Nat) : Go.Proofs.CmpLays Tryz.prog 25 #[] encN 33 cfN b off size w := by
  intro m os dk _ x y
  exact sortN1_any x.1.1 y.1.1 x.1.2 y.1.2 _
theorem nd_agg (w : World) : (isAgg 48).run Tryz.prog w = .ok true w := by kernel_rfl
theorem nd_sizeOf (w : World) : (Go.sizeOf 48).run Tryz.prog w = .ok 33 w := by kernel_rfl
theorem sortWx_blk {α : Type} [Inhabited α] (enc : α → List Value) (k : Nat) {w : World} {b m : Nat} {t : TypeId} {c : Array Value} {d : Array α} {os : Array Obj} (hB : Blk w b t c) (hs : d.size * k ≤ c.size) :
    Blk (sortWorldK enc k w b 0 m d os) b t ((flatK enc k d).toList ++ c.toList.drop (d.size * k)).toArray := by
  have hsz : (mapBlock (Go.Sort.ahead w m) b (putCells id 0 (flatK enc k d))).heap.size = w.heap.size := by unfold mapBlock; simp [Go.Sort.ahead]
  have hfl : (flatK enc k d).toList.length = d.size * k := by rw [Array.length_toList, size_flatK]
  have hcells : putCells id 0 (flatK enc k d) c = ((flatK enc k d).toList ++ c.toList.drop (d.size * k)).toArray := by
    apply Array.ext
    · simp only [putCells, Array.size_mapIdx, List.size_toArray, List.length_append, hfl, List.length_drop, Array.length_toList]
      omega
    · intro i h1 h2
      have hi : i < c.size := by simpa [putCells] using h1
      simp only [putCells, Array.getElem_mapIdx, id, Nat.sub_zero, Nat.zero_le, true_and, Nat.zero_add, size_flatK, List.getElem_toArray]
      by_cases hk : i < d.size * k
      · rw [if_pos hk, List.getElem_append_left (by rw [hfl]; exact hk), getElem!_pos _ i (by rw [size_flatK]; exact hk), Array.getElem_toList]
      · rw [if_neg hk, List.getElem_append_right (by rw [hfl]; omega), List.getElem_drop, Array.getElem_toList]
        congr 1
        rw [hfl]; omega
  unfold Blk
  show ((mapBlock (Go.Sort.ahead w m) b (putCells id 0 (flatK enc k d))).heap ++ os)[b]? = _
  rw [Array.getElem?_append_left (by rw [hsz]; exact hB.lt)]
  unfold mapBlock
  unfold Blk at hB
  simp only [Go.Sort.ahead, Array.getElem?_modify, if_true]
  rw [hB]
  simp [hcells, Go.Sort.onCells]
/-- The sort of what was kept. -/
theorem sortN_any (bf m : Nat) (L : KList) (v : Value) (w : World) (hK : KN bf m L v w) (hne : L ≠ []) (hn : L.length ≤ 100000000) :
    Calls Tryz.prog 24 #[v, .func (.func 25) #[] #[]] w fun e w' => e = .returned (.tuple #[]) ∧ Tch v.ownBlock.toList w w' ∧ ∃ L' : KList, L'.Perm L ∧ L'.Pairwise (fun x y => ¬ lt (HL y.1) (HL x.1)) ∧ KN bf m L' v w' := by
  have eg : ∀ args w, (callFunc 25 args).run Tryz.prog w = .ok (.enter 25 args) w := enters_of Tryz.func25 (by kernel_rfl) rfl
  have hKK := hK
  obtain ⟨h1, h2, h3, h4⟩ := hK
  obtain ⟨hlen, hrow⟩ := h3
  obtain ⟨g, cap, cur, rfl, hmg, hB0, hcap, hcm, hcs, htk⟩ := hrow.resolve_left (fun h => hne (List.eq_nil_of_length_eq_zero h.2))
  have hB : Blk w g 48 cur := hB0
  obtain ⟨l, hl⟩ := rawN_all L (fun p hp => rdA_one (h4 p hp))
  obtain ⟨d, hd⟩ : ∃ d : Array NdS, d.toList.map rawN = L := ⟨l.toArray, hl⟩
  have hds : d.size = L.length := by rw [← hd, List.length_map, Array.length_toList]
  have hfl : flatK encN 33 d = (kCells L).toArray := by rw [flatN, hd]
  have hcon := AnyQ.slices_SortFunc Tryz.sortNd 33 nd_agg nd_sizeOf encN (fun x => by unfold encN; rw [Array.length_toList, ndA_size]) (fun x v hv => by
    unfold encN at hv
    exact (Array.all_eq_true_iff_forall_mem.1 (ndA_one _ x.2)) v (by simpa using hv)) cfN swoN 25 #[] g 0 cap d w eg (cmpLaysN w g 0 d.size) (fun j hj => by
      have hj' : j < d.size * 33 := by simpa using hj
      refine ⟨?_, hB.free _⟩
      rw [Nat.zero_add]
      have e1 : cur[j]? = (kCells L)[j]? := by
        rw [← htk, List.getElem?_take_of_lt (by rw [← hds]; exact hj'), Array.getElem?_toList]
      have e2 : j < (kCells L).length := by rw [kCells_len, ← hds]; exact hj'
      rw [hfl, hB.cell (v := (kCells L)[j]) (by rw [e1, List.getElem?_eq_getElem e2])]
      rw [getElem!_pos _ j (by simpa using e2)]
      simp) hB.lt (by omega)
  change Calls Tryz.prog 24 _ _ _ at hcon
  rw [hds] at hcon
  refine hcon.mono fun e w' h => ?_
  obtain ⟨he, d', n, os, hp, hso, rfl⟩ := h
  have hT := sortW_tch encN 33 w g 0 n d' os
  have hd's : d'.size = L.length := by rw [hp.1, hds]
  have hperm : d'.toList.Perm d.toList := by
    have := hp.2.2
    rw [← hds] at this
    rwa [show d'.extract 0 d.size = d' from by rw [← hp.1]; simp, show d.extract 0 d.size = d from by simp] at this
  have hP : (d'.toList.map rawN).Perm L := by rw [← hd]; exact hperm.map _
  have hB' := sortWx_blk encN 33 (m := n) (d := d') (os := os) hB (by rw [hd's, hcs]; exact Nat.mul_le_mul_right _ hcap)
  have hgb : bf ∉ [g] := fun hm => hKK.ne (by rw [List.mem_singleton.1 hm]; rfl)
  refine ⟨he, hT, d'.toList.map rawN, hP, ?_, h1, hT.blk h2 hgb, ?_, fun p hp => (h4 p (hP.mem_iff.1 hp)).tch (hT.mono (fun x hx => .inl (by rw [List.mem_singleton.1 hx]; exact List.mem_cons_of_mem _ (by simp [Value.ownBlock]))))⟩
  · rw [List.pairwise_iff_getElem]
    intro i j hi hj hij
    have hi' : i < d'.size := by simpa using hi
    have hj' : j < d'.size := by simpa using hj
    have := hso i j (Nat.zero_le _) hij (by omega)
    rw [ltN, getElem!_pos d' i hi', getElem!_pos d' j hj'] at this
    have := of_decide_eq_false this
    simp only [List.getElem_map, Array.getElem_toList]
    exact this
  · have hll : (d'.toList.map rawN).length = L.length := by rw [List.length_map, Array.length_toList, hd's]
    refine ⟨by rw [kCells_len], .inr ⟨g, cap, _, by rw [hll], hmg, hB', by rw [hll]; exact hcap, hcm, ?_, ?_⟩⟩
    · rw [flatN]
      simp only [List.size_toArray, List.length_append, kCells_len, hll, List.length_drop, Array.length_toList, hcs, hd's]
      have := Nat.mul_le_mul_right 33 hcap
      omega
    · rw [flatN, hll]
      show List.take _ ((kCells _) ++ _) = _
      rw [List.take_left' (by rw [kCells_len, hll])]
end Go.Proofs.YtfdihphhmhgejaaGreat

/- Nodes of one pair. -/
namespace Go.Proofs.YtfdihphhmhgejaaGreat
open Go.RowKit Tr
set_option linter.unusedVariables false
set_option maxRecDepth 100000

theorem encode_leafN (b : Nat) (pv uv : Value) (p : List Nat) (u : List Nat) (fv : Value) (w : World) (hB : Blk w b 100 #[pv, uv]) (hp : RdB w pv p) (hu : RdB w uv u) (hl : p.length ≤ 128) (hx : ∀ x ∈ p, x < 16) (hul : u.length ≤ 900000)
    (he : (enc (.lst [.str (pkT p true), .str u])).length ≤ 901000) (hd : dep (.lst [.str (pkT p true), .str u]) ≤ 32) :
    Calls Tryz.prog 22 #[.iface 99 (.pointer (some ⟨b, 0, none⟩)), fv] w fun e w' => Tch [] w w' ∧ ∃ b', w.heap.size ≤ b' ∧ e = .returned (.slice (some ⟨b', 0, none⟩) (enc (.lst [.str (pkT p true), .str u])).length (enc (.lst [.str (pkT p true), .str u])).length) ∧ RdB w' (.slice (some ⟨b', 0, none⟩) (enc (.lst [.str (pkT p true), .str u])).length (enc (.lst [.str (pkT p true), .str u])).length) (enc (.lst [.str (pkT p true), .str u])) := by
  have HIT := Lib.hid (fun (w1 : World) (hT : Tch [] w w1) => item_leafN [] b pv uv p u fv w1 (hT.blk hB (by simp)) (hp.tch hT (by simp)) (hu.tch hT (by simp)).rdA0 (by simp) hl hx hul)
  obtain ⟨it, hit⟩ : ∃ it, it = It.lst [.str (pkT p true), .str u] := ⟨_, rfl⟩
  rw [← hit] at HIT he hd ⊢
  have HPK := Lib.hid (fun (w1 : World) (x0 vb vl : Value) (hI : ItC [] w1 (dep it + 1) x0 vb vl it) => (tpack_any (dep it + 1) x0 vb vl it w1 hI ⟨hd, by omega⟩).mono fun e w' h => h.rd (enc_b hI he))
  clear hB hp hu hl hx hul he hd hit
  generalize enc it = L at *
  go_enter Tryz.func22, Tryz.ntmps22
  go_wp2_with (first
    | (go_at_call 39; refine (HIT.out _ (Tch.refl _ _)).mono ?_; rintro e w1 ⟨hT1, t, p, n, c, q, m, d, rfl, hI⟩)
    | (go_at_call 38; refine (HPK.out _ _ _ _ hI).mono ?_; rintro e w2 ⟨hT, b, hb, rfl, hB⟩))
  go_ret
  exact ⟨hT1.trans hT, b, Nat.le_trans hT1.size hb, rfl, hB⟩
/-- CompactFunc of one. -/
theorem compact_one (p : Option Addr) (c : Nat) (fv : Value) (w : World) : Calls Tryz.prog 27 #[.slice p 1 c, fv] w fun e w' => e = .returned (.slice p 1 c) ∧ w' = w := by
  go_enter Tryz.func27, Tryz.ntmps27
  go_wp2
  go_ret
  exact ⟨rfl, rfl⟩
theorem nodes_zero : (Tryz.prog.info? 42).bind (·.zero) = some (.slice none 0 0) := by kernel_rfl
section
variable {ops : Array Oper} {rest : List Oper} {o : Oper} {a : Act} {bs : List Nat} {w0 w : World} {Q : Exit → Act → World → Prop} {L : List Ent}
/-- A variable of a slice is made. -/
theorem st_newV {p : Option Addr} {n c : Nat} (hS : St bs w0 w L) (hgd : o.guard = none) (ty : TypeId) (ho : o.op = .alloc ty) (hz : (Tryz.prog.info? ty).bind (·.zero) = some (.slice p n c))
    (h : ∀ w' b, St bs w0 w' ((b, ty, #[.slice p n c]) :: L) → Tch [] w w' → w.heap.size ≤ b → wpList Tryz.prog ops Q rest (a.put o.dst (.pointer (some ⟨b, 0, none⟩))) w') : wpList Tryz.prog ops Q (o :: rest) a w :=
  wpList_plain hgd fun K hK => by
    have hr : (Instr.alloc ty true (.tuple #[])).run Tryz.prog w = .ok (.pointer (some ⟨w.heap.size, 0, none⟩)) (w.alloc (.cells #[.slice p n c] ty)) := by
      cases hq : Tryz.prog.info? ty with
      | none => simp [hq] at hz
      | some i =>
        have hz' : i.zero = some (.slice p n c) := by simpa [hq] using hz
        simp [Instr.alloc, zeroValue, typeInfo, hq, hz', newVar, newRow, Value.cells]
    unfold Oper.wp execOp
    simp only [ho, Sem.run_bind, hr, Result.andThen_ok, Sem.run_pure]
    exact hK _ _ (h _ _ (hS.new ty _) ((Tch.refl _ _).alloc _) (Nat.le_refl _))
end
theorem rdB_at {X : List Nat} {w : World} {b n c : Nat} {l : List Nat} (h : RdB w (.slice (some ⟨b, 0, none⟩) n c) l) (hb : b ∉ X) : RdA X w (.slice (some ⟨b, 0, none⟩) n c) l := by
  obtain ⟨p, c', h1, h2, h3, h4⟩ := h
  refine ⟨p, c', h1, h2, h3, fun hl => ?_⟩
  obtain ⟨b', o, h5, h6, h7⟩ := h4 hl
  refine ⟨b', o, h5, h6, ?_, h7⟩
  rw [h5] at h1
  injection h1 with h1
  injection h1 with h1
  injection h1 with h1
  rw [← h1]; exact hb
theorem one_off {bf b' s : Nat} (hb : s ≤ b') (hf : bf < s) : b' ∉ zsOf bf (.slice none 0 0) := fun hm => by
  have : b' = bf := by simpa [zsOf, Value.ownBlock] using hm
  omega
/-- The one pair's bytes. -/
def oneB (K V : List Nat) : List Nat := enc (.lst [.str (pkT (nibT K) true), .str V])
theorem one_cells {cur : Array Value} {p : List Nat × Value} (htk : cur.toList.take (([p] : KList).length * 33) = kCells [p]) (j : Nat) (hj : j < 33) : cur[j]? = (ndA (hashN p.1) p.2)[j]? := by
  have h1 : (cur.toList.take (([p] : KList).length * 33))[j]? = (kCells [p])[j]? := by rw [htk]
  rw [List.getElem?_take_of_lt (by simpa using hj), Array.getElem?_toList] at h1
  rw [h1]
  have h2 := kCells_get [p] 0 j (by simp) hj
  rw [Nat.zero_mul, Nat.zero_add] at h2
  exact h2
/-- What Nodes answers of one pair. -/
def OnePost (E : List Nat) (w : World) (e : Ending) (w' : World) : Prop :=
  Tch [] w w' ∧ ∃ g cap bv cur, e = .returned (.tuple #[.slice (some ⟨g, 0, none⟩) 1 cap, .int .i64 0]) ∧ Blk w' g 48 cur ∧ (∀ j, j < 33 → cur[j]? = (ndA (hashN E) bv)[j]?) ∧ RdB w' bv E
theorem tree_one {K V : List Nat} {w : World} {u : Value} (h : TreeOf [(K, V)] w u) : ∃ b pv uv, u = .iface 99 (.pointer (some ⟨b, 0, none⟩)) ∧ Blk w b 100 #[pv, uv] ∧ RdB w pv (nibT K) ∧ RdB w uv V ∧ WT (.leaf (nibT K) V) := by
  obtain ⟨B, T, m, hT, hW, rfl, _, hp, _⟩ := h
  have hm : m = [(nibT K, V)] := by
    have := hp.symm
    exact List.perm_singleton.1 this
  subst hm
  have e : buildT 200 [(nibT K, V)] = .leaf (nibT K) V := rfl
  rw [e] at hT hW
  obtain ⟨b, pv, uv, rfl, _, hB, hp, hu⟩ := hT
  exact ⟨b, pv, uv, rfl, hB, hp, hu, hW⟩
set_option maxHeartbeats 2000000 in
theorem Nodes_one (v : Value) (K V : List Nat) (w : World) (hv : PairsAt w v [(K, V)]) (hm : mayE [(K, V)] = 0) (hV : V.length ≤ 900000) :
    Calls Tryz.prog 11 #[v] w (OnePost (oneB K V) w) := by
  have HG := Lib.hid (show Calls Tryz.prog 19 #[v] w fun e w' => Tch [] w w' ∧ ∃ b pv uv, e = .returned (.tuple #[.iface 99 (.pointer (some ⟨b, 0, none⟩)), .int .i64 0]) ∧ Blk w' b 100 #[pv, uv] ∧ RdB w' pv (nibT K) ∧ RdB w' uv V ∧ WT (.leaf (nibT K) V) ∧ (oneB K V).length ≤ 901000 from
    (tgrow_tree v [(K, V)] w hv (by simp) (fun _ p hp => by simp only [List.mem_singleton] at hp; subst hp; exact hV)).mono fun e w' h => by
      obtain ⟨h1, u, h2, h3, _⟩ := h
      obtain ⟨b, pv, uv, rfl, g1, g2, g3, g4⟩ := tree_one (h3 hm)
      rw [hm] at h2
      exact ⟨h1, b, pv, uv, h2, g1, g2, g3, g4, item_enc (T := .leaf (nibT K) V) HL_len g4⟩)
  have HE := Lib.hid (fun (fv : Value) (b : Nat) (pv uv : Value) (w1 : World) (hB : Blk w1 b 100 #[pv, uv]) (hp : RdB w1 pv (nibT K)) (hu : RdB w1 uv V) (hW : WT (.leaf (nibT K) V)) => show Calls Tryz.prog 22 #[.iface 99 (.pointer (some ⟨b, 0, none⟩)), fv] w1 fun e w' => Tch [] w1 w' ∧ ∃ b', w1.heap.size ≤ b' ∧ e = .returned (.slice (some ⟨b', 0, none⟩) (oneB K V).length (oneB K V).length) ∧ RdB w' (.slice (some ⟨b', 0, none⟩) (oneB K V).length (oneB K V).length) (oneB K V) from
    encode_leafN b pv uv (nibT K) V fv w1 hB hp hu hW.1 hW.2.1 hW.2.2 (item_enc (T := .leaf (nibT K) V) HL_len hW) (item_dep (H := HL) (.leaf (nibT K) V)))
  clear hv hm hV
  generalize oneB K V = E at *
  have hmf : ∀ (fn : Fn) (first cap : Array Value) (w : World), (Instr.makeFunc fn first cap).run Tryz.prog w = .ok (.func fn first cap) w := fun _ _ _ _ => rfl
  have k0 := eql_node
  have hS := St.start w
  go_enter Tryz.func11, Tryz.ntmps11
  go_upto_region 6 with (first
    | (go_at_call 19; refine HG.out.mono ?_; rintro e w1 ⟨hT1, b, pv, uv, rfl, hB, hp, hu, hW, hE⟩; have HF := Lib.hid (And.intro hB (And.intro hp (And.intro hu (And.intro hW hE)))); clear hB hp hu hW hE; replace hS := hS.call hT1; clear hT1)
    | (refine st_newV hS rfl 42 rfl nodes_zero ?_; clear hS; intro w2 bf hS hT2 hbf))
  have hK2 : KN bf w.heap.size [] (.slice none 0 0) w2 := ⟨(hS.own .head).resolve_right (by simp), hS.get .head, ⟨rfl, .inl ⟨rfl, rfl⟩⟩, by simp⟩
  have hB2 := hT2.blk HF.out.1 (by simp)
  have HE2 := Lib.hid (HE.out (.func (.func 23) #[] #[.pointer (some ⟨bf, 0, none⟩)]) b pv uv w2 hB2 (HF.out.2.1.tch hT2 (by simp)) (HF.out.2.2.1.tch hT2 (by simp)) HF.out.2.2.2.1)
  have HK2 := Lib.hid (And.intro hK2 hS.frame)
  clear hK2 hB2 hS
  go_upto_region 7 with (first
    | (go_at_call 22; refine HE2.out.mono ?_; rintro e w3 ⟨hT3, b', hb', rfl, hr⟩; have HR := Lib.hid (And.intro hT3 (And.intro hb' hr)); clear hT3 hb' hr)
    | (go_at_call 23; refine (keep_any bf _ [] (.slice none 0 0) _ E w3 (HK2.out.1.call HR.out.1) (rdB_at HR.out.2.2 (one_off HR.out.2.1 HK2.out.1.2.1.lt)) (by have := HF.out.2.2.2.2; omega) (by decide)).mono ?_; rintro e w4 ⟨rfl, v', hK4, hs⟩))
  have hT4 : Tch [] w w4 := (HK2.out.2.trans HR.out.1).fresh hs.1 (fun x hx => by
    have : x = bf := by simpa [zsOf, Value.ownBlock] using hx
    rw [this]; exact HK2.out.1.1)
  rw [List.nil_append] at hK4
  have hlt4 := hK4.2.2.1.lt
  obtain ⟨g, cap, cur0, rfl, hg0, _⟩ := hK4.2.2.1.2.resolve_left (fun h => by cases h.2)
  have HK4 := Lib.hid hK4
  have HT4 := Lib.hid hT4
  have HR4 := Lib.hid (And.intro HR.out hlt4)
  have hS : St [] w w4 [(bf, 42, #[.slice (some ⟨g, 0, none⟩) 1 cap])] := ⟨hT4, fun e he => by rcases List.mem_singleton.1 he with rfl; exact ⟨hK4.2.1, .inl hK4.1⟩, List.pairwise_singleton _ _⟩
  clear hK4 hs hT4 hlt4 hg0 HR
  go_upto_region 8 with (first
    | (refine st_cell hS rfl 42 _ rfl rfl .head rfl nodes_agg ?_)
    | (go_at_call 24; refine (sortN_any bf _ _ _ _ HK4.out (List.cons_ne_nil _ _) (show 1 ≤ 100000000 by decide)).mono ?_; rintro e w5 ⟨rfl, hT5, L', hp, _, hK5⟩; have HK5 := Lib.hid (And.intro hK5 (And.intro hp hT5)); clear hK5 hp hT5))
  have hL' := List.perm_singleton.1 HK5.out.2.1
  have hT5 : Tch [] w w5 := HT4.out.fresh HK5.out.2.2 (fun x hx => (HR4.out.2 x (by simpa using hx)).1)
  have hS2 : St [] w w5 [(bf, 42, #[.slice (some ⟨g, 0, none⟩) 1 cap])] := ⟨hT5, fun e he => by rcases List.mem_singleton.1 he with rfl; exact ⟨HK5.out.1.2.1, .inl HK5.out.1.1⟩, List.pairwise_singleton _ _⟩
  clear hS
  have hS := hS2
  clear hS2
  go_wp2_with (first
    | (refine st_cell hS rfl 42 _ rfl rfl .head rfl nodes_agg ?_)
    | (go_at_call 27; refine (compact_one _ _ _ _).mono ?_; rintro e w6 ⟨rfl, rfl⟩))
  go_ret2
  have hK6 := HK5.out.1
  rw [hL'] at hK6
  obtain ⟨g', cap', cur, hv, _, hg, _, _, _, htk⟩ := hK6.2.2.1.2.resolve_left (fun h => by cases h.2)
  cases hv
  refine ⟨hT5, _, _, _, cur, rfl, hg, fun j hj => ?_, (hK6.2.2.2 _ List.mem_cons_self).rdB⟩
  exact one_cells htk j hj
end Go.Proofs.YtfdihphhmhgejaaGreat

/- The example's root. -/
namespace Go.Proofs.YtfdihphhmhgejaaGreat
open Go.RowKit Tr

def dogPs : List En := [([100, 111, 103], [112, 117, 112, 112, 121]), ([100, 111], [118, 101, 114, 98]), ([100, 111, 103, 101], [99, 111, 105, 110]), ([104, 111, 114, 115, 101], [115, 116, 97, 108, 108, 105, 111, 110])]
theorem dogs_may : mayE dogPs = 0 := by decide
theorem HL_of {l m : List Nat} (hm : m.length = 32) (h : ∀ i, i < 32 → hashN l i = m.getD i 0) : HL l = m := by
  unfold HL
  apply List.ext_getElem
  · simp [hm]
  · intro i h1 h2
    have hi : i < 32 := by simpa using h1
    simp only [List.getElem_map, List.getElem_range]
    rw [h i hi, List.getD_eq_getElem?_getD, List.getElem?_eq_getElem h2]
    rfl
theorem dogs_root : enc (nodeT pkT HL 200 (entries dogPs)) = dogrootL := by
  have h := root_dogs HL (HL_of rfl hash_dog0) (HL_of rfl hash_dog1) (HL_of rfl hash_dog2)
  unfold rootB at h
  rw [if_neg (by simp)] at h
  exact h
theorem dogs_rootW : ∀ i, i < 32 → rootW dogPs i = dogrootH.getD i 0 := by
  intro i hi
  unfold rootW
  rw [if_pos dogs_may, dogs_root]
  exact hash_dogroot i hi
theorem none_may : mayE [] = 0 := by decide
theorem none_rootW : ∀ i, i < 32 → rootW [] i = emptyH.getD i 0 := by
  intro i hi
  unfold rootW
  rw [if_pos none_may]
  have : enc (nodeT pkT HL 200 (entries [])) = emptyL := by
    show enc (.str []) = _
    exact enc_empty
  rw [this]
  exact hash_empty i hi
/-- A word in memory, as bytes. -/
theorem word_rdL {w : World} {b : Nat} {t : TypeId} {f : Nat → Nat} {m : List Nat} (h : Blk w b t (wf f)) (hm : m.length = 32) (hf : ∀ i, i < 32 → f i = m.getD i 0) (hlt : ∀ x ∈ m, x < 256) : RdB w (.slice (some ⟨b, 0, none⟩) 32 32) m := by
  have hlt2 : ∀ i, i < 32 → f i < 256 := fun i hi => by
    rw [hf i hi, List.getD_eq_getElem?_getD, List.getElem?_eq_getElem (by omega)]
    exact hlt _ (List.getElem_mem _)
  have e : (List.range 32).map f = m := by
    apply List.ext_getElem
    · simp [hm]
    · intro i h1 h2
      have hi : i < 32 := by simpa using h1
      simp only [List.getElem_map, List.getElem_range]
      rw [hf i hi, List.getD_eq_getElem?_getD, List.getElem?_eq_getElem h2]
      rfl
  rw [← e]
  exact RdB.blk (n := 32) (f := f) h hlt2
end Go.Proofs.YtfdihphhmhgejaaGreat
