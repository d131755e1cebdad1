/- slices.Backward over pieces, and what it hands on. -/
import Derived.Test.YtopfmaoeebgjmaaGreatDoorM01
import Derived.Test.YtopfmaoeebgjmaaGreatDoorM13
import Derived.RangeFuncNested
import Derived.RangeFuncBound
import Derived.RangeFuncCalls
import Derived.RangeFuncLeaves
import Derived.Shelf.Abstract
import Derived.Shelf.RegionOpen
import Derived.OwnWalkIn
import Derived.TacticsInMore
import Derived.LoopNIn
import Derived.LoopIn
import Derived.BigQuiet
set_option linter.unusedVariables false
set_option linter.unusedSimpArgs false
namespace Go.Proofs.YtopfmaoeebgjmaaGreatDoor
section
open Go.RowKit Go.Shelf
attribute [local go_sem] Oper.semAt_some
def KT (n₀ : Nat) (X : List Nat) (W W' : World) : Prop := W.heap.size ≤ W'.heap.size ∧ ∀ k, k < n₀ → k ∉ X → W'.heap[k]? = W.heap[k]?
theorem KT.refl (n₀ : Nat) (X : List Nat) (W : World) : KT n₀ X W W := ⟨Nat.le_refl _, fun _ _ _ => rfl⟩
theorem KT.trans {n₀ : Nat} {X : List Nat} {A B C : World} (h : KT n₀ X A B) (k : KT n₀ X B C) : KT n₀ X A C := ⟨Nat.le_trans h.1 k.1, fun i hi hx => (k.2 i hi hx).trans (h.2 i hi hx)⟩
theorem KT.cell {n₀ : Nat} {X : List Nat} {A B : World} (h : KT n₀ X A B) {p : Addr} (hp : p.block < n₀) (hx : p.block ∉ X) : B.cell? p = A.cell? p := World.cell?_of_block (w := A) (h.2 p.block hp hx)
theorem KT.b {n₀ : Nat} {X : List Nat} {w : World} (hn : n₀ ≤ w.heap.size) (W : World) (l : Nat) (o o' : Obj) (hl : w.heap.size ≤ l) (h : W.heap[l]? = some o) (h1 : o.isCells = false) (h2 : o.isWalk = false) : KT n₀ X W (W.putObj l o') := by
  have := belowK_b (n₀ := n₀) hn W l o o' hl h h1 h2
  exact ⟨this.size, fun k hk _ => this.block k hk⟩
theorem blk_others {bs : List Nat} {W W' : World} (hT : Tch bs W W') (hb : ∀ b ∈ bs, ∃ t c, Blk W b t c) : KeepsOthers W W' :=
  ⟨hT.size, fun k o hk ho => by
    refine (hT.block k (Array.getElem?_eq_some_iff.1 hk).1 fun hm => ?_).trans hk
    obtain ⟨t, c, h⟩ := hb k hm
    unfold Blk at h
    rw [hk] at h
    cases h
    simp [Obj.isCells] at ho⟩
theorem range_count {P : Program} {n : Nat} {g : Operand} {ps : Array Tmp} {assign body : Code} {Q : Exit → Act → World → Prop} {a : Act} {w : World} {gf : Nat} {lb : Array Value} (X : List Nat) (hg : a.eval g = .func (.func gf) #[] lb) (eg : ∀ args w, (callFunc gf args).run P w = .ok (.enter gf args) w)
    (N : Nat) (en : Nat → Array Value) (hps : ∀ k, (en k).size = ps.size)
    (hseq : ∀ (l : Nat) (J : Nat → World → Prop) (W : World), Below w.heap.size w W →
      (∀ k W1, k < N → J k W1 → YieldAt Fence.wide (n - 1 - 1) P l (en k) W1 fun e W' => e = .returned (.bool true) ∧ J (k + 1) W' ∧ KT w.heap.size X W1 W') → J 0 W →
      CallsIn Fence.wide (n - 1) P gf (#[.func (.yield l) #[] #[]] ++ lb) W fun e W' => (∃ v, e = .returned v) ∧ J N W')
    (I : Nat → World → Prop) (hI : ∀ k W W', I k W → Below w.heap.size W W' → I k W') (h0 : I 0 w) (a₁ : Nat → Act)
    (hassign : ∀ (l k : Nat) (W : World) (K : Act → World → Prop), K (a₁ k) W →
      assign.wpIn (Fence.wide.inRound l) (n - 1 - 1) P (Exit.then K (fun _ _ _ => False)) { tmps := (ps.zip (en k)).foldl (fun t (p, v) => t.setIfInBounds p v) a.tmps, defers := [] } W)
    (hbody : ∀ (l k : Nat) (W : World), k < N → I k W → w.heap.size ≤ W.heap.size → body.wpIn (Fence.wide.inRound l) (n - 1 - 1) P (fun e _ W' => match e with | .normal => KeepsOthers W W' ∧ KT w.heap.size X W W' ∧ I (k + 1) W' | _ => False) (a₁ k) W)
    (hdone : ∀ (D : Nat) (W : World), w.heap.size ≤ D → I N W → W.heap[D]? = some (.deferred (some [])) → Q .normal { a with defers := { target := .collected D, args := #[] } :: a.defers } W) :
    (Code.rangeFunc g ps assign body).wpIn Fence.wide n P Q a w := by
  refine wpIn_rangeFunc fun fn _ => ?_
  let rc : LoopState → Loop := fun st => { state := st, pending := none, fn := fn, tmps := a.tmps, params := ps, assign := assign, body := body, defers := w.heap.size }
  let W1 := (w.alloc (.deferred (some []))).alloc (.loop (rc .ready))
  have hb1 : Below w.heap.size w W1 := ((Below.refl _ w).alloc (Nat.le_refl _) _).alloc (by simp) _
  have hL1 : W1.heap[w.heap.size + 1]? = some (.loop (rc .ready)) := by
    have := World.alloc_heap_new (w.alloc (.deferred (some []))) (.loop (rc .ready))
    rwa [World.size_alloc] at this
  have hD1 : W1.heap[w.heap.size]? = some (.deferred (some [])) := (Below.heap_alloc _ _ _ (by simp)).trans (World.alloc_heap_new w _)
  refine ⟨w.heap.size + 1, [{ target := .collected w.heap.size, args := #[] }], W1, { target := .fn (.func gf) lb, args := #[.func (.yield (w.heap.size + 1)) #[] #[]] }, W1, gf,
    #[.func (.yield (w.heap.size + 1)) #[] #[]] ++ lb, W1, run_enterLoop_outer _ _ _ _ _, ?_, fun _ _ => trivial, ?_, fun h => (by simp [Fence.wide] at h), ?_⟩
  · simp only [resolve, hg]; simp [go_sem]
  · simp [invoke, go_sem, eg]
  refine (hseq (w.heap.size + 1) (fun k W => I k W ∧ w.heap.size ≤ W.heap.size ∧ W.heap[w.heap.size + 1]? = some (.loop (rc .ready)) ∧ W.heap[w.heap.size]? = some (.deferred (some []))) W1 hb1 ?_ ⟨hI _ _ _ h0 hb1, hb1.size, hL1, hD1⟩).mono ?_
  · rintro k W hk ⟨hi, hs, hl, hd⟩
    have hlt : w.heap.size + 1 < W.heap.size := (Array.getElem?_eq_some_iff.1 hl).1
    refine ⟨fn, _, assign, body, run_yield (r := rc .ready) hl (hps k), roundIn_of_wpIn trivial (hassign _ k W _ ⟨_, run_beginRound hl rfl, ?_⟩)⟩
    have hB2 := belowK_b (n₀ := w.heap.size) (w := w) (Nat.le_refl _) W (w.heap.size + 1) _ (.loop (rc .busy)) (by omega) hl rfl rfl
    have hl2 : (W.putObj (w.heap.size + 1) (.loop (rc .busy))).heap[w.heap.size + 1]? = some (.loop (rc .busy)) := World.putObj_heap_same hlt
    have hd2 : (W.putObj (w.heap.size + 1) (.loop (rc .busy))).heap[w.heap.size]? = some (.deferred (some [])) := (World.putObj_heap_other (by omega)).trans hd
    refine wpIn_mono (hbody _ k _ hk (hI _ _ _ hi hB2) (Nat.le_trans hs hB2.size)) ?_
    intro e a3 W3 hp
    match e, hp with
    | .normal, ⟨hk3, hkp3, hi3⟩ =>
      have hl3 := hk3.same _ _ hl2 rfl
      have hd3 := hk3.same _ _ hd2 rfl
      have hB4 := belowK_b (n₀ := w.heap.size) (w := w) (Nat.le_refl _) W3 (w.heap.size + 1) _ (.loop (rc .ready)) (by omega) hl3 rfl rfl
      refine ⟨_, _, run_endRound none hl3, rfl, ⟨hI _ _ _ hi3 hB4, ?_, World.putObj_heap_same (Array.getElem?_eq_some_iff.1 hl3).1, (World.putObj_heap_other (by omega)).trans hd3⟩, ?_⟩
      · exact Nat.le_trans hs (Nat.le_trans hB2.size (Nat.le_trans hkp3.1 hB4.size))
      · exact ((KT.b (Nat.le_refl _) W _ _ _ (by omega) hl rfl rfl).trans hkp3).trans (KT.b (Nat.le_refl _) W3 _ _ _ (by omega) hl3 rfl rfl)
  · rintro e W2 ⟨⟨v, rfl⟩, hi, hs, hl, hd⟩
    have hB4 := belowK_b (n₀ := w.heap.size) (w := w) (Nat.le_refl _) W2 (w.heap.size + 1) _ (.loop { rc .ready with state := .exhausted }) (by omega) hl rfl rfl
    exact ⟨none, _, run_endLoop hl (by simp [rc]), hdone _ _ (Nat.le_refl _) (hI _ _ _ hi hB4) ((World.putObj_heap_other (by omega)).trans hd)⟩
abbrev enBack (vs : Nat → Value) (len k : Nat) : Array Value := #[.int .i64 ((len - 1 - k : Nat) : Int), vs (len - 1 - k)]
set_option maxRecDepth 100000 in
set_option maxHeartbeats 2000000 in
theorem bwd1_in (n : Nat) (hn : 1 ≤ n) (l Bs n₀ b off len cap : Nat) (X : List Nat) (p : Option Addr) (vs : Nat → Value) (hreach : len ≤ 100000000) (hp : 0 < len → p = some ⟨b, off, none⟩) (hb : 0 < len → b < n₀ ∧ b ∉ X) (hBs0 : Bs < n₀ ∧ Bs ∉ X) (J : Nat → World → Prop)
    (hY : ∀ k W, k < len → J k W → YieldAt Fence.wide (n - 1) Tryz.prog l (enBack vs len k) W fun e W' => e = .returned (.bool true) ∧ J (k + 1) W' ∧ KT n₀ X W W')
    (W : World) (hBs : W.cell? ⟨Bs, 0, none⟩ = some (.slice p len cap)) (hc : ∀ j, j < len → W.cell? ⟨b, off + j, none⟩ = some (vs j)) (h0 : J 0 W) :
    CallsIn Fence.wide n Tryz.prog 145 #[.func (.yield l) #[] #[], .pointer (some ⟨Bs, 0, none⟩)] W fun e W' => (∃ v, e = .returned v) ∧ J len W' := by
  refine callsIn_of_wp Tryz.func145 rfl trivial ?_ rfl
  simp only [Tryz.ntmps145, List.size_toArray, List.length_cons, List.length_nil, Nat.reduceAdd, Nat.reduceSub, Array.replicate_succ, Array.replicate_zero, List.push_toArray, List.append_toArray, List.nil_append, List.cons_append]
  gi_wp2
  gi_loopw [3] (fun i wr => ∃ k : Nat, k ≤ len ∧ i = .int .i64 ((len : Int) - 1 - k) ∧ J k wr ∧ KT n₀ X W wr)
    (fun i _ => (intOf i + 1).toNat)
  case atStart => exact ⟨0, Nat.zero_le _, by simp, h0, KT.refl _ _ _⟩
  case round =>
    obtain ⟨k, hk, rfl, hJs, hnx⟩ := hrel
    have hBs2 : wr.cell? ⟨Bs, 0, none⟩ = some (.slice p len cap) := (hnx.cell (p := ⟨Bs, 0, none⟩) hBs0.1 hBs0.2).trans hBs
    by_cases hlt : k < len
    · obtain rfl := hp (by omega)
      obtain ⟨fn, tmps, assign, body, hy, hR⟩ := hY k wr hlt hJs
      dsimp only [enBack] at hy
      obtain ⟨i, hi⟩ : ∃ i, i = len - 1 - k := ⟨_, rfl⟩
      rw [← hi] at hy
      have hii : (len : Int) - 1 - k = (i : Int) := by omega
      have hil : i < len := by omega
      have hcx : wr.cell? ⟨b, off + i, none⟩ = some (vs i) := (hnx.cell (p := ⟨b, off + i, none⟩) (hb (by omega)).1 (hb (by omega)).2).trans (hc i hil)
      rw [hii]
      have HI := hQz (And.intro hi (And.intro hii hlt))
      clear hi hii hlt hk hc
      gi_wp2
      refine hR.mono ?_
      rintro e W3 ⟨rfl, hJ3, hk3⟩
      gi_wp2
      go_roundw
      case rel =>
        refine ⟨k + 1, by have := HI.out.2.2; omega, ?_, hJ3, hnx.trans hk3⟩
        have := HI.out.2.1; simp; omega
      case measure => simp [intOf]; try omega
    · obtain rfl : k = len := by omega
      have hneg : (k : Int) - 1 - k = -1 := by omega
      rw [hneg]
      gi_wp2
      go_end0
      exact ⟨⟨_, rfl⟩, hJs⟩
set_option maxHeartbeats 1000000 in
theorem backward_any (a : Option Addr) (len cap : Nat) (w : World) :
    Calls Tryz.prog 131 #[.slice a len cap] w fun e w' => e = .returned (.func (.func 145) #[] #[.pointer (some ⟨w.heap.size, 0, none⟩)]) ∧ w' = w.alloc (.cells #[.slice a len cap] 240) := by
  go_enter Tryz.func131, Tryz.ntmps131
  go_wp2
  go_ret
  exact ⟨rfl, rfl⟩
end
section
open Go.RowKit Go.Shelf
attribute [local go_sem] Oper.semAt_some
def sufs (l : List It) (k : Nat) : List Nat := encs (l.drop (l.length - k))
theorem sufs_zero (l : List It) : sufs l 0 = [] := by unfold sufs; rw [Nat.sub_zero, List.drop_length]; simp [encs]
theorem sufs_all (l : List It) : sufs l l.length = encs l := by unfold sufs; rw [Nat.sub_self, List.drop_zero]
theorem sufs_succ (l : List It) (k : Nat) (h : l.length - 1 - k < l.length) (hk : k < l.length) : sufs l (k + 1) = enc (l[l.length - 1 - k]'h) ++ sufs l k := by
  unfold sufs
  rw [show l.length - (k + 1) = l.length - 1 - k by omega, List.drop_eq_getElem_cons h, encs, show l.length - 1 - k + 1 = l.length - k by omega]
theorem sufs_le (l : List It) (k : Nat) : (sufs l k).length ≤ (encs l).length := by
  unfold sufs
  have := congrArg List.length (congrArg encs (List.take_append_drop (l.length - k) l))
  rw [encs_append, List.length_append] at this
  omega
def PutOK (k : Nat) : Prop := ∀ (b n n0 : Nat) (v : Value) (it : It) (t : TypeId) (f : Nat → Nat) (w : World), PcV [b] w k v it → Blk w b t (bc n0 f) → (enc it).length ≤ n → n ≤ n0 → n0 ≤ 100000000 →
  Calls Tryz.prog 104 #[.slice (some ⟨b, 0, none⟩) n n0, v] w (PutPost b n n0 t f w (enc it))
def PutI (b n n0 : Nat) (t : TypeId) (f : Nat → Nat) (l : List It) (w : World) (k : Nat) (W : World) : Prop :=
  k ≤ l.length ∧ ∃ L, Hid (L + (sufs l k).length = n) ∧ Tch [b] w W ∧ Blk W b t (bc n0 (wr f L (sufs l k))) ∧ Blk W w.heap.size 26 #[.slice (some ⟨b, 0, none⟩) L n0]
theorem PutI.below {b n n0 : Nat} {t : TypeId} {f : Nat → Nat} {l : List It} {w : World} {k B : Nat} {W W' : World} (h : PutI b n n0 t f l w k W) (hB : Below B W W') (hb : b < B) (hw : w.heap.size < B) : PutI b n n0 t f l w k W' := by
  obtain ⟨h0, L, h1, h2, h3, h4⟩ := h
  exact ⟨h0, L, h1, ⟨hB.os.trans h2.os, hB.tape.trans h2.tape, hB.output.trans h2.output, Nat.le_trans h2.size hB.size, fun i hi hx => (hB.block i (by omega)).trans (h2.block i hi hx)⟩, h3.below hB hb, h4.below hB hw⟩
set_option maxHeartbeats 2000000 in
set_option maxRecDepth 100000 in
theorem put_list (k : Nat) (ih : PutOK k) (b n n0 c bl off : Nat) (p : Option Addr) (l : List It) (vs : Nat → Value) (t : TypeId) (f : Nat → Nat) (w : World) (hp : 0 < l.length → p = some ⟨bl, off, none⟩) (hbl : 0 < l.length → bl < w.heap.size ∧ bl ≠ b)
    (hcell : ∀ j (h : j < l.length), w.cell? ⟨bl, off + j, none⟩ = some (vs j) ∧ PcV [b] w k (vs j) l[j]) (hB : Blk w b t (bc n0 f)) (hn : (enc (.lst l)).length ≤ n) (hn0 : n ≤ n0) (hm : n0 ≤ 100000000) :
    Calls Tryz.prog 104 #[.slice (some ⟨b, 0, none⟩) n n0, .iface 240 (.slice p l.length c)] w (PutPost b n n0 t f w (enc (.lst l))) := by
  have hb := hB.lt
  have k1 := taLS
  have k2 := taLT
  have k3 := taLL
  refine (callsIn_wide (n := 3)).1 ?_
  refine callsIn_of_wp_marks Tryz.func104 rfl trivial ?_ rfl
  simp only [Tryz.ntmps104, List.size_toArray, List.length_cons, List.length_nil, Nat.reduceAdd, Nat.reduceSub, Array.replicate_succ, Array.replicate_zero, List.push_toArray, List.append_toArray, List.nil_append, List.cons_append]
  gi_wp2_with (refine ⟨trivial, ?_⟩; gi_at_call 131; refine (callsIn_wide.2 (backward_any _ _ _ _)).mono ?_; rintro e w' ⟨rfl, rfl⟩)
  have hS0 : Tch [b] w ((w.alloc (.cells #[.slice (some ⟨b, 0, none⟩) n n0] 26)).alloc (.cells #[.slice p l.length c] 240)) := ((Tch.refl _ _).alloc _).alloc _
  have hF0 := (Blk.new w 26 #[.slice (some ⟨b, 0, none⟩) n n0]).alloc (.cells #[.slice p l.length c] 240)
  have hBs := Blk.new (w.alloc (.cells #[.slice (some ⟨b, 0, none⟩) n n0] 26)) 240 #[.slice p l.length c]
  have hB0 : Blk ((w.alloc (.cells #[.slice (some ⟨b, 0, none⟩) n n0] 26)).alloc (.cells #[.slice p l.length c] 240)) b t (bc n0 f) := (hB.alloc _).alloc _
  have hz : ((w.alloc (.cells #[.slice (some ⟨b, 0, none⟩) n n0] 26)).alloc (.cells #[.slice p l.length c] 240)).heap.size = w.heap.size + 2 := by simp
  rw [World.size_alloc] at hBs
  obtain ⟨wB, hwB⟩ : ∃ wB, (w.alloc (.cells #[.slice (some ⟨b, 0, none⟩) n n0] 26)).alloc (.cells #[.slice p l.length c] 240) = wB := ⟨_, rfl⟩
  rw [hwB] at hS0 hF0 hBs hB0 hz ⊢
  have hI0 : PutI b n n0 t f l w 0 wB := ⟨Nat.zero_le _, n, hQz (by rw [sufs_zero]; rfl), hS0, by rw [sufs_zero, wr_nil]; exact hB0, hF0⟩
  have hlen : l.length ≤ 100000000 := by
    have := encs_len l
    rw [enc_lst, List.length_append] at hn
    omega
  refine range_count (gf := 145) (lb := #[.pointer (some ⟨w.heap.size + 1, 0, none⟩)]) [b, w.heap.size] rfl (enters_of Tryz.func145 (by kernel_rfl) rfl) l.length (enBack vs l.length) (fun _ => rfl)
    (fun l' J W hW hY h0 => bwd1_in _ (by omega) l' (w.heap.size + 1) wB.heap.size bl off l.length c [b, w.heap.size] p vs hlen hp (fun h => ⟨by have := (hbl h).1; omega, by have := (hbl h).1; have := (hbl h).2; simp; omega⟩) ⟨by omega, by simp; omega⟩ J hY W ((hW.cell (p := ⟨w.heap.size + 1, 0, none⟩) (by simp; omega)).trans (hBs.cell rfl)) (fun j hj => (hW.cell (p := ⟨bl, off + j, none⟩) (by have := (hbl (by omega)).1; simp; omega)).trans ((hS0.cell (p := ⟨bl, off + j, none⟩) (hbl (by omega)).1 (by simpa using (hbl (by omega)).2)).trans (hcell j hj).1)) h0)
    (PutI b n n0 t f l w) (fun k W W' h hB => h.below hB (by omega) (by omega)) hI0 (fun k => { tmps := #[.slice (some ⟨b, 0, none⟩) n n0, .iface 240 (.slice p l.length c), undef, undef, .slice none 0 0, .pointer (some ⟨w.heap.size, 0, none⟩), undef, undef, .slice p l.length c, undef, vs (l.length - 1 - k), .slice (some ⟨b, 0, none⟩) n n0, .iface 240 (.slice p l.length c), .tuple #[.int .u8 0, .bool false], .bool false, .int .u8 0, undef, undef, undef, .tuple #[.slice none 0 0, .bool false], .bool false, .slice none 0 0, undef, undef, undef, undef, undef, undef, undef, undef, undef, undef, undef, undef, undef, undef, undef, undef, undef, .tuple #[.slice p l.length c, .bool true], .bool true, .slice p l.length c, .slice p l.length c, .func (.func 145) #[] #[.pointer (some ⟨w.heap.size + 1, 0, none⟩)], .int .i64 ((l.length - 1 - k : Nat) : Int), vs (l.length - 1 - k), undef, undef, undef, undef, undef, undef, undef, undef, undef, undef, undef], defers := [] }) ?assign ?body ?done
  case assign =>
    intro l' k W K hK
    gi_wp2
    exact hK
  case body =>
    rintro l' j W hj ⟨_, L, hL, hT, hBW, hFW⟩ hsz
    obtain ⟨i, hii, hi⟩ : ∃ i, i = l.length - 1 - j ∧ i < l.length := ⟨_, rfl, by omega⟩
    have hsuf : sufs l (j + 1) = enc (l[i]'hi) ++ sufs l j := by subst hii; exact sufs_succ l j hi hj
    dsimp only
    rw [← hii]
    have hle := sufs_le l (j + 1)
    have hfit : (enc (l[i]'hi)).length ≤ L := by
      rw [hsuf, List.length_append] at hle
      rw [enc_lst, List.length_append] at hn
      have := hL.out
      omega
    have hcall := ih b L n0 (vs i) (l[i]'hi) t (wr f L (sufs l j)) W ((hcell i hi).2.tch hT) hBW hfit (by have := hL.out; omega) hm
    have hc := hFW.cell (j := 0) rfl
    have hf := hFW.free 0
    have HH := hQz (And.intro hsuf (And.intro hfit (And.intro hL.out (And.intro hcell hii))))
    clear hsuf hfit hcell hle hii
    gi_wp2_with (refine ⟨trivial, ?_⟩; gi_at_call 104; refine (CallsIn.inRound l' (callsIn_wide.2 hcall)).mono ?_; rintro e w4 hpp; obtain rfl := hpp.1; have hFW4 := hpp.2.1.blk hFW (by simp; omega); replace hc := hFW4.cell (j := 0) rfl; replace hf := hFW4.free 0)
    have hO : Only w.heap.size w4 (w4.setCell ⟨w.heap.size, 0, none⟩ (.slice (some ⟨b, 0, none⟩) (L - (enc (l[i]'hi)).length) n0)) := Only.setCell _ ⟨w.heap.size, 0, none⟩ _
    have hT2 : Tch [b, w.heap.size] W (w4.setCell ⟨w.heap.size, 0, none⟩ (.slice (some ⟨b, 0, none⟩) (L - (enc (l[i]'hi)).length) n0)) := (hpp.2.1.mono (by simp)).only hO (.inr (by simp))
    refine ⟨blk_others hT2 (fun x hx => ?_), ⟨hT2.size, fun q hq hx => hT2.block q (by omega) hx⟩, by omega, L - (enc (l[i]'hi)).length, hQz ?_, ?_, ?_, ?_⟩
    · simp at hx
      rcases hx with rfl | rfl
      · exact ⟨_, _, hBW⟩
      · exact ⟨_, _, hFW⟩
    · rw [HH.out.1, List.length_append]; have := HH.out.2.1; have := HH.out.2.2.1; omega
    · exact (hT.trans hpp.2.1).only hO (.inl (Nat.le_refl _))
    · have h4 := hpp.2.2
      have h5 := wr_wr f (L - (enc (l[i]'hi)).length) (enc (l[i]'hi)) (sufs l j)
      rw [Nat.sub_add_cancel HH.out.2.1] at h5
      rw [h5, ← HH.out.1] at h4
      exact h4.far (p := ⟨w.heap.size, 0, none⟩) (by simp; omega) _
    · exact hFW4.set 0 _
  case done =>
    rintro D W hD ⟨_, L, hL, hT, hBW, hFW⟩ hK
    rw [sufs_all] at hL hBW
    have hne : D ≠ w.heap.size ∧ D ≠ b := by omega
    have hl := enc_lst l
    have hll := congrArg List.length hl
    rw [List.length_append, hd_length] at hll
    have hh : hsz (encs l).length ≤ L := by have := hL.out; omega
    have hcall := putHead_any b L n0 192 (encs l).length t _ W hh (by have := hL.out; omega) hm (by have := hL.out; omega) (by omega) hBW
    have hc := hFW.cell (j := 0) rfl
    have hf := hFW.free 0
    have hLn : (n : Int) - (L : Int) = ((encs l).length : Int) := by have := hL.out; omega
    have HH := hQz (And.intro hL.out (And.intro hl hh))
    clear hl hll hh
    generalize hM : encs l = M at *
    gi_wp2_with (refine ⟨trivial, ?_⟩; gi_at_call 130; refine (callsIn_wide.2 hcall).mono ?_; rintro e w4 hpp; obtain rfl := hpp.1; have hFW4 := hpp.2.1.blk hFW (by simp; omega); replace hc := hFW4.cell (j := 0) rfl; replace hf := hFW4.free 0)
    have hDW : D < W.heap.size := (Array.getElem?_eq_some_iff.1 hK).1
    have hO : Only w.heap.size w4 (w4.setCell ⟨w.heap.size, 0, none⟩ (.slice (some ⟨b, 0, none⟩) (L - (hd 192 M.length).length) n0)) := Only.setCell _ ⟨w.heap.size, 0, none⟩ _
    have hK4 : (w4.setCell ⟨w.heap.size, 0, none⟩ (.slice (some ⟨b, 0, none⟩) (L - (hd 192 M.length).length) n0)).heap[D]? = some (.deferred (some [])) :=
      (hO.block D hne.1).trans ((hpp.2.1.block D hDW (by simpa using hne.2)).trans hK)
    have hfin : PutPost b n n0 t f w (enc (.lst l)) (.returned (.slice (some ⟨b, 0, none⟩) (L - (hd 192 M.length).length) n0)) ((w4.setCell ⟨w.heap.size, 0, none⟩ (.slice (some ⟨b, 0, none⟩) (L - (hd 192 M.length).length) n0)).putObj D (.deferred none)) := by
      have e1 : n - (enc (.lst l)).length = L - (hd 192 M.length).length := by rw [HH.out.2.1, List.length_append]; have := HH.out.1; omega
      have hBel := belowK_b (n₀ := wB.heap.size) (w := wB) (Nat.le_refl _) _ D _ (.deferred none) hD hK4 rfl rfl
      have hT5 := (hT.trans hpp.2.1).only hO (.inl (Nat.le_refl _))
      refine ⟨by rw [e1], ⟨hBel.os.trans hT5.os, hBel.tape.trans hT5.tape, hBel.output.trans hT5.output, Nat.le_trans hT5.size hBel.size, fun q hq hx => (hBel.block q (by omega)).trans (hT5.block q hq hx)⟩, ?_⟩
      rw [e1, HH.out.2.1]
      have h4 := hpp.2.2
      have h5 := wr_wr f (L - (hd 192 M.length).length) (hd 192 M.length) M
      rw [Nat.sub_add_cancel (by rw [hd_length]; exact HH.out.2.2)] at h5
      rw [h5] at h4
      exact (h4.far (p := ⟨w.heap.size, 0, none⟩) (by simp; omega) _).below hBel (by omega)
    refine ⟨by simp, .inl ⟨_, _, rfl, run_takeDeferred hK4, ?_⟩⟩
    refine ⟨_, results_tmp (show Tryz.f104.results = #[.tmp 4] from rfl) _ _ _, ?_⟩
    exact hfin
theorem put_any : ∀ k, PutOK k
  | 0 => fun b n n0 v it t f w h => h.elim
  | k + 1 => fun b n n0 v it t f w h hB hn hn0 hm => by
    cases it with
    | str l =>
      unfold PcV at h
      rw [enc_str] at hn ⊢
      by_cases hs : single l = true
      · rw [if_pos hs] at h
        subst h
        obtain ⟨h1, h2⟩ := single_one hs
        have e : encS l = [l.getD 0 0] := by unfold encS; rw [if_pos hs]; exact h1
        rw [e] at hn ⊢
        exact put_single b n n0 _ t f w (by simp at hn; omega) hn0 hm h2 hB
      · rw [if_neg hs] at h
        obtain ⟨s, rfl, hv⟩ := h
        have e : encS l = hd 128 l.length ++ l := by unfold encS; rw [if_neg hs]
        rw [e] at hn ⊢
        rw [List.length_append, hd_length] at hn
        exact put_text b n n0 s l t f w hn hn0 hm hv hB
    | lst l =>
      unfold PcV at h
      obtain ⟨p, c, rfl, hc, h⟩ := h
      by_cases hl : l = []
      · subst hl
        exact put_list k (put_any k) b n n0 c 0 0 p [] (fun _ => undef) t f w (fun h => absurd h (by simp)) (fun h => absurd h (by simp)) (fun j h => absurd h (by simp)) hB hn hn0 hm
      · obtain ⟨bl, off, rfl, h1, h2, h3⟩ := h hl
        refine put_list k (put_any k) b n n0 c bl off _ l (fun j => (w.cell? ⟨bl, off + j, none⟩).getD undef) t f w (fun _ => rfl) (fun _ => ⟨h1, by simpa using h2⟩) (fun j hj => ?_) hB hn hn0 hm
        obtain ⟨u, h4, h5⟩ := h3 j hj
        exact ⟨by rw [h4]; rfl, by rw [h4]; exact h5⟩
end
section
open Go.RowKit
def ItC (X : List Nat) (w : World) : Nat → Value → Value → Value → It → Prop
  | 0, _, _, _, _ => False
  | _ + 1, x0, vb, _, .str l => x0 = .bool false ∧ RdA X w vb l ∧ l.length < 4611686018427387904
  | k + 1, x0, _, vl, .lst l => x0 = .bool true ∧ ∃ p c, vl = .slice p l.length c ∧ (l.length ≤ c ∧ l.length < 4611686018427387904) ∧ (l ≠ [] → ∃ b o, p = some ⟨b, o, none⟩ ∧ b < w.heap.size ∧ b ∉ X ∧ ∀ i (h : i < l.length), ∃ y0 yb yl, w.cell? ⟨b, o + i * 3, none⟩ = some y0 ∧ w.cell? ⟨b, o + i * 3 + 1, none⟩ = some yb ∧ w.cell? ⟨b, o + i * 3 + 2, none⟩ = some yl ∧ ItC X w k y0 yb yl l[i])
theorem ItC.tch {X : List Nat} {w w' : World} (hT : Tch X w w') : ∀ {k : Nat} {x y z : Value} {t : It}, ItC X w k x y z t → ItC X w' k x y z t
  | 0, _, _, _, _, h => h.elim
  | _ + 1, _, _, _, .str l, h => by unfold ItC at h ⊢; exact ⟨h.1, h.2.1.tch hT, h.2.2⟩
  | k + 1, _, _, _, .lst l, h => by
    unfold ItC at h ⊢
    obtain ⟨h0, p, c, h1, h2, h3⟩ := h
    refine ⟨h0, p, c, h1, h2, fun hl => ?_⟩
    obtain ⟨b, o, h4, h5, h6, h7⟩ := h3 hl
    refine ⟨b, o, h4, Nat.lt_of_lt_of_le h5 hT.size, h6, fun i hi => ?_⟩
    obtain ⟨y0, yb, yl, h8, h9, h10, h11⟩ := h7 i hi
    exact ⟨y0, yb, yl, by rw [hT.cell (p := ⟨b, o + i * 3, none⟩) h5 h6]; exact h8, by rw [hT.cell (p := ⟨b, o + i * 3 + 1, none⟩) h5 h6]; exact h9, by rw [hT.cell (p := ⟨b, o + i * 3 + 2, none⟩) h5 h6]; exact h10, ItC.tch hT h11⟩
theorem ItC.mono {X Y : List Nat} {w : World} (hX : ∀ y ∈ Y, y ∈ X ∨ w.heap.size ≤ y) : ∀ {k : Nat} {x y z : Value} {t : It}, ItC X w k x y z t → ItC Y w k x y z t
  | 0, _, _, _, _, h => h.elim
  | _ + 1, _, _, _, .str l, h => by unfold ItC at h ⊢; exact ⟨h.1, h.2.1.mono hX, h.2.2⟩
  | k + 1, _, _, _, .lst l, h => by
    unfold ItC at h ⊢
    obtain ⟨h0, p, c, h1, h2, h3⟩ := h
    refine ⟨h0, p, c, h1, h2, fun hl => ?_⟩
    obtain ⟨b, o, h4, h5, h6, h7⟩ := h3 hl
    refine ⟨b, o, h4, h5, fun hm => (hX _ hm).elim h6 (fun h => by omega), fun i hi => ?_⟩
    obtain ⟨y0, yb, yl, h8, h9, h10, h11⟩ := h7 i hi
    exact ⟨y0, yb, yl, h8, h9, h10, ItC.mono hX h11⟩
theorem ItC.up {X : List Nat} {w : World} : ∀ {k j : Nat} {x y z : Value} {t : It}, k ≤ j → ItC X w k x y z t → ItC X w j x y z t
  | 0, _, _, _, _, _, _, h => h.elim
  | _ + 1, 0, _, _, _, _, hj, _ => by omega
  | _ + 1, _ + 1, _, _, _, .str l, _, h => by unfold ItC at h ⊢; exact h
  | k + 1, j + 1, _, _, _, .lst l, hj, h => by
    unfold ItC at h ⊢
    obtain ⟨h0, p, c, h1, h2, h3⟩ := h
    refine ⟨h0, p, c, h1, h2, fun hl => ?_⟩
    obtain ⟨b, o, h4, h5, h6, h7⟩ := h3 hl
    refine ⟨b, o, h4, h5, h6, fun i hi => ?_⟩
    obtain ⟨y0, yb, yl, h8, h9, h10, h11⟩ := h7 i hi
    exact ⟨y0, yb, yl, h8, h9, h10, ItC.up (by omega) h11⟩
def GrowPost (X : List Nat) (g : Nat) (t : TypeId) (r j k : Nat) (it : It) (w : World) (e : Ending) (w' : World) : Prop :=
  Tch [g] w w' ∧ if dep it ≤ j ∧ (enc it).length ≤ r then ∃ v, e = .returned (.tuple #[v, .bool true]) ∧ PcV X w' k v it ∧ Blk w' g t (gro ((r - (enc it).length : Nat) : Int)) else ∃ v, e = .returned (.tuple #[v, .bool false])
theorem growpost_yes {X : List Nat} {g : Nat} {t : TypeId} {r j k : Nat} {it : It} {w w' : World} {v : Value} {x : Int} (hT : Tch [g] w w') (h : dep it ≤ j ∧ (enc it).length ≤ r) (hv : PcV X w' k v it) (hB : Blk w' g t (gro x)) (hx : x = ((r - (enc it).length : Nat) : Int)) :
    GrowPost X g t r j k it w (.returned (.tuple #[v, .bool true])) w' := ⟨hT, by rw [if_pos h]; exact ⟨v, rfl, hv, by rw [← hx]; exact hB⟩⟩
theorem growpost_no {X : List Nat} {g : Nat} {t : TypeId} {r j k : Nat} {it : It} {w w' : World} {v : Value} (hT : Tch [g] w w') (h : ¬ (dep it ≤ j ∧ (enc it).length ≤ r)) :
    GrowPost X g t r j k it w (.returned (.tuple #[v, .bool false])) w' := ⟨hT, by rw [if_neg h]; exact ⟨v, rfl⟩⟩
theorem growpost_dec {X : List Nat} {g : Nat} {t : TypeId} {r j k m : Nat} {it : It} {w w2 : World} {v : Value} {x : Int} {d : Bool} (hT : Tch [g] w.drew w2) (hd : dep it ≤ j) (he : (enc it).length = m) (hv : Tch [g] w w2 → PcV X w2 k v it) (hB : Blk w2 g t (gro x)) (hx : x = (r : Int) - m) (hdd : d = decide ((m : Int) ≤ (r : Int))) :
    GrowPost X g t r j k it w (.returned (.tuple #[v, .bool d])) w2 := by
  have hT2 : Tch [g] w w2 := ⟨hT.os, hT.tape, hT.output, hT.size, hT.block⟩
  subst hdd
  by_cases h : m ≤ r
  · rw [decide_eq_true (show (m : Int) ≤ (r : Int) by omega)]
    exact growpost_yes hT2 ⟨hd, by omega⟩ (hv hT2) hB (by omega)
  · rw [decide_eq_false (show ¬ (m : Int) ≤ (r : Int) by omega)]
    exact growpost_no hT2 (by omega)
theorem mkS (v : Value) (w : World) : (Instr.makeInterface 234 v).run Tryz.prog w = .ok (.iface 234 v) w := by kernel_rfl
theorem mkT (v : Value) (w : World) : (Instr.makeInterface 235 v).run Tryz.prog w = .ok (.iface 235 v) w := by kernel_rfl
theorem mkL (v : Value) (w : World) : (Instr.makeInterface 240 v).run Tryz.prog w = .ok (.iface 240 v) w := by kernel_rfl
set_option maxHeartbeats 2000000 in
set_option maxRecDepth 100000 in
theorem grow_one (X : List Nat) (g r j b o bb ob c x : Nat) (t : TypeId) (nested : Int) (w : World) (hg : g ∈ X) (hr : r ≤ 16777216) (hx : x < 128) (hbX : b ∉ X) (hb : b < w.heap.size) (hbb : bb < w.heap.size) (hbbX : bb ∉ X) (hG : Blk w g t (gro r))
    (h0 : w.cell? ⟨b, o, none⟩ = some (.bool false)) (h1 : w.cell? ⟨b, o + 1, none⟩ = some (.slice (some ⟨bb, ob, none⟩) 1 c)) (h2 : w.cell? ⟨bb, ob, none⟩ = some (.int .u8 (x : Int))) :
    Calls Tryz.prog 103 #[.pointer (some ⟨g, 0, none⟩), .pointer (some ⟨b, o, none⟩), .int .i64 nested] w (GrowPost X g t r j 1 (.str [x]) w) := by
  have hgb : b ≠ g := fun e => hbX (e ▸ hg)
  have hgbb : bb ≠ g := fun e => hbbX (e ▸ hg)
  have hmk := mkS
  have hsp := fun (w1 : World) (hB : Blk w1 g t (gro r)) => spend_any g r 1 t w1 (by omega) (by omega) hB
  have HS := hQz hsp
  have HG := hQz hG
  clear hsp hG
  have hx128 : (x : Int) < 128 := by omega
  go_enter Tryz.func103, Tryz.ntmps103
  go_wp2
  go_region_held3 (fun w' => w'.cell? ⟨b, o + 1, none⟩ = some (.slice (some ⟨bb, ob, none⟩) 1 c) ∧ w'.cell? ⟨bb, ob, none⟩ = some (.int .u8 (x : Int)))
    (first
      | go_keep
      | (go_split_ands
         refine ⟨?_, ?_⟩
         · (rw [hT.cell (p := ⟨b, o + 1, none⟩) hb (by simpa using hgb)]; assumption)
         · (rw [hT.cell (p := ⟨bb, ob, none⟩) hbb (by simpa using hgbb)]; assumption)))
    (first | (go_at_call 127; refine (HS.out _ HG.out.drew).mono ?_; rintro e w2 ⟨rfl, hT, hG2⟩))
  go_wp2
  go_ret2
  have e1 : (enc (.str [x])).length = 1 := by rw [enc_str]; unfold encS single; rw [if_pos (by simpa using hx)]; rfl
  have hT2 : Tch [g] w w2 := ⟨hT.os, hT.tape, hT.output, hT.size, hT.block⟩
  by_cases h : 1 ≤ r
  · rw [decide_eq_true (show (1 : Int) ≤ (r : Int) by omega)]
    refine growpost_yes hT2 ⟨by rw [dep_str]; omega, by rw [e1]; exact h⟩ ?_ hG2 (by rw [e1]; omega)
    unfold PcV
    rw [if_pos (by simpa [single] using hx)]; rfl
  · rw [decide_eq_false (show ¬ (1 : Int) ≤ (r : Int) by omega)]
    exact growpost_no hT2 (by rw [e1]; omega)
set_option maxHeartbeats 2000000 in
set_option maxRecDepth 100000 in
theorem grow_text (X : List Nat) (g r j b o c : Nat) (p : Option Addr) (l : List Nat) (t : TypeId) (nested : Int) (w : World) (hg : g ∈ X) (hr : r ≤ 16777216) (hbX : b ∉ X) (hb : b < w.heap.size) (hG : Blk w g t (gro r))
    (h0 : w.cell? ⟨b, o, none⟩ = some (.bool false)) (h1 : w.cell? ⟨b, o + 1, none⟩ = some (.slice p l.length c)) (hl : l.length < 4611686018427387904) (hv : RdA X w (.slice p l.length c) l)
    (hne : l.length ≠ 1) (hs1 : single l = false) :
    Calls Tryz.prog 103 #[.pointer (some ⟨g, 0, none⟩), .pointer (some ⟨b, o, none⟩), .int .i64 nested] w (GrowPost X g t r j 1 (.str l) w) := by
  have hgb : b ≠ g := fun e => hbX (e ▸ hg)
  have hmk := mkT
  have e1 : (enc (.str l)).length = hsz l.length + l.length := by rw [enc_str]; unfold encS; rw [if_neg (by rw [hs1]; decide), List.length_append, hd_length]
  have hpc : ∀ w2, Tch [g] w w2 → PcV X w2 1 (.iface 235 (.slice p l.length c)) (.str l) := fun w2 hT => by
    unfold PcV; rw [if_neg (by rw [hs1]; decide)]
    exact ⟨_, rfl, hv.tch (hT.mono (fun x hx => .inl (by simp at hx; rw [hx]; exact hg)))⟩
  have hdx : dep (.str l) ≤ j := by rw [dep_str]; omega
  have HP := hQz (And.intro hpc (And.intro e1 hdx))
  have HG := hQz hG
  clear hG hpc e1 hv hs1 hdx
  by_cases hn : l.length ≤ 16777216
  · have hz5 := hsz_le (n := l.length) (by omega)
    have hd : decide ((l.length : Int) ≤ 16777216) = true := decide_eq_true (by omega)
    have hsp := fun (w1 : World) (hB : Blk w1 g t (gro r)) => spend_any g r (hsz l.length + l.length) t w1 (by omega) (by omega) hB
    have hhs := fun (w1 : World) => headSize_any l.length w1 (by omega)
    generalize hH : hsz l.length = H at *
    rw [show (((H + l.length : Nat)) : Int) = (H : Int) + (l.length : Int) by omega] at hsp
    have hsum : IntKind.i64.wrap ((H : Int) + (l.length : Int)) = (H : Int) + (l.length : Int) := IntWalk.i64_in _ (by omega)
    have HS := hQz hsp
    have HH := hQz hhs
    clear hsp hhs
    · have hne' : ¬ (l.length : Int) = 1 := by omega
      go_enter Tryz.func103, Tryz.ntmps103
      go_wp2
      go_region_held3 (fun w' => w'.cell? ⟨b, o + 1, none⟩ = some (.slice p l.length c))
        (first
          | go_keep
          | (rw [hT.cell (p := ⟨b, o + 1, none⟩) hb (by simpa using hgb)]; assumption))
        (first
          | (go_at_call 128; refine (HH.out _).mono ?_; rintro e w' ⟨rfl, rfl⟩)
          | (go_at_call 127; refine (HS.out _ HG.out.drew).mono ?_; rintro e w2 ⟨rfl, hT, hG2⟩))
      go_wp2
      go_ret2
      exact growpost_dec hT HP.out.2.2 HP.out.2.1 (HP.out.1 _) hG2 (by omega) (by first | rfl | (congr 1; simp; done) | (apply decide_eq_decide.2; simp))
  · have hd : decide ((l.length : Int) ≤ 16777216) = false := decide_eq_false (by omega)
    · have hne' : ¬ (l.length : Int) = 1 := by omega
      go_enter Tryz.func103, Tryz.ntmps103
      go_wp2
      go_quiet (fail)
      go_wp2
      go_ret2
      exact growpost_no ((Tch.refl _ _).drewN _) (by have := HP.out.2.1; omega)
set_option maxHeartbeats 2000000 in
set_option maxRecDepth 100000 in
theorem grow_two (X : List Nat) (g r j b o bb ob c x : Nat) (t : TypeId) (nested : Int) (w : World) (hg : g ∈ X) (hr : r ≤ 16777216) (hx : 128 ≤ x) (hbX : b ∉ X) (hb : b < w.heap.size) (hG : Blk w g t (gro r))
    (h0 : w.cell? ⟨b, o, none⟩ = some (.bool false)) (h1 : w.cell? ⟨b, o + 1, none⟩ = some (.slice (some ⟨bb, ob, none⟩) 1 c)) (h2 : w.cell? ⟨bb, ob, none⟩ = some (.int .u8 (x : Int))) (hv : RdA X w (.slice (some ⟨bb, ob, none⟩) 1 c) [x]) :
    Calls Tryz.prog 103 #[.pointer (some ⟨g, 0, none⟩), .pointer (some ⟨b, o, none⟩), .int .i64 nested] w (GrowPost X g t r j 1 (.str [x]) w) := by
  have hgb : b ≠ g := fun e => hbX (e ▸ hg)
  have hmk := mkT
  have hs1 : single [x] = false := by simp [single]; omega
  have e1 : (enc (.str [x])).length = 2 := by rw [enc_str]; unfold encS; rw [if_neg (by rw [hs1]; decide), List.length_append, hd_length]; rfl
  have hpc : ∀ w2, Tch [g] w w2 → PcV X w2 1 (.iface 235 (.slice (some ⟨bb, ob, none⟩) 1 c)) (.str [x]) := fun w2 hT => by
    unfold PcV; rw [if_neg (by rw [hs1]; decide)]
    exact ⟨_, rfl, hv.tch (hT.mono (fun x hx => .inl (by simp at hx; rw [hx]; exact hg)))⟩
  have HP := hQz (And.intro hpc (And.intro e1 (show dep (.str [x]) ≤ j by rw [dep_str]; omega)))
  have HG := hQz hG
  clear hG hpc e1 hv hs1
  have hsp := fun (w1 : World) (hB : Blk w1 g t (gro r)) => spend_any g r 2 t w1 (by omega) (by omega) hB
  have hhs := fun (w1 : World) => headSize_any 1 w1 (by omega)
  have HS := hQz hsp
  have HH := hQz hhs
  clear hsp hhs
  have hx' : ¬ (x : Int) < 128 := by omega
  go_enter Tryz.func103, Tryz.ntmps103
  go_wp2
  go_region_held3 (fun w' => w'.cell? ⟨b, o + 1, none⟩ = some (.slice (some ⟨bb, ob, none⟩) 1 c))
    (first
      | go_keep
      | (rw [hT.cell (p := ⟨b, o + 1, none⟩) hb (by simpa using hgb)]; assumption))
    (first
      | (go_at_call 128; refine (HH.out _).mono ?_; rintro e w' ⟨rfl, rfl⟩)
      | (go_at_call 127; refine (HS.out _ HG.out.drew).mono ?_; rintro e w2 ⟨rfl, hT, hG2⟩))
  go_wp2
  go_ret2
  exact growpost_dec hT HP.out.2.2 HP.out.2.1 (HP.out.1 _) hG2 (by omega) (by first | rfl | (apply decide_eq_decide.2; simp))
theorem growpost_up {X : List Nat} {g : Nat} {t : TypeId} {r j k k' : Nat} {it : It} {w w' : World} {e : Ending} (hk : k ≤ k') (h : GrowPost X g t r j k it w e w') : GrowPost X g t r j k' it w e w' := by
  refine ⟨h.1, ?_⟩
  have := h.2
  split
  · rename_i hc; rw [if_pos hc] at this
    obtain ⟨v, h1, h2, h3⟩ := this
    exact ⟨v, h1, h2.up hk, h3⟩
  · rename_i hc; rw [if_neg hc] at this
    exact this
theorem grow_str (X : List Nat) (g r j b o : Nat) (vb : Value) (l : List Nat) (t : TypeId) (nested : Int) (w : World) (hg : g ∈ X) (hr : r ≤ 16777216) (hbX : b ∉ X) (hb : b < w.heap.size) (hG : Blk w g t (gro r))
    (h0 : w.cell? ⟨b, o, none⟩ = some (.bool false)) (h1 : w.cell? ⟨b, o + 1, none⟩ = some vb) (hl : l.length < 4611686018427387904) (hv : RdA X w vb l) :
    Calls Tryz.prog 103 #[.pointer (some ⟨g, 0, none⟩), .pointer (some ⟨b, o, none⟩), .int .i64 nested] w (GrowPost X g t r j 1 (.str l) w) := by
  obtain ⟨p, c, rfl, h2, h3, h4⟩ := id hv
  by_cases hl1 : l.length = 1
  · obtain ⟨x, rfl⟩ := List.length_eq_one_iff.1 hl1
    obtain ⟨bb, ob, rfl, h5, h6, h7⟩ := h4 (by simp)
    have h8 : w.cell? ⟨bb, ob, none⟩ = some (.int .u8 (x : Int)) := by have := h7 0 (by simp); simpa using this
    by_cases hx : x < 128
    · exact grow_one X g r j b o bb ob c x t nested w hg hr hx hbX hb h5 h6 hG h0 h1 h8
    · exact grow_two X g r j b o bb ob c x t nested w hg hr (by omega) hbX hb hG h0 h1 h8 hv
  · have hs : single l = false := by
      cases l with
      | nil => rfl
      | cons a q =>
        cases q with
        | nil => simp at hl1
        | cons _ _ => rfl
    exact grow_text X g r j b o c p l t nested w hg hr hbX hb hG h0 h1 hl hv hl1 hs
end
end Go.Proofs.YtopfmaoeebgjmaaGreatDoor
