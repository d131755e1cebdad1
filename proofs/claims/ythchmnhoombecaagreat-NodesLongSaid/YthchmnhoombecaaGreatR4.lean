/- slices.Backward over pieces, and what it hands on. -/
import Derived.Test.YthchmnhoombecaaGreatR3
import Derived.RangeFuncNested
import Derived.RangeFuncBound
import Derived.RangeFuncCalls
import Derived.RangeFuncLeaves
import Derived.Shelf.Abstract
import Derived.Shelf.RegionOpen
import Derived.OwnWalkIn
import Derived.TacticsInMore
import Derived.LoopNIn
import Derived.LoopIn
namespace Go.Proofs.YthchmnhoombecaaGreat
open Go.RowKit Go.Shelf
attribute [local go_sem] Oper.semAt_some

/-- What lay below n₀, but for the blocks of X, lies as it lay. -/
def KT (n₀ : Nat) (X : List Nat) (W W' : World) : Prop := W.heap.size ≤ W'.heap.size ∧ ∀ k, k < n₀ → k ∉ X → W'.heap[k]? = W.heap[k]?
theorem KT.refl (n₀ : Nat) (X : List Nat) (W : World) : KT n₀ X W W := ⟨Nat.le_refl _, fun _ _ _ => rfl⟩
theorem KT.trans {n₀ : Nat} {X : List Nat} {A B C : World} (h : KT n₀ X A B) (k : KT n₀ X B C) : KT n₀ X A C := ⟨Nat.le_trans h.1 k.1, fun i hi hx => (k.2 i hi hx).trans (h.2 i hi hx)⟩
theorem KT.cell {n₀ : Nat} {X : List Nat} {A B : World} (h : KT n₀ X A B) {p : Addr} (hp : p.block < n₀) (hx : p.block ∉ X) : B.cell? p = A.cell? p := World.cell?_of_block (w := A) (h.2 p.block hp hx)
theorem KT.b {n₀ : Nat} {X : List Nat} {w : World} (hn : n₀ ≤ w.heap.size) (W : World) (l : Nat) (o o' : Obj) (hl : w.heap.size ≤ l) (h : W.heap[l]? = some o) (h1 : o.isCells = false) (h2 : o.isWalk = false) : KT n₀ X W (W.putObj l o') := by
  have := belowK_b (n₀ := n₀) hn W l o o' hl h h1 h2
  exact ⟨this.size, fun k hk _ => this.block k hk⟩
theorem blk_others {bs : List Nat} {W W' : World} (hT : Tch bs W W') (hb : ∀ b ∈ bs, ∃ t c, Blk W b t c) : KeepsOthers W W' :=
  ⟨hT.size, fun k o hk ho => by
    refine (hT.block k (Array.getElem?_eq_some_iff.1 hk).1 fun hm => ?_).trans hk
    obtain ⟨t, c, h⟩ := hb k hm
    unfold Blk at h
    rw [hk] at h
    cases h
    simp [Obj.isCells] at ho⟩
/-- A range over a function that hands on N things, one after the other, its body never leaving early: what holds behind k rounds is told by k. -/
theorem range_count {P : Program} {n : Nat} {g : Operand} {ps : Array Tmp} {assign body : Code} {Q : Exit → Act → World → Prop} {a : Act} {w : World} {gf : Nat} {lb : Array Value} (X : List Nat) (hg : a.eval g = .func (.func gf) #[] lb) (eg : ∀ args w, (callFunc gf args).run P w = .ok (.enter gf args) w)
    (N : Nat) (en : Nat → Array Value) (hps : ∀ k, (en k).size = ps.size)
    (hseq : ∀ (l : Nat) (J : Nat → World → Prop) (W : World), Below w.heap.size w W →
      (∀ k W1, k < N → J k W1 → YieldAt Fence.wide (n - 1 - 1) P l (en k) W1 fun e W' => e = .returned (.bool true) ∧ J (k + 1) W' ∧ KT w.heap.size X W1 W') → J 0 W →
      CallsIn Fence.wide (n - 1) P gf (#[.func (.yield l) #[] #[]] ++ lb) W fun e W' => (∃ v, e = .returned v) ∧ J N W')
    (I : Nat → World → Prop) (hI : ∀ k W W', I k W → Below w.heap.size W W' → I k W') (h0 : I 0 w) (a₁ : Nat → Act)
    (hassign : ∀ (l k : Nat) (W : World) (K : Act → World → Prop), K (a₁ k) W →
      assign.wpIn (Fence.wide.inRound l) (n - 1 - 1) P (Exit.then K (fun _ _ _ => False)) { tmps := (ps.zip (en k)).foldl (fun t (p, v) => t.setIfInBounds p v) a.tmps, defers := [] } W)
    (hbody : ∀ (l k : Nat) (W : World), k < N → I k W → w.heap.size ≤ W.heap.size → body.wpIn (Fence.wide.inRound l) (n - 1 - 1) P (fun e _ W' => match e with | .normal => KeepsOthers W W' ∧ KT w.heap.size X W W' ∧ I (k + 1) W' | _ => False) (a₁ k) W)
    (hdone : ∀ (D : Nat) (W : World), w.heap.size ≤ D → I N W → W.heap[D]? = some (.deferred (some [])) → Q .normal { a with defers := { target := .collected D, args := #[] } :: a.defers } W) :
    (Code.rangeFunc g ps assign body).wpIn Fence.wide n P Q a w := by
  refine wpIn_rangeFunc fun fn _ => ?_
  let rc : LoopState → Loop := fun st => { state := st, pending := none, fn := fn, tmps := a.tmps, params := ps, assign := assign, body := body, defers := w.heap.size }
  let W1 := (w.alloc (.deferred (some []))).alloc (.loop (rc .ready))
  have hb1 : Below w.heap.size w W1 := ((Below.refl _ w).alloc (Nat.le_refl _) _).alloc (by simp) _
  have hL1 : W1.heap[w.heap.size + 1]? = some (.loop (rc .ready)) := by
    have := World.alloc_heap_new (w.alloc (.deferred (some []))) (.loop (rc .ready))
    rwa [World.size_alloc] at this
  have hD1 : W1.heap[w.heap.size]? = some (.deferred (some [])) := (Below.heap_alloc _ _ _ (by simp)).trans (World.alloc_heap_new w _)
  refine ⟨w.heap.size + 1, [{ target := .collected w.heap.size, args := #[] }], W1, { target := .fn (.func gf) lb, args := #[.func (.yield (w.heap.size + 1)) #[] #[]] }, W1, gf,
    #[.func (.yield (w.heap.size + 1)) #[] #[]] ++ lb, W1, run_enterLoop_outer _ _ _ _ _, ?_, fun _ _ => trivial, ?_, fun h => (by simp [Fence.wide] at h), ?_⟩
  · simp only [resolve, hg]; simp [go_sem]
  · simp [invoke, go_sem, eg]
  refine (hseq (w.heap.size + 1) (fun k W => I k W ∧ w.heap.size ≤ W.heap.size ∧ W.heap[w.heap.size + 1]? = some (.loop (rc .ready)) ∧ W.heap[w.heap.size]? = some (.deferred (some []))) W1 hb1 ?_ ⟨hI _ _ _ h0 hb1, hb1.size, hL1, hD1⟩).mono ?_
  · rintro k W hk ⟨hi, hs, hl, hd⟩
    have hlt : w.heap.size + 1 < W.heap.size := (Array.getElem?_eq_some_iff.1 hl).1
    refine ⟨fn, _, assign, body, run_yield (r := rc .ready) hl (hps k), roundIn_of_wpIn trivial (hassign _ k W _ ⟨_, run_beginRound hl rfl, ?_⟩)⟩
    have hB2 := belowK_b (n₀ := w.heap.size) (w := w) (Nat.le_refl _) W (w.heap.size + 1) _ (.loop (rc .busy)) (by omega) hl rfl rfl
    have hl2 : (W.putObj (w.heap.size + 1) (.loop (rc .busy))).heap[w.heap.size + 1]? = some (.loop (rc .busy)) := World.putObj_heap_same hlt
    have hd2 : (W.putObj (w.heap.size + 1) (.loop (rc .busy))).heap[w.heap.size]? = some (.deferred (some [])) := (World.putObj_heap_other (by omega)).trans hd
    refine wpIn_mono (hbody _ k _ hk (hI _ _ _ hi hB2) (Nat.le_trans hs hB2.size)) ?_
    intro e a3 W3 hp
    match e, hp with
    | .normal, ⟨hk3, hkp3, hi3⟩ =>
      have hl3 := hk3.same _ _ hl2 rfl
      have hd3 := hk3.same _ _ hd2 rfl
      have hB4 := belowK_b (n₀ := w.heap.size) (w := w) (Nat.le_refl _) W3 (w.heap.size + 1) _ (.loop (rc .ready)) (by omega) hl3 rfl rfl
      refine ⟨_, _, run_endRound none hl3, rfl, ⟨hI _ _ _ hi3 hB4, ?_, World.putObj_heap_same (Array.getElem?_eq_some_iff.1 hl3).1, (World.putObj_heap_other (by omega)).trans hd3⟩, ?_⟩
      · exact Nat.le_trans hs (Nat.le_trans hB2.size (Nat.le_trans hkp3.1 hB4.size))
      · exact ((KT.b (Nat.le_refl _) W _ _ _ (by omega) hl rfl rfl).trans hkp3).trans (KT.b (Nat.le_refl _) W3 _ _ _ (by omega) hl3 rfl rfl)
  · rintro e W2 ⟨⟨v, rfl⟩, hi, hs, hl, hd⟩
    have hB4 := belowK_b (n₀ := w.heap.size) (w := w) (Nat.le_refl _) W2 (w.heap.size + 1) _ (.loop { rc .ready with state := .exhausted }) (by omega) hl rfl rfl
    exact ⟨none, _, run_endLoop hl (by simp [rc]), hdone _ _ (Nat.le_refl _) (hI _ _ _ hi hB4) ((World.putObj_heap_other (by omega)).trans hd)⟩
abbrev enBack (vs : Nat → Value) (len k : Nat) : Array Value := #[.int .i64 ((len - 1 - k : Nat) : Int), vs (len - 1 - k)]
set_option maxRecDepth 100000 in
set_option maxHeartbeats 2000000 in
theorem bwd1_in (n : Nat) (hn : 1 ≤ n) (l Bs n₀ b off len cap : Nat) (X : List Nat) (p : Option Addr) (vs : Nat → Value) (hreach : len ≤ 100000000) (hp : 0 < len → p = some ⟨b, off, none⟩) (hb : 0 < len → b < n₀ ∧ b ∉ X) (hBs0 : Bs < n₀ ∧ Bs ∉ X) (J : Nat → World → Prop)
    (hY : ∀ k W, k < len → J k W → YieldAt Fence.wide (n - 1) Tryz.prog l (enBack vs len k) W fun e W' => e = .returned (.bool true) ∧ J (k + 1) W' ∧ KT n₀ X W W')
    (W : World) (hBs : W.cell? ⟨Bs, 0, none⟩ = some (.slice p len cap)) (hc : ∀ j, j < len → W.cell? ⟨b, off + j, none⟩ = some (vs j)) (h0 : J 0 W) :
    CallsIn Fence.wide n Tryz.prog 129 #[.func (.yield l) #[] #[], .pointer (some ⟨Bs, 0, none⟩)] W fun e W' => (∃ v, e = .returned v) ∧ J len W' := by
  refine callsIn_of_wp Tryz.func129 rfl trivial ?_ rfl
  simp only [Tryz.ntmps129, List.size_toArray, List.length_cons, List.length_nil, Nat.reduceAdd, Nat.reduceSub, Array.replicate_succ, Array.replicate_zero, List.push_toArray, List.append_toArray, List.nil_append, List.cons_append]
  gi_wp2
  gi_loopw [3] (fun i wr => ∃ k : Nat, k ≤ len ∧ i = .int .i64 ((len : Int) - 1 - k) ∧ J k wr ∧ KT n₀ X W wr)
    (fun i _ => (intOf i + 1).toNat)
  case atStart => exact ⟨0, Nat.zero_le _, by simp, h0, KT.refl _ _ _⟩
  case round =>
    obtain ⟨k, hk, rfl, hJs, hnx⟩ := hrel
    have hBs2 : wr.cell? ⟨Bs, 0, none⟩ = some (.slice p len cap) := (hnx.cell (p := ⟨Bs, 0, none⟩) hBs0.1 hBs0.2).trans hBs
    by_cases hlt : k < len
    · obtain rfl := hp (by omega)
      obtain ⟨fn, tmps, assign, body, hy, hR⟩ := hY k wr hlt hJs
      dsimp only [enBack] at hy
      obtain ⟨i, hi⟩ : ∃ i, i = len - 1 - k := ⟨_, rfl⟩
      rw [← hi] at hy
      have hii : (len : Int) - 1 - k = (i : Int) := by omega
      have hil : i < len := by omega
      have hcx : wr.cell? ⟨b, off + i, none⟩ = some (vs i) := (hnx.cell (p := ⟨b, off + i, none⟩) (hb (by omega)).1 (hb (by omega)).2).trans (hc i hil)
      rw [hii]
      have HI := Lib.hid (And.intro hi (And.intro hii hlt))
      clear hi hii hlt hk hc
      gi_wp2
      refine hR.mono ?_
      rintro e W3 ⟨rfl, hJ3, hk3⟩
      gi_wp2
      go_roundw
      case rel =>
        refine ⟨k + 1, by have := HI.out.2.2; omega, ?_, hJ3, hnx.trans hk3⟩
        have := HI.out.2.1; simp; omega
      case measure => simp [intOf]; try omega
    · obtain rfl : k = len := by omega
      have hneg : (k : Int) - 1 - k = -1 := by omega
      rw [hneg]
      gi_wp2
      go_end0
      exact ⟨⟨_, rfl⟩, hJs⟩
set_option maxHeartbeats 1000000 in
theorem backward_any (a : Option Addr) (len cap : Nat) (w : World) :
    Calls Tryz.prog 103 #[.slice a len cap] w fun e w' => e = .returned (.func (.func 129) #[] #[.pointer (some ⟨w.heap.size, 0, none⟩)]) ∧ w' = w.alloc (.cells #[.slice a len cap] 184) := by
  go_enter Tryz.func103, Tryz.ntmps103
  go_wp2
  go_ret
  exact ⟨rfl, rfl⟩
end Go.Proofs.YthchmnhoombecaaGreat
