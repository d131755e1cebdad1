/- The bitwise operations of words: what they hand back. -/
import Derived.Test.YtcdjinjeogodfaaW
import Derived.StillTailTactics
namespace Go.Proofs.Ytcdjinjeogodfaa
open Go.RowKit

theorem three_blocks (w : World) (t1 t2 t3 : TypeId) (c1 c2 c3 : Array Value) :
    Below w.heap.size w (((w.alloc (.cells c1 t1)).alloc (.cells c2 t2)).alloc (.cells c3 t3)) ∧ Blk (((w.alloc (.cells c1 t1)).alloc (.cells c2 t2)).alloc (.cells c3 t3)) w.heap.size t1 c1 ∧
    Blk (((w.alloc (.cells c1 t1)).alloc (.cells c2 t2)).alloc (.cells c3 t3)) (w.heap.size + 1) t2 c2 ∧ Blk (((w.alloc (.cells c1 t1)).alloc (.cells c2 t2)).alloc (.cells c3 t3)) (w.heap.size + 1 + 1) t3 c3 :=
  ⟨(((Below.refl _ _).alloc (Nat.le_refl _) _).alloc (by simp) _).alloc (by simp; omega) _, ((Blk.new _ _ _).alloc _).alloc _, by simpa using ((Blk.new (w.alloc _) _ _).alloc _), by simpa using (Blk.new ((w.alloc _).alloc _) _ _)⟩
theorem two_blocks (w : World) (t1 t2 : TypeId) (c1 c2 : Array Value) :
    Below w.heap.size w ((w.alloc (.cells c1 t1)).alloc (.cells c2 t2)) ∧ Blk ((w.alloc (.cells c1 t1)).alloc (.cells c2 t2)) w.heap.size t1 c1 ∧
    Blk ((w.alloc (.cells c1 t1)).alloc (.cells c2 t2)) (w.heap.size + 1) t2 c2 :=
  ⟨((Below.refl _ _).alloc (Nat.le_refl _) _).alloc (by simp) _, (Blk.new _ _ _).alloc _, by simpa using (Blk.new (w.alloc _) _ _)⟩
theorem four_blocks (w : World) (t1 t2 t3 t4 : TypeId) (c1 c2 c3 c4 : Array Value) :
    Below w.heap.size w ((((w.alloc (.cells c1 t1)).alloc (.cells c2 t2)).alloc (.cells c3 t3)).alloc (.cells c4 t4)) ∧ Blk ((((w.alloc (.cells c1 t1)).alloc (.cells c2 t2)).alloc (.cells c3 t3)).alloc (.cells c4 t4)) w.heap.size t1 c1 ∧
    Blk ((((w.alloc (.cells c1 t1)).alloc (.cells c2 t2)).alloc (.cells c3 t3)).alloc (.cells c4 t4)) (w.heap.size + 1) t2 c2 ∧ Blk ((((w.alloc (.cells c1 t1)).alloc (.cells c2 t2)).alloc (.cells c3 t3)).alloc (.cells c4 t4)) (w.heap.size + 1 + 1) t3 c3 ∧
    Blk ((((w.alloc (.cells c1 t1)).alloc (.cells c2 t2)).alloc (.cells c3 t3)).alloc (.cells c4 t4)) (w.heap.size + 1 + 1 + 1) t4 c4 := by
  obtain ⟨h0, h1, h2, h3⟩ := three_blocks w t1 t2 t3 c1 c2 c3
  exact ⟨h0.alloc (by simp; omega) _, h1.alloc _, h2.alloc _, h3.alloc _, by simpa using (Blk.new (((w.alloc _).alloc _).alloc _) _ _)⟩
theorem wf_zero : wf (byt 0) = #[.int .u8 0, .int .u8 0, .int .u8 0, .int .u8 0, .int .u8 0, .int .u8 0, .int .u8 0, .int .u8 0, .int .u8 0, .int .u8 0, .int .u8 0, .int .u8 0, .int .u8 0, .int .u8 0, .int .u8 0, .int .u8 0, .int .u8 0, .int .u8 0, .int .u8 0, .int .u8 0, .int .u8 0, .int .u8 0, .int .u8 0, .int .u8 0, .int .u8 0, .int .u8 0, .int .u8 0, .int .u8 0, .int .u8 0, .int .u8 0, .int .u8 0, .int .u8 0] := by
  simp [wf, byt, List.range_succ]

theorem wf_step {f g : Nat → Nat} {k : Nat} {v : Int} (hk : k < 32) (hv : v = (g k : Nat)) :
    (wf fun i => if i < k then g i else f i).setIfInBounds k (.int .u8 v) = wf fun i => if i < k + 1 then g i else f i := by
  rw [hv, wf_set hk]
  refine wf_congr fun i _ => ?_
  by_cases hik : i = k
  · subst hik; simp
  · simp only [hik, if_false]
    by_cases h1 : i < k
    · rw [if_pos h1, if_pos (by omega)]
    · rw [if_neg h1, if_neg (by omega)]
theorem wf_end {f g : Nat → Nat} {k : Nat} (hk : ¬ k < 32) : (wf fun i => if i < k then g i else f i) = wf g :=
  wf_congr fun i hi => by rw [if_pos (by omega)]

set_option maxHeartbeats 1000000 in
set_option maxRecDepth 100000 in
theorem and_any (x y : Nat) (w : World) :
    Calls Try.prog 38 #[.agg (wcells x), .agg (wcells y)] w fun e w' => e = .returned (.agg (wcells (x &&& y))) ∧ Below w.heap.size w w' := by
  go_enter Try.func38, Try.ntmps38
  go_wp2
  go_loopw [6] (fun i wr => ∃ k : Nat, k ≤ 32 ∧ i = .int .i64 k ∧ Below w.heap.size w wr ∧
      Blk wr w.heap.size 23 (wf fun i => if i < k then byt (x &&& y) i else byt x i) ∧ Blk wr (w.heap.size + 1) 23 (wcells y) ∧ Blk wr (w.heap.size + 1 + 1) 23 (wcells 0)) (fun i _ => 32 - (intOf i).toNat)
  case atStart =>
    obtain ⟨g0, g1, g2, g3⟩ := three_blocks w 23 23 23 (wcells x) (wcells y) (wcells 0)
    exact ⟨0, by omega, rfl, by rw [← wf_zero]; exact g0, by rw [← wf_zero]; exact g1, by rw [← wf_zero]; exact g2, by rw [← wf_zero]; exact g3⟩
  case round =>
    obtain ⟨k, hk, rfl, hb, h0, h1, h2⟩ := hrel
    by_cases hlt : k < 32
    · have g0 := h0.cell (wf_get hlt)
      have g1 := h1.cell (wf_get hlt)
      have f0 := h0.free k
      simp only [Nat.lt_irrefl, if_false] at g0
      have e := byt_and x y k
      have l1 := byt_lt x k
      have l2 := byt_lt y k
      generalize byt x k = xk at *
      generalize byt y k = yk at *
      have E := Lib.hid e
      clear e
      go_wp2
      go_still_tail 7, (by kernel_rfl)
      go_wp2
      go_roundw
      case rel =>
        have hs := (h0.set k (.int .u8 (bits BinOp.and IntKind.u8 ↑xk ↑yk))).drew
        rw [wf_step hlt (by rw [u8_and_nat _ _ l1 l2, E.out])] at hs
        exact ⟨k + 1, by omega, by go_num, (hb.setCell (by simp only; omega) _).drew, hs, (h1.far (by simp only; omega) _).drew, (h2.far (by simp only; omega) _).drew⟩
      case measure => simp [intOf]; omega
    · rw [wf_end hlt] at h0
      clear h1
      go_wp2_with (first | (refine arm_load rfl 23 _ rfl rfl (load_wf (by assumption)) ?_) | (refine arm_store rfl 23 _ _ rfl rfl rfl (store_wf (by assumption)) ?_))
      exact post_cell 4 23 rfl rfl rfl (h2.row _) word_type rfl word_size (wf_size _) ⟨rfl, below_row hb (by omega) _⟩

set_option maxHeartbeats 1000000 in
set_option maxRecDepth 100000 in
theorem or_any (x y : Nat) (w : World) :
    Calls Try.prog 40 #[.agg (wcells x), .agg (wcells y)] w fun e w' => e = .returned (.agg (wcells (x ||| y))) ∧ Below w.heap.size w w' := by
  go_enter Try.func40, Try.ntmps40
  go_wp2
  go_loopw [6] (fun i wr => ∃ k : Nat, k ≤ 32 ∧ i = .int .i64 k ∧ Below w.heap.size w wr ∧
      Blk wr w.heap.size 23 (wf fun i => if i < k then byt (x ||| y) i else byt x i) ∧ Blk wr (w.heap.size + 1) 23 (wcells y) ∧ Blk wr (w.heap.size + 1 + 1) 23 (wcells 0)) (fun i _ => 32 - (intOf i).toNat)
  case atStart =>
    obtain ⟨g0, g1, g2, g3⟩ := three_blocks w 23 23 23 (wcells x) (wcells y) (wcells 0)
    exact ⟨0, by omega, rfl, by rw [← wf_zero]; exact g0, by rw [← wf_zero]; exact g1, by rw [← wf_zero]; exact g2, by rw [← wf_zero]; exact g3⟩
  case round =>
    obtain ⟨k, hk, rfl, hb, h0, h1, h2⟩ := hrel
    by_cases hlt : k < 32
    · have g0 := h0.cell (wf_get hlt)
      have g1 := h1.cell (wf_get hlt)
      have f0 := h0.free k
      simp only [Nat.lt_irrefl, if_false] at g0
      have e := byt_or x y k
      have l1 := byt_lt x k
      have l2 := byt_lt y k
      generalize byt x k = xk at *
      generalize byt y k = yk at *
      have E := Lib.hid e
      clear e
      go_wp2
      go_still_tail 7, (by kernel_rfl)
      go_wp2
      go_roundw
      case rel =>
        have hs := (h0.set k (.int .u8 (bits BinOp.or IntKind.u8 ↑xk ↑yk))).drew
        rw [wf_step hlt (by rw [u8_or_nat _ _ l1 l2, E.out])] at hs
        exact ⟨k + 1, by omega, by go_num, (hb.setCell (by simp only; omega) _).drew, hs, (h1.far (by simp only; omega) _).drew, (h2.far (by simp only; omega) _).drew⟩
      case measure => simp [intOf]; omega
    · rw [wf_end hlt] at h0
      clear h1
      go_wp2_with (first | (refine arm_load rfl 23 _ rfl rfl (load_wf (by assumption)) ?_) | (refine arm_store rfl 23 _ _ rfl rfl rfl (store_wf (by assumption)) ?_))
      exact post_cell 4 23 rfl rfl rfl (h2.row _) word_type rfl word_size (wf_size _) ⟨rfl, below_row hb (by omega) _⟩

set_option maxHeartbeats 1000000 in
set_option maxRecDepth 100000 in
theorem xor_any (x y : Nat) (w : World) :
    Calls Try.prog 42 #[.agg (wcells x), .agg (wcells y)] w fun e w' => e = .returned (.agg (wcells (x ^^^ y))) ∧ Below w.heap.size w w' := by
  go_enter Try.func42, Try.ntmps42
  go_wp2
  go_loopw [6] (fun i wr => ∃ k : Nat, k ≤ 32 ∧ i = .int .i64 k ∧ Below w.heap.size w wr ∧
      Blk wr w.heap.size 23 (wf fun i => if i < k then byt (x ^^^ y) i else byt x i) ∧ Blk wr (w.heap.size + 1) 23 (wcells y) ∧ Blk wr (w.heap.size + 1 + 1) 23 (wcells 0)) (fun i _ => 32 - (intOf i).toNat)
  case atStart =>
    obtain ⟨g0, g1, g2, g3⟩ := three_blocks w 23 23 23 (wcells x) (wcells y) (wcells 0)
    exact ⟨0, by omega, rfl, by rw [← wf_zero]; exact g0, by rw [← wf_zero]; exact g1, by rw [← wf_zero]; exact g2, by rw [← wf_zero]; exact g3⟩
  case round =>
    obtain ⟨k, hk, rfl, hb, h0, h1, h2⟩ := hrel
    by_cases hlt : k < 32
    · have g0 := h0.cell (wf_get hlt)
      have g1 := h1.cell (wf_get hlt)
      have f0 := h0.free k
      simp only [Nat.lt_irrefl, if_false] at g0
      have e := byt_xor x y k
      have l1 := byt_lt x k
      have l2 := byt_lt y k
      generalize byt x k = xk at *
      generalize byt y k = yk at *
      have E := Lib.hid e
      clear e
      go_wp2
      go_still_tail 7, (by kernel_rfl)
      go_wp2
      go_roundw
      case rel =>
        have hs := (h0.set k (.int .u8 (bits BinOp.xor IntKind.u8 ↑xk ↑yk))).drew
        rw [wf_step hlt (by rw [u8_xor_nat _ _ l1 l2, E.out])] at hs
        exact ⟨k + 1, by omega, by go_num, (hb.setCell (by simp only; omega) _).drew, hs, (h1.far (by simp only; omega) _).drew, (h2.far (by simp only; omega) _).drew⟩
      case measure => simp [intOf]; omega
    · rw [wf_end hlt] at h0
      clear h1
      go_wp2_with (first | (refine arm_load rfl 23 _ rfl rfl (load_wf (by assumption)) ?_) | (refine arm_store rfl 23 _ _ rfl rfl rfl (store_wf (by assumption)) ?_))
      exact post_cell 4 23 rfl rfl rfl (h2.row _) word_type rfl word_size (wf_size _) ⟨rfl, below_row hb (by omega) _⟩

theorem u8_not (a : Nat) (ha : a < 256) : bits .xor .u8 255 (a : Int) = ((255 - a : Nat) : Int) := by
  have h := u8_xor_nat 255 a (by omega) ha
  have e : 255 ^^^ a = 255 - a := by
    apply Nat.eq_of_testBit_eq; intro j
    rw [show 255 - a = 2 ^ 8 - (a + 1) by omega, Nat.testBit_two_pow_sub_succ (by omega), Nat.testBit_xor, show 255 = 2 ^ 8 - 1 by rfl, Nat.testBit_two_pow_sub_one]
    by_cases hj : j < 8
    · simp [hj]
    · have : a < 2 ^ j := Nat.lt_of_lt_of_le ha (by rw [show 256 = 2 ^ 8 by rfl]; exact Nat.pow_le_pow_right (by omega) (by omega))
      simp [hj, Nat.testBit_lt_two_pow this]
  rw [e] at h
  exact h

set_option maxHeartbeats 1000000 in
set_option maxRecDepth 100000 in
theorem not_any (x : Nat) (hx : x < M256) (w : World) :
    Calls Try.prog 44 #[.agg (wcells x)] w fun e w' => e = .returned (.agg (wcells (M256 - (x + 1)))) ∧ Below w.heap.size w w' := by
  have HX := Lib.hid hx
  clear hx
  generalize hn : M256 - (x + 1) = nx
  have HN := Lib.hid hn
  clear hn
  go_enter Try.func44, Try.ntmps44
  go_wp2
  go_loopw [4] (fun i wr => ∃ k : Nat, k ≤ 32 ∧ i = .int .i64 k ∧ Below w.heap.size w wr ∧
      Blk wr w.heap.size 23 (wf fun i => if i < k then byt nx i else byt x i) ∧ Blk wr (w.heap.size + 1) 23 (wcells 0)) (fun i _ => 32 - (intOf i).toNat)
  case atStart =>
    obtain ⟨g0, g1, g2⟩ := two_blocks w 23 23 (wcells x) (wcells 0)
    exact ⟨0, by omega, rfl, by rw [← wf_zero]; exact g0, by rw [← wf_zero]; exact g1, by rw [← wf_zero]; exact g2⟩
  case round =>
    obtain ⟨k, hk, rfl, hb, h0, h2⟩ := hrel
    by_cases hlt : k < 32
    · have g0 := h0.cell (wf_get hlt)
      have f0 := h0.free k
      simp only [Nat.lt_irrefl, if_false] at g0
      have e := byt_not HX.out hlt
      rw [HN.out] at e
      have l1 := byt_lt x k
      generalize byt x k = xk at *
      have E := Lib.hid e
      clear e
      go_wp2
      go_roundw
      case rel =>
        have hs := (h0.set k (.int .u8 (bits BinOp.xor IntKind.u8 255 ↑xk)))
        rw [wf_step hlt (by rw [u8_not _ l1, E.out])] at hs
        exact ⟨k + 1, by omega, by go_num, (hb.setCell (by simp only; omega) _), hs, (h2.far (by simp only; omega) _)⟩
      case measure => simp [intOf]; omega
    · rw [wf_end hlt] at h0
      go_wp2_with (first | (refine arm_load rfl 23 _ rfl rfl (load_wf (by assumption)) ?_) | (refine arm_store rfl 23 _ _ rfl rfl rfl (store_wf (by assumption)) ?_))
      exact post_cell 2 23 rfl rfl rfl (h2.row _) word_type rfl word_size (wf_size _) ⟨rfl, below_row hb (by omega) _⟩
end Go.Proofs.Ytcdjinjeogodfaa
