/- The document's words bit by bit: And, Or, Xor, Not, Neg. -/
import Derived.Test.YtcdjinjeogodfaaJ5
import Derived.Test.YtcdjinjeogodfaaPE
import Derived.StillTailTactics
namespace Go.Proofs.Ytcdjinjeogodfaa
open Go.RowKit

set_option maxHeartbeats 1000000 in
set_option maxRecDepth 100000 in
theorem rand_any (x y : Nat) (w : World) :
    Calls Try.prog 39 #[.agg (wcells x), .agg (wcells y)] w fun e w' => e = .returned (.agg (wcells (x &&& y))) ∧ Below w.heap.size w w' := by
  go_enter Try.func39, Try.ntmps39
  go_wp2
  go_loopw [5] (fun i wr => ∃ k : Nat, k ≤ 32 ∧ i = .int .i64 k ∧ Below w.heap.size w wr ∧
      Blk wr w.heap.size 23 (wf fun i => if i < k then byt (x &&& y) i else byt x i) ∧ Blk wr (w.heap.size + 1) 23 (wcells y) ∧ Blk wr (w.heap.size + 1 + 1) 23 (wcells 0)) (fun i _ => 32 - (intOf i).toNat)
  case atStart =>
    obtain ⟨g0, g1, g2, g3⟩ := three_blocks w 23 23 23 (wcells x) (wcells y) (wcells 0)
    exact ⟨0, by omega, rfl, by rw [← wf_zero]; exact g0, by rw [← wf_zero]; exact g1, by rw [← wf_zero]; exact g2, by rw [← wf_zero]; exact g3⟩
  case round =>
    obtain ⟨k, hk, rfl, hb, h0, h1, h2⟩ := hrel
    by_cases hlt : k < 32
    · have g0 := h0.cell (wf_get hlt)
      have g1 := h1.cell (wf_get hlt)
      have f0 := h0.free k
      simp only [Nat.lt_irrefl, if_false] at g0
      have e := byt_and x y k
      have l1 := byt_lt x k
      have l2 := byt_lt y k
      generalize byt x k = xk at *
      generalize byt y k = yk at *
      have E := Lib.hid e
      clear e
      go_wp2
      go_still_tail 9, (by kernel_rfl)
      go_wp2
      go_roundw
      case rel =>
        have hs := (h0.set k (.int .u8 (bits BinOp.and IntKind.u8 ↑xk ↑yk))).drew
        rw [wf_step hlt (by rw [u8_and_nat _ _ l1 l2, E.out])] at hs
        exact ⟨k + 1, by omega, by go_num, (hb.setCell (by simp only; omega) _).drew, hs, (h1.far (by simp only; omega) _).drew, (h2.far (by simp only; omega) _).drew⟩
      case measure => simp [intOf]; omega
    · rw [wf_end hlt] at h0
      clear h1
      go_wp2_with (first | (refine arm_load rfl 23 _ rfl rfl (load_wf (by assumption)) ?_) | (refine arm_store rfl 23 _ _ rfl rfl rfl (store_wf (by assumption)) ?_))
      exact post_cell 4 23 rfl rfl rfl (h2.row _) word_type rfl word_size (wf_size _) ⟨rfl, below_row hb (by omega) _⟩
set_option maxHeartbeats 1000000 in
set_option maxRecDepth 100000 in
theorem ror_any (x y : Nat) (w : World) :
    Calls Try.prog 41 #[.agg (wcells x), .agg (wcells y)] w fun e w' => e = .returned (.agg (wcells (x ||| y))) ∧ Below w.heap.size w w' := by
  go_enter Try.func41, Try.ntmps41
  go_wp2
  go_loopw [5] (fun i wr => ∃ k : Nat, k ≤ 32 ∧ i = .int .i64 k ∧ Below w.heap.size w wr ∧
      Blk wr w.heap.size 23 (wf fun i => if i < k then byt (x ||| y) i else byt x i) ∧ Blk wr (w.heap.size + 1) 23 (wcells y) ∧ Blk wr (w.heap.size + 1 + 1) 23 (wcells 0)) (fun i _ => 32 - (intOf i).toNat)
  case atStart =>
    obtain ⟨g0, g1, g2, g3⟩ := three_blocks w 23 23 23 (wcells x) (wcells y) (wcells 0)
    exact ⟨0, by omega, rfl, by rw [← wf_zero]; exact g0, by rw [← wf_zero]; exact g1, by rw [← wf_zero]; exact g2, by rw [← wf_zero]; exact g3⟩
  case round =>
    obtain ⟨k, hk, rfl, hb, h0, h1, h2⟩ := hrel
    by_cases hlt : k < 32
    · have g0 := h0.cell (wf_get hlt)
      have g1 := h1.cell (wf_get hlt)
      have f0 := h0.free k
      simp only [Nat.lt_irrefl, if_false] at g0
      have e := byt_or x y k
      have l1 := byt_lt x k
      have l2 := byt_lt y k
      generalize byt x k = xk at *
      generalize byt y k = yk at *
      have E := Lib.hid e
      clear e
      go_wp2
      go_still_tail 9, (by kernel_rfl)
      go_wp2
      go_roundw
      case rel =>
        have hs := (h0.set k (.int .u8 (bits BinOp.or IntKind.u8 ↑xk ↑yk))).drew
        rw [wf_step hlt (by rw [u8_or_nat _ _ l1 l2, E.out])] at hs
        exact ⟨k + 1, by omega, by go_num, (hb.setCell (by simp only; omega) _).drew, hs, (h1.far (by simp only; omega) _).drew, (h2.far (by simp only; omega) _).drew⟩
      case measure => simp [intOf]; omega
    · rw [wf_end hlt] at h0
      clear h1
      go_wp2_with (first | (refine arm_load rfl 23 _ rfl rfl (load_wf (by assumption)) ?_) | (refine arm_store rfl 23 _ _ rfl rfl rfl (store_wf (by assumption)) ?_))
      exact post_cell 4 23 rfl rfl rfl (h2.row _) word_type rfl word_size (wf_size _) ⟨rfl, below_row hb (by omega) _⟩
set_option maxHeartbeats 1000000 in
set_option maxRecDepth 100000 in
theorem rxor_any (x y : Nat) (w : World) :
    Calls Try.prog 43 #[.agg (wcells x), .agg (wcells y)] w fun e w' => e = .returned (.agg (wcells (x ^^^ y))) ∧ Below w.heap.size w w' := by
  go_enter Try.func43, Try.ntmps43
  go_wp2
  go_loopw [5] (fun i wr => ∃ k : Nat, k ≤ 32 ∧ i = .int .i64 k ∧ Below w.heap.size w wr ∧
      Blk wr w.heap.size 23 (wf fun i => if i < k then byt (x ^^^ y) i else byt x i) ∧ Blk wr (w.heap.size + 1) 23 (wcells y) ∧ Blk wr (w.heap.size + 1 + 1) 23 (wcells 0)) (fun i _ => 32 - (intOf i).toNat)
  case atStart =>
    obtain ⟨g0, g1, g2, g3⟩ := three_blocks w 23 23 23 (wcells x) (wcells y) (wcells 0)
    exact ⟨0, by omega, rfl, by rw [← wf_zero]; exact g0, by rw [← wf_zero]; exact g1, by rw [← wf_zero]; exact g2, by rw [← wf_zero]; exact g3⟩
  case round =>
    obtain ⟨k, hk, rfl, hb, h0, h1, h2⟩ := hrel
    by_cases hlt : k < 32
    · have g0 := h0.cell (wf_get hlt)
      have g1 := h1.cell (wf_get hlt)
      have f0 := h0.free k
      simp only [Nat.lt_irrefl, if_false] at g0
      have e := byt_xor x y k
      have l1 := byt_lt x k
      have l2 := byt_lt y k
      generalize byt x k = xk at *
      generalize byt y k = yk at *
      have E := Lib.hid e
      clear e
      go_wp2
      go_still_tail 9, (by kernel_rfl)
      go_wp2
      go_roundw
      case rel =>
        have hs := (h0.set k (.int .u8 (bits BinOp.xor IntKind.u8 ↑xk ↑yk))).drew
        rw [wf_step hlt (by rw [u8_xor_nat _ _ l1 l2, E.out])] at hs
        exact ⟨k + 1, by omega, by go_num, (hb.setCell (by simp only; omega) _).drew, hs, (h1.far (by simp only; omega) _).drew, (h2.far (by simp only; omega) _).drew⟩
      case measure => simp [intOf]; omega
    · rw [wf_end hlt] at h0
      clear h1
      go_wp2_with (first | (refine arm_load rfl 23 _ rfl rfl (load_wf (by assumption)) ?_) | (refine arm_store rfl 23 _ _ rfl rfl rfl (store_wf (by assumption)) ?_))
      exact post_cell 4 23 rfl rfl rfl (h2.row _) word_type rfl word_size (wf_size _) ⟨rfl, below_row hb (by omega) _⟩
theorem u8_not' (a : Nat) (ha : a < 256) : bits .xor .u8 (a : Int) 255 = ((255 - a : Nat) : Int) := by
  rw [← u8_not a ha]; simp only [bits, BitVec.xor_comm]
set_option maxHeartbeats 1000000 in
set_option maxRecDepth 100000 in
theorem rnot_any (x : Nat) (hx : x < M256) (w : World) :
    Calls Try.prog 45 #[.agg (wcells x)] w fun e w' => e = .returned (.agg (wcells (M256 - (x + 1)))) ∧ Below w.heap.size w w' := by
  have HX := Lib.hid hx
  clear hx
  generalize hn : M256 - (x + 1) = nx
  have HN := Lib.hid hn
  clear hn
  go_enter Try.func45, Try.ntmps45
  go_wp2
  go_loopw [3] (fun i wr => ∃ k : Nat, k ≤ 32 ∧ i = .int .i64 k ∧ Below w.heap.size w wr ∧
      Blk wr w.heap.size 23 (wf fun i => if i < k then byt nx i else byt x i) ∧ Blk wr (w.heap.size + 1) 23 (wcells 0)) (fun i _ => 32 - (intOf i).toNat)
  case atStart =>
    obtain ⟨g0, g1, g2⟩ := two_blocks w 23 23 (wcells x) (wcells 0)
    exact ⟨0, by omega, rfl, by rw [← wf_zero]; exact g0, by rw [← wf_zero]; exact g1, by rw [← wf_zero]; exact g2⟩
  case round =>
    obtain ⟨k, hk, rfl, hb, h0, h2⟩ := hrel
    by_cases hlt : k < 32
    · have g0 := h0.cell (wf_get hlt)
      have f0 := h0.free k
      simp only [Nat.lt_irrefl, if_false] at g0
      have e := byt_not HX.out hlt
      rw [HN.out] at e
      have l1 := byt_lt x k
      generalize byt x k = xk at *
      have E := Lib.hid e
      clear e
      go_wp2
      go_roundw
      case rel =>
        have hs := (h0.set k (.int .u8 (bits BinOp.xor IntKind.u8 ↑xk 255)))
        rw [wf_step hlt (by rw [u8_not' _ l1, E.out])] at hs
        exact ⟨k + 1, by omega, by go_num, (hb.setCell (by simp only; omega) _), hs, (h2.far (by simp only; omega) _)⟩
      case measure => simp [intOf]; omega
    · rw [wf_end hlt] at h0
      go_wp2_with (first | (refine arm_load rfl 23 _ rfl rfl (load_wf (by assumption)) ?_) | (refine arm_store rfl 23 _ _ rfl rfl rfl (store_wf (by assumption)) ?_))
      exact post_cell 2 23 rfl rfl rfl (h2.row _) word_type rfl word_size (wf_size _) ⟨rfl, below_row hb (by omega) _⟩
set_option maxHeartbeats 1000000 in
set_option maxRecDepth 100000 in
theorem rNeg_any (x : Nat) (hx : x < M256) (w : World) :
    Calls Try.prog 84 #[.agg (wcells x)] w fun e w' => e = .returned (.bool (decide (2 ^ 255 ≤ x))) ∧ Below w.heap.size w w' := by
  have g := wf_get (f := byt x) (show 0 < 32 by decide)
  have ht := top_byte hx
  obtain ⟨v, hv⟩ : ∃ v, v = byt x 0 := ⟨_, rfl⟩
  rw [← hv] at g ht
  have G := Lib.hid (And.intro g ht)
  clear g ht hv hx
  have hS := St.start w
  go_enter Try.func84, Try.ntmps84
  go_wp2_with (first | (refine st_box hS rfl _ _ rfl rfl ?_; clear hS; intro w1 b1 hS) | (refine st_cell hS rfl 5 _ rfl rfl (by repeat (first | exact At.head | apply At.tail)) G.out.1 u8_agg ?_))
  go_ret
  refine ⟨ret_bool ?_, hS.below⟩
  have := G.out.2
  rw [Bool.eq_iff_iff]
  simp only [decide_eq_true_eq]
  rw [← this]
  show (128 : Int) ≤ (v : Int) ↔ _
  omega
end Go.Proofs.Ytcdjinjeogodfaa
