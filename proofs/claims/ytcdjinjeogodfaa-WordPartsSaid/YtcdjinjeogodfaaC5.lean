/- Low halves and products of words. -/
import Derived.Test.YtcdjinjeogodfaaC3
import Derived.Test.YtcdjinjeogodfaaC4
namespace Go.Proofs.Ytcdjinjeogodfaa
open Go.RowKit

theorem build_limbs (x : Nat) : dig 4 x = #[.int .u64 ((x / 2 ^ (64 * 0) % 2 ^ 64 : Nat) : Int), .int .u64 ((x / 2 ^ (64 * 1) % 2 ^ 64 : Nat) : Int), .int .u64 ((x / 2 ^ (64 * 2) % 2 ^ 64 : Nat) : Int), .int .u64 ((x / 2 ^ (64 * 3) % 2 ^ 64 : Nat) : Int)] := rfl

set_option maxHeartbeats 1000000 in
set_option maxRecDepth 100000 in
theorem low_any (x : Nat) (w : World) :
    Calls Try.prog 75 #[.agg (dig 8 x)] w fun e w' => e = .returned (.agg (dig 4 x)) ∧ Below w.heap.size w w' := by
  have hd := build_limbs x
  have c0 := @dig_get 8 x 0 (by omega)
  have c1 := @dig_get 8 x 1 (by omega)
  have c2 := @dig_get 8 x 2 (by omega)
  have c3 := @dig_get 8 x 3 (by omega)
  generalize x / 2 ^ (64 * 0) % 2 ^ 64 = x0 at *
  generalize x / 2 ^ (64 * 1) % 2 ^ 64 = x1 at *
  generalize x / 2 ^ (64 * 2) % 2 ^ 64 = x2 at *
  generalize x / 2 ^ (64 * 3) % 2 ^ 64 = x3 at *
  have HD := Lib.hid hd
  clear hd
  have B0 := (Blk.new w 53 (dig 8 x)).alloc (.cells #[.int .u64 0, .int .u64 0, .int .u64 0, .int .u64 0] 42)
  have g0 := B0.cell c0
  have g1 := B0.cell c1
  have g2 := B0.cell c2
  have g3 := B0.cell c3
  clear c0 c1 c2 c3
  obtain ⟨k0, k1, k2⟩ := two_blocks w 53 42 (dig 8 x) #[.int .u64 0, .int .u64 0, .int .u64 0, .int .u64 0]
  go_enter Try.func75, Try.ntmps75
  go_wp2
  refine post_cell (t := 42) (c := dig 4 x) 2 42 rfl rfl rfl ?_ limbs_type rfl limbs_size (dig_size _ _) ⟨rfl, ?_⟩
  · rw [HD.out]; exact (two_blocks w 53 42 _ _).2.2
  · exact (two_blocks w 53 42 _ _).1

/-- Products of words. -/
def wmul (x y : Nat) : Nat := x * y % M256
theorem wmul_lt (x y : Nat) : wmul x y < M256 := Nat.mod_lt _ M256_pos
theorem wcells_mod (x : Nat) : wcells (x % M256) = wcells x := dig_word x 1 (by omega)

set_option maxHeartbeats 1000000 in
set_option maxRecDepth 100000 in
theorem mul_any (x y : Nat) (hx : x < M256) (hy : y < M256) (w : World) :
    Calls Try.prog 22 #[.agg (wcells x), .agg (wcells y)] w fun e w' => e = .returned (.agg (wcells (wmul x y))) ∧ Below w.heap.size w w' := by
  have HX := Lib.hid (And.intro hx hy)
  clear hx hy
  obtain ⟨p, hp⟩ : ∃ p, p = x * y := ⟨_, rfl⟩
  have HP := Lib.hid hp
  clear hp
  have hS := St.start w
  go_enter Try.func22, Try.ntmps22
  go_wp2_with (first | (refine st_box hS rfl _ _ rfl rfl ?_; clear hS; intro w1 b1 hS) | (refine st_new hS rfl 23 rfl word_zero ?_; clear hS; intro w1 b1 hS) | (refine st_load hS rfl 23 _ rfl rfl (by repeat (first | exact At.head | apply At.tail)) word_type rfl word_size (wf_size _) ?_) | (refine st_store hS rfl 23 _ _ rfl rfl rfl (by repeat (first | exact Upd.head | apply Upd.tail)) word_size (wf_size _) (wf_size _) (wf_one _) ?_; clear hS; intro w1 hS) | (refine st_new hS rfl 42 rfl limbs_zero ?_; clear hS; intro w1 b1 hS) | (refine st_load hS rfl 42 _ rfl rfl (by repeat (first | exact At.head | apply At.tail)) limbs_type rfl limbs_size (dig_size _ _) ?_) | (refine st_store hS rfl 42 _ _ rfl rfl rfl (by repeat (first | exact Upd.head | apply Upd.tail)) limbs_size (dig_size _ _) (dig_size _ _) (dig_one _ _) ?_; clear hS; intro w1 hS))
  refine wp_region_head (C := fun w' => St w w' _) 7 (by kernel_rfl) (by kernel_rfl) hS.drew ?_
  simp only [List.take_succ_cons, List.take_zero, List.drop_succ_cons, List.drop_zero]
  repeat (first | (refine q_load rfl 23 _ rfl rfl (by repeat (first | exact At.head | apply At.tail)) word_type rfl word_size (wf_size _) ?_; try simp only [Act.put, List.setIfInBounds_toArray, List.set_cons_zero, List.set_cons_succ]) | (refine wpQuiet_step (fun K hK => ?_); go_simp; first | (refine hK _ ?_; clear hK K) | (apply Exists.intro; refine ⟨fun w hw => ?_, hK _ ?_⟩; (first | (go_at_call 66; exact q_of hw (load_any _ _)) | (go_at_call 74; exact q_of hw (times_any _ _ HX.out.1 HX.out.2 _)) | (go_at_call 75; exact q_of hw (low_any _ _)) | (go_at_call 68; exact q_of hw (word_any _ _))); clear hK K)))
  refine wpQuiet_nil ?_
  clear hS
  intro w1 hS
  go_wp2_with (first | (refine st_box hS rfl _ _ rfl rfl ?_; clear hS; intro w1 b1 hS) | (refine st_new hS rfl 23 rfl word_zero ?_; clear hS; intro w1 b1 hS) | (refine st_load hS rfl 23 _ rfl rfl (by repeat (first | exact At.head | apply At.tail)) word_type rfl word_size (wf_size _) ?_) | (refine st_store hS rfl 23 _ _ rfl rfl rfl (by repeat (first | exact Upd.head | apply Upd.tail)) word_size (wf_size _) (wf_size _) (wf_one _) ?_; clear hS; intro w1 hS) | (refine st_new hS rfl 42 rfl limbs_zero ?_; clear hS; intro w1 b1 hS) | (refine st_load hS rfl 42 _ rfl rfl (by repeat (first | exact At.head | apply At.tail)) limbs_type rfl limbs_size (dig_size _ _) ?_) | (refine st_store hS rfl 42 _ _ rfl rfl rfl (by repeat (first | exact Upd.head | apply Upd.tail)) limbs_size (dig_size _ _) (dig_size _ _) (dig_one _ _) ?_; clear hS; intro w1 hS))
  rw [wmul, wcells_mod]
  exact st_post hS 4 23 rfl rfl rfl (by repeat (first | exact At.head | apply At.tail)) word_type rfl word_size (wf_size _) (fun hb => ⟨rfl, hb⟩)
end Go.Proofs.Ytcdjinjeogodfaa
