/- The document's words as numbers: Int, small. -/
import Derived.Test.YtcdjinjeogodfaaJ5
import Derived.Test.YtcdjinjeogodfaaPE
import Derived.StillTailTactics
namespace Go.Proofs.Ytcdjinjeogodfaa
open Go.RowKit

theorem low_byte {x i : Nat} (hx : x < 2 ^ 64) (hi : i < 24) : byt x i = 0 := by
  unfold byt
  rw [Nat.div_eq_of_lt (Nat.lt_of_lt_of_le hx (Nat.pow_le_pow_right (by decide) (by omega)))]
theorem byte_or {x k : Nat} (hk : k < 32) : x / 2 ^ (8 * (32 - k)) * 256 + byt x k = x / 2 ^ (8 * (32 - (k + 1))) := by
  unfold byt
  rw [show 8 * (32 - k) = 8 * (31 - k) + 8 by omega, show 32 - (k + 1) = 31 - k by omega, Nat.pow_add, ← Nat.div_div_eq_div_mul]
  generalize x / 2 ^ (8 * (31 - k)) = y
  rw [show 2 ^ 8 = 256 by rfl]
  omega
theorem or_byte {a b : Nat} (ha : a * 256 + b < 9223372036854775808) (hb : b < 256) : bits BinOp.or IntKind.i64 ((a : Int) * 256) (b : Int) = ((a * 256 + b : Nat) : Int) := by
  have := int_or_nat (a * 256) b (Nat.lt_of_le_of_lt (Nat.le_add_right _ _) ha) (Nat.lt_of_lt_of_le hb (by decide))
  rw [show a * 256 ||| b = a * 256 + b from or_joined (k := 8) hb] at this
  rw [← this, Int.natCast_mul]; rfl
theorem top24 {x : Nat} (hx : x < 2 ^ 64) : byt x 24 = x / 2 ^ 56 := by
  unfold byt
  rw [show 8 * (31 - 24) = 56 by rfl, Nat.mod_eq_of_lt]
  refine Nat.div_lt_of_lt_mul ?_
  rw [show 2 ^ 56 * 256 = 2 ^ 64 by decide]; exact hx
set_option maxHeartbeats 1000000 in
set_option maxRecDepth 100000 in
theorem rInt_small (x : Nat) (hx : x < 9223372036854775808) (w : World) :
    Calls Try.prog 57 #[.agg (wcells x)] w fun e w' => e = .returned (.tuple #[.int .i64 (x : Int), .bool true]) ∧ Below w.heap.size w w' := by
  have HX := Lib.hid hx
  clear hx
  have hS := St.start w
  go_enter Try.func57, Try.ntmps57
  go_wp2_with (first | (refine st_box hS rfl _ _ rfl rfl ?_; clear hS; intro w1 b1 hS))
  go_loopw [4] (fun i wr => ∃ k : Nat, k ≤ 24 ∧ i = .int .i64 k ∧ St w wr [(b1, 23, wcells x)]) (fun i _ => 24 - (intOf i).toNat)
  case atStart => exact ⟨0, by omega, rfl, hS⟩
  case round =>
    clear hS
    obtain ⟨k, hk, rfl, hS⟩ := hrel
    by_cases hlt : k < 24
    · have g := wf_get (f := byt x) (show k < 32 by omega)
      rw [low_byte (by have := HX.out; omega) hlt] at g
      have G := Lib.hid g
      clear g
      go_wp2_with (first | (refine st_cell hS rfl 5 _ rfl rfl (by repeat (first | exact At.head | apply At.tail)) G.out u8_agg ?_))
      go_roundw
      case rel => exact ⟨k + 1, by omega, by go_num, hS⟩
      case measure => simp [intOf]; omega
    · obtain rfl : k = 24 := by omega
      have g := wf_get (f := byt x) (show 24 < 32 by omega)
      have hv : byt x 24 < 128 := by have := HX.out; rw [top24 (by omega)]; omega
      generalize byt x 24 = v at *
      have G := Lib.hid g
      clear g
      go_wp2_with (first | (refine st_cell hS rfl 5 _ rfl rfl (by repeat (first | exact At.head | apply At.tail)) G.out u8_agg ?_))
      go_loopw [5, 6] (fun n i wr => ∃ k : Nat, 24 ≤ k ∧ k ≤ 32 ∧ i = .int .i64 k ∧ n = .int .i64 ((x / 2 ^ (8 * (32 - k)) : Nat) : Int) ∧ St w wr [(b1, 23, wcells x)]) (fun _ i _ => 32 - (intOf i).toNat)
      case atStart =>
        refine ⟨24, by omega, by omega, rfl, ?_, hS⟩
        have : x / 2 ^ (8 * (32 - 24)) = 0 := Nat.div_eq_of_lt (by have := HX.out; omega)
        rw [this]; rfl
      case round =>
        clear hS
        obtain ⟨k, hk1, hk, rfl, rfl, hS⟩ := hrel
        by_cases hlt : k < 32
        · have g := wf_get (f := byt x) hlt
          have hb := byt_lt x k
          have hj := byte_or (x := x) hlt
          obtain ⟨m, hm⟩ : ∃ m, m = x / 2 ^ (8 * (32 - k)) := ⟨_, rfl⟩
          obtain ⟨v, hv⟩ : ∃ v, v = byt x k := ⟨_, rfl⟩
          rw [← hm, ← hv] at hj
          rw [← hm]
          rw [← hv] at g hb
          have hle : m * 256 + v < 9223372036854775808 := by rw [hj]; exact Nat.lt_of_le_of_lt (Nat.div_le_self _ _) HX.out
          have ho := or_byte hle hb
          have hm2 : m < 36028797018963968 := by omega
          have G := Lib.hid (And.intro g (And.intro hj ho))
          clear g hj ho hm hv hle
          go_wp2_with (first | (refine st_cell hS rfl 5 _ rfl rfl (by repeat (first | exact At.head | apply At.tail)) G.out.1 u8_agg ?_))
          go_roundw
          case rel =>
            refine ⟨k + 1, by omega, by omega, by go_num, ?_, hS⟩
            rw [← G.out.2.1, ← G.out.2.2]
          case measure => simp [intOf]; omega
        · obtain rfl : k = 32 := by omega
          go_wp2
          go_ret2
          exact ⟨by simp, hS.below⟩
set_option maxHeartbeats 1000000 in
set_option maxRecDepth 100000 in
theorem rInt_big (x : Nat) (hx : x < M256) (hb : 9223372036854775808 ≤ x) (w : World) :
    Calls Try.prog 57 #[.agg (wcells x)] w fun e w' => e = .returned (.tuple #[.int .i64 0, .bool false]) ∧ Below w.heap.size w w' := by
  have HX := Lib.hid (And.intro hx hb)
  clear hx hb
  have hS := St.start w
  go_enter Try.func57, Try.ntmps57
  go_wp2_with (first | (refine st_box hS rfl _ _ rfl rfl ?_; clear hS; intro w1 b1 hS))
  go_loopw [4] (fun i wr => ∃ k : Nat, k ≤ 24 ∧ i = .int .i64 k ∧ Hid (x < 2 ^ (8 * (32 - k))) ∧ St w wr [(b1, 23, wcells x)]) (fun i _ => 24 - (intOf i).toNat)
  case atStart => exact ⟨0, by omega, rfl, Lib.hid (by have := HX.out.1; rwa [M256] at this), hS⟩
  case round =>
    clear hS
    obtain ⟨k, hk, rfl, HK, hS⟩ := hrel
    by_cases hlt : k < 24
    · have g := wf_get (f := byt x) (show k < 32 by omega)
      by_cases h0 : byt x k = 0
      · have HB := Lib.hid (bits_zero (show k < 32 by omega) HK.out h0)
        rw [h0] at g
        clear h0
        have G := Lib.hid g
        clear g
        go_wp2_with (first | (refine st_cell hS rfl 5 _ rfl rfl (by repeat (first | exact At.head | apply At.tail)) G.out u8_agg ?_))
        go_roundw
        case rel => exact ⟨k + 1, by omega, by go_num, HB, hS⟩
        case measure => simp [intOf]; omega
      · obtain ⟨v, hv⟩ : ∃ v, v = byt x k := ⟨_, rfl⟩
        rw [← hv] at g h0
        have hv0 : ((v : Int) != 0) = true := by simp; omega
        have G := Lib.hid g
        clear g hv
        go_wp2_with (first | (refine st_cell hS rfl 5 _ rfl rfl (by repeat (first | exact At.head | apply At.tail)) G.out u8_agg ?_))
        go_ret2
        exact ⟨rfl, hS.below⟩
    · obtain rfl : k = 24 := by omega
      have g := wf_get (f := byt x) (show 24 < 32 by omega)
      have hv : 128 ≤ byt x 24 := by have := HX.out.2; have := HK.out; rw [top24 (by omega)]; omega
      generalize byt x 24 = v at *
      have G := Lib.hid g
      clear g
      go_wp2_with (first | (refine st_cell hS rfl 5 _ rfl rfl (by repeat (first | exact At.head | apply At.tail)) G.out u8_agg ?_))
      go_ret2
      exact ⟨rfl, hS.below⟩
/-- The number that the document's words tell of a small word. -/
def smallN (k : Nat) : Nat := if k < 9223372036854775808 then k else 0
set_option maxHeartbeats 1000000 in
set_option maxRecDepth 100000 in
theorem rsmall_yes (k : Nat) (hk : k < 256) (w : World) :
    Calls Try.prog 87 #[.agg (wcells k)] w fun e w' => e = .returned (.tuple #[.int .i64 (k : Int), .bool true]) ∧ Below w.heap.size w w' := by
  have HI := Lib.hid (rInt_small k (by omega))
  have hd : decide ((k : Int) < 256) = true := by simp; omega
  have hS := St.start w
  go_enter Try.func87, Try.ntmps87
  go_wp2_with (first | (refine st_box hS rfl _ _ rfl rfl ?_; clear hS; intro w1 b1 hS) | (refine st_load hS rfl 23 _ rfl rfl (by repeat (first | exact At.head | apply At.tail)) word_type rfl word_size (wf_size _) ?_) | (go_at_call 57; with_reducible refine (HI.out _).mono ?_; rintro e w1 ⟨rfl, hb⟩; replace hS := hS.call hb; clear hb))
  go_ret2
  exact ⟨rfl, hS.below⟩
set_option maxHeartbeats 1000000 in
set_option maxRecDepth 100000 in
theorem rsmall_no (k : Nat) (hx : k < M256) (hk : ¬ k < 256) (w : World) :
    Calls Try.prog 87 #[.agg (wcells k)] w fun e w' => e = .returned (.tuple #[.int .i64 (smallN k : Int), .bool false]) ∧ Below w.heap.size w w' := by
  by_cases h : k < 9223372036854775808
  · rw [show smallN k = k from if_pos h]
    have HI := Lib.hid (rInt_small k h)
    have hd : decide ((k : Int) < 256) = false := by simp; omega
    clear hx
    have hS := St.start w
    go_enter Try.func87, Try.ntmps87
    go_wp2_with (first | (refine st_box hS rfl _ _ rfl rfl ?_; clear hS; intro w1 b1 hS) | (refine st_load hS rfl 23 _ rfl rfl (by repeat (first | exact At.head | apply At.tail)) word_type rfl word_size (wf_size _) ?_) | (go_at_call 57; with_reducible refine (HI.out _).mono ?_; rintro e w1 ⟨rfl, hb⟩; replace hS := hS.call hb; clear hb))
    go_ret2
    exact ⟨rfl, hS.below⟩
  · rw [show smallN k = 0 from if_neg h]
    have HI := Lib.hid (rInt_big k hx (by omega))
    clear hx
    have hS := St.start w
    go_enter Try.func87, Try.ntmps87
    go_wp2_with (first | (refine st_box hS rfl _ _ rfl rfl ?_; clear hS; intro w1 b1 hS) | (refine st_load hS rfl 23 _ rfl rfl (by repeat (first | exact At.head | apply At.tail)) word_type rfl word_size (wf_size _) ?_) | (go_at_call 57; with_reducible refine (HI.out _).mono ?_; rintro e w1 ⟨rfl, hb⟩; replace hS := hS.call hb; clear hb))
    go_ret2
    exact ⟨rfl, hS.below⟩
end Go.Proofs.Ytcdjinjeogodfaa
