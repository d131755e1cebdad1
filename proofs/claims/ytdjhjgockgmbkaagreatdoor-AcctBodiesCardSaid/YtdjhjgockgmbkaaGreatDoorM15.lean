/- The document's Int on words of bytes. -/
import Derived.Test.YtdjhjgockgmbkaaGreatDoorM14
import Derived.Lib.BitFns
import Derived.Laws.MathBits
import Derived.Deep.QuietTactic
import Derived.BigQuiet
set_option linter.unusedVariables false
set_option linter.unusedSimpArgs false
namespace Go.Proofs.YtdjhjgockgmbkaaGreatDoor
open Go.RowKit

theorem foldl_bval (W : List Nat) : ∀ a, W.foldl (fun a x => a * 256 + x) a = a * 256 ^ W.length + bval W := by
  induction W with
  | nil => intro a; simp [bval]
  | cons x r ih =>
    intro a
    rw [List.foldl_cons, ih, show bval (x :: r) = r.foldl (fun a x => a * 256 + x) (0 * 256 + x) from rfl, ih, List.length_cons, Nat.pow_succ, Nat.zero_mul, Nat.zero_add, Nat.add_mul, Nat.add_assoc, Nat.mul_assoc, Nat.mul_comm 256]
theorem bval_cons (x : Nat) (r : List Nat) : bval (x :: r) = x * 256 ^ r.length + bval r := by
  rw [show bval (x :: r) = r.foldl (fun a x => a * 256 + x) (0 * 256 + x) from rfl, foldl_bval, Nat.zero_mul, Nat.zero_add]
theorem bval_lt : ∀ (W : List Nat), (∀ x ∈ W, x < 256) → bval W < 256 ^ W.length
  | [], _ => by simp [bval]
  | x :: r, h => by
    have h1 := bval_lt r fun y hy => h y (List.mem_cons_of_mem _ hy)
    have h2 := h x List.mem_cons_self
    rw [bval_cons, List.length_cons, Nat.pow_succ]
    have h3 : x * 256 ^ r.length ≤ 255 * 256 ^ r.length := Nat.mul_le_mul_right _ (by omega)
    omega
theorem bval_digit : ∀ (W : List Nat), (∀ x ∈ W, x < 256) → ∀ i, i < W.length → bval W / 256 ^ (W.length - 1 - i) % 256 = W.getD i 0
  | [], _, i, hi => by simp at hi
  | x :: r, h, 0, _ => by
    have h1 := bval_lt r fun y hy => h y (List.mem_cons_of_mem _ hy)
    have h2 := h x List.mem_cons_self
    rw [bval_cons, List.length_cons, Nat.add_sub_cancel, Nat.sub_zero, Nat.mul_comm, Nat.mul_add_div (Nat.pow_pos (by decide)), Nat.div_eq_of_lt h1, Nat.add_zero, Nat.mod_eq_of_lt h2]; rfl
  | x :: r, h, i + 1, hi => by
    have hi' : i < r.length := by simpa using hi
    have h1 := bval_digit r (fun y hy => h y (List.mem_cons_of_mem _ hy)) i hi'
    rw [bval_cons, List.length_cons, Nat.add_sub_cancel, show r.length - (i + 1) = r.length - 1 - i by omega]
    have e : x * 256 ^ r.length = 256 ^ (r.length - 1 - i) * (256 * (x * 256 ^ i)) := by
      have : r.length = (r.length - 1 - i) + 1 + i := by omega
      conv => lhs; rw [this, Nat.pow_add, Nat.pow_add]
      rw [Nat.pow_one, Nat.mul_left_comm x, Nat.mul_assoc]
    rw [e, Nat.mul_add_div (Nat.pow_pos (by decide)), Nat.mul_add_mod, h1]; rfl
/-- The byte of x with the number i, the highest one being 0. -/
def byt (x i : Nat) : Nat := x / 2 ^ (8 * (31 - i)) % 256
theorem byt_lt (x i : Nat) : byt x i < 256 := Nat.mod_lt _ (by omega)
theorem byt_bval {W : List Nat} (hn : W.length = 32) (hl : ∀ x ∈ W, x < 256) {i : Nat} (hi : i < 32) : W.getD i 0 = byt (bval W) i := by
  rw [← bval_digit W hl i (by omega), hn]
  unfold byt
  rw [Nat.pow_mul]
theorem wv_byt {W : List Nat} (hn : W.length = 32) (hl : ∀ x ∈ W, x < 256) : wv W = bc 32 (byt (bval W)) := bc_congr fun i hi => byt_bval hn hl hi
theorem bval_top {W : List Nat} (hn : W.length = 32) (hl : ∀ x ∈ W, x < 256) : bval W < 2 ^ (8 * (32 - 0)) := by
  have := bval_lt W hl
  rw [hn] at this
  exact this
theorem bits_step {x k : Nat} (hk : k < 32) (hx : x < 2 ^ (8 * (32 - k))) : x / 2 ^ (8 * (31 - k)) = byt x k := by
  unfold byt
  rw [Nat.mod_eq_of_lt]
  rw [Nat.div_lt_iff_lt_mul (Nat.two_pow_pos _), show 256 = 2 ^ 8 by rfl, ← Nat.pow_add, show 8 + 8 * (31 - k) = 8 * (32 - k) by omega]
  exact hx
theorem bits_zero {x k : Nat} (hk : k < 32) (hx : x < 2 ^ (8 * (32 - k))) (h : byt x k = 0) : x < 2 ^ (8 * (32 - (k + 1))) := by
  have e := bits_step hk hx
  rw [h, Nat.div_eq_zero_iff] at e
  rcases e with e | e
  · exact absurd e (Nat.ne_of_gt (Nat.two_pow_pos _))
  · rw [show 32 - (k + 1) = 31 - k by omega]; exact e
theorem int_or_nat (a b : Nat) (ha : a < 9223372036854775808) (hb : b < 9223372036854775808) : bits BinOp.or IntKind.i64 (a : Int) (b : Int) = ((a ||| b : Nat) : Int) := by
  have hl : a ||| b < 2 ^ 63 := Nat.or_lt_two_pow (n := 63) (by omega) (by omega)
  have key : (BitVec.ofInt 64 (a : Int) ||| BitVec.ofInt 64 (b : Int)).toNat = a ||| b := by
    rw [BitVec.toNat_or, BitVec.toNat_ofInt, BitVec.toNat_ofInt]
    congr 1 <;> omega
  show IntKind.i64.wrap ((BitVec.ofInt 64 (a : Int) ||| BitVec.ofInt 64 (b : Int)).toNat : Nat) = _
  rw [key, IntKind.wrap_i64]
  omega
theorem or_joined {a b k : Nat} (hb : b < 2 ^ k) : a * 2 ^ k ||| b = a * 2 ^ k + b := by
  rw [← Nat.shiftLeft_eq, Nat.shiftLeft_add_eq_or_of_lt hb]
theorem low_byte {x i : Nat} (hx : x < 2 ^ 64) (hi : i < 24) : byt x i = 0 := by
  unfold byt
  rw [Nat.div_eq_of_lt (Nat.lt_of_lt_of_le hx (Nat.pow_le_pow_right (by decide) (by omega)))]
theorem byte_or {x k : Nat} (hk : k < 32) : x / 2 ^ (8 * (32 - k)) * 256 + byt x k = x / 2 ^ (8 * (32 - (k + 1))) := by
  unfold byt
  rw [show 8 * (32 - k) = 8 * (31 - k) + 8 by omega, show 32 - (k + 1) = 31 - k by omega, Nat.pow_add, ← Nat.div_div_eq_div_mul]
  generalize x / 2 ^ (8 * (31 - k)) = y
  rw [show 2 ^ 8 = 256 by rfl]
  omega
theorem or_byteN {a b : Nat} (ha : a * 256 + b < 9223372036854775808) (hb : b < 256) : bits BinOp.or IntKind.i64 ((a : Int) * 256) (b : Int) = ((a * 256 + b : Nat) : Int) := by
  have := int_or_nat (a * 256) b (Nat.lt_of_le_of_lt (Nat.le_add_right _ _) ha) (Nat.lt_of_lt_of_le hb (by decide))
  rw [show a * 256 ||| b = a * 256 + b from or_joined (k := 8) hb] at this
  rw [← this, Int.natCast_mul]; rfl
theorem top24 {x : Nat} (hx : x < 2 ^ 64) : byt x 24 = x / 2 ^ 56 := by
  unfold byt
  rw [show 8 * (31 - 24) = 56 by rfl, Nat.mod_eq_of_lt]
  refine Nat.div_lt_of_lt_mul ?_
  rw [show 2 ^ 56 * 256 = 2 ^ 64 by decide]; exact hx
set_option maxHeartbeats 1000000 in
set_option maxRecDepth 100000 in
theorem rInt_small (x : Nat) (hx : x < 9223372036854775808) (w : World) :
    Calls Tryz.prog 67 #[.agg (bc 32 (byt x))] w fun e w' => e = .returned (.tuple #[.int .i64 (x : Int), .bool true]) ∧ Tch [] w w' := by
  have HX := Lib.hid hx
  clear hx
  have hS := St.start w
  go_enter Tryz.func67, Tryz.ntmps67
  go_wp2_with (first | (refine st_box hS rfl _ _ rfl rfl ?_; clear hS; intro w1 b1 hS))
  go_loopw [4] (fun i wr => ∃ k : Nat, k ≤ 24 ∧ i = .int .i64 k ∧ St [] w wr [(b1, 23, bc 32 (byt x))]) (fun i _ => 24 - (intOf i).toNat)
  case atStart => exact ⟨0, by omega, rfl, hS⟩
  case round =>
    clear hS
    obtain ⟨k, hk, rfl, hS⟩ := hrel
    by_cases hlt : k < 24
    · have g := bc_get (n := 32) (f := byt x) (show k < 32 by omega)
      rw [low_byte (by have := HX.out; omega) hlt] at g
      have G := Lib.hid g
      clear g
      go_wp2_with (first | (refine st_cell hS rfl 5 _ rfl rfl (by repeat (first | exact At.head | apply At.tail)) G.out u8_aggN ?_))
      go_roundw
      case rel => exact ⟨k + 1, by omega, by go_num, hS⟩
      case measure => simp [intOf]; omega
    · obtain rfl : k = 24 := by omega
      have g := bc_get (n := 32) (f := byt x) (show 24 < 32 by omega)
      have hv : byt x 24 < 128 := by have := HX.out; rw [top24 (by omega)]; omega
      generalize byt x 24 = v at *
      have G := Lib.hid g
      clear g
      go_wp2_with (first | (refine st_cell hS rfl 5 _ rfl rfl (by repeat (first | exact At.head | apply At.tail)) G.out u8_aggN ?_))
      go_loopw [5, 6] (fun n i wr => ∃ k : Nat, 24 ≤ k ∧ k ≤ 32 ∧ i = .int .i64 k ∧ n = .int .i64 ((x / 2 ^ (8 * (32 - k)) : Nat) : Int) ∧ St [] w wr [(b1, 23, bc 32 (byt x))]) (fun _ i _ => 32 - (intOf i).toNat)
      case atStart =>
        refine ⟨24, by omega, by omega, rfl, ?_, hS⟩
        have : x / 2 ^ (8 * (32 - 24)) = 0 := Nat.div_eq_of_lt (by have := HX.out; omega)
        rw [this]; rfl
      case round =>
        clear hS
        obtain ⟨k, hk1, hk, rfl, rfl, hS⟩ := hrel
        by_cases hlt : k < 32
        · have g := bc_get (n := 32) (f := byt x) hlt
          have hb := byt_lt x k
          have hj := byte_or (x := x) hlt
          obtain ⟨m, hm⟩ : ∃ m, m = x / 2 ^ (8 * (32 - k)) := ⟨_, rfl⟩
          obtain ⟨v, hv⟩ : ∃ v, v = byt x k := ⟨_, rfl⟩
          rw [← hm, ← hv] at hj
          rw [← hm]
          rw [← hv] at g hb
          have hle : m * 256 + v < 9223372036854775808 := by rw [hj]; exact Nat.lt_of_le_of_lt (Nat.div_le_self _ _) HX.out
          have ho := or_byteN hle hb
          have hm2 : m < 36028797018963968 := by omega
          have G := Lib.hid (And.intro g (And.intro hj ho))
          clear g hj ho hm hv hle
          go_wp2_with (first | (refine st_cell hS rfl 5 _ rfl rfl (by repeat (first | exact At.head | apply At.tail)) G.out.1 u8_aggN ?_))
          go_roundw
          case rel =>
            refine ⟨k + 1, by omega, by omega, by go_num, ?_, hS⟩
            rw [← G.out.2.1, ← G.out.2.2]
          case measure => simp [intOf]; omega
        · obtain rfl : k = 32 := by omega
          go_wp2
          go_ret2
          exact ⟨by simp, hS.frame⟩
set_option maxHeartbeats 1000000 in
set_option maxRecDepth 100000 in
theorem rInt_big (x : Nat) (hx : x < 2 ^ 256) (hb : 9223372036854775808 ≤ x) (w : World) :
    Calls Tryz.prog 67 #[.agg (bc 32 (byt x))] w fun e w' => e = .returned (.tuple #[.int .i64 0, .bool false]) ∧ Tch [] w w' := by
  have HX := Lib.hid (And.intro hx hb)
  clear hx hb
  have hS := St.start w
  go_enter Tryz.func67, Tryz.ntmps67
  go_wp2_with (first | (refine st_box hS rfl _ _ rfl rfl ?_; clear hS; intro w1 b1 hS))
  go_loopw [4] (fun i wr => ∃ k : Nat, k ≤ 24 ∧ i = .int .i64 k ∧ Hid (x < 2 ^ (8 * (32 - k))) ∧ St [] w wr [(b1, 23, bc 32 (byt x))]) (fun i _ => 24 - (intOf i).toNat)
  case atStart => exact ⟨0, by omega, rfl, Lib.hid (by have := HX.out.1; exact this), hS⟩
  case round =>
    clear hS
    obtain ⟨k, hk, rfl, HK, hS⟩ := hrel
    by_cases hlt : k < 24
    · have g := bc_get (n := 32) (f := byt x) (show k < 32 by omega)
      by_cases h0 : byt x k = 0
      · have HB := Lib.hid (bits_zero (show k < 32 by omega) HK.out h0)
        rw [h0] at g
        clear h0
        have G := Lib.hid g
        clear g
        go_wp2_with (first | (refine st_cell hS rfl 5 _ rfl rfl (by repeat (first | exact At.head | apply At.tail)) G.out u8_aggN ?_))
        go_roundw
        case rel => exact ⟨k + 1, by omega, by go_num, HB, hS⟩
        case measure => simp [intOf]; omega
      · obtain ⟨v, hv⟩ : ∃ v, v = byt x k := ⟨_, rfl⟩
        rw [← hv] at g h0
        have hv0 : ((v : Int) != 0) = true := by simp; omega
        have G := Lib.hid g
        clear g hv
        go_wp2_with (first | (refine st_cell hS rfl 5 _ rfl rfl (by repeat (first | exact At.head | apply At.tail)) G.out u8_aggN ?_))
        go_ret2
        exact ⟨rfl, hS.frame⟩
    · obtain rfl : k = 24 := by omega
      have g := bc_get (n := 32) (f := byt x) (show 24 < 32 by omega)
      have hv : 128 ≤ byt x 24 := by have := HX.out.2; have := HK.out; rw [top24 (by omega)]; omega
      generalize byt x 24 = v at *
      have G := Lib.hid g
      clear g
      go_wp2_with (first | (refine st_cell hS rfl 5 _ rfl rfl (by repeat (first | exact At.head | apply At.tail)) G.out u8_aggN ?_))
      go_ret2
      exact ⟨rfl, hS.frame⟩
theorem rInt_any (W : List Nat) (w : World) (hn : W.length = 32) (hl : ∀ x ∈ W, x < 256) : Calls Tryz.prog 67 #[.agg (wv W)] w (IntP (wInt W) w) := by
  rw [wv_byt hn hl]
  unfold IntP wInt
  by_cases h : bval W < 9223372036854775808
  · rw [if_pos (show bval W < 2 ^ 63 from h)]; exact rInt_small _ h w
  · rw [if_neg (show ¬ bval W < 2 ^ 63 from h)]; exact rInt_big _ (bval_top hn hl) (by omega) w
end Go.Proofs.YtdjhjgockgmbkaaGreatDoor

/- word.Bits. -/
namespace Go.Proofs.YtdjhjgockgmbkaaGreatDoor
open Go.RowKit

set_option maxHeartbeats 1000000 in
set_option maxRecDepth 1000000 in
theorem len8_any (x : Nat) (hx : x < 256) (w : World) :
    Calls Tryz.prog 156 #[.int .u8 x] w fun e w' => e = .returned (.int .i64 (bitLen x : Nat)) ∧ w = w' := by
  have h8 := bitLen_le8 x hx
  go_enter Tryz.func156, Tryz.ntmps156
  go_wp2
  go_ret
  refine ⟨ret_int ?_, rfl⟩
  show wrap64 _ = _
  exact (congrArg (fun n : Nat => wrap64 (n : Int)) (len8tab_get x (by first | exact hx | (show x < 256; exact hx)))).trans (IntWalk.wrap64_in _ (by omega))
theorem run_index_word {f : Nat → Nat} {k : Nat} (hk : k < 32) (w : World) : (Instr.index 23 (.agg (bc 32 f)) (.int .i64 (k : Int))).run Tryz.prog w = .ok (.int .u8 ((f k : Nat) : Int)) w := by
  have hin : 0 ≤ (k : Int) ∧ (k : Int) < (32 : Nat) := by omega
  have hp : (part 5 (bc 32 f) (k * 1)).run Tryz.prog w = .ok (.int .u8 ((f k : Nat) : Int)) w := by
    have hg := bc_get (n := 32) (f := f) hk
    simp [part, isAgg, run_underlying byte_ty, hg]
  simp only [Instr.index, asIntOf, Sem.run_bind, run_underlying wordN_type, Result.andThen_ok, Sem.run_pure, hin, and_self, if_true, sizeOf_one u8_size, Int.toNat_natCast, hp]
theorem bits_found {x k : Nat} (hk : k < 32) (hx : x < 2 ^ (8 * (32 - k))) (h : byt x k ≠ 0) : bitLen x = 8 * (31 - k) + bitLen (byt x k) := by
  have e := bits_step hk hx
  rw [bitLen_shift x (8 * (31 - k)) (by rw [e]; exact h), e]
theorem bits_none {x : Nat} (hx : x < 2 ^ (8 * (32 - 32))) : bitLen x = 0 := by
  have : x = 0 := by simpa using hx
  subst this; rfl
set_option maxHeartbeats 1000000 in
set_option maxRecDepth 100000 in
theorem bits_any (x : Nat) (hx : x < 2 ^ 256) (w : World) :
    Calls Tryz.prog 143 #[.agg (bc 32 (byt x))] w fun e w' => e = .returned (.int .i64 (bitLen x : Nat)) ∧ Tch [] w w' := by
  have HX := Lib.hid hx
  clear hx
  have hS := St.start w
  go_enter Tryz.func143, Tryz.ntmps143
  go_wp2_with (first | (refine st_box hS rfl _ _ rfl rfl ?_; clear hS; intro w1 b1 hS) | (refine st_load hS rfl 23 _ rfl rfl (by repeat (first | exact At.head | apply At.tail)) wordN_type rfl wordN_size (bc_size _ _) ?_))
  go_loop [6] (fun i => ∃ k : Nat, k ≤ 32 ∧ i = .int .i64 k ∧ Hid (x < 2 ^ (8 * (32 - k)))) (fun i => 32 - (intOf i).toNat)
  case atStart => exact ⟨0, by omega, rfl, Lib.hid (by exact HX.out)⟩
  case round =>
    obtain ⟨k, hk, rfl, HK⟩ := hrel
    by_cases hlt : k < 32
    · have hix := fun wx => run_index_word (f := byt x) hlt wx
      have hbl := byt_lt x k
      by_cases hb : byt x k = 0
      · have HB := Lib.hid (bits_zero hlt HK.out hb)
        rw [hb] at hix
        clear hb hbl
        go_wp2
        go_round
        case rel => exact ⟨k + 1, by omega, by go_num, HB⟩
        case measure => simp [intOf]; omega
      · have HB := Lib.hid (bits_found hlt HK.out hb)
        have h8 := bitLen_le8 _ hbl
        generalize byt x k = b at *
        have hb2 : ((b : Int) != 0) = true := by simp; omega
        go_wp2_with (go_at_call 156; refine (len8_any _ hbl _).mono ?_; rintro e w' ⟨rfl, rfl⟩)
        go_ret
        refine ⟨ret_int ?_, hS.frame⟩
        rw [HB.out]; omega
    · go_wp2
      obtain rfl : k = 32 := by omega
      go_ret
      exact ⟨ret_int (by rw [bits_none HK.out]; rfl), hS.frame⟩
end Go.Proofs.YtdjhjgockgmbkaaGreatDoor

/- The document's Of. -/
namespace Go.Proofs.YtdjhjgockgmbkaaGreatDoor
open Go.RowKit

/-- How many words there are. -/
def M256 : Nat := 2 ^ 256
/-- A word's 32 bytes, the highest first. -/
abbrev wcells (x : Nat) : Array Value := bc 32 (byt x)
theorem byt_testBit (x i j : Nat) : (byt x i).testBit j = (decide (j < 8) && x.testBit (8 * (31 - i) + j)) := by
  unfold byt
  rw [show 256 = 2 ^ 8 by rfl, Nat.testBit_mod_two_pow, Nat.testBit_div_two_pow]
  congr 2; omega
/-- The word of an integer. -/
def wint (n : Int) : Nat := (n % (M256 : Int)).toNat
theorem wint_nat {n : Nat} (h : n < M256) : wint n = n := by
  unfold wint; rw [Int.emod_eq_of_lt (by omega) (by omega)]; rfl
theorem int_and255 (n : Int) : bits BinOp.and IntKind.i64 n 255 = n % 256 := by
  have h127 : (BitVec.ofInt 64 255).toNat = 2 ^ 8 - 1 := by decide
  have key : (BitVec.ofInt 64 n &&& BitVec.ofInt 64 255).toNat = (n % ((2 ^ 64 : Nat) : Int)).toNat % 2 ^ 8 := by
    rw [BitVec.toNat_and, BitVec.toNat_ofInt, h127, Nat.and_two_pow_sub_one_eq_mod]
  show IntKind.i64.wrap ((BitVec.ofInt 64 n &&& BitVec.ofInt 64 255).toNat : Nat) = n % 256
  rw [key, IntKind.wrap_i64]
  omega
theorem neg1_div {Q : Nat} (hQ : 0 < Q) : (-1 : Int) / (Q : Int) = -1 := by
  have h1 := Int.emod_add_mul_ediv (-1) (Q : Int)
  have h2 := Int.emod_nonneg (-1) (show (Q : Int) ≠ 0 by omega)
  have h3 := Int.emod_lt_of_pos (-1) (show (0 : Int) < Q by omega)
  generalize (-1 : Int) / (Q : Int) = q at *
  rcases Int.lt_trichotomy q (-1) with h | h | h
  · have := Int.mul_le_mul_of_nonneg_left (show q ≤ -2 by omega) (show (0 : Int) ≤ Q by omega)
    omega
  · exact h
  · have := Int.mul_nonneg (show (0 : Int) ≤ Q by omega) (show 0 ≤ q by omega)
    omega
theorem wint_byte (n : Int) (j : Nat) (hj : j ≤ 31) : (n / 2 ^ (8 * j)) % 256 = ((byt (wint n) (31 - j) : Nat) : Int) := by
  have hM : (M256 : Int) = 2 ^ (8 * j) * (256 * 2 ^ (248 - 8 * j)) := by
    have : M256 = 2 ^ (8 * j) * (256 * 2 ^ (248 - 8 * j)) := by
      rw [show (256 : Nat) = 2 ^ 8 by rfl, ← Nat.pow_add, ← Nat.pow_add]; unfold M256; congr 1; omega
    rw [this, Int.natCast_mul, Int.natCast_mul, Int.natCast_pow, Int.natCast_pow]; rfl
  have hp : (2 : Int) ^ (8 * j) ≠ 0 := Int.pow_ne_zero (by decide)
  have hM0 : (M256 : Int) ≠ 0 := by have : 0 < M256 := by unfold M256; decide
                                    omega
  have h0 := Int.emod_nonneg n hM0
  have hX : ((wint n : Nat) : Int) = n % (M256 : Int) := by unfold wint; omega
  have h1 : n = (wint n : Nat) + 2 ^ (8 * j) * ((256 * 2 ^ (248 - 8 * j)) * (n / (M256 : Int))) := by
    rw [hX, ← Int.mul_assoc, ← hM]; exact (Int.emod_add_mul_ediv n _).symm
  have h2 : n / 2 ^ (8 * j) = ((wint n : Nat) : Int) / 2 ^ (8 * j) + 256 * (2 ^ (248 - 8 * j) * (n / (M256 : Int))) := by
    rw [← Int.mul_assoc]
    conv => lhs; rw [h1]
    rw [Int.add_mul_ediv_left _ _ hp]
  rw [h2, Int.add_mul_emod_self_left]
  unfold byt
  rw [show 31 - (31 - j) = j by omega, Int.natCast_emod, Int.natCast_ediv, Int.natCast_pow]; rfl
theorem div_pow_succ (n : Int) (j : Nat) : n / 2 ^ (8 * j) / 256 = n / 2 ^ (8 * (j + 1)) := by
  rw [show (2 : Int) ^ (8 * (j + 1)) = 2 ^ (8 * j) * 256 by rw [show 8 * (j + 1) = 8 * j + 8 by omega, Int.pow_add]; rfl, ← Int.ediv_ediv_of_nonneg (Int.le_of_lt (Int.pow_pos (by decide)))]
theorem high_byte {n : Int} (hn : -9223372036854775808 ≤ n ∧ n ≤ 9223372036854775807) {i : Nat} (hi : i < 24) : (n / 2 ^ (8 * 8)) % 256 = ((byt (wint n) i : Nat) : Int) := by
  have h := wint_byte n (31 - i) (by omega)
  rw [show 31 - (31 - i) = i by omega] at h
  rw [← h]
  have e : (2 : Int) ^ (8 * (31 - i)) = 2 ^ (8 * 8) * ((2 ^ (8 * (23 - i)) : Nat) : Int) := by
    rw [show 8 * (31 - i) = 8 * 8 + 8 * (23 - i) by omega, Int.pow_add]; push_cast; rfl
  have hq : 0 < 2 ^ (8 * (23 - i)) := Nat.two_pow_pos _
  rw [e, ← Int.ediv_ediv_of_nonneg (by decide)]
  generalize 2 ^ (8 * (23 - i)) = Q at *
  have h64 : n / 2 ^ (8 * 8) = 0 ∨ n / 2 ^ (8 * 8) = -1 := by
    rw [show (2 : Int) ^ (8 * 8) = 18446744073709551616 by decide]; omega
  rcases h64 with h | h
  · rw [h, Int.zero_ediv]
  · rw [h, neg1_div hq]
theorem wcells_zero_lit : (wcells 0) = bc 32 fun _ => 0 := bc_congr fun i _ => by unfold byt; simp
theorem of_step {n : Int} {j : Nat} (hj : j < 8) {v : Int} (hv : v = ((byt (wint n) (31 - j) : Nat) : Int)) :
    (bc 32 fun i => if 31 < i + j then byt (wint n) i else byt 0 i).setIfInBounds (31 - j) (.int .u8 v) = bc 32 fun i => if 31 < i + (j + 1) then byt (wint n) i else byt 0 i := by
  rw [hv, bc_set (by omega)]
  refine bc_congr fun i hi => ?_
  by_cases h : i = 31 - j
  · rw [if_pos h, if_pos (by omega), h]
  · rw [if_neg h]
    by_cases h1 : 31 < i + j
    · rw [if_pos h1, if_pos (by omega)]
    · rw [if_neg h1, if_neg (by omega)]
theorem of_step2 {n : Int} {k : Nat} (hk : k < 24) {v : Int} (hv : v = ((byt (wint n) k : Nat) : Int)) :
    (bc 32 fun i => if 31 < i + 8 ∨ i < k then byt (wint n) i else byt 0 i).setIfInBounds k (.int .u8 v) = bc 32 fun i => if 31 < i + 8 ∨ i < k + 1 then byt (wint n) i else byt 0 i := by
  rw [hv, bc_set (by omega)]
  refine bc_congr fun i hi => ?_
  by_cases h : i = k
  · rw [if_pos h, if_pos (by omega), h]
  · rw [if_neg h]
    by_cases h1 : 31 < i + 8 ∨ i < k
    · rw [if_pos h1, if_pos (by omega)]
    · rw [if_neg h1, if_neg (by omega)]
theorem word_zero' : (Tryz.prog.info? 23).bind (·.zero) = some (.agg (wcells 0)) := by rw [wcells_zero_lit]; exact word_zero
set_option maxHeartbeats 1000000 in
set_option maxRecDepth 100000 in
theorem rOf_any (n0 : Int) (hn : -9223372036854775808 ≤ n0 ∧ n0 ≤ 9223372036854775807) (w : World) :
    Calls Tryz.prog 21 #[.int .i64 n0] w fun e w' => e = .returned (.agg (wcells (wint n0))) ∧ Tch [] w w' := by
  have hS := St.start w
  go_enter Tryz.func21, Tryz.ntmps21
  go_wp2_with (first | (have _t := b2; clear _t; refine st_new hS rfl 23 rfl word_zero' ?_; clear hS; intro w1 b3 hS) | (refine st_new hS rfl 23 rfl word_zero' ?_; clear hS; intro w1 b2 hS))
  go_loopw [0, 4] (fun n i wr => ∃ j : Nat, j ≤ 8 ∧ i = .int .i64 (31 - (j : Int)) ∧ (∃ m : Int, n = .int .i64 m ∧ Hid (m = n0 / 2 ^ (8 * j)) ∧ -9223372036854775808 ≤ m ∧ m ≤ 9223372036854775807) ∧ St [] w wr [(b3, 23, bc 32 fun i => if 31 < i + j then byt (wint n0) i else byt 0 i), (b2, 23, wcells 0)]) (fun _ i _ => (intOf i).toNat)
  case atStart =>
    refine ⟨0, by omega, rfl, ⟨n0, rfl, Lib.hid (by simp), hn.1, hn.2⟩, ?_⟩
    rw [show (bc 32 fun i => if 31 < i + 0 then byt (wint n0) i else byt 0 i) = wf (byt 0) from bc_congr fun i hi => if_neg (by omega)]
    exact hS
  case round =>
    clear hS
    obtain ⟨j, hj, rfl, ⟨m, rfl, HM, hm1, hm2⟩, hS⟩ := hrel
    by_cases hlt : j < 8
    · have hst := of_step (n := n0) hlt (v := bits BinOp.and IntKind.i64 m 255 % 256) (by rw [int_and255, HM.out, Int.emod_emod, wint_byte n0 j (by omega)])
      have HS := Lib.hid hst
      clear hst
      go_wp2_with (first | (refine st_store1 (j := 31 - j) hS rfl 5 _ _ rfl rfl rfl u8_size (by repeat (first | exact Upd.head | apply Upd.tail)) (by first | (rw [bc_size]; omega) | (rw [Array.size_setIfInBounds, bc_size]; omega)) ?_; clear hS; intro w1 hS))
      rw [HS.out] at hS
      go_roundw
      case rel =>
        refine ⟨j + 1, by omega, by congr 1; omega, ⟨m / 256, rfl, Lib.hid (by rw [HM.out, div_pow_succ]), by omega, by omega⟩, hS⟩
      case measure => simp [intOf]; omega
    · obtain rfl : j = 8 := by omega
      rw [show (31 : Int) - ((8 : Nat) : Int) = 23 from rfl]
      go_wp2
      go_loopw [5] (fun i wr => ∃ k : Nat, k ≤ 24 ∧ i = .int .i64 k ∧ St [] w wr [(b3, 23, bc 32 fun i => if 31 < i + 8 ∨ i < k then byt (wint n0) i else byt 0 i), (b2, 23, wcells 0)]) (fun i _ => 24 - (intOf i).toNat)
      case atStart =>
        refine ⟨0, by omega, rfl, ?_⟩
        rw [show (bc 32 fun i => if 31 < i + 8 ∨ i < 0 then byt (wint n0) i else byt 0 i) = wf (fun i => if 31 < i + 8 then byt (wint n0) i else byt 0 i) from bc_congr fun i hi => by simp]
        exact hS
      case round =>
        clear hS
        obtain ⟨k, hk, rfl, hS⟩ := hrel
        by_cases hlk : k < 24
        · have hst := of_step2 (n := n0) hlk (v := bits BinOp.and IntKind.i64 m 255 % 256) (by rw [int_and255, HM.out, Int.emod_emod, high_byte hn hlk])
          have HS := Lib.hid hst
          clear hst
          go_wp2_with (first | (refine st_store1 (j := k) hS rfl 5 _ _ rfl rfl rfl u8_size (by repeat (first | exact Upd.head | apply Upd.tail)) (by first | (rw [bc_size]; omega) | (rw [Array.size_setIfInBounds, bc_size]; omega)) ?_; clear hS; intro w1 hS))
          rw [HS.out] at hS
          go_roundw
          case rel => exact ⟨k + 1, by omega, by go_num, hS⟩
          case measure => simp [intOf]; omega
        · obtain rfl : k = 24 := by omega
          rw [show (bc 32 fun i => if 31 < i + 8 ∨ i < 24 then byt (wint n0) i else byt 0 i) = wcells (wint n0) from bc_congr fun i hi => if_pos (by omega)] at hS
          go_wp2_with (first | (refine st_load hS rfl 23 _ rfl rfl (by repeat (first | exact At.head | apply At.tail)) wordN_type rfl wordN_size (bc_size _ _) ?_) | (refine st_store hS rfl 23 _ _ rfl rfl rfl (by repeat (first | exact Upd.head | apply Upd.tail)) wordN_size (bc_size _ _) (bc_size _ _) (bc_one _ _) ?_; clear hS; intro w1 hS))
          exact st_post hS 2 23 rfl rfl rfl (by repeat (first | exact At.head | apply At.tail)) wordN_type rfl wordN_size (bc_size _ _) (fun hb => ⟨rfl, hb⟩)
end Go.Proofs.YtdjhjgockgmbkaaGreatDoor

/- Bytes and limbs: joinBytes, splitBytes. -/
namespace Go.Proofs.YtdjhjgockgmbkaaGreatDoor
open Go.RowKit

/-- Eight cells set, one behind the other. -/
def set8 (c : Array Value) (o : Nat) (f : Nat → Nat) : Array Value :=
  (((((((c.setIfInBounds o (.int .u8 (f 0))).setIfInBounds (o + 1) (.int .u8 (f 1))).setIfInBounds (o + 2) (.int .u8 (f 2))).setIfInBounds (o + 3) (.int .u8 (f 3))).setIfInBounds (o + 4) (.int .u8 (f 4))).setIfInBounds (o + 5) (.int .u8 (f 5))).setIfInBounds (o + 6) (.int .u8 (f 6))).setIfInBounds (o + 7) (.int .u8 (f 7))
theorem set8_bc {g f : Nat → Nat} {o : Nat} (h : o + 8 ≤ 32) : set8 (bc 32 g) o f = bc 32 (fun i => if o ≤ i ∧ i < o + 8 then f (i - o) else g i) := by
  unfold set8
  rw [bc_set (by omega), bc_set (by omega), bc_set (by omega), bc_set (by omega), bc_set (by omega), bc_set (by omega), bc_set (by omega), bc_set (by omega)]
  refine bc_congr fun i hi => ?_
  by_cases hc : o ≤ i ∧ i < o + 8
  · rw [if_pos hc]
    obtain ⟨d, rfl⟩ : ∃ d, i = o + d := ⟨i - o, by omega⟩
    have hd : d = 0 ∨ d = 1 ∨ d = 2 ∨ d = 3 ∨ d = 4 ∨ d = 5 ∨ d = 6 ∨ d = 7 := by omega
    rcases hd with rfl | rfl | rfl | rfl | rfl | rfl | rfl | rfl <;> simp
  · rw [if_neg hc]
    rw [if_neg (by omega), if_neg (by omega), if_neg (by omega), if_neg (by omega), if_neg (by omega), if_neg (by omega), if_neg (by omega), if_neg (by omega)]

set_option maxHeartbeats 1000000 in
set_option maxRecDepth 100000 in
theorem splitBytes_any (y : Nat) (hy : y < 18446744073709551616) (b o n c : Nat) (t : TypeId) (cs : Array Value) (w : World) (hn : 8 ≤ n) (ho : o + 8 ≤ cs.size) (hb : Blk w b t cs) :
    Calls Tryz.prog 155 #[.slice (some ⟨b, o, none⟩) n c, .int .u64 y] w fun e w' => e = .returned (.tuple #[]) ∧
      Blk w' b t (set8 cs o fun j => y / 2 ^ (8 * (7 - j)) % 256) ∧ Only b w w' := by
  obtain ⟨v7, h7⟩ : ∃ v, w.cell? ⟨b, o + 7, none⟩ = some v := ⟨_, hb.cell (Array.getElem?_eq_getElem (by omega))⟩
  have hO := Only.refl b w
  have n0 : (0 : Int) < (n : Int) := by omega
  have n1 : (1 : Int) < (n : Int) := by omega
  have n2 : (2 : Int) < (n : Int) := by omega
  have n3 : (3 : Int) < (n : Int) := by omega
  have n4 : (4 : Int) < (n : Int) := by omega
  have n5 : (5 : Int) < (n : Int) := by omega
  have n6 : (6 : Int) < (n : Int) := by omega
  have n7 : (7 : Int) < (n : Int) := by omega
  go_enter Tryz.func155, Tryz.ntmps155
  go_wp2_with (refine arm_store_int rfl 5 _ _ rfl rfl rfl u8_size (by assumption) (by first | omega | (simp; omega)) ?_; clear hb; intro w1 hb hO1; replace hO := hO.trans hO1; clear hO1)
  go_end0
  refine ⟨rfl, ?_, hO⟩
  have q0 : ((y / 2 ^ (8 * (7 - 0)) % 256 : Nat) : Int) = (y : Int) / 72057594037927936 := by show ((y / 72057594037927936 % 256 : Nat) : Int) = _; omega
  have q1 : ((y / 2 ^ (8 * (7 - 1)) % 256 : Nat) : Int) = (y : Int) / 281474976710656 % 256 := by show ((y / 281474976710656 % 256 : Nat) : Int) = _; omega
  have q2 : ((y / 2 ^ (8 * (7 - 2)) % 256 : Nat) : Int) = (y : Int) / 1099511627776 % 256 := by show ((y / 1099511627776 % 256 : Nat) : Int) = _; omega
  have q3 : ((y / 2 ^ (8 * (7 - 3)) % 256 : Nat) : Int) = (y : Int) / 4294967296 % 256 := by show ((y / 4294967296 % 256 : Nat) : Int) = _; omega
  have q4 : ((y / 2 ^ (8 * (7 - 4)) % 256 : Nat) : Int) = (y : Int) / 16777216 % 256 := by show ((y / 16777216 % 256 : Nat) : Int) = _; omega
  have q5 : ((y / 2 ^ (8 * (7 - 5)) % 256 : Nat) : Int) = (y : Int) / 65536 % 256 := by show ((y / 65536 % 256 : Nat) : Int) = _; omega
  have q6 : ((y / 2 ^ (8 * (7 - 6)) % 256 : Nat) : Int) = (y : Int) / 256 % 256 := by show ((y / 256 % 256 : Nat) : Int) = _; omega
  have q7 : ((y / 2 ^ (8 * (7 - 7)) % 256 : Nat) : Int) = (y : Int) % 256 := by show ((y / 1 % 256 : Nat) : Int) = _; omega
  rw [← q0, ← q1, ← q2, ← q3, ← q4, ← q5, ← q6, ← q7] at hb
  exact hb

theorem or_join (i A B : Nat) (hA : A % 2 ^ i = 0) (hB : B < 2 ^ i) (h1 : A < 18446744073709551616) (h2 : B < 18446744073709551616) : bits BinOp.or IntKind.u64 (A : Int) (B : Int) = ((A + B : Nat) : Int) := by
  rw [← nat_join i A B hA hB, ← u64_or_nat A B h1 h2]

set_option maxHeartbeats 1000000 in
set_option maxRecDepth 100000 in
theorem joinBytes_any (x : Nat → Nat) (b o n c : Nat) (w : World) (hn : 8 ≤ n) (hx : ∀ j, x j < 256)
    (h : ∀ j, j < 8 → w.cell? ⟨b, o + j, none⟩ = some (.int .u8 (x j))) :
    Calls Tryz.prog 157 #[.slice (some ⟨b, o, none⟩) n c] w fun e w' =>
      e = .returned (.int .u64 ((x 0 * 2 ^ 56 + x 1 * 2 ^ 48 + x 2 * 2 ^ 40 + x 3 * 2 ^ 32 + x 4 * 2 ^ 24 + x 5 * 2 ^ 16 + x 6 * 2 ^ 8 + x 7 : Nat) : Int)) ∧ ∃ m, w' = w.drewN m := by
  have h0 := h 0 (by omega)
  have h1 := h 1 (by omega)
  have h2 := h 2 (by omega)
  have h3 := h 3 (by omega)
  have h4 := h 4 (by omega)
  have h5 := h 5 (by omega)
  have h6 := h 6 (by omega)
  have h7 := h 7 (by omega)
  have b0 := hx 0
  have b1 := hx 1
  have b2 := hx 2
  have b3 := hx 3
  have b4 := hx 4
  have b5 := hx 5
  have b6 := hx 6
  have b7 := hx 7
  rw [Nat.add_zero] at h0
  clear h hx
  generalize x 0 = x0 at *
  generalize x 1 = x1 at *
  generalize x 2 = x2 at *
  generalize x 3 = x3 at *
  generalize x 4 = x4 at *
  generalize x 5 = x5 at *
  generalize x 6 = x6 at *
  generalize x 7 = x7 at *
  go_enter Tryz.func157, Tryz.ntmps157
  go_wp2
  go_quiet (fail)
  go_wp2
  go_ret
  refine ⟨ret_int ?_, _, rfl⟩
  have j1 : bits BinOp.or IntKind.u64 ((x0 : Int) * 72057594037927936) ((x1 : Int) * 281474976710656) = ((x0 * 72057594037927936 + x1 * 281474976710656 : Nat) : Int) := by
    have e := or_join 56 (x0 * 72057594037927936) (x1 * 281474976710656) (by omega) (by omega) (by omega) (by omega)
    simpa using e
  rw [j1]
  have j2 : bits BinOp.or IntKind.u64 ((x0 * 72057594037927936 + x1 * 281474976710656 : Nat) : Int) ((x2 : Int) * 1099511627776) = ((x0 * 72057594037927936 + x1 * 281474976710656 + x2 * 1099511627776 : Nat) : Int) := by
    have e := or_join 48 (x0 * 72057594037927936 + x1 * 281474976710656) (x2 * 1099511627776) (by omega) (by omega) (by omega) (by omega)
    simpa using e
  rw [j2]
  have j3 : bits BinOp.or IntKind.u64 ((x0 * 72057594037927936 + x1 * 281474976710656 + x2 * 1099511627776 : Nat) : Int) ((x3 : Int) * 4294967296) = ((x0 * 72057594037927936 + x1 * 281474976710656 + x2 * 1099511627776 + x3 * 4294967296 : Nat) : Int) := by
    have e := or_join 40 (x0 * 72057594037927936 + x1 * 281474976710656 + x2 * 1099511627776) (x3 * 4294967296) (by omega) (by omega) (by omega) (by omega)
    simpa using e
  rw [j3]
  have j4 : bits BinOp.or IntKind.u64 ((x0 * 72057594037927936 + x1 * 281474976710656 + x2 * 1099511627776 + x3 * 4294967296 : Nat) : Int) ((x4 : Int) * 16777216) = ((x0 * 72057594037927936 + x1 * 281474976710656 + x2 * 1099511627776 + x3 * 4294967296 + x4 * 16777216 : Nat) : Int) := by
    have e := or_join 32 (x0 * 72057594037927936 + x1 * 281474976710656 + x2 * 1099511627776 + x3 * 4294967296) (x4 * 16777216) (by omega) (by omega) (by omega) (by omega)
    simpa using e
  rw [j4]
  have j5 : bits BinOp.or IntKind.u64 ((x0 * 72057594037927936 + x1 * 281474976710656 + x2 * 1099511627776 + x3 * 4294967296 + x4 * 16777216 : Nat) : Int) ((x5 : Int) * 65536) = ((x0 * 72057594037927936 + x1 * 281474976710656 + x2 * 1099511627776 + x3 * 4294967296 + x4 * 16777216 + x5 * 65536 : Nat) : Int) := by
    have e := or_join 24 (x0 * 72057594037927936 + x1 * 281474976710656 + x2 * 1099511627776 + x3 * 4294967296 + x4 * 16777216) (x5 * 65536) (by omega) (by omega) (by omega) (by omega)
    simpa using e
  rw [j5]
  have j6 : bits BinOp.or IntKind.u64 ((x0 * 72057594037927936 + x1 * 281474976710656 + x2 * 1099511627776 + x3 * 4294967296 + x4 * 16777216 + x5 * 65536 : Nat) : Int) ((x6 : Int) * 256) = ((x0 * 72057594037927936 + x1 * 281474976710656 + x2 * 1099511627776 + x3 * 4294967296 + x4 * 16777216 + x5 * 65536 + x6 * 256 : Nat) : Int) := by
    have e := or_join 16 (x0 * 72057594037927936 + x1 * 281474976710656 + x2 * 1099511627776 + x3 * 4294967296 + x4 * 16777216 + x5 * 65536) (x6 * 256) (by omega) (by omega) (by omega) (by omega)
    simpa using e
  rw [j6]
  have j7 : bits BinOp.or IntKind.u64 ((x0 * 72057594037927936 + x1 * 281474976710656 + x2 * 1099511627776 + x3 * 4294967296 + x4 * 16777216 + x5 * 65536 + x6 * 256 : Nat) : Int) ((x7 : Int)) = ((x0 * 72057594037927936 + x1 * 281474976710656 + x2 * 1099511627776 + x3 * 4294967296 + x4 * 16777216 + x5 * 65536 + x6 * 256 + x7 : Nat) : Int) := by
    have e := or_join 8 (x0 * 72057594037927936 + x1 * 281474976710656 + x2 * 1099511627776 + x3 * 4294967296 + x4 * 16777216 + x5 * 65536 + x6 * 256) (x7) (by omega) (by omega) (by omega) (by omega)
    simpa using e
  rw [j7]
end Go.Proofs.YtdjhjgockgmbkaaGreatDoor
