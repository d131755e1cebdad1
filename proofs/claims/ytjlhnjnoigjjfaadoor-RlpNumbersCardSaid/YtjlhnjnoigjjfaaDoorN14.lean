/- word.Of; Num and Int whole. -/
import Derived.Test.YtjlhnjnoigjjfaaDoorN13
namespace Go.Proofs.YtjlhnjnoigjjfaaDoor
open Go.RowKit

theorem dig_of {n : Int} (hn : -9223372036854775808 ≤ n ∧ n ≤ 9223372036854775807) :
    #[Value.int .u64 (n % 18446744073709551616), Value.int .u64 ((n / 9223372036854775808) % 18446744073709551616), Value.int .u64 ((n / 9223372036854775808) % 18446744073709551616), Value.int .u64 ((n / 9223372036854775808) % 18446744073709551616)] = dig 4 (wint n) := by
  have h : dig 4 (wint n) = #[Value.int .u64 ((wint n / 2 ^ (64 * 0) % 2 ^ 64 : Nat) : Int), Value.int .u64 ((wint n / 2 ^ (64 * 1) % 2 ^ 64 : Nat) : Int), Value.int .u64 ((wint n / 2 ^ (64 * 2) % 2 ^ 64 : Nat) : Int), Value.int .u64 ((wint n / 2 ^ (64 * 3) % 2 ^ 64 : Nat) : Int)] := rfl
  rw [h]
  rcases Int.lt_or_le n 0 with hneg | hpos
  · have hw : wint n = 115792089237316195423570985008687907853269984665640564039457584007913129639936 - (-n).toNat := by
      have e : n % (M256 : Int) = n + 115792089237316195423570985008687907853269984665640564039457584007913129639936 := by
        show n % (115792089237316195423570985008687907853269984665640564039457584007913129639936 : Int) = _
        omega
      unfold wint; rw [e]; omega
    rw [hw]
    obtain ⟨m, rfl, hm⟩ : ∃ m : Nat, n = -(m : Int) ∧ 1 ≤ m := ⟨(-n).toNat, by omega, by omega⟩
    have e1 : -(m : Int) / 9223372036854775808 % 18446744073709551616 = 18446744073709551615 := by omega
    rw [e1, show (- -(m : Int)).toNat = m by omega]
    have e0 : ((115792089237316195423570985008687907853269984665640564039457584007913129639936 - m) / 2 ^ (64 * 0) % 2 ^ 64 : Nat) = 18446744073709551616 - m := by omega
    have e2 : ((115792089237316195423570985008687907853269984665640564039457584007913129639936 - m) / 2 ^ (64 * 1) % 2 ^ 64 : Nat) = 18446744073709551615 := by omega
    have e3 : ((115792089237316195423570985008687907853269984665640564039457584007913129639936 - m) / 2 ^ (64 * 2) % 2 ^ 64 : Nat) = 18446744073709551615 := by omega
    have e4 : ((115792089237316195423570985008687907853269984665640564039457584007913129639936 - m) / 2 ^ (64 * 3) % 2 ^ 64 : Nat) = 18446744073709551615 := by omega
    rw [e0, e2, e3, e4]
    have e5 : -(m : Int) % 18446744073709551616 = ((18446744073709551616 - m : Nat) : Int) := by omega
    rw [e5]; rfl
  · obtain ⟨m, rfl⟩ := Int.eq_ofNat_of_zero_le hpos
    have hm : m < M256 := by unfold M256; omega
    rw [wint_nat hm]
    have e1 : (m : Int) / 9223372036854775808 % 18446744073709551616 = 0 := by omega
    rw [e1]
    have e0 : (m / 2 ^ (64 * 0) % 2 ^ 64 : Nat) = m := by omega
    have e2 : (m / 2 ^ (64 * 1) % 2 ^ 64 : Nat) = 0 := by omega
    have e3 : (m / 2 ^ (64 * 2) % 2 ^ 64 : Nat) = 0 := by omega
    have e4 : (m / 2 ^ (64 * 3) % 2 ^ 64 : Nat) = 0 := by omega
    rw [e0, e2, e3, e4]
    have e5 : (m : Int) % 18446744073709551616 = (m : Int) := by omega
    rw [e5]; rfl
theorem word_of {cs : Array Value} {x : Nat} (h : cs = dig 4 x) (w : World) :
    Calls Tryd.prog 28 #[.agg cs] w fun e w' => e = .returned (.agg (wcells x)) ∧ Below w.heap.size w w' := by
  subst h; exact word_any x w
set_option maxHeartbeats 1000000 in
set_option maxRecDepth 100000 in
theorem of_any (n : Int) (hn : -9223372036854775808 ≤ n ∧ n ≤ 9223372036854775807) (w : World) :
    Calls Tryd.prog 20 #[.int .i64 n] w fun e w' => e = .returned (.agg (wcells (wint n))) ∧ Tch [] w w' := by
  have hd := dig_of hn
  rw [← IntKind.wrap_u64, ← IntKind.wrap_u64] at hd
  have HD := Lib.hid hd
  clear hd
  have hS := St.start w
  go_enter Tryd.func20, Tryd.ntmps20
  go_wp2_with (first
    | (refine st_new (L := []) hS rfl 23 rfl word_zero ?_; clear hS; intro w1 b1 hS)
    | (go_at_call 28; go_must (refine (word_of HD.out _).mono ?_; rintro e w2 ⟨rfl, hb⟩; replace hS := hS.call (Tch.of_below hb); clear hb))
    | (refine st_store (b := b1) hS rfl 23 _ _ rfl rfl rfl .head wordN_size (bc_size _ _) (bc_size _ _) (bc_one _ _) ?_; clear hS; intro w3 hS))
  refine post_cell 2 23 rfl rfl rfl (hS.get .head) wordN_type rfl wordN_size (bc_size _ _) ?_
  exact ⟨rfl, hS.frame⟩
/-- The bytes of a number. -/
def bytesN (x : Nat) : List Nat := (List.range 32).map (byt x)
theorem bytesN_len (x : Nat) : (bytesN x).length = 32 := by simp [bytesN]
theorem bytesN_lt (x : Nat) : ∀ y ∈ bytesN x, y < 256 := by
  intro y hy
  obtain ⟨i, _, rfl⟩ := List.mem_map.1 hy
  exact byt_lt _ _
theorem wv_bytesN (x : Nat) : wv (bytesN x) = bc 32 (byt x) := bc_congr fun i hi => by
  unfold bytesN
  rw [List.getD_eq_getElem?_getD, List.getElem?_map, List.getElem?_range hi]; rfl
theorem pnum_all (n : Int) (w : World) (hn : n ≤ 9223372036854775807) : Calls Tryd.prog 11 #[.int .i64 n] w (BytesPost [] (stripZ (bytesN n.toNat)) w) :=
  pnum_any n _ w (bytesN_len _) (bytesN_lt _) fun k w' hk => by
    have h := of_any k (by omega) w'
    rw [wv_bytesN, show n.toNat = wint k by rw [hk, wint_nat (by unfold M256; omega)]]
    exact h
theorem rnum_all (n : Int) (w : World) (hn : n ≤ 9223372036854775807) : Calls Tryd.prog 12 #[.int .i64 n] w (BytesPost [] (stripZ (bytesN n.toNat)) w) :=
  rnum_any n _ w (bytesN_len _) (bytesN_lt _) fun k w' hk => by
    have h := rOf_any k (by omega) w'
    rw [wv_bytesN, show n.toNat = wint k by rw [hk, wint_nat (by unfold M256; omega)]]
    exact h
end Go.Proofs.YtjlhnjnoigjjfaaDoor
