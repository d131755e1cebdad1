/- How many bits a limb has: Len64, LeadingZeros64. -/
import Derived.Test.YtcdjinjeogodfaaI1
import Derived.Test.YtcdjinjeogodfaaPE
import Derived.Lib.BitFns
namespace Go.Proofs.Ytcdjinjeogodfaa
open Go.RowKit

theorem tab_get (i : Nat) (h : i < Lib.len8tab.size) : (Lib.len8tab[i]'h).toNat = bitLen i := len8tab_get i h
set_option maxHeartbeats 4000000 in
set_option maxRecDepth 100000 in
theorem len64_int (x : Int) (w : World) (h0 : 0 ≤ x) (h1 : x ≤ 18446744073709551615) :
    Calls Try.prog 110 #[.int .u64 x] w fun e w' => e = .returned (.int .i64 (bitLen x.toNat)) ∧ w = w' := by
  have hsz := Lib.len8tab_size
  go_enter Try.func110, Try.ntmps110
  go_wp2
  all_goals (go_ret; refine ⟨congrArg Ending.returned (congrArg (Value.int IntKind.i64) ?_), rfl⟩; simp only [tab_get])
  all_goals first
    | (have e : (x / 4294967296 / 65536 / 256).toNat = (x.toNat / 72057594037927936) := by omega
       have l := bitLen_le8 (x.toNat / 72057594037927936) (by omega)
       simp only [e]
       have s := bitLen_shift x.toNat 56 (by rw [show (2 : Nat) ^ 56 = 72057594037927936 by decide]; omega)
       rw [show (2 : Nat) ^ 56 = 72057594037927936 by decide] at s
       generalize bitLen (x.toNat / 72057594037927936) = z at *
       rw [s, IntWalk.wrap64_in (z : Int) (by omega), IntWalk.wrap64_in _ (by omega)]
       omega)
    | (have e : (x / 4294967296 / 65536).toNat = (x.toNat / 281474976710656) := by omega
       have l := bitLen_le8 (x.toNat / 281474976710656) (by omega)
       simp only [e]
       have s := bitLen_shift x.toNat 48 (by rw [show (2 : Nat) ^ 48 = 281474976710656 by decide]; omega)
       rw [show (2 : Nat) ^ 48 = 281474976710656 by decide] at s
       generalize bitLen (x.toNat / 281474976710656) = z at *
       rw [s, IntWalk.wrap64_in (z : Int) (by omega), IntWalk.wrap64_in _ (by omega)]
       omega)
    | (have e : (x / 4294967296 / 256).toNat = (x.toNat / 1099511627776) := by omega
       have l := bitLen_le8 (x.toNat / 1099511627776) (by omega)
       simp only [e]
       have s := bitLen_shift x.toNat 40 (by rw [show (2 : Nat) ^ 40 = 1099511627776 by decide]; omega)
       rw [show (2 : Nat) ^ 40 = 1099511627776 by decide] at s
       generalize bitLen (x.toNat / 1099511627776) = z at *
       rw [s, IntWalk.wrap64_in (z : Int) (by omega), IntWalk.wrap64_in _ (by omega)]
       omega)
    | (have e : (x / 4294967296).toNat = (x.toNat / 4294967296) := by omega
       have l := bitLen_le8 (x.toNat / 4294967296) (by omega)
       simp only [e]
       have s := bitLen_shift x.toNat 32 (by rw [show (2 : Nat) ^ 32 = 4294967296 by decide]; omega)
       rw [show (2 : Nat) ^ 32 = 4294967296 by decide] at s
       generalize bitLen (x.toNat / 4294967296) = z at *
       rw [s, IntWalk.wrap64_in (z : Int) (by omega), IntWalk.wrap64_in _ (by omega)]
       omega)
    | (have e : (x / 65536 / 256).toNat = (x.toNat / 16777216) := by omega
       have l := bitLen_le8 (x.toNat / 16777216) (by omega)
       simp only [e]
       have s := bitLen_shift x.toNat 24 (by rw [show (2 : Nat) ^ 24 = 16777216 by decide]; omega)
       rw [show (2 : Nat) ^ 24 = 16777216 by decide] at s
       generalize bitLen (x.toNat / 16777216) = z at *
       rw [s, IntWalk.wrap64_in (z : Int) (by omega), IntWalk.wrap64_in _ (by omega)]
       omega)
    | (have e : (x / 65536).toNat = (x.toNat / 65536) := by omega
       have l := bitLen_le8 (x.toNat / 65536) (by omega)
       simp only [e]
       have s := bitLen_shift x.toNat 16 (by rw [show (2 : Nat) ^ 16 = 65536 by decide]; omega)
       rw [show (2 : Nat) ^ 16 = 65536 by decide] at s
       generalize bitLen (x.toNat / 65536) = z at *
       rw [s, IntWalk.wrap64_in (z : Int) (by omega), IntWalk.wrap64_in _ (by omega)]
       omega)
    | (have e : (x / 256).toNat = (x.toNat / 256) := by omega
       have l := bitLen_le8 (x.toNat / 256) (by omega)
       simp only [e]
       have s := bitLen_shift x.toNat 8 (by rw [show (2 : Nat) ^ 8 = 256 by decide]; omega)
       rw [show (2 : Nat) ^ 8 = 256 by decide] at s
       generalize bitLen (x.toNat / 256) = z at *
       rw [s, IntWalk.wrap64_in (z : Int) (by omega), IntWalk.wrap64_in _ (by omega)]
       omega)
    | (have e : (x).toNat = x.toNat := by omega
       have l := bitLen_le8 x.toNat (by omega)
       generalize bitLen x.toNat = z at *
       rw [IntWalk.wrap64_in (z : Int) (by omega), IntWalk.wrap64_in _ (by omega)])
theorem len64_any (x : Nat) (w : World) (hx : x < 18446744073709551616) :
    Calls Try.prog 110 #[.int .u64 (x : Int)] w fun e w' => e = .returned (.int .i64 ((bitLen x : Nat) : Int)) ∧ w = w' := by
  have := len64_int x w (by omega) (by omega)
  rwa [Int.toNat_natCast] at this
set_option maxHeartbeats 1000000 in
set_option maxRecDepth 100000 in
theorem lead_any (x : Nat) (w : World) (hx : x < 18446744073709551616) :
    Calls Try.prog 103 #[.int .u64 (x : Int)] w fun e w' => e = .returned (.int .i64 (((64 - bitLen x : Nat)) : Int)) ∧ w = w' := by
  have hl : bitLen x ≤ 64 := by
    by_cases h0 : x = 0
    · subst h0; exact Nat.zero_le _
    · have h1 := (bitLen_spec x).2 h0
      have := (Nat.pow_lt_pow_iff_right (by decide : 1 < 2)).1 (Nat.lt_of_le_of_lt h1 (show x < 2 ^ 64 by omega))
      omega
  have e1 : (64 : Int) - ((bitLen x : Nat) : Int) = ((64 - bitLen x : Nat) : Int) := by omega
  obtain ⟨b, hb⟩ : ∃ b, b = bitLen x := ⟨_, rfl⟩
  have HC := len64_any x w hx
  rw [← hb] at HC hl e1 ⊢
  have HC := Lib.hid HC
  clear hb
  have HE := Lib.hid e1
  clear e1 hx
  go_enter Try.func103, Try.ntmps103
  go_wp2_with (go_at_call 110; with_reducible refine HC.out.mono ?_; rintro e w' ⟨rfl, rfl⟩)
  go_ret
  exact ⟨ret_int (by rw [← HE.out]), rfl⟩
end Go.Proofs.Ytcdjinjeogodfaa
