/- Bytes and limbs: joinBytes, splitBytes. -/
import Derived.Test.YtklpcppdjcedpaaN10
import Derived.Deep.QuietTactic
import Derived.BigQuiet
set_option linter.unusedVariables false
set_option linter.unusedSimpArgs false
namespace Go.Proofs.Ytklpcppdjcedpaa
open Go.RowKit

/-- Eight cells set, one behind the other. -/
def set8 (c : Array Value) (o : Nat) (f : Nat → Nat) : Array Value :=
  (((((((c.setIfInBounds o (.int .u8 (f 0))).setIfInBounds (o + 1) (.int .u8 (f 1))).setIfInBounds (o + 2) (.int .u8 (f 2))).setIfInBounds (o + 3) (.int .u8 (f 3))).setIfInBounds (o + 4) (.int .u8 (f 4))).setIfInBounds (o + 5) (.int .u8 (f 5))).setIfInBounds (o + 6) (.int .u8 (f 6))).setIfInBounds (o + 7) (.int .u8 (f 7))
theorem set8_bc {g f : Nat → Nat} {o : Nat} (h : o + 8 ≤ 32) : set8 (bc 32 g) o f = bc 32 (fun i => if o ≤ i ∧ i < o + 8 then f (i - o) else g i) := by
  unfold set8
  rw [bc_set (by omega), bc_set (by omega), bc_set (by omega), bc_set (by omega), bc_set (by omega), bc_set (by omega), bc_set (by omega), bc_set (by omega)]
  refine bc_congr fun i hi => ?_
  by_cases hc : o ≤ i ∧ i < o + 8
  · rw [if_pos hc]
    obtain ⟨d, rfl⟩ : ∃ d, i = o + d := ⟨i - o, by omega⟩
    have hd : d = 0 ∨ d = 1 ∨ d = 2 ∨ d = 3 ∨ d = 4 ∨ d = 5 ∨ d = 6 ∨ d = 7 := by omega
    rcases hd with rfl | rfl | rfl | rfl | rfl | rfl | rfl | rfl <;> simp
  · rw [if_neg hc]
    rw [if_neg (by omega), if_neg (by omega), if_neg (by omega), if_neg (by omega), if_neg (by omega), if_neg (by omega), if_neg (by omega), if_neg (by omega)]

set_option maxHeartbeats 1000000 in
set_option maxRecDepth 100000 in
theorem splitBytes_any (y : Nat) (hy : y < 18446744073709551616) (b o n c : Nat) (t : TypeId) (cs : Array Value) (w : World) (hn : 8 ≤ n) (ho : o + 8 ≤ cs.size) (hb : Blk w b t cs) :
    Calls Try.prog 60 #[.slice (some ⟨b, o, none⟩) n c, .int .u64 y] w fun e w' => e = .returned (.tuple #[]) ∧
      Blk w' b t (set8 cs o fun j => y / 2 ^ (8 * (7 - j)) % 256) ∧ Only b w w' := by
  obtain ⟨v7, h7⟩ : ∃ v, w.cell? ⟨b, o + 7, none⟩ = some v := ⟨_, hb.cell (Array.getElem?_eq_getElem (by omega))⟩
  have hO := Only.refl b w
  have n0 : (0 : Int) < (n : Int) := by omega
  have n1 : (1 : Int) < (n : Int) := by omega
  have n2 : (2 : Int) < (n : Int) := by omega
  have n3 : (3 : Int) < (n : Int) := by omega
  have n4 : (4 : Int) < (n : Int) := by omega
  have n5 : (5 : Int) < (n : Int) := by omega
  have n6 : (6 : Int) < (n : Int) := by omega
  have n7 : (7 : Int) < (n : Int) := by omega
  go_enter Try.func60, Try.ntmps60
  go_wp2_with (refine arm_store_int rfl 5 _ _ rfl rfl rfl u8_size (by assumption) (by first | omega | (simp; omega)) ?_; clear hb; intro w1 hb hO1; replace hO := hO.trans hO1; clear hO1)
  go_end0
  refine ⟨rfl, ?_, hO⟩
  have q0 : ((y / 2 ^ (8 * (7 - 0)) % 256 : Nat) : Int) = (y : Int) / 72057594037927936 := by show ((y / 72057594037927936 % 256 : Nat) : Int) = _; omega
  have q1 : ((y / 2 ^ (8 * (7 - 1)) % 256 : Nat) : Int) = (y : Int) / 281474976710656 % 256 := by show ((y / 281474976710656 % 256 : Nat) : Int) = _; omega
  have q2 : ((y / 2 ^ (8 * (7 - 2)) % 256 : Nat) : Int) = (y : Int) / 1099511627776 % 256 := by show ((y / 1099511627776 % 256 : Nat) : Int) = _; omega
  have q3 : ((y / 2 ^ (8 * (7 - 3)) % 256 : Nat) : Int) = (y : Int) / 4294967296 % 256 := by show ((y / 4294967296 % 256 : Nat) : Int) = _; omega
  have q4 : ((y / 2 ^ (8 * (7 - 4)) % 256 : Nat) : Int) = (y : Int) / 16777216 % 256 := by show ((y / 16777216 % 256 : Nat) : Int) = _; omega
  have q5 : ((y / 2 ^ (8 * (7 - 5)) % 256 : Nat) : Int) = (y : Int) / 65536 % 256 := by show ((y / 65536 % 256 : Nat) : Int) = _; omega
  have q6 : ((y / 2 ^ (8 * (7 - 6)) % 256 : Nat) : Int) = (y : Int) / 256 % 256 := by show ((y / 256 % 256 : Nat) : Int) = _; omega
  have q7 : ((y / 2 ^ (8 * (7 - 7)) % 256 : Nat) : Int) = (y : Int) % 256 := by show ((y / 1 % 256 : Nat) : Int) = _; omega
  rw [← q0, ← q1, ← q2, ← q3, ← q4, ← q5, ← q6, ← q7] at hb
  exact hb

theorem or_join (i A B : Nat) (hA : A % 2 ^ i = 0) (hB : B < 2 ^ i) (h1 : A < 18446744073709551616) (h2 : B < 18446744073709551616) : bits BinOp.or IntKind.u64 (A : Int) (B : Int) = ((A + B : Nat) : Int) := by
  rw [← nat_join i A B hA hB, ← u64_or_nat A B h1 h2]

set_option maxHeartbeats 1000000 in
set_option maxRecDepth 100000 in
theorem joinBytes_any (x : Nat → Nat) (b o n c : Nat) (w : World) (hn : 8 ≤ n) (hx : ∀ j, x j < 256)
    (h : ∀ j, j < 8 → w.cell? ⟨b, o + j, none⟩ = some (.int .u8 (x j))) :
    Calls Try.prog 58 #[.slice (some ⟨b, o, none⟩) n c] w fun e w' =>
      e = .returned (.int .u64 ((x 0 * 2 ^ 56 + x 1 * 2 ^ 48 + x 2 * 2 ^ 40 + x 3 * 2 ^ 32 + x 4 * 2 ^ 24 + x 5 * 2 ^ 16 + x 6 * 2 ^ 8 + x 7 : Nat) : Int)) ∧ ∃ m, w' = w.drewN m := by
  have h0 := h 0 (by omega)
  have h1 := h 1 (by omega)
  have h2 := h 2 (by omega)
  have h3 := h 3 (by omega)
  have h4 := h 4 (by omega)
  have h5 := h 5 (by omega)
  have h6 := h 6 (by omega)
  have h7 := h 7 (by omega)
  have b0 := hx 0
  have b1 := hx 1
  have b2 := hx 2
  have b3 := hx 3
  have b4 := hx 4
  have b5 := hx 5
  have b6 := hx 6
  have b7 := hx 7
  rw [Nat.add_zero] at h0
  clear h hx
  generalize x 0 = x0 at *
  generalize x 1 = x1 at *
  generalize x 2 = x2 at *
  generalize x 3 = x3 at *
  generalize x 4 = x4 at *
  generalize x 5 = x5 at *
  generalize x 6 = x6 at *
  generalize x 7 = x7 at *
  go_enter Try.func58, Try.ntmps58
  go_wp2
  go_quiet (fail)
  go_wp2
  go_ret
  refine ⟨ret_int ?_, _, rfl⟩
  have j1 : bits BinOp.or IntKind.u64 ((x0 : Int) * 72057594037927936) ((x1 : Int) * 281474976710656) = ((x0 * 72057594037927936 + x1 * 281474976710656 : Nat) : Int) := by
    have e := or_join 56 (x0 * 72057594037927936) (x1 * 281474976710656) (by omega) (by omega) (by omega) (by omega)
    simpa using e
  rw [j1]
  have j2 : bits BinOp.or IntKind.u64 ((x0 * 72057594037927936 + x1 * 281474976710656 : Nat) : Int) ((x2 : Int) * 1099511627776) = ((x0 * 72057594037927936 + x1 * 281474976710656 + x2 * 1099511627776 : Nat) : Int) := by
    have e := or_join 48 (x0 * 72057594037927936 + x1 * 281474976710656) (x2 * 1099511627776) (by omega) (by omega) (by omega) (by omega)
    simpa using e
  rw [j2]
  have j3 : bits BinOp.or IntKind.u64 ((x0 * 72057594037927936 + x1 * 281474976710656 + x2 * 1099511627776 : Nat) : Int) ((x3 : Int) * 4294967296) = ((x0 * 72057594037927936 + x1 * 281474976710656 + x2 * 1099511627776 + x3 * 4294967296 : Nat) : Int) := by
    have e := or_join 40 (x0 * 72057594037927936 + x1 * 281474976710656 + x2 * 1099511627776) (x3 * 4294967296) (by omega) (by omega) (by omega) (by omega)
    simpa using e
  rw [j3]
  have j4 : bits BinOp.or IntKind.u64 ((x0 * 72057594037927936 + x1 * 281474976710656 + x2 * 1099511627776 + x3 * 4294967296 : Nat) : Int) ((x4 : Int) * 16777216) = ((x0 * 72057594037927936 + x1 * 281474976710656 + x2 * 1099511627776 + x3 * 4294967296 + x4 * 16777216 : Nat) : Int) := by
    have e := or_join 32 (x0 * 72057594037927936 + x1 * 281474976710656 + x2 * 1099511627776 + x3 * 4294967296) (x4 * 16777216) (by omega) (by omega) (by omega) (by omega)
    simpa using e
  rw [j4]
  have j5 : bits BinOp.or IntKind.u64 ((x0 * 72057594037927936 + x1 * 281474976710656 + x2 * 1099511627776 + x3 * 4294967296 + x4 * 16777216 : Nat) : Int) ((x5 : Int) * 65536) = ((x0 * 72057594037927936 + x1 * 281474976710656 + x2 * 1099511627776 + x3 * 4294967296 + x4 * 16777216 + x5 * 65536 : Nat) : Int) := by
    have e := or_join 24 (x0 * 72057594037927936 + x1 * 281474976710656 + x2 * 1099511627776 + x3 * 4294967296 + x4 * 16777216) (x5 * 65536) (by omega) (by omega) (by omega) (by omega)
    simpa using e
  rw [j5]
  have j6 : bits BinOp.or IntKind.u64 ((x0 * 72057594037927936 + x1 * 281474976710656 + x2 * 1099511627776 + x3 * 4294967296 + x4 * 16777216 + x5 * 65536 : Nat) : Int) ((x6 : Int) * 256) = ((x0 * 72057594037927936 + x1 * 281474976710656 + x2 * 1099511627776 + x3 * 4294967296 + x4 * 16777216 + x5 * 65536 + x6 * 256 : Nat) : Int) := by
    have e := or_join 16 (x0 * 72057594037927936 + x1 * 281474976710656 + x2 * 1099511627776 + x3 * 4294967296 + x4 * 16777216 + x5 * 65536) (x6 * 256) (by omega) (by omega) (by omega) (by omega)
    simpa using e
  rw [j6]
  have j7 : bits BinOp.or IntKind.u64 ((x0 * 72057594037927936 + x1 * 281474976710656 + x2 * 1099511627776 + x3 * 4294967296 + x4 * 16777216 + x5 * 65536 + x6 * 256 : Nat) : Int) ((x7 : Int)) = ((x0 * 72057594037927936 + x1 * 281474976710656 + x2 * 1099511627776 + x3 * 4294967296 + x4 * 16777216 + x5 * 65536 + x6 * 256 + x7 : Nat) : Int) := by
    have e := or_join 8 (x0 * 72057594037927936 + x1 * 281474976710656 + x2 * 1099511627776 + x3 * 4294967296 + x4 * 16777216 + x5 * 65536 + x6 * 256) (x7) (by omega) (by omega) (by omega) (by omega)
    simpa using e
  rw [j7]
end Go.Proofs.Ytklpcppdjcedpaa
