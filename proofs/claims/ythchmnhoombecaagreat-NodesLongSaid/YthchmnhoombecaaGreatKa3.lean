/- The functions of numbers alone: turned to the left, one row mixed. -/
import Derived.Test.YthchmnhoombecaaGreatKa2
import Derived.Laws.BitsAll
namespace Go.Proofs.YthchmnhoombecaaGreat
open Go.RowKit

theorem rol_bits {x k : Nat} (hx : x < 18446744073709551616) : bits BinOp.or IntKind.u64 (IntKind.u64.wrap ((x : Int) * 2 ^ k)) ((x : Int) / 2 ^ (64 - k)) = ((rolN x k : Nat) : Int) := by
  have e1 : IntKind.u64.wrap ((x : Int) * 2 ^ k) = ((x * 2 ^ k % 2 ^ 64 : Nat) : Int) := by
    rw [IntKind.wrap_u64, show (x : Int) * 2 ^ k = ((x * 2 ^ k : Nat) : Int) by rw [Int.natCast_mul, Int.natCast_pow]; rfl]
    generalize x * 2 ^ k = y
    omega
  have e2 : (x : Int) / 2 ^ (64 - k) = ((x / 2 ^ (64 - k) : Nat) : Int) := by rw [Int.natCast_ediv, Int.natCast_pow]; rfl
  have h1 : x * 2 ^ k % 2 ^ 64 < 18446744073709551616 := Nat.mod_lt _ (by decide)
  have h2 : x / 2 ^ (64 - k) < 18446744073709551616 := Nat.lt_of_le_of_lt (Nat.div_le_self _ _) hx
  rw [e1, e2]
  exact u64_or_nat _ _ h1 h2
set_option maxHeartbeats 4000000 in
set_option maxRecDepth 100000 in
theorem rotl_any (x k : Nat) (hx : x < 18446744073709551616) (hk0 : 0 < k) (hk : k < 64) (w : World) :
    Calls Tryz.prog 137 #[.int .u64 (x : Int), .int .i64 (k : Int)] w fun e w' => e = .returned (.int .u64 ((rolN x k : Nat) : Int)) ∧ w = w' := by
  have hand : bits BinOp.and IntKind.u64 (k : Int) 63 = (k : Int) := by
    rw [show (63 : Int) = ((63 : Nat) : Int) from rfl, u64_and_nat k 63 (by omega) (by decide), show (63 : Nat) = 2 ^ 6 - 1 from rfl, Nat.and_two_pow_sub_one_eq_mod, Nat.mod_eq_of_lt (by omega)]
  have HB := Lib.hid (rol_bits (k := k) hx)
  go_enter Tryz.func137, Tryz.ntmps137
  go_wp2
  go_ret
  exact ⟨ret_int HB.out, rfl⟩
set_option maxHeartbeats 4000000 in
set_option maxRecDepth 100000 in
theorem rol_any (x k : Nat) (hx : x < 18446744073709551616) (hk0 : 0 < k) (hk : k < 64) (w : World) :
    Calls Tryz.prog 71 #[.int .u64 (x : Int), .int .u64 (k : Int)] w fun e w' => e = .returned (.int .u64 ((rolN x k : Nat) : Int)) ∧ w = w' := by
  have HB := Lib.hid (rol_bits (k := k) hx)
  have hk1 : ((k : Int) == 0) = false := by simp; omega
  go_enter Tryz.func71, Tryz.ntmps71
  go_wp2
  go_ret
  exact ⟨ret_int HB.out, rfl⟩
theorem results_tmp5 {fn : Func} {t u v x y : Tmp} (h : fn.results = #[.tmp t, .tmp u, .tmp v, .tmp x, .tmp y]) (tmps : Array Value) (P : Program) (w : World) :
    (results fn tmps).run P w = .ok (.tuple #[tmps.getD t undef, tmps.getD u undef, tmps.getD v undef, tmps.getD x undef, tmps.getD y undef]) w := by
  simp [results, h]
theorem mix_bits {a b c : Nat} (ha : a < 18446744073709551616) (hb : b < 18446744073709551616) (hc : c < 18446744073709551616) : bits BinOp.xor IntKind.u64 (a : Int) (bits BinOp.andNot IntKind.u64 (c : Int) (b : Int)) = ((a ^^^ andnN c b : Nat) : Int) := by
  rw [u64_andNot_nat c b hc hb]
  exact u64_xor_nat a _ ha (andnN_lt hc)
set_option maxHeartbeats 4000000 in
set_option maxRecDepth 100000 in
theorem mixrow_any (a b c d e : Nat) (ha : a < 18446744073709551616) (hb : b < 18446744073709551616) (hc : c < 18446744073709551616) (hd : d < 18446744073709551616) (he : e < 18446744073709551616) (w : World) :
    Calls Tryz.prog 138 #[.int .u64 (a : Int), .int .u64 (b : Int), .int .u64 (c : Int), .int .u64 (d : Int), .int .u64 (e : Int)] w fun r w' => r = .returned (.tuple #[.int .u64 ((a ^^^ andnN c b : Nat) : Int), .int .u64 ((b ^^^ andnN d c : Nat) : Int), .int .u64 ((c ^^^ andnN e d : Nat) : Int), .int .u64 ((d ^^^ andnN a e : Nat) : Int), .int .u64 ((e ^^^ andnN b a : Nat) : Int)]) ∧ w = w' := by
  have H := Lib.hid (And.intro ha (And.intro hb (And.intro hc (And.intro hd he))))
  clear ha hb hc hd he
  go_enter Tryz.func138, Tryz.ntmps138
  go_wp2
  refine bodyPost_ret (results_tmp5 rfl _ _ _) rfl ⟨?_, rfl⟩
  obtain ⟨ha, hb, hc, hd, he⟩ := H.out
  rw [← mix_bits ha hb hc, ← mix_bits hb hc hd, ← mix_bits hc hd he, ← mix_bits hd he ha, ← mix_bits he ha hb]
  rfl
end Go.Proofs.YthchmnhoombecaaGreat
