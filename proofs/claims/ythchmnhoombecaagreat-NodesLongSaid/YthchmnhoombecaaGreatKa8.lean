/- The sponge takes a byte in. -/
import Derived.Test.YthchmnhoombecaaGreatKa4
import Derived.StillTailTactics
namespace Go.Proofs.YthchmnhoombecaaGreat
open Go.RowKit

def tk (t : Nat) : Array Value := ((List.replicate 25 undef) ++ [Value.int .i64 (t : Int)]).toArray
/-- The sponge in memory: 25 lanes and how many bytes were taken in. -/
def spn (A : Nat → Nat) (t : Nat) : Array Value := lay (tk t) A
theorem tk_size (t : Nat) : (tk t).size = 26 := by simp [tk]
theorem spn_size (A : Nat → Nat) (t : Nat) : (spn A t).size = 26 := by rw [spn, lay_size, tk_size]
theorem spn_get {A : Nat → Nat} {t i : Nat} (h : i < 25) : (spn A t)[i]? = some (.int .u64 ((A i : Nat) : Int)) := lay_get h (by rw [tk_size]; decide)
theorem spn_t (A : Nat → Nat) (t : Nat) : (spn A t)[25]? = some (.int .i64 (t : Int)) := by rw [spn, lay_far (by decide)]; simp [tk]
theorem spn_set {A : Nat → Nat} {t j v : Nat} (h : j < 25) : (spn A t).setIfInBounds j (.int .u64 (v : Int)) = spn (fun i => if i = j then v else A i) t := lay_set h (by rw [tk_size]; decide)
theorem spn_put {A : Nat → Nat} {t u : Nat} : (spn A t).setIfInBounds 25 (.int .i64 (u : Int)) = spn A u := by
  apply Array.ext_getElem?
  intro i
  rw [Array.getElem?_setIfInBounds]
  by_cases hi : i < 25
  · rw [if_neg (by omega), spn_get hi, spn_get hi]
  · by_cases h2 : i = 25
    · subst h2; rw [if_pos rfl, if_pos (by rw [spn_size]; decide), spn_t]
    · rw [if_neg (by omega), Array.getElem?_eq_none (by rw [spn_size]; omega), Array.getElem?_eq_none (by rw [spn_size]; omega)]
theorem spn_congr {A B : Nat → Nat} {t : Nat} (h : ∀ i, i < 25 → A i = B i) : spn A t = spn B t := lay_congr h
theorem byte_bits {a v r : Nat} (ha : a < 18446744073709551616) (hv : v < 256) (hr : r < 8) : bits BinOp.xor IntKind.u64 (a : Int) (IntKind.u64.wrap ((v : Int) * 2 ^ (8 * r))) = ((a ^^^ v * 2 ^ (8 * r) : Nat) : Int) := by
  have h := shifted_lt hv hr
  have e1 : IntKind.u64.wrap ((v : Int) * 2 ^ (8 * r)) = ((v * 2 ^ (8 * r) : Nat) : Int) := by
    rw [IntKind.wrap_u64, show (v : Int) * 2 ^ (8 * r) = ((v * 2 ^ (8 * r) : Nat) : Int) by rw [Int.natCast_mul, Int.natCast_pow]; rfl]
    generalize v * 2 ^ (8 * r) = y at *
    omega
  rw [e1]
  exact u64_xor_nat _ _ ha h
set_option maxHeartbeats 4000000 in
set_option maxRecDepth 100000 in
theorem add_any (b p v t : Nat) (A : Nat → Nat) (w : World) (hA : Lan A) (hv : v < 256) (hp : p < 136) (hB : Blk w b 134 (spn A t)) :
    Calls Tryz.prog 96 #[.pointer (some ⟨b, 0, none⟩), .int .u8 (v : Int), .int .i64 (p : Int)] w fun e w' => e = .returned (.tuple #[]) ∧ Tch [b] w w' ∧ Blk w' b 134 (spn (xorAt A p v) t) := by
  obtain ⟨q, hq⟩ : ∃ q, q = p / 8 := ⟨_, rfl⟩
  obtain ⟨r, hr⟩ : ∃ r, r = p % 8 := ⟨_, rfl⟩
  have t1 : (p : Int) / 8 = (q : Int) := by omega
  have t2 : (p : Int) % 8 = (r : Int) := by omega
  have hq2 : q < 25 := by omega
  have hr2 : r < 8 := by omega
  have hq3 : (q : Int) < 25 := by omega
  obtain ⟨s, hs⟩ : ∃ s, s = 8 * r := ⟨_, rfl⟩
  have t3 : IntKind.i64.wrap (8 * (r : Int)) = (s : Int) := by rw [IntWalk.i64_in _ (by omega)]; omega
  have tm : (p : Int).tmod 8 = (r : Int) := by rw [Int.tmod_eq_emod_of_nonneg (by omega)]; exact t2
  have uv : IntKind.u64.wrap (v : Int) = (v : Int) := by rw [IntKind.wrap_u64]; omega
  have u1 : IntKind.i64.wrap (q : Int) = (q : Int) := IntWalk.i64_in _ (by omega)
  have u2 : IntKind.i64.wrap (r : Int) = (r : Int) := IntWalk.i64_in _ (by omega)
  have hs2 : s < 64 := by omega
  have g := hB.cell (spn_get (A := A) (t := t) hq2)
  have gf := hB.free q
  have hx := byte_bits (hA q) hv hr2
  rw [← hs] at hx
  have hst := spn_set (A := A) (t := t) (v := A q ^^^ v * 2 ^ s) hq2
  have he : spn (fun i => if i = q then A q ^^^ v * 2 ^ s else A i) t = spn (xorAt A p v) t := spn_congr fun i _ => by
    unfold xorAt
    rw [← hq, ← hr, ← hs]
    by_cases h : i = q
    · rw [if_pos h, if_pos h, h]
    · rw [if_neg h, if_neg h]
  have hS := Lib.hid (St.one hB)
  have HX := Lib.hid (And.intro hx (And.intro hst he))
  have lA := hA q
  clear hx hst he hB hq hr hs hA
  generalize A q = x at *
  skip
  go_enter Tryz.func96, Tryz.ntmps96
  go_wp2
  go_still_tail 17, (by kernel_rfl)
  have hS0 := hS
  clear hS
  have hS := hS0.out.drew
  clear hS0
  go_wp2_with (first | (refine st_store1 (j := q) hS rfl 111 _ _ rfl rfl rfl u64_size (by repeat (first | exact Upd.head | apply Upd.tail)) (by rw [spn_size]; omega) ?_; clear hS; intro w1 hS))
  rw [HX.out.1, HX.out.2.1, HX.out.2.2] at hS
  refine bodyPost_end (results_none rfl _ _ _) rfl ⟨rfl, hS.frame, hS.get .head⟩
end Go.Proofs.YthchmnhoombecaaGreat
