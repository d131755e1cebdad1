/- The rounds' numbers. -/
import Derived.Test.YtopfmaoeebgjmaaGreatDoorM01
import Derived.Test.YtopfmaoeebgjmaaGreatDoorM03
import Derived.Test.YtopfmaoeebgjmaaGreatDoorM07
import Derived.StillTailTactics
set_option linter.unusedVariables false
set_option linter.unusedSimpArgs false
namespace Go.Proofs.YtopfmaoeebgjmaaGreatDoor
section
open Go.RowKit
def rcells : Array Value := ((List.range 24).map fun i => Value.int .u64 ((rc i : Nat) : Int)).toArray
theorem rcells_size : rcells.size = 24 := by simp [rcells]
theorem rcells_get {i : Nat} (h : i < 24) : rcells[i]? = some (.int .u64 ((rc i : Nat) : Int)) := by simp [rcells, h]
theorem rcells_lit : rcells = #[.int .u64 1, .int .u64 32898, .int .u64 9223372036854808714, .int .u64 9223372039002292224, .int .u64 32907, .int .u64 2147483649, .int .u64 9223372039002292353, .int .u64 9223372036854808585, .int .u64 138, .int .u64 136, .int .u64 2147516425, .int .u64 2147483658, .int .u64 2147516555, .int .u64 9223372036854775947, .int .u64 9223372036854808713, .int .u64 9223372036854808579, .int .u64 9223372036854808578, .int .u64 9223372036854775936, .int .u64 32778, .int .u64 9223372039002259466, .int .u64 9223372039002292353, .int .u64 9223372036854808704, .int .u64 2147483649, .int .u64 9223372039002292232] := by kernel_rfl
theorem zeros_lit : lay (Array.replicate 25 undef) (fun _ => 0) = #[.int .u64 0, .int .u64 0, .int .u64 0, .int .u64 0, .int .u64 0, .int .u64 0, .int .u64 0, .int .u64 0, .int .u64 0, .int .u64 0, .int .u64 0, .int .u64 0, .int .u64 0, .int .u64 0, .int .u64 0, .int .u64 0, .int .u64 0, .int .u64 0, .int .u64 0, .int .u64 0, .int .u64 0, .int .u64 0, .int .u64 0, .int .u64 0, .int .u64 0] := by kernel_rfl
theorem nums_zero : (Tryz.prog.info? 258).bind (·.zero) = some (.agg #[.int .u64 0, .int .u64 0, .int .u64 0, .int .u64 0, .int .u64 0, .int .u64 0, .int .u64 0, .int .u64 0, .int .u64 0, .int .u64 0, .int .u64 0, .int .u64 0, .int .u64 0, .int .u64 0, .int .u64 0, .int .u64 0, .int .u64 0, .int .u64 0, .int .u64 0, .int .u64 0, .int .u64 0, .int .u64 0, .int .u64 0, .int .u64 0]) := by kernel_rfl
theorem lanes_zero : (Tryz.prog.info? 171).bind (·.zero) = some (.agg (lay (Array.replicate 25 undef) (fun _ => 0))) := by rw [zeros_lit]; kernel_rfl
theorem rcells_one : rcells.all (·.oneCell') = true := by
  rw [Array.all_eq_true_iff_forall_mem]
  intro v hv
  simp only [rcells, List.mem_toArray, List.mem_map] at hv
  obtain ⟨i, _, rfl⟩ := hv
  rfl
set_option maxHeartbeats 4000000 in
set_option maxRecDepth 100000 in
theorem numbers_any (w : World) : Calls Tryz.prog 137 #[] w fun e w' => e = .returned (.agg rcells) ∧ Tch [] w w' := by
  have hS := St.start w
  go_enter Tryz.func137, Tryz.ntmps137
  go_wp2_with (first | (refine st_new hS rfl 258 rfl nums_zero ?_; clear hS; intro w1 b1 hS) | (refine st_store (c' := rcells) hS rfl 258 _ _ rfl rfl (by rw [rcells_lit]; rfl) (by repeat (first | exact Upd.head | apply Upd.tail)) nums_size rfl rcells_size rcells_one ?_; clear hS; intro w1 hS))
  exact st_post hS 0 258 rfl rfl rfl (by repeat (first | exact At.head | apply At.tail)) nums_type rfl nums_size rcells_size (fun hb => ⟨rfl, hb⟩)
end
section
open Go.RowKit
abbrev z25 : Array Value := Array.replicate 25 undef
theorem St.ne23 {bs : List Nat} {w0 w : World} {e f g : Ent} {L : List Ent} (h : St bs w0 w (e :: f :: g :: L)) : f.1 ≠ g.1 := (List.pairwise_cons.1 (List.pairwise_cons.1 h.apart).2).1 _ List.mem_cons_self
set_option maxHeartbeats 4000000 in
set_option maxRecDepth 100000 in
theorem permute_any (b : Nat) (t : TypeId) (c : Array Value) (A : Nat → Nat) (w : World) (hB : Blk w b t (lay c A)) (hc : 25 ≤ c.size) (hA : Lan A) :
    Calls Tryz.prog 110 #[.pointer (some ⟨b, 0, none⟩)] w fun e w' => e = .returned (.tuple #[]) ∧ Tch [b] w w' ∧ Blk w' b t (lay c (permN A)) := by
  have HN := hQz (And.intro hA (And.intro hc trivial))
  have hS := St.one hB
  clear hA hc hB
  skip
  go_enter Tryz.func110, Tryz.ntmps110
  go_wp2_with (first | (have _t := b2; clear _t; refine st_new hS rfl 258 rfl nums_zero ?_; clear hS; intro w1 b3 hS) | (refine st_new hS rfl 171 rfl lanes_zero ?_; clear hS; intro w1 b2 hS) | (refine st_store (c' := rcells) hS rfl 258 _ _ rfl rfl rfl (by repeat (first | exact Upd.head | apply Upd.tail)) nums_size rfl rcells_size rcells_one ?_; clear hS; intro w1 hS) | (go_at_call 137; refine (numbers_any _).mono ?_; rintro e w1 ⟨rfl, hb⟩; replace hS := hS.call hb; clear hb))
  go_loopw [4] (fun i wr => ∃ (k j : Nat) (B : Nat → Nat), j = 2 * k ∧ k ≤ 12 ∧ i = .int .i64 (j : Int) ∧ St [b] w wr [(b3, 258, rcells), (b2, 171, lay z25 B), (b, t, lay c (perN A j))]) (fun i _ => 25 - (intOf i).toNat)
  case atStart => exact ⟨0, 0, _, rfl, by omega, rfl, hS⟩
  case round =>
    clear hS
    obtain ⟨k, j, B, hj, hk, rfl, hS⟩ := hrel
    by_cases hlt : k < 12
    · have hj24 : j < 24 := by omega
      have hd : decide ((j : Int) < 24) = true := by simp; omega
      obtain ⟨j1, hj1⟩ : ∃ j1, j1 = j + 1 := ⟨_, rfl⟩
      have t1 : (j : Int) + 1 = (j1 : Int) := by omega
      have hj3 : (j : Int) < 24 := by omega
      have hj4 : (j1 : Int) < 24 := by omega
      have hj5 : j1 < 24 := by omega
      have g1 := rcells_get hj24
      have g2 := rcells_get hj5
      have hp2 : perN A (j + 2) = roundN (perN A (j + 1)) (rc j1) := by rw [hj1]; rfl
      have l0 := per_lan HN.out.1 j
      have l1 := per_lan HN.out.1 (j + 1)
      obtain ⟨A0, hA0⟩ : ∃ A0, A0 = perN A j := ⟨_, rfl⟩
      obtain ⟨A1, hA1⟩ : ∃ A1, A1 = perN A (j + 1) := ⟨_, rfl⟩
      obtain ⟨A2, hA2⟩ : ∃ A2, A2 = perN A (j + 2) := ⟨_, rfl⟩
      have e1 : roundN A0 (rc j) = A1 := by rw [hA0, hA1]; rfl
      have e2 : roundN A1 (rc j1) = A2 := by rw [hA1, hA2, hp2]
      rw [← hA0] at hS l0
      rw [← hA1] at l1
      have R1 : ∀ w : World, Blk w b2 171 (lay z25 B) → Blk w b t (lay c A0) → b2 ≠ b → Calls Tryz.prog 138 #[.pointer (some ⟨b2, 0, none⟩), .pointer (some ⟨b, 0, none⟩), .int .u64 ((rc j : Nat) : Int)] w fun e w' => e = .returned (.tuple #[]) ∧ Tch [b2] w w' ∧ Blk w' b2 171 (lay z25 A1) := fun w h1 h2 h3 => by
        have := round_any b2 b 171 t z25 c A0 B (rc j) w h1 h2 h3 HN.out.2.1 (by simp [z25]) l0 (rc_lt j)
        rwa [e1] at this
      have R2 : ∀ w : World, Blk w b t (lay c A0) → Blk w b2 171 (lay z25 A1) → b ≠ b2 → Calls Tryz.prog 138 #[.pointer (some ⟨b, 0, none⟩), .pointer (some ⟨b2, 0, none⟩), .int .u64 ((rc j1 : Nat) : Int)] w fun e w' => e = .returned (.tuple #[]) ∧ Tch [b] w w' ∧ Blk w' b t (lay c A2) := fun w h1 h2 h3 => by
        have := round_any b b2 t 171 c z25 A1 A0 (rc j1) w h1 h2 h3 (by simp [z25]) HN.out.2.1 l1 (rc_lt j1)
        rwa [e2] at this
      have HR := hQz (And.intro R1 R2)
      have HA2 := hQz hA2
      clear R1 R2 e1 e2 hp2 l0 l1 hA0 hA1 hA2
      generalize rc j = q0 at *
      generalize rc j1 = q1 at *
      have G := hQz (And.intro g1 g2)
      have HJ := hQz (And.intro hj hj1)
      clear g1 g2 hj hj1
      go_wp2_with (first | (have _t := hMark; clear _t; go_at_call 138; refine (HR.out.2 _ (hS.get (.tail (.tail .head))) (hS.get (.tail .head)) hS.ne23.symm).mono ?_; rintro e w1 ⟨rfl, hT, hB⟩; replace hS := hS.on1 (.tail (.tail .head)) hT hB; clear hT hB) | (go_at_call 138; refine (HR.out.1 _ (hS.get (.tail .head)) (hS.get (.tail (.tail .head))) hS.ne23).mono ?_; rintro e w1 ⟨rfl, hT, hB⟩; replace hS := hS.on1 (.tail .head) hT hB; clear hT hB; have hMark := trivial) | (have _t := hMark; clear _t; refine st_cell (j := j1) hS rfl 113 _ rfl rfl (by repeat (first | exact At.head | apply At.tail)) G.out.2 u64_agg ?_) | (refine st_cell (j := j) hS rfl 113 _ rfl rfl (by repeat (first | exact At.head | apply At.tail)) G.out.1 u64_agg ?_))
      rw [HA2.out] at hS
      go_roundw
      case rel => exact ⟨k + 1, j + 2, _, by have := HJ.out.1; omega, by omega, by go_num, hS⟩
      case measure => simp [intOf]; omega
    · obtain rfl : k = 12 := by omega
      obtain rfl : j = 24 := by omega
      go_wp2
      refine bodyPost_end (results_none rfl _ _ _) rfl ⟨rfl, hS.frame, hS.get (.tail (.tail .head))⟩
end
section
open Go.RowKit
def tk (t : Nat) : Array Value := ((List.replicate 25 undef) ++ [Value.int .i64 (t : Int)]).toArray
def spn (A : Nat → Nat) (t : Nat) : Array Value := lay (tk t) A
theorem tk_size (t : Nat) : (tk t).size = 26 := by simp [tk]
theorem spn_size (A : Nat → Nat) (t : Nat) : (spn A t).size = 26 := by rw [spn, lay_size, tk_size]
theorem spn_get {A : Nat → Nat} {t i : Nat} (h : i < 25) : (spn A t)[i]? = some (.int .u64 ((A i : Nat) : Int)) := lay_get h (by rw [tk_size]; decide)
theorem spn_t (A : Nat → Nat) (t : Nat) : (spn A t)[25]? = some (.int .i64 (t : Int)) := by rw [spn, lay_far (by decide)]; simp [tk]
theorem spn_set {A : Nat → Nat} {t j v : Nat} (h : j < 25) : (spn A t).setIfInBounds j (.int .u64 (v : Int)) = spn (fun i => if i = j then v else A i) t := lay_set h (by rw [tk_size]; decide)
theorem spn_put {A : Nat → Nat} {t u : Nat} : (spn A t).setIfInBounds 25 (.int .i64 (u : Int)) = spn A u := by
  apply Array.ext_getElem?
  intro i
  rw [Array.getElem?_setIfInBounds]
  by_cases hi : i < 25
  · rw [if_neg (by omega), spn_get hi, spn_get hi]
  · by_cases h2 : i = 25
    · subst h2; rw [if_pos rfl, if_pos (by rw [spn_size]; decide), spn_t]
    · rw [if_neg (by omega), Array.getElem?_eq_none (by rw [spn_size]; omega), Array.getElem?_eq_none (by rw [spn_size]; omega)]
theorem spn_congr {A B : Nat → Nat} {t : Nat} (h : ∀ i, i < 25 → A i = B i) : spn A t = spn B t := lay_congr h
theorem byte_bits {a v r : Nat} (ha : a < 18446744073709551616) (hv : v < 256) (hr : r < 8) : bits BinOp.xor IntKind.u64 (a : Int) (IntKind.u64.wrap ((v : Int) * 2 ^ (8 * r))) = ((a ^^^ v * 2 ^ (8 * r) : Nat) : Int) := by
  have h := shifted_lt hv hr
  have e1 : IntKind.u64.wrap ((v : Int) * 2 ^ (8 * r)) = ((v * 2 ^ (8 * r) : Nat) : Int) := by
    rw [IntKind.wrap_u64, show (v : Int) * 2 ^ (8 * r) = ((v * 2 ^ (8 * r) : Nat) : Int) by rw [Int.natCast_mul, Int.natCast_pow]; rfl]
    generalize v * 2 ^ (8 * r) = y at *
    omega
  rw [e1]
  exact u64_xor_nat _ _ ha h
set_option maxHeartbeats 4000000 in
set_option maxRecDepth 100000 in
theorem add_any (b p v t : Nat) (A : Nat → Nat) (w : World) (hA : Lan A) (hv : v < 256) (hp : p < 136) (hB : Blk w b 173 (spn A t)) :
    Calls Tryz.prog 109 #[.pointer (some ⟨b, 0, none⟩), .int .u8 (v : Int), .int .i64 (p : Int)] w fun e w' => e = .returned (.tuple #[]) ∧ Tch [b] w w' ∧ Blk w' b 173 (spn (xorAt A p v) t) := by
  obtain ⟨q, hq⟩ : ∃ q, q = p / 8 := ⟨_, rfl⟩
  obtain ⟨r, hr⟩ : ∃ r, r = p % 8 := ⟨_, rfl⟩
  have t1 : (p : Int) / 8 = (q : Int) := by omega
  have t2 : (p : Int) % 8 = (r : Int) := by omega
  have hq2 : q < 25 := by omega
  have hr2 : r < 8 := by omega
  have hq3 : (q : Int) < 25 := by omega
  obtain ⟨s, hs⟩ : ∃ s, s = 8 * r := ⟨_, rfl⟩
  have t3 : IntKind.i64.wrap (8 * (r : Int)) = (s : Int) := by rw [IntWalk.i64_in _ (by omega)]; omega
  have tm : (p : Int).tmod 8 = (r : Int) := by rw [Int.tmod_eq_emod_of_nonneg (by omega)]; exact t2
  have uv : IntKind.u64.wrap (v : Int) = (v : Int) := by rw [IntKind.wrap_u64]; omega
  have u1 : IntKind.i64.wrap (q : Int) = (q : Int) := IntWalk.i64_in _ (by omega)
  have u2 : IntKind.i64.wrap (r : Int) = (r : Int) := IntWalk.i64_in _ (by omega)
  have hs2 : s < 64 := by omega
  have g := hB.cell (spn_get (A := A) (t := t) hq2)
  have gf := hB.free q
  have hx := byte_bits (hA q) hv hr2
  rw [← hs] at hx
  have hst := spn_set (A := A) (t := t) (v := A q ^^^ v * 2 ^ s) hq2
  have he : spn (fun i => if i = q then A q ^^^ v * 2 ^ s else A i) t = spn (xorAt A p v) t := spn_congr fun i _ => by
    unfold xorAt
    rw [← hq, ← hr, ← hs]
    by_cases h : i = q
    · rw [if_pos h, if_pos h, h]
    · rw [if_neg h, if_neg h]
  have hS := hQz (St.one hB)
  have HX := hQz (And.intro hx (And.intro hst he))
  have lA := hA q
  clear hx hst he hB hq hr hs hA
  generalize A q = x at *
  skip
  go_enter Tryz.func109, Tryz.ntmps109
  go_wp2
  go_still_tail 17, (by kernel_rfl)
  have hS0 := hS
  clear hS
  have hS := hS0.out.drew
  clear hS0
  go_wp2_with (first | (refine st_store1 (j := q) hS rfl 113 _ _ rfl rfl rfl u64_size (by repeat (first | exact Upd.head | apply Upd.tail)) (by rw [spn_size]; omega) ?_; clear hS; intro w1 hS))
  rw [HX.out.1, HX.out.2.1, HX.out.2.2] at hS
  refine bodyPost_end (results_none rfl _ _ _) rfl ⟨rfl, hS.frame, hS.get .head⟩
end
end Go.Proofs.YtopfmaoeebgjmaaGreatDoor
