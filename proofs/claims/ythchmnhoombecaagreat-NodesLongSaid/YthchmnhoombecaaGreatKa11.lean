/- The permutation. -/
import Derived.Test.YthchmnhoombecaaGreatKa5
import Derived.Test.YthchmnhoombecaaGreatKa10
namespace Go.Proofs.YthchmnhoombecaaGreat
open Go.RowKit

abbrev z25 : Array Value := Array.replicate 25 undef
theorem St.ne23 {bs : List Nat} {w0 w : World} {e f g : Ent} {L : List Ent} (h : St bs w0 w (e :: f :: g :: L)) : f.1 ≠ g.1 := (List.pairwise_cons.1 (List.pairwise_cons.1 h.apart).2).1 _ List.mem_cons_self
set_option maxHeartbeats 4000000 in
set_option maxRecDepth 100000 in
theorem permute_any (b : Nat) (t : TypeId) (c : Array Value) (A : Nat → Nat) (w : World) (hB : Blk w b t (lay c A)) (hc : 25 ≤ c.size) (hA : Lan A) :
    Calls Tryz.prog 97 #[.pointer (some ⟨b, 0, none⟩)] w fun e w' => e = .returned (.tuple #[]) ∧ Tch [b] w w' ∧ Blk w' b t (lay c (permN A)) := by
  have HN := Lib.hid (And.intro hA (And.intro hc trivial))
  have hS := St.one hB
  clear hA hc hB
  skip
  go_enter Tryz.func97, Tryz.ntmps97
  go_wp2_with (first | (have _t := b2; clear _t; refine st_new hS rfl 229 rfl nums_zero ?_; clear hS; intro w1 b3 hS) | (refine st_new hS rfl 132 rfl lanes_zero ?_; clear hS; intro w1 b2 hS) | (refine st_store (c' := rcells) hS rfl 229 _ _ rfl rfl rfl (by repeat (first | exact Upd.head | apply Upd.tail)) nums_size rfl rcells_size rcells_one ?_; clear hS; intro w1 hS) | (go_at_call 126; refine (numbers_any _).mono ?_; rintro e w1 ⟨rfl, hb⟩; replace hS := hS.call hb; clear hb))
  go_loopw [4] (fun i wr => ∃ (k j : Nat) (B : Nat → Nat), j = 2 * k ∧ k ≤ 12 ∧ i = .int .i64 (j : Int) ∧ St [b] w wr [(b3, 229, rcells), (b2, 132, lay z25 B), (b, t, lay c (perN A j))]) (fun i _ => 25 - (intOf i).toNat)
  case atStart => exact ⟨0, 0, _, rfl, by omega, rfl, hS⟩
  case round =>
    clear hS
    obtain ⟨k, j, B, hj, hk, rfl, hS⟩ := hrel
    by_cases hlt : k < 12
    · have hj24 : j < 24 := by omega
      have hd : decide ((j : Int) < 24) = true := by simp; omega
      obtain ⟨j1, hj1⟩ : ∃ j1, j1 = j + 1 := ⟨_, rfl⟩
      have t1 : (j : Int) + 1 = (j1 : Int) := by omega
      have hj3 : (j : Int) < 24 := by omega
      have hj4 : (j1 : Int) < 24 := by omega
      have hj5 : j1 < 24 := by omega
      have g1 := rcells_get hj24
      have g2 := rcells_get hj5
      have hp2 : perN A (j + 2) = roundN (perN A (j + 1)) (rc j1) := by rw [hj1]; rfl
      have l0 := per_lan HN.out.1 j
      have l1 := per_lan HN.out.1 (j + 1)
      obtain ⟨A0, hA0⟩ : ∃ A0, A0 = perN A j := ⟨_, rfl⟩
      obtain ⟨A1, hA1⟩ : ∃ A1, A1 = perN A (j + 1) := ⟨_, rfl⟩
      obtain ⟨A2, hA2⟩ : ∃ A2, A2 = perN A (j + 2) := ⟨_, rfl⟩
      have e1 : roundN A0 (rc j) = A1 := by rw [hA0, hA1]; rfl
      have e2 : roundN A1 (rc j1) = A2 := by rw [hA1, hA2, hp2]
      rw [← hA0] at hS l0
      rw [← hA1] at l1
      have R1 : ∀ w : World, Blk w b2 132 (lay z25 B) → Blk w b t (lay c A0) → b2 ≠ b → Calls Tryz.prog 127 #[.pointer (some ⟨b2, 0, none⟩), .pointer (some ⟨b, 0, none⟩), .int .u64 ((rc j : Nat) : Int)] w fun e w' => e = .returned (.tuple #[]) ∧ Tch [b2] w w' ∧ Blk w' b2 132 (lay z25 A1) := fun w h1 h2 h3 => by
        have := round_any b2 b 132 t z25 c A0 B (rc j) w h1 h2 h3 HN.out.2.1 (by simp [z25]) l0 (rc_lt j)
        rwa [e1] at this
      have R2 : ∀ w : World, Blk w b t (lay c A0) → Blk w b2 132 (lay z25 A1) → b ≠ b2 → Calls Tryz.prog 127 #[.pointer (some ⟨b, 0, none⟩), .pointer (some ⟨b2, 0, none⟩), .int .u64 ((rc j1 : Nat) : Int)] w fun e w' => e = .returned (.tuple #[]) ∧ Tch [b] w w' ∧ Blk w' b t (lay c A2) := fun w h1 h2 h3 => by
        have := round_any b b2 t 132 c z25 A1 A0 (rc j1) w h1 h2 h3 (by simp [z25]) HN.out.2.1 l1 (rc_lt j1)
        rwa [e2] at this
      have HR := Lib.hid (And.intro R1 R2)
      have HA2 := Lib.hid hA2
      clear R1 R2 e1 e2 hp2 l0 l1 hA0 hA1 hA2
      generalize rc j = q0 at *
      generalize rc j1 = q1 at *
      have G := Lib.hid (And.intro g1 g2)
      have HJ := Lib.hid (And.intro hj hj1)
      clear g1 g2 hj hj1
      go_wp2_with (first | (have _t := hMark; clear _t; go_at_call 127; refine (HR.out.2 _ (hS.get (.tail (.tail .head))) (hS.get (.tail .head)) hS.ne23.symm).mono ?_; rintro e w1 ⟨rfl, hT, hB⟩; replace hS := hS.on1 (.tail (.tail .head)) hT hB; clear hT hB) | (go_at_call 127; refine (HR.out.1 _ (hS.get (.tail .head)) (hS.get (.tail (.tail .head))) hS.ne23).mono ?_; rintro e w1 ⟨rfl, hT, hB⟩; replace hS := hS.on1 (.tail .head) hT hB; clear hT hB; have hMark := trivial) | (have _t := hMark; clear _t; refine st_cell (j := j1) hS rfl 111 _ rfl rfl (by repeat (first | exact At.head | apply At.tail)) G.out.2 u64_agg ?_) | (refine st_cell (j := j) hS rfl 111 _ rfl rfl (by repeat (first | exact At.head | apply At.tail)) G.out.1 u64_agg ?_))
      rw [HA2.out] at hS
      go_roundw
      case rel => exact ⟨k + 1, j + 2, _, by have := HJ.out.1; omega, by omega, by go_num, hS⟩
      case measure => simp [intOf]; omega
    · obtain rfl : k = 12 := by omega
      obtain rfl : j = 24 := by omega
      go_wp2
      refine bodyPost_end (results_none rfl _ _ _) rfl ⟨rfl, hS.frame, hS.get (.tail (.tail .head))⟩
end Go.Proofs.YthchmnhoombecaaGreat
