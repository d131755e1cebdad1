/- The document's powers of words. -/
import Derived.Test.YtcdjinjeogodfaaS9
import Derived.Test.YtcdjinjeogodfaaI3
import Derived.Test.YtcdjinjeogodfaaR1
import Derived.Test.YtcdjinjeogodfaaR3
import Derived.StillTailTactics
namespace Go.Proofs.Ytcdjinjeogodfaa
open Go.RowKit

set_option maxHeartbeats 4000000 in
set_option maxRecDepth 100000 in
theorem rExp_any (x y : Nat) (hx : x < M256) (hy : y < M256) (w : World) :
    Calls Try.prog 37 #[.agg (wcells x), .agg (wcells y)] w fun e w' => e = .returned (.agg (wcells (wpow x y))) ∧ Below w.heap.size w w' := by
  have hbl := bitLen_le hy
  have HX := Lib.hid (And.intro hx hy)
  have HB := Lib.hid (rBits_any y hy)
  clear hx hy
  have hS := St.start w
  go_enter Try.func37, Try.ntmps37
  go_wp2_with (first | (have _t := b4; clear _t; refine st_new hS rfl 23 rfl word_zero ?_; clear hS; intro w1 b5 hS) | (have _t := b3; clear _t; refine st_new hS rfl 23 rfl word_zero ?_; clear hS; intro w1 b4 hS) | (have _t := b2; clear _t; refine st_box hS rfl _ _ rfl rfl ?_; clear hS; intro w1 b3 hS) | (refine st_box hS rfl _ _ rfl rfl ?_; clear hS; intro w1 b2 hS) | (refine st_load hS rfl 23 _ rfl rfl (by repeat (first | exact At.head | apply At.tail)) word_type rfl word_size (wf_size _) ?_) | (refine st_store hS rfl 23 _ _ rfl rfl rfl (by repeat (first | exact Upd.head | apply Upd.tail)) word_size (wf_size _) (wf_size _) (wf_one _) ?_; clear hS; intro w1 hS) | (go_at_call 65; with_reducible refine (rOf_any _ (by omega) _).mono ?_; rintro e w1 ⟨rfl, hb⟩; replace hS := hS.call hb; clear hb) | (go_at_call 64; with_reducible refine (HB.out _).mono ?_; rintro e w1 ⟨rfl, hb⟩; replace hS := hS.call hb; clear hb))
  go_loopw [6] (fun i wr => ∃ k : Nat, k ≤ 256 ∧ i = .int .i64 (256 - (k : Int)) ∧ St w wr [(b5, 23, wcells (wpow x (y / 2 ^ k))), (b4, 23, wcells 0), (b3, 23, wcells y), (b2, 23, wcells x)]) (fun i _ => 256 - (intOf i).toNat)
  case atStart =>
    refine ⟨bitLen y, by omega, rfl, ?_⟩
    rw [top_bits, show wpow x 0 = wint 1 by rw [show wint 1 = 1 by decide +kernel]; simp [wpow, M256]]
    exact hS
  case round =>
    clear hS
    obtain ⟨k, hk, rfl, hS⟩ := hrel
    rcases Nat.eq_zero_or_pos k with h0 | h0
    · subst h0
      rw [Nat.pow_zero, Nat.div_one] at hS
      go_wp2_with (first | (refine st_load hS rfl 23 _ rfl rfl (by repeat (first | exact At.head | apply At.tail)) word_type rfl word_size (wf_size _) ?_) | (refine st_store hS rfl 23 _ _ rfl rfl rfl (by repeat (first | exact Upd.head | apply Upd.tail)) word_size (wf_size _) (wf_size _) (wf_one _) ?_; clear hS; intro w1 hS))
      exact st_post hS 4 23 rfl rfl rfl (by repeat (first | exact At.head | apply At.tail)) word_type rfl word_size (wf_size _) (fun hb => ⟨rfl, hb⟩)
    · obtain ⟨m, rfl⟩ : ∃ m, k = m + 1 := ⟨k - 1, by omega⟩
      have t0 : 256 - ((m + 1 : Nat) : Int) = ((255 - m : Nat) : Int) := by omega
      rw [t0]
      clear t0
      obtain ⟨i, hi⟩ : ∃ i, i = 255 - m := ⟨_, rfl⟩
      rw [← hi]
      have hi2 : i < 256 := by omega
      have hd : decide ((i : Int) < 256) = true := by simp; omega
      obtain ⟨q, hq⟩ : ∃ q, q = i / 8 := ⟨_, rfl⟩
      obtain ⟨r, hr⟩ : ∃ r, r = i % 8 := ⟨_, rfl⟩
      have t1 : (i : Int) / 8 = (q : Int) := by omega
      have t2 : (i : Int) % 8 = (r : Int) := by omega
      have hq2 : q < 32 := by omega
      have hr2 : r < 8 := by omega
      obtain ⟨s, hs⟩ : ∃ s, s = 7 - r := ⟨_, rfl⟩
      have t3 : 7 - (r : Int) = (s : Int) := by omega
      have hs2 : s < 8 := by omega
      have g := wf_get (f := byt y) hq2
      have hb := u8_bit (x := y) hq2 hs2
      rw [show 8 * (31 - q) + s = m by omega] at hb
      obtain ⟨p, hp⟩ : ∃ p, p = wpow x (y / 2 ^ (m + 1)) := ⟨_, rfl⟩
      rw [← hp] at hS
      have hpl : p < M256 := by rw [hp]; exact wpow_lt _ _
      have e1 : wmul p p = wpow x (2 * (y / 2 ^ (m + 1))) := by unfold wmul; rw [hp, pow_sq]
      have c1 := rMul_any p p hpl hpl
      have e2 : wmul (wmul p p) x = wpow x (2 * (y / 2 ^ (m + 1)) + 1) := by
        rw [e1]; exact pow_one_more _ _
      have c2 := rMul_any (wmul p p) x (wmul_lt _ _) HX.out.1
      have hh := half_bit y m
      have him : 256 - (m : Int) = (i : Int) + 1 := by omega
      cases ht : y.testBit m
      · rw [ht] at hb hh
        have hb2 : (bits BinOp.and IntKind.u8 (((byt y q : Nat) : Int) / 2 ^ s) 1 == 1) = false := by rw [hb]; rfl
        rw [show (false : Bool).toNat = 0 from rfl, Nat.add_zero] at hh
        rw [← hh] at e1
        rw [e1] at c1
        generalize byt y q = v at *
        have G := Lib.hid (And.intro g (And.intro c1 him))
        clear g c1 c2 e1 e2 hb hh ht hp hpl hi hq hr hs him
        go_wp2_with (first | (refine st_load hS rfl 23 _ rfl rfl (by repeat (first | exact At.head | apply At.tail)) word_type rfl word_size (wf_size _) ?_) | (refine st_store hS rfl 23 _ _ rfl rfl rfl (by repeat (first | exact Upd.head | apply Upd.tail)) word_size (wf_size _) (wf_size _) (wf_one _) ?_; clear hS; intro w1 hS) | (go_at_call 23; with_reducible refine (G.out.2.1 _).mono ?_; rintro e w1 ⟨rfl, hb⟩; replace hS := hS.call hb; clear hb) | (refine st_cell hS rfl 5 _ rfl rfl (by repeat (first | exact At.head | apply At.tail)) G.out.1 u8_agg ?_))
        go_roundw
        case rel => exact ⟨m, by omega, by rw [G.out.2.2], hS⟩
        case measure => simp [intOf]; omega
      · rw [ht] at hb hh
        have hb2 : (bits BinOp.and IntKind.u8 (((byt y q : Nat) : Int) / 2 ^ s) 1 == 1) = true := by rw [hb]; rfl
        rw [show (true : Bool).toNat = 1 from rfl] at hh
        rw [← hh] at e2
        rw [e2] at c2
        generalize byt y q = v at *
        generalize wmul p p = pp at *
        have G := Lib.hid (And.intro g (And.intro c1 (And.intro c2 him)))
        clear g c1 c2 e1 e2 hb hh ht hp hpl hi hq hr hs him
        go_wp2_with (first | (refine st_load hS rfl 23 _ rfl rfl (by repeat (first | exact At.head | apply At.tail)) word_type rfl word_size (wf_size _) ?_) | (refine st_store hS rfl 23 _ _ rfl rfl rfl (by repeat (first | exact Upd.head | apply Upd.tail)) word_size (wf_size _) (wf_size _) (wf_one _) ?_; clear hS; intro w1 hS) | (go_at_call 23; with_reducible refine (G.out.2.1 _).mono ?_; rintro e w1 ⟨rfl, hb⟩; replace hS := hS.call hb; clear hb) | (go_at_call 23; with_reducible refine (G.out.2.2.1 _).mono ?_; rintro e w1 ⟨rfl, hb⟩; replace hS := hS.call hb; clear hb) | (refine st_cell hS rfl 5 _ rfl rfl (by repeat (first | exact At.head | apply At.tail)) G.out.1 u8_agg ?_))
        go_roundw
        case rel => exact ⟨m, by omega, by rw [G.out.2.2.2], hS⟩
        case measure => simp [intOf]; omega
end Go.Proofs.Ytcdjinjeogodfaa
