/- The grower's room; a byte and a head put at the end of bytes. -/
import Derived.Test.YthchmnhoombecaaGreatR1
namespace Go.Proofs.YthchmnhoombecaaGreat
open Go.RowKit

theorem int_size : (Tryz.prog.info? 3).map (·.size) = some 1 := by kernel_rfl
def gro (r : Int) : Array Value := #[.int .i64 r]
set_option maxHeartbeats 1000000 in
set_option maxRecDepth 100000 in
theorem spend_any (g : Nat) (r : Int) (n : Nat) (t : TypeId) (w : World) (hr : -100000000 ≤ r ∧ r ≤ 100000000) (hn : n ≤ 100000000) (hB : Blk w g t (gro r)) :
    Calls Tryz.prog 99 #[.pointer (some ⟨g, 0, none⟩), .int .i64 (n : Int)] w fun e w' => e = .returned (.bool (decide (0 ≤ r - n))) ∧ Tch [g] w w' ∧ Blk w' g t (gro (r - n)) := by
  have hc := hB.cell (j := 0) (v := .int .i64 r) rfl
  have hf := hB.free 0
  have hset := hB.set 0 (.int .i64 (r - n))
  have HB := Lib.hid hset
  clear hB hset
  go_enter Tryz.func99, Tryz.ntmps99
  go_wp2
  go_ret
  refine ⟨ret_bool ?_, (Tch.refl _ _).only (Only.setCell w ⟨g, 0, none⟩ _) (.inr (by simp)), HB.out⟩
  exact decide_eq_decide.2 (by omega)
set_option maxHeartbeats 1000000 in
set_option maxRecDepth 100000 in
theorem putByte_any (b n n0 x : Nat) (t : TypeId) (f : Nat → Nat) (w : World) (hn : 0 < n) (hn0 : n ≤ n0) (hm : n0 ≤ 100000000) (hx : x < 256) (hB : Blk w b t (bc n0 f)) :
    Calls Tryz.prog 101 #[.slice (some ⟨b, 0, none⟩) n n0, .int .u8 (x : Int)] w fun e w' => e = .returned (.slice (some ⟨b, 0, none⟩) (n - 1) n0) ∧ Tch [b] w w' ∧ Blk w' b t (bc n0 (wr f (n - 1) [x])) := by
  obtain ⟨m, rfl⟩ : ∃ m, n = m + 1 := ⟨n - 1, by omega⟩
  rw [Nat.add_sub_cancel]
  have hc := hB.cell (j := m) (bc_get (by omega))
  have hf := hB.free m
  have hset := hB.set m (.int .u8 x)
  rw [bc_set (by omega), ← wr_one] at hset
  have HB := Lib.hid hset
  clear hB hset
  go_enter Tryz.func101, Tryz.ntmps101
  go_wp2
  go_ret
  exact ⟨rfl, (Tch.refl _ _).only (Only.setCell w ⟨b, m, none⟩ _) (.inr (by simp)), HB.out⟩
/-- What a call that writes l to the end of the first n bytes of a block of n0 leaves. -/
def PutPost (b n n0 : Nat) (t : TypeId) (f : Nat → Nat) (w : World) (l : List Nat) (e : Ending) (w' : World) : Prop :=
  e = .returned (.slice (some ⟨b, 0, none⟩) (n - l.length) n0) ∧ Tch [b] w w' ∧ Blk w' b t (bc n0 (wr f (n - l.length) l))
theorem putpost_cons {b n n0 x : Nat} {t : TypeId} {f : Nat → Nat} {w w1 w2 : World} {l : List Nat} {e : Ending} (hl : l.length < n) (hT : Tch [b] w w1)
    (h : e = .returned (.slice (some ⟨b, 0, none⟩) (n - l.length - 1) n0) ∧ Tch [b] w1 w2 ∧ Blk w2 b t (bc n0 (wr (wr f (n - l.length) l) (n - l.length - 1) [x]))) : PutPost b n n0 t f w (x :: l) e w2 := by
  have e1 : n - (x :: l).length = n - l.length - 1 := by simp; omega
  refine ⟨by rw [e1]; exact h.1, hT.trans h.2.1, ?_⟩
  have := wr_wr f (n - l.length - 1) [x] l
  rw [show n - l.length - 1 + [x].length = n - l.length by simp; omega] at this
  rw [e1]
  have h3 := h.2.2
  rw [this] at h3
  exact h3
set_option maxHeartbeats 1000000 in
set_option maxRecDepth 100000 in
theorem putHead_any (b n n0 k m : Nat) (t : TypeId) (f : Nat → Nat) (w : World) (hn : hsz m ≤ n) (hn0 : n ≤ n0) (hm : n0 ≤ 100000000) (hmm : m ≤ 100000000) (hk : k ≤ 192) (hB : Blk w b t (bc n0 f)) :
    Calls Tryz.prog 102 #[.slice (some ⟨b, 0, none⟩) n n0, .int .u8 (k : Int), .int .i64 (m : Int)] w (PutPost b n n0 t f w (hd k m)) := by
  have h1 := hsz_pos m
  by_cases h : m ≤ 55
  · have hx : ((k : Int) + (m : Int)) = ((k + m : Nat) : Int) := by omega
    have hp := (putByte_any b n n0 (k + m) t f w (by omega) hn0 hm (by omega) hB).mono (R' := PutPost b n n0 t f w (hd k m)) (fun e w' h2 => by
      have : hd k m = [k + m] := by unfold hd; rw [if_pos h]
      rw [this]
      exact ⟨h2.1, h2.2.1, h2.2.2⟩)
    rw [← hx] at hp
    have HP := Lib.hid hp
    clear hp hB hn hn0 hm h1 hx
    go_enter Tryz.func102, Tryz.ntmps102
    go_wp2_with (go_at_call 101; refine HP.out.mono ?_; rintro e w' ⟨rfl, h2⟩)
    go_ret
    exact ⟨rfl, h2⟩
  · have hz : hsz m = 1 + lsz m := by unfold hsz; rw [if_neg h]
    have hl := lengthSize_any m w (by omega) (by omega)
    have h4 := lsz_le (n := m) (by omega)
    have hhd : hd k m = (k + 55 + lsz m) :: be m := by unfold hd; rw [if_neg h]
    have hbl : (be m).length = lsz m := rfl
    have hpos : ∀ (L : Nat) (w1 : World), L = n - lsz m → Tch [b] w w1 → Blk w1 b t (bc n0 (wr f L (be m))) → Calls Tryz.prog 101 #[.slice (some ⟨b, 0, none⟩) L n0, .int .u8 ((k : Int) + 55 + (lsz m : Int))] w1 (PutPost b n n0 t f w (hd k m)) := fun L w1 hL hT hB1 => by
      have := putByte_any b L n0 (k + 55 + lsz m) t _ w1 (by omega) (by omega) hm (by omega) hB1
      rw [show (((k + 55 + lsz m : Nat) : Nat) : Int) = (k : Int) + 55 + (lsz m : Int) by omega] at this
      refine this.mono fun e w' h2 => ?_
      rw [hhd]
      refine putpost_cons (by omega) hT ?_
      rw [hbl, ← hL]; exact h2
    have hstep : ∀ (q L : Nat) (w1 : World) (tl : List Nat), 0 < q → be m = be q ++ tl → L = n - tl.length → Tch [b] w w1 → Blk w1 b t (bc n0 (wr f L tl)) → Calls Tryz.prog 101 #[.slice (some ⟨b, 0, none⟩) L n0, .int .u8 ((q : Int) % 256)] w1 (fun e w' => e = .returned (.slice (some ⟨b, 0, none⟩) (L - 1) n0) ∧ ∃ tl, Hid (be m = be (q / 256) ++ tl) ∧ Hid (L - 1 = n - tl.length) ∧ Tch [b] w w' ∧ Blk w' b t (bc n0 (wr f (L - 1) tl))) := fun q L w1 tl hq hbe hL hT hB1 => by
      have hlen := congrArg List.length hbe
      rw [List.length_append, be_pos hq, List.length_append] at hlen
      simp only [List.length_singleton, hbl] at hlen
      have := putByte_any b L n0 (q % 256) t _ w1 (by omega) (by omega) hm (by omega) hB1
      rw [show ((q % 256 : Nat) : Int) = (q : Int) % 256 by omega] at this
      refine this.mono fun e w' h2 => ⟨h2.1, (q % 256) :: tl, Lib.hid (by rw [hbe, be_pos hq]; simp), Lib.hid (by simp; omega), hT.trans h2.2.1, ?_⟩
      have e3 := wr_wr f (L - 1) [q % 256] tl
      rw [show L - 1 + [q % 256].length = L by simp; omega] at e3
      have h3 := h2.2.2
      rw [e3] at h3
      exact h3
    have HP := Lib.hid hpos
    have HS := Lib.hid hstep
    have h0 : Tch [b] w w ∧ Blk w b t (bc n0 (wr f n [])) := ⟨Tch.refl _ _, by rw [wr_nil]; exact hB⟩
    have H0 := Lib.hid h0
    clear hpos hstep hhd hbl h0 hB
    have HZ := Lib.hid (And.intro hz hn)
    clear hz hn
    have hm55 : ¬ ((m : Int) ≤ 55) := by omega
    generalize hsv : lsz m = s at *
    go_enter Tryz.func102, Tryz.ntmps102
    go_wp2_with (go_at_call 128; refine hl.mono ?_; rintro e w' ⟨rfl, rfl⟩)
    clear hl
    go_loopw [0, 2] (fun sv qv wr' => ∃ (q L : Nat) (tl : List Nat), q ≤ m ∧ Hid (be m = be q ++ tl) ∧ Hid (L = n - tl.length) ∧ L ≤ n ∧ sv = .slice (some ⟨b, 0, none⟩) L n0 ∧ qv = .int .i64 (q : Int) ∧ Hid (Tch [b] w wr' ∧ Blk wr' b t (bc n0 (wr f L tl)))) (fun _ qv _ => (intOf qv).toNat)
    case atStart => exact ⟨m, n, [], Nat.le_refl _, Lib.hid (by simp), Lib.hid (by simp), Nat.le_refl _, rfl, rfl, H0⟩
    case round =>
      obtain ⟨q, L, tl, hq, hbe, hL, hLn, rfl, rfl, hW⟩ := hrel
      by_cases hq0 : 0 < q
      · have hc := HS.out q L _ tl hq0 hbe.out hL.out hW.out.1 hW.out.2
        have HC := Lib.hid hc
        clear hc
        go_wp2_with (go_at_call 101; refine HC.out.mono ?_; rintro e w' ⟨rfl, tl2, h21, h22, h23, h24⟩)
        go_roundw
        case rel => exact ⟨q / 256, L - 1, tl2, by omega, h21, h22, by omega, rfl, by go_num, Lib.hid ⟨h23, h24⟩⟩
        case measure => simp [intOf]; omega
      · obtain rfl : q = 0 := by omega
        have htl : tl = be m := by have := hbe.out; rw [be_zero, List.nil_append] at this; exact this.symm
        have hc := HP.out L _ (by rw [hL.out, htl, ← hsv]; rfl) hW.out.1 (by rw [← htl]; exact hW.out.2)
        have HC := Lib.hid hc
        clear hc
        go_wp2_with (go_at_call 101; refine HC.out.mono ?_; rintro e w' ⟨rfl, h2⟩)
        go_ret
        exact ⟨rfl, h2⟩
end Go.Proofs.YthchmnhoombecaaGreat
