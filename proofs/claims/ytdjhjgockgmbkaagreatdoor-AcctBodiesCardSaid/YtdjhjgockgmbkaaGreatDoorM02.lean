/- The grower's room; a byte and a head put at the end of bytes. -/
import Derived.Test.YtdjhjgockgmbkaaGreatDoorM01
import Derived.Laws.CopyOwn
import Derived.RangeFuncNested
import Derived.RangeFuncBound
import Derived.RangeFuncCalls
import Derived.RangeFuncLeaves
import Derived.Shelf.Abstract
import Derived.Shelf.RegionOpen
import Derived.OwnWalkIn
import Derived.TacticsInMore
import Derived.LoopNIn
import Derived.LoopIn
set_option linter.unusedVariables false
set_option linter.unusedSimpArgs false
namespace Go.Proofs.YtdjhjgockgmbkaaGreatDoor
open Go.RowKit

theorem int_size : (Tryz.prog.info? 3).map (·.size) = some 1 := by kernel_rfl
def gro (r : Int) : Array Value := #[.int .i64 r]
set_option maxHeartbeats 1000000 in
set_option maxRecDepth 100000 in
theorem spend_any (g : Nat) (r : Int) (n : Nat) (t : TypeId) (w : World) (hr : -100000000 ≤ r ∧ r ≤ 100000000) (hn : n ≤ 100000000) (hB : Blk w g t (gro r)) :
    Calls Tryz.prog 83 #[.pointer (some ⟨g, 0, none⟩), .int .i64 (n : Int)] w fun e w' => e = .returned (.bool (decide (0 ≤ r - n))) ∧ Tch [g] w w' ∧ Blk w' g t (gro (r - n)) := by
  have hc := hB.cell (j := 0) (v := .int .i64 r) rfl
  have hf := hB.free 0
  have hset := hB.set 0 (.int .i64 (r - n))
  have HB := Lib.hid hset
  clear hB hset
  go_enter Tryz.func83, Tryz.ntmps83
  go_wp2
  go_ret
  refine ⟨ret_bool ?_, (Tch.refl _ _).only (Only.setCell w ⟨g, 0, none⟩ _) (.inr (by simp)), HB.out⟩
  exact decide_eq_decide.2 (by omega)
set_option maxHeartbeats 1000000 in
set_option maxRecDepth 100000 in
theorem putByte_any (b n n0 x : Nat) (t : TypeId) (f : Nat → Nat) (w : World) (hn : 0 < n) (hn0 : n ≤ n0) (hm : n0 ≤ 100000000) (hx : x < 256) (hB : Blk w b t (bc n0 f)) :
    Calls Tryz.prog 85 #[.slice (some ⟨b, 0, none⟩) n n0, .int .u8 (x : Int)] w fun e w' => e = .returned (.slice (some ⟨b, 0, none⟩) (n - 1) n0) ∧ Tch [b] w w' ∧ Blk w' b t (bc n0 (wr f (n - 1) [x])) := by
  obtain ⟨m, rfl⟩ : ∃ m, n = m + 1 := ⟨n - 1, by omega⟩
  rw [Nat.add_sub_cancel]
  have hc := hB.cell (j := m) (bc_get (by omega))
  have hf := hB.free m
  have hset := hB.set m (.int .u8 x)
  rw [bc_set (by omega), ← wr_one] at hset
  have HB := Lib.hid hset
  clear hB hset
  go_enter Tryz.func85, Tryz.ntmps85
  go_wp2
  go_ret
  exact ⟨rfl, (Tch.refl _ _).only (Only.setCell w ⟨b, m, none⟩ _) (.inr (by simp)), HB.out⟩
/-- What a call that writes l to the end of the first n bytes of a block of n0 leaves. -/
def PutPost (b n n0 : Nat) (t : TypeId) (f : Nat → Nat) (w : World) (l : List Nat) (e : Ending) (w' : World) : Prop :=
  e = .returned (.slice (some ⟨b, 0, none⟩) (n - l.length) n0) ∧ Tch [b] w w' ∧ Blk w' b t (bc n0 (wr f (n - l.length) l))
theorem putpost_cons {b n n0 x : Nat} {t : TypeId} {f : Nat → Nat} {w w1 w2 : World} {l : List Nat} {e : Ending} (hl : l.length < n) (hT : Tch [b] w w1)
    (h : e = .returned (.slice (some ⟨b, 0, none⟩) (n - l.length - 1) n0) ∧ Tch [b] w1 w2 ∧ Blk w2 b t (bc n0 (wr (wr f (n - l.length) l) (n - l.length - 1) [x]))) : PutPost b n n0 t f w (x :: l) e w2 := by
  have e1 : n - (x :: l).length = n - l.length - 1 := by simp; omega
  refine ⟨by rw [e1]; exact h.1, hT.trans h.2.1, ?_⟩
  have := wr_wr f (n - l.length - 1) [x] l
  rw [show n - l.length - 1 + [x].length = n - l.length by simp; omega] at this
  rw [e1]
  have h3 := h.2.2
  rw [this] at h3
  exact h3
set_option maxHeartbeats 1000000 in
set_option maxRecDepth 100000 in
theorem putHead_any (b n n0 k m : Nat) (t : TypeId) (f : Nat → Nat) (w : World) (hn : hsz m ≤ n) (hn0 : n ≤ n0) (hm : n0 ≤ 100000000) (hmm : m ≤ 100000000) (hk : k ≤ 192) (hB : Blk w b t (bc n0 f)) :
    Calls Tryz.prog 86 #[.slice (some ⟨b, 0, none⟩) n n0, .int .u8 (k : Int), .int .i64 (m : Int)] w (PutPost b n n0 t f w (hd k m)) := by
  have h1 := hsz_pos m
  by_cases h : m ≤ 55
  · have hx : ((k : Int) + (m : Int)) = ((k + m : Nat) : Int) := by omega
    have hp := (putByte_any b n n0 (k + m) t f w (by omega) hn0 hm (by omega) hB).mono (R' := PutPost b n n0 t f w (hd k m)) (fun e w' h2 => by
      have : hd k m = [k + m] := by unfold hd; rw [if_pos h]
      rw [this]
      exact ⟨h2.1, h2.2.1, h2.2.2⟩)
    rw [← hx] at hp
    have HP := Lib.hid hp
    clear hp hB hn hn0 hm h1 hx
    go_enter Tryz.func86, Tryz.ntmps86
    go_wp2_with (go_at_call 85; refine HP.out.mono ?_; rintro e w' ⟨rfl, h2⟩)
    go_ret
    exact ⟨rfl, h2⟩
  · have hz : hsz m = 1 + lsz m := by unfold hsz; rw [if_neg h]
    have hl := lengthSize_any m w (by omega) (by omega)
    have h4 := lsz_le (n := m) (by omega)
    have hhd : hd k m = (k + 55 + lsz m) :: be m := by unfold hd; rw [if_neg h]
    have hbl : (be m).length = lsz m := rfl
    have hpos : ∀ (L : Nat) (w1 : World), L = n - lsz m → Tch [b] w w1 → Blk w1 b t (bc n0 (wr f L (be m))) → Calls Tryz.prog 85 #[.slice (some ⟨b, 0, none⟩) L n0, .int .u8 ((k : Int) + 55 + (lsz m : Int))] w1 (PutPost b n n0 t f w (hd k m)) := fun L w1 hL hT hB1 => by
      have := putByte_any b L n0 (k + 55 + lsz m) t _ w1 (by omega) (by omega) hm (by omega) hB1
      rw [show (((k + 55 + lsz m : Nat) : Nat) : Int) = (k : Int) + 55 + (lsz m : Int) by omega] at this
      refine this.mono fun e w' h2 => ?_
      rw [hhd]
      refine putpost_cons (by omega) hT ?_
      rw [hbl, ← hL]; exact h2
    have hstep : ∀ (q L : Nat) (w1 : World) (tl : List Nat), 0 < q → be m = be q ++ tl → L = n - tl.length → Tch [b] w w1 → Blk w1 b t (bc n0 (wr f L tl)) → Calls Tryz.prog 85 #[.slice (some ⟨b, 0, none⟩) L n0, .int .u8 ((q : Int) % 256)] w1 (fun e w' => e = .returned (.slice (some ⟨b, 0, none⟩) (L - 1) n0) ∧ ∃ tl, Hid (be m = be (q / 256) ++ tl) ∧ Hid (L - 1 = n - tl.length) ∧ Tch [b] w w' ∧ Blk w' b t (bc n0 (wr f (L - 1) tl))) := fun q L w1 tl hq hbe hL hT hB1 => by
      have hlen := congrArg List.length hbe
      rw [List.length_append, be_pos hq, List.length_append] at hlen
      simp only [List.length_singleton, hbl] at hlen
      have := putByte_any b L n0 (q % 256) t _ w1 (by omega) (by omega) hm (by omega) hB1
      rw [show ((q % 256 : Nat) : Int) = (q : Int) % 256 by omega] at this
      refine this.mono fun e w' h2 => ⟨h2.1, (q % 256) :: tl, Lib.hid (by rw [hbe, be_pos hq]; simp), Lib.hid (by simp; omega), hT.trans h2.2.1, ?_⟩
      have e3 := wr_wr f (L - 1) [q % 256] tl
      rw [show L - 1 + [q % 256].length = L by simp; omega] at e3
      have h3 := h2.2.2
      rw [e3] at h3
      exact h3
    have HP := Lib.hid hpos
    have HS := Lib.hid hstep
    have h0 : Tch [b] w w ∧ Blk w b t (bc n0 (wr f n [])) := ⟨Tch.refl _ _, by rw [wr_nil]; exact hB⟩
    have H0 := Lib.hid h0
    clear hpos hstep hhd hbl h0 hB
    have HZ := Lib.hid (And.intro hz hn)
    clear hz hn
    have hm55 : ¬ ((m : Int) ≤ 55) := by omega
    generalize hsv : lsz m = s at *
    go_enter Tryz.func86, Tryz.ntmps86
    go_wp2_with (go_at_call 114; refine hl.mono ?_; rintro e w' ⟨rfl, rfl⟩)
    clear hl
    go_loopw [0, 2] (fun sv qv wr' => ∃ (q L : Nat) (tl : List Nat), q ≤ m ∧ Hid (be m = be q ++ tl) ∧ Hid (L = n - tl.length) ∧ L ≤ n ∧ sv = .slice (some ⟨b, 0, none⟩) L n0 ∧ qv = .int .i64 (q : Int) ∧ Hid (Tch [b] w wr' ∧ Blk wr' b t (bc n0 (wr f L tl)))) (fun _ qv _ => (intOf qv).toNat)
    case atStart => exact ⟨m, n, [], Nat.le_refl _, Lib.hid (by simp), Lib.hid (by simp), Nat.le_refl _, rfl, rfl, H0⟩
    case round =>
      obtain ⟨q, L, tl, hq, hbe, hL, hLn, rfl, rfl, hW⟩ := hrel
      by_cases hq0 : 0 < q
      · have hc := HS.out q L _ tl hq0 hbe.out hL.out hW.out.1 hW.out.2
        have HC := Lib.hid hc
        clear hc
        go_wp2_with (go_at_call 85; refine HC.out.mono ?_; rintro e w' ⟨rfl, tl2, h21, h22, h23, h24⟩)
        go_roundw
        case rel => exact ⟨q / 256, L - 1, tl2, by omega, h21, h22, by omega, rfl, by go_num, Lib.hid ⟨h23, h24⟩⟩
        case measure => simp [intOf]; omega
      · obtain rfl : q = 0 := by omega
        have htl : tl = be m := by have := hbe.out; rw [be_zero, List.nil_append] at this; exact this.symm
        have hc := HP.out L _ (by rw [hL.out, htl, ← hsv]; rfl) hW.out.1 (by rw [← htl]; exact hW.out.2)
        have HC := Lib.hid hc
        clear hc
        go_wp2_with (go_at_call 85; refine HC.out.mono ?_; rintro e w' ⟨rfl, h2⟩)
        go_ret
        exact ⟨rfl, h2⟩
end Go.Proofs.YtdjhjgockgmbkaaGreatDoor

/- The tree between items and bytes, in memory; put, of one byte and of bytes. -/
namespace Go.Proofs.YtdjhjgockgmbkaaGreatDoor
open Go.RowKit

/-- A value that is the tree of an item; k: how deep it is at most. -/
def PcV (X : List Nat) (w : World) : Nat → Value → It → Prop
  | 0, _, _ => False
  | _ + 1, v, .str l => if single l then v = .iface 161 (.int .u8 ((l.getD 0 0 : Nat) : Int)) else ∃ s, v = .iface 162 s ∧ RdA X w s l
  | k + 1, v, .lst l => ∃ p c, v = .iface 167 (.slice p l.length c) ∧ l.length ≤ c ∧ (l ≠ [] → ∃ b o, p = some ⟨b, o, none⟩ ∧ b < w.heap.size ∧ b ∉ X ∧ ∀ i (h : i < l.length), ∃ u, w.cell? ⟨b, o + i, none⟩ = some u ∧ PcV X w k u l[i])
theorem PcV.tch {X : List Nat} {w w' : World} (hT : Tch X w w') : ∀ {k : Nat} {v : Value} {t : It}, PcV X w k v t → PcV X w' k v t
  | 0, _, _, h => h.elim
  | _ + 1, v, .str l, h => by
    unfold PcV at h ⊢
    split
    · rename_i h1; rw [if_pos h1] at h; exact h
    · rename_i h1; rw [if_neg h1] at h
      obtain ⟨s, h2, h3⟩ := h
      exact ⟨s, h2, h3.tch hT⟩
  | k + 1, v, .lst l, h => by
    unfold PcV at h ⊢
    obtain ⟨p, c, h1, h2, h3⟩ := h
    refine ⟨p, c, h1, h2, fun hl => ?_⟩
    obtain ⟨b, o, h4, h5, h6, h7⟩ := h3 hl
    refine ⟨b, o, h4, Nat.lt_of_lt_of_le h5 hT.size, h6, fun i hi => ?_⟩
    obtain ⟨u, h8, h9⟩ := h7 i hi
    exact ⟨u, by rw [hT.cell (p := ⟨b, o + i, none⟩) h5 h6]; exact h8, PcV.tch hT h9⟩
theorem PcV.mono {X Y : List Nat} {w : World} (hX : ∀ y ∈ Y, y ∈ X ∨ w.heap.size ≤ y) : ∀ {k : Nat} {v : Value} {t : It}, PcV X w k v t → PcV Y w k v t
  | 0, _, _, h => h.elim
  | _ + 1, v, .str l, h => by
    unfold PcV at h ⊢
    split
    · rename_i h1; rw [if_pos h1] at h; exact h
    · rename_i h1; rw [if_neg h1] at h
      obtain ⟨s, h2, h3⟩ := h
      exact ⟨s, h2, h3.mono hX⟩
  | k + 1, v, .lst l, h => by
    unfold PcV at h ⊢
    obtain ⟨p, c, h1, h2, h3⟩ := h
    refine ⟨p, c, h1, h2, fun hl => ?_⟩
    obtain ⟨b, o, h4, h5, h6, h7⟩ := h3 hl
    refine ⟨b, o, h4, h5, fun hm => (hX _ hm).elim h6 (fun h => by omega), fun i hi => ?_⟩
    obtain ⟨u, h8, h9⟩ := h7 i hi
    exact ⟨u, h8, PcV.mono hX h9⟩
/-- A tree may be held to be deeper than it is. -/
theorem PcV.up {X : List Nat} {w : World} : ∀ {k j : Nat} {v : Value} {t : It}, k ≤ j → PcV X w k v t → PcV X w j v t
  | 0, _, _, _, _, h => h.elim
  | _ + 1, 0, _, _, hj, _ => by omega
  | _ + 1, _ + 1, v, .str l, _, h => by unfold PcV at h ⊢; exact h
  | k + 1, j + 1, v, .lst l, hj, h => by
    unfold PcV at h ⊢
    obtain ⟨p, c, h1, h2, h3⟩ := h
    refine ⟨p, c, h1, h2, fun hl => ?_⟩
    obtain ⟨b, o, h4, h5, h6, h7⟩ := h3 hl
    refine ⟨b, o, h4, h5, h6, fun i hi => ?_⟩
    obtain ⟨u, h8, h9⟩ := h7 i hi
    exact ⟨u, h8, PcV.up (by omega) h9⟩
theorem single_one {l : List Nat} (h : single l = true) : l = [l.getD 0 0] ∧ l.getD 0 0 < 128 := by
  match l, h with
  | [x], h => exact ⟨rfl, by simpa [single] using h⟩
theorem taSS (v : Value) (w : World) : (Instr.typeAssert (.iface 161 v) 114 161 true).run Tryz.prog w = .ok (.tuple #[v, .bool true]) w := by kernel_rfl
theorem taTS (v : Value) (w : World) : (Instr.typeAssert (.iface 162 v) 114 161 true).run Tryz.prog w = .ok (.tuple #[.int .u8 0, .bool false]) w := by kernel_rfl
theorem taTT (v : Value) (w : World) : (Instr.typeAssert (.iface 162 v) 114 162 true).run Tryz.prog w = .ok (.tuple #[v, .bool true]) w := by kernel_rfl
theorem taLS (v : Value) (w : World) : (Instr.typeAssert (.iface 167 v) 114 161 true).run Tryz.prog w = .ok (.tuple #[.int .u8 0, .bool false]) w := by kernel_rfl
theorem taLT (v : Value) (w : World) : (Instr.typeAssert (.iface 167 v) 114 162 true).run Tryz.prog w = .ok (.tuple #[.slice none 0 0, .bool false]) w := by kernel_rfl
theorem taLL (v : Value) (w : World) : (Instr.typeAssert (.iface 167 v) 114 167 true).run Tryz.prog w = .ok (.tuple #[v, .bool true]) w := by kernel_rfl
/-- The frame of a call that lays a box, calls, and stores into the box. -/
theorem front_tch {b : Nat} {w w2 : World} {o : Obj} {v : Value} (_hb : b < w.heap.size) (hT : Tch [b] (w.alloc o) w2) : Tch [b] w (w2.setCell ⟨w.heap.size, 0, none⟩ v) :=
  (((Tch.refl [b] w).alloc o).trans hT).only (Only.setCell w2 ⟨w.heap.size, 0, none⟩ v) (.inl (Nat.le_refl _))
set_option maxHeartbeats 1000000 in
set_option maxRecDepth 100000 in
theorem put_single (b n n0 x : Nat) (t : TypeId) (f : Nat → Nat) (w : World) (hn : 0 < n) (hn0 : n ≤ n0) (hm : n0 ≤ 100000000) (hx : x < 128) (hB : Blk w b t (bc n0 f)) :
    Calls Tryz.prog 58 #[.slice (some ⟨b, 0, none⟩) n n0, .iface 161 (.int .u8 (x : Int))] w (PutPost b n n0 t f w [x]) := by
  have hp := fun (w1 : World) (h1 : Blk w1 b t (bc n0 f)) => putByte_any b n n0 x t f w1 hn hn0 hm (by omega) h1
  have HP := Lib.hid hp
  have HB := Lib.hid hB
  clear hp hB
  have k1 := taSS
  go_enter Tryz.func58, Tryz.ntmps58
  go_wp2_with (go_at_call 85; refine (HP.out _ (HB.out.alloc _)).mono ?_; rintro e w2 ⟨rfl, hT, hB2⟩; have hfb := hT.blk (Blk.new w _ _) (by have := HB.out.lt; simp; omega); have hc := hfb.cell (j := 0) rfl; have hf := hfb.free 0)
  go_ret
  exact ⟨rfl, front_tch HB.out.lt hT, hB2.far (p := ⟨w.heap.size, 0, none⟩) (Nat.ne_of_lt HB.out.lt) _⟩
theorem putpost_head {b m n0 : Nat} {t : TypeId} {f : Nat → Nat} {w w3 w4 : World} {h l : List Nat} {e : Ending} {v : Value} (hh : h.length ≤ m) (hb : b < w.heap.size) (hT : Tch [b] w w3) (hp : PutPost b m n0 t (wr f m l) w3 h e w4) : PutPost b (m + l.length) n0 t f w (h ++ l) e (w4.setCell ⟨w.heap.size, 0, none⟩ v) := by
  have e1 : m + l.length - (h ++ l).length = m - h.length := by rw [List.length_append]; omega
  refine ⟨by rw [e1]; exact hp.1, (hT.trans hp.2.1).only (Only.setCell w4 ⟨w.heap.size, 0, none⟩ v) (.inl (Nat.le_refl _)), ?_⟩
  have h3 := hp.2.2
  have h4 := wr_wr f (m - h.length) h l
  rw [show m - h.length + h.length = m by omega] at h4
  rw [h4] at h3
  rw [e1]
  exact h3.far (p := ⟨w.heap.size, 0, none⟩) (Nat.ne_of_lt hb) v
set_option maxHeartbeats 1000000 in
set_option maxRecDepth 100000 in
theorem put_text (b n n0 : Nat) (s : Value) (l : List Nat) (t : TypeId) (f : Nat → Nat) (w : World) (hn : hsz l.length + l.length ≤ n) (hn0 : n ≤ n0) (hm : n0 ≤ 100000000) (hs : RdA [b] w s l) (hB : Blk w b t (bc n0 f)) :
    Calls Tryz.prog 58 #[.slice (some ⟨b, 0, none⟩) n n0, .iface 162 s] w (PutPost b n n0 t f w (hd 128 l.length ++ l)) := by
  obtain ⟨m, rfl⟩ : ∃ m, n = m + l.length := ⟨n - l.length, by omega⟩
  have hp := fun (w1 : World) (h1 : Blk w1 b t (bc n0 (wr f m l))) => (putHead_any b m n0 128 l.length t (wr f m l) w1 (by omega) (by omega) hm (by omega) (by omega) h1)
  obtain ⟨p, c, rfl, h2, h3, h4⟩ := id hs
  have hsl : ((m + l.length : Nat) : Int) - (l.length : Int) = (m : Int) := by omega
  have hfin := fun (w3 w4 : World) (v : Value) (e : Ending) (hT : Tch [b] w w3) (hp : PutPost b m n0 t (wr f m l) w3 (hd 128 l.length) e w4) => putpost_head (v := v) (by rw [hd_length]; omega) hB.lt hT hp
  have HF := Lib.hid hfin
  have HP := Lib.hid hp
  have HB := Lib.hid hB
  have HS := Lib.hid hs
  have HM := Lib.hid hn0
  clear hp hB hs h4 h3 hfin
  have k1 := taTS
  have k2 := taTT
  rcases Nat.lt_or_ge m n0 with hmn | hmn
  · go_enter Tryz.func58, Tryz.ntmps58
    go_wp2_with (first
      | (refine copy_bytes (l := l) (at_ := m) (f := f) (t := t) (n0 := n0) (b := b) (HB.out.alloc _) rfl (.tmp 32) (.tmp 33) rfl rfl (fun _ => rfl) rfl (HS.out.tch ((Tch.refl [b] w).alloc _)).rdB HM.out ?_
         intro w3 hB3 hO
         have hT3 := ((Tch.refl [b] w).alloc _).only hO (.inr (by simp))
         have hfb := hO.blk (Ne.symm (Nat.ne_of_lt HB.out.lt)) (Blk.new w _ _)
         have hc := hfb.cell (j := 0) rfl
         have hf := hfb.free 0)
      | (go_at_call 86; refine (HP.out _ hB3).mono ?_; rintro e w4 hpp; obtain rfl := hpp.1; replace hfb := hpp.2.1.blk hfb (by have := HB.out.lt; simp; omega); replace hc := hfb.cell (j := 0) rfl; replace hf := hfb.free 0))
    go_ret
    exact HF.out _ _ _ _ hT3 hpp
  · obtain rfl : l = [] := List.eq_nil_of_length_eq_zero (by have := HM.out; omega)
    obtain rfl : m = n0 := by have := HM.out; simp at this; omega
    simp only [List.length_nil, Nat.add_zero] at *
    go_enter Tryz.func58, Tryz.ntmps58
    go_wp2_with (first
      | (refine copy_bytes (l := []) (at_ := m) (f := f) (t := t) (n0 := m) (b := b) (HB.out.alloc _) rfl (.tmp 32) (.tmp 33) rfl rfl (fun h => absurd rfl h) rfl (HS.out.tch ((Tch.refl [b] w).alloc _)).rdB HM.out ?_
         intro w3 hB3 hO
         have hT3 := ((Tch.refl [b] w).alloc _).only hO (.inr (by simp))
         have hfb := hO.blk (Ne.symm (Nat.ne_of_lt HB.out.lt)) (Blk.new w _ _)
         have hc := hfb.cell (j := 0) rfl
         have hf := hfb.free 0)
      | (go_at_call 86; refine (HP.out _ hB3).mono ?_; rintro e w4 hpp; obtain rfl := hpp.1; replace hfb := hpp.2.1.blk hfb (by have := HB.out.lt; simp; omega); replace hc := hfb.cell (j := 0) rfl; replace hf := hfb.free 0))
    go_ret
    exact HF.out _ _ _ _ hT3 hpp
end Go.Proofs.YtdjhjgockgmbkaaGreatDoor

/- slices.Backward over pieces, and what it hands on. -/
namespace Go.Proofs.YtdjhjgockgmbkaaGreatDoor
open Go.RowKit Go.Shelf
attribute [local go_sem] Oper.semAt_some

/-- What lay below n₀, but for the blocks of X, lies as it lay. -/
def KT (n₀ : Nat) (X : List Nat) (W W' : World) : Prop := W.heap.size ≤ W'.heap.size ∧ ∀ k, k < n₀ → k ∉ X → W'.heap[k]? = W.heap[k]?
theorem KT.refl (n₀ : Nat) (X : List Nat) (W : World) : KT n₀ X W W := ⟨Nat.le_refl _, fun _ _ _ => rfl⟩
theorem KT.trans {n₀ : Nat} {X : List Nat} {A B C : World} (h : KT n₀ X A B) (k : KT n₀ X B C) : KT n₀ X A C := ⟨Nat.le_trans h.1 k.1, fun i hi hx => (k.2 i hi hx).trans (h.2 i hi hx)⟩
theorem KT.cell {n₀ : Nat} {X : List Nat} {A B : World} (h : KT n₀ X A B) {p : Addr} (hp : p.block < n₀) (hx : p.block ∉ X) : B.cell? p = A.cell? p := World.cell?_of_block (w := A) (h.2 p.block hp hx)
theorem KT.b {n₀ : Nat} {X : List Nat} {w : World} (hn : n₀ ≤ w.heap.size) (W : World) (l : Nat) (o o' : Obj) (hl : w.heap.size ≤ l) (h : W.heap[l]? = some o) (h1 : o.isCells = false) (h2 : o.isWalk = false) : KT n₀ X W (W.putObj l o') := by
  have := belowK_b (n₀ := n₀) hn W l o o' hl h h1 h2
  exact ⟨this.size, fun k hk _ => this.block k hk⟩
theorem blk_others {bs : List Nat} {W W' : World} (hT : Tch bs W W') (hb : ∀ b ∈ bs, ∃ t c, Blk W b t c) : KeepsOthers W W' :=
  ⟨hT.size, fun k o hk ho => by
    refine (hT.block k (Array.getElem?_eq_some_iff.1 hk).1 fun hm => ?_).trans hk
    obtain ⟨t, c, h⟩ := hb k hm
    unfold Blk at h
    rw [hk] at h
    cases h
    simp [Obj.isCells] at ho⟩
/-- A range over a function that hands on N things, one after the other, its body never leaving early: what holds behind k rounds is told by k. -/
theorem range_count {P : Program} {n : Nat} {g : Operand} {ps : Array Tmp} {assign body : Code} {Q : Exit → Act → World → Prop} {a : Act} {w : World} {gf : Nat} {lb : Array Value} (X : List Nat) (hg : a.eval g = .func (.func gf) #[] lb) (eg : ∀ args w, (callFunc gf args).run P w = .ok (.enter gf args) w)
    (N : Nat) (en : Nat → Array Value) (hps : ∀ k, (en k).size = ps.size)
    (hseq : ∀ (l : Nat) (J : Nat → World → Prop) (W : World), Below w.heap.size w W →
      (∀ k W1, k < N → J k W1 → YieldAt Fence.wide (n - 1 - 1) P l (en k) W1 fun e W' => e = .returned (.bool true) ∧ J (k + 1) W' ∧ KT w.heap.size X W1 W') → J 0 W →
      CallsIn Fence.wide (n - 1) P gf (#[.func (.yield l) #[] #[]] ++ lb) W fun e W' => (∃ v, e = .returned v) ∧ J N W')
    (I : Nat → World → Prop) (hI : ∀ k W W', I k W → Below w.heap.size W W' → I k W') (h0 : I 0 w) (a₁ : Nat → Act)
    (hassign : ∀ (l k : Nat) (W : World) (K : Act → World → Prop), K (a₁ k) W →
      assign.wpIn (Fence.wide.inRound l) (n - 1 - 1) P (Exit.then K (fun _ _ _ => False)) { tmps := (ps.zip (en k)).foldl (fun t (p, v) => t.setIfInBounds p v) a.tmps, defers := [] } W)
    (hbody : ∀ (l k : Nat) (W : World), k < N → I k W → w.heap.size ≤ W.heap.size → body.wpIn (Fence.wide.inRound l) (n - 1 - 1) P (fun e _ W' => match e with | .normal => KeepsOthers W W' ∧ KT w.heap.size X W W' ∧ I (k + 1) W' | _ => False) (a₁ k) W)
    (hdone : ∀ (D : Nat) (W : World), w.heap.size ≤ D → I N W → W.heap[D]? = some (.deferred (some [])) → Q .normal { a with defers := { target := .collected D, args := #[] } :: a.defers } W) :
    (Code.rangeFunc g ps assign body).wpIn Fence.wide n P Q a w := by
  refine wpIn_rangeFunc fun fn _ => ?_
  let rc : LoopState → Loop := fun st => { state := st, pending := none, fn := fn, tmps := a.tmps, params := ps, assign := assign, body := body, defers := w.heap.size }
  let W1 := (w.alloc (.deferred (some []))).alloc (.loop (rc .ready))
  have hb1 : Below w.heap.size w W1 := ((Below.refl _ w).alloc (Nat.le_refl _) _).alloc (by simp) _
  have hL1 : W1.heap[w.heap.size + 1]? = some (.loop (rc .ready)) := by
    have := World.alloc_heap_new (w.alloc (.deferred (some []))) (.loop (rc .ready))
    rwa [World.size_alloc] at this
  have hD1 : W1.heap[w.heap.size]? = some (.deferred (some [])) := (Below.heap_alloc _ _ _ (by simp)).trans (World.alloc_heap_new w _)
  refine ⟨w.heap.size + 1, [{ target := .collected w.heap.size, args := #[] }], W1, { target := .fn (.func gf) lb, args := #[.func (.yield (w.heap.size + 1)) #[] #[]] }, W1, gf,
    #[.func (.yield (w.heap.size + 1)) #[] #[]] ++ lb, W1, run_enterLoop_outer _ _ _ _ _, ?_, fun _ _ => trivial, ?_, fun h => (by simp [Fence.wide] at h), ?_⟩
  · simp only [resolve, hg]; simp [go_sem]
  · simp [invoke, go_sem, eg]
  refine (hseq (w.heap.size + 1) (fun k W => I k W ∧ w.heap.size ≤ W.heap.size ∧ W.heap[w.heap.size + 1]? = some (.loop (rc .ready)) ∧ W.heap[w.heap.size]? = some (.deferred (some []))) W1 hb1 ?_ ⟨hI _ _ _ h0 hb1, hb1.size, hL1, hD1⟩).mono ?_
  · rintro k W hk ⟨hi, hs, hl, hd⟩
    have hlt : w.heap.size + 1 < W.heap.size := (Array.getElem?_eq_some_iff.1 hl).1
    refine ⟨fn, _, assign, body, run_yield (r := rc .ready) hl (hps k), roundIn_of_wpIn trivial (hassign _ k W _ ⟨_, run_beginRound hl rfl, ?_⟩)⟩
    have hB2 := belowK_b (n₀ := w.heap.size) (w := w) (Nat.le_refl _) W (w.heap.size + 1) _ (.loop (rc .busy)) (by omega) hl rfl rfl
    have hl2 : (W.putObj (w.heap.size + 1) (.loop (rc .busy))).heap[w.heap.size + 1]? = some (.loop (rc .busy)) := World.putObj_heap_same hlt
    have hd2 : (W.putObj (w.heap.size + 1) (.loop (rc .busy))).heap[w.heap.size]? = some (.deferred (some [])) := (World.putObj_heap_other (by omega)).trans hd
    refine wpIn_mono (hbody _ k _ hk (hI _ _ _ hi hB2) (Nat.le_trans hs hB2.size)) ?_
    intro e a3 W3 hp
    match e, hp with
    | .normal, ⟨hk3, hkp3, hi3⟩ =>
      have hl3 := hk3.same _ _ hl2 rfl
      have hd3 := hk3.same _ _ hd2 rfl
      have hB4 := belowK_b (n₀ := w.heap.size) (w := w) (Nat.le_refl _) W3 (w.heap.size + 1) _ (.loop (rc .ready)) (by omega) hl3 rfl rfl
      refine ⟨_, _, run_endRound none hl3, rfl, ⟨hI _ _ _ hi3 hB4, ?_, World.putObj_heap_same (Array.getElem?_eq_some_iff.1 hl3).1, (World.putObj_heap_other (by omega)).trans hd3⟩, ?_⟩
      · exact Nat.le_trans hs (Nat.le_trans hB2.size (Nat.le_trans hkp3.1 hB4.size))
      · exact ((KT.b (Nat.le_refl _) W _ _ _ (by omega) hl rfl rfl).trans hkp3).trans (KT.b (Nat.le_refl _) W3 _ _ _ (by omega) hl3 rfl rfl)
  · rintro e W2 ⟨⟨v, rfl⟩, hi, hs, hl, hd⟩
    have hB4 := belowK_b (n₀ := w.heap.size) (w := w) (Nat.le_refl _) W2 (w.heap.size + 1) _ (.loop { rc .ready with state := .exhausted }) (by omega) hl rfl rfl
    exact ⟨none, _, run_endLoop hl (by simp [rc]), hdone _ _ (Nat.le_refl _) (hI _ _ _ hi hB4) ((World.putObj_heap_other (by omega)).trans hd)⟩
abbrev enBack (vs : Nat → Value) (len k : Nat) : Array Value := #[.int .i64 ((len - 1 - k : Nat) : Int), vs (len - 1 - k)]
set_option maxRecDepth 100000 in
set_option maxHeartbeats 2000000 in
theorem bwd1_in (n : Nat) (hn : 1 ≤ n) (l Bs n₀ b off len cap : Nat) (X : List Nat) (p : Option Addr) (vs : Nat → Value) (hreach : len ≤ 100000000) (hp : 0 < len → p = some ⟨b, off, none⟩) (hb : 0 < len → b < n₀ ∧ b ∉ X) (hBs0 : Bs < n₀ ∧ Bs ∉ X) (J : Nat → World → Prop)
    (hY : ∀ k W, k < len → J k W → YieldAt Fence.wide (n - 1) Tryz.prog l (enBack vs len k) W fun e W' => e = .returned (.bool true) ∧ J (k + 1) W' ∧ KT n₀ X W W')
    (W : World) (hBs : W.cell? ⟨Bs, 0, none⟩ = some (.slice p len cap)) (hc : ∀ j, j < len → W.cell? ⟨b, off + j, none⟩ = some (vs j)) (h0 : J 0 W) :
    CallsIn Fence.wide n Tryz.prog 115 #[.func (.yield l) #[] #[], .pointer (some ⟨Bs, 0, none⟩)] W fun e W' => (∃ v, e = .returned v) ∧ J len W' := by
  refine callsIn_of_wp Tryz.func115 rfl trivial ?_ rfl
  simp only [Tryz.ntmps115, List.size_toArray, List.length_cons, List.length_nil, Nat.reduceAdd, Nat.reduceSub, Array.replicate_succ, Array.replicate_zero, List.push_toArray, List.append_toArray, List.nil_append, List.cons_append]
  gi_wp2
  gi_loopw [3] (fun i wr => ∃ k : Nat, k ≤ len ∧ i = .int .i64 ((len : Int) - 1 - k) ∧ J k wr ∧ KT n₀ X W wr)
    (fun i _ => (intOf i + 1).toNat)
  case atStart => exact ⟨0, Nat.zero_le _, by simp, h0, KT.refl _ _ _⟩
  case round =>
    obtain ⟨k, hk, rfl, hJs, hnx⟩ := hrel
    have hBs2 : wr.cell? ⟨Bs, 0, none⟩ = some (.slice p len cap) := (hnx.cell (p := ⟨Bs, 0, none⟩) hBs0.1 hBs0.2).trans hBs
    by_cases hlt : k < len
    · obtain rfl := hp (by omega)
      obtain ⟨fn, tmps, assign, body, hy, hR⟩ := hY k wr hlt hJs
      dsimp only [enBack] at hy
      obtain ⟨i, hi⟩ : ∃ i, i = len - 1 - k := ⟨_, rfl⟩
      rw [← hi] at hy
      have hii : (len : Int) - 1 - k = (i : Int) := by omega
      have hil : i < len := by omega
      have hcx : wr.cell? ⟨b, off + i, none⟩ = some (vs i) := (hnx.cell (p := ⟨b, off + i, none⟩) (hb (by omega)).1 (hb (by omega)).2).trans (hc i hil)
      rw [hii]
      have HI := Lib.hid (And.intro hi (And.intro hii hlt))
      clear hi hii hlt hk hc
      gi_wp2
      refine hR.mono ?_
      rintro e W3 ⟨rfl, hJ3, hk3⟩
      gi_wp2
      go_roundw
      case rel =>
        refine ⟨k + 1, by have := HI.out.2.2; omega, ?_, hJ3, hnx.trans hk3⟩
        have := HI.out.2.1; simp; omega
      case measure => simp [intOf]; try omega
    · obtain rfl : k = len := by omega
      have hneg : (k : Int) - 1 - k = -1 := by omega
      rw [hneg]
      gi_wp2
      go_end0
      exact ⟨⟨_, rfl⟩, hJs⟩
set_option maxHeartbeats 1000000 in
theorem backward_any (a : Option Addr) (len cap : Nat) (w : World) :
    Calls Tryz.prog 87 #[.slice a len cap] w fun e w' => e = .returned (.func (.func 115) #[] #[.pointer (some ⟨w.heap.size, 0, none⟩)]) ∧ w' = w.alloc (.cells #[.slice a len cap] 167) := by
  go_enter Tryz.func87, Tryz.ntmps87
  go_wp2
  go_ret
  exact ⟨rfl, rfl⟩
end Go.Proofs.YtdjhjgockgmbkaaGreatDoor

/- put, of a list; put of any tree. -/
namespace Go.Proofs.YtdjhjgockgmbkaaGreatDoor
open Go.RowKit Go.Shelf
attribute [local go_sem] Oper.semAt_some

/-- What has been written when the last k items of a list have been. -/
def sufs (l : List It) (k : Nat) : List Nat := encs (l.drop (l.length - k))
theorem sufs_zero (l : List It) : sufs l 0 = [] := by unfold sufs; rw [Nat.sub_zero, List.drop_length]; simp [encs]
theorem sufs_all (l : List It) : sufs l l.length = encs l := by unfold sufs; rw [Nat.sub_self, List.drop_zero]
theorem sufs_succ (l : List It) (k : Nat) (h : l.length - 1 - k < l.length) (hk : k < l.length) : sufs l (k + 1) = enc (l[l.length - 1 - k]'h) ++ sufs l k := by
  unfold sufs
  rw [show l.length - (k + 1) = l.length - 1 - k by omega, List.drop_eq_getElem_cons h, encs, show l.length - 1 - k + 1 = l.length - k by omega]
theorem sufs_le (l : List It) (k : Nat) : (sufs l k).length ≤ (encs l).length := by
  unfold sufs
  have := congrArg List.length (congrArg encs (List.take_append_drop (l.length - k) l))
  rw [encs_append, List.length_append] at this
  omega
def PutOK (k : Nat) : Prop := ∀ (b n n0 : Nat) (v : Value) (it : It) (t : TypeId) (f : Nat → Nat) (w : World), PcV [b] w k v it → Blk w b t (bc n0 f) → (enc it).length ≤ n → n ≤ n0 → n0 ≤ 100000000 →
  Calls Tryz.prog 58 #[.slice (some ⟨b, 0, none⟩) n n0, v] w (PutPost b n n0 t f w (enc it))
/-- What holds behind k rounds. -/
def PutI (b n n0 : Nat) (t : TypeId) (f : Nat → Nat) (l : List It) (w : World) (k : Nat) (W : World) : Prop :=
  k ≤ l.length ∧ ∃ L, Hid (L + (sufs l k).length = n) ∧ Tch [b] w W ∧ Blk W b t (bc n0 (wr f L (sufs l k))) ∧ Blk W w.heap.size 26 #[.slice (some ⟨b, 0, none⟩) L n0]
theorem PutI.below {b n n0 : Nat} {t : TypeId} {f : Nat → Nat} {l : List It} {w : World} {k B : Nat} {W W' : World} (h : PutI b n n0 t f l w k W) (hB : Below B W W') (hb : b < B) (hw : w.heap.size < B) : PutI b n n0 t f l w k W' := by
  obtain ⟨h0, L, h1, h2, h3, h4⟩ := h
  exact ⟨h0, L, h1, ⟨hB.os.trans h2.os, hB.tape.trans h2.tape, hB.output.trans h2.output, Nat.le_trans h2.size hB.size, fun i hi hx => (hB.block i (by omega)).trans (h2.block i hi hx)⟩, h3.below hB hb, h4.below hB hw⟩
set_option maxHeartbeats 2000000 in
set_option maxRecDepth 100000 in
theorem put_list (k : Nat) (ih : PutOK k) (b n n0 c bl off : Nat) (p : Option Addr) (l : List It) (vs : Nat → Value) (t : TypeId) (f : Nat → Nat) (w : World) (hp : 0 < l.length → p = some ⟨bl, off, none⟩) (hbl : 0 < l.length → bl < w.heap.size ∧ bl ≠ b)
    (hcell : ∀ j (h : j < l.length), w.cell? ⟨bl, off + j, none⟩ = some (vs j) ∧ PcV [b] w k (vs j) l[j]) (hB : Blk w b t (bc n0 f)) (hn : (enc (.lst l)).length ≤ n) (hn0 : n ≤ n0) (hm : n0 ≤ 100000000) :
    Calls Tryz.prog 58 #[.slice (some ⟨b, 0, none⟩) n n0, .iface 167 (.slice p l.length c)] w (PutPost b n n0 t f w (enc (.lst l))) := by
  have hb := hB.lt
  have k1 := taLS
  have k2 := taLT
  have k3 := taLL
  refine (callsIn_wide (n := 3)).1 ?_
  refine callsIn_of_wp_marks Tryz.func58 rfl trivial ?_ rfl
  simp only [Tryz.ntmps58, List.size_toArray, List.length_cons, List.length_nil, Nat.reduceAdd, Nat.reduceSub, Array.replicate_succ, Array.replicate_zero, List.push_toArray, List.append_toArray, List.nil_append, List.cons_append]
  gi_wp2_with (refine ⟨trivial, ?_⟩; gi_at_call 87; refine (callsIn_wide.2 (backward_any _ _ _ _)).mono ?_; rintro e w' ⟨rfl, rfl⟩)
  have hS0 : Tch [b] w ((w.alloc (.cells #[.slice (some ⟨b, 0, none⟩) n n0] 26)).alloc (.cells #[.slice p l.length c] 167)) := ((Tch.refl _ _).alloc _).alloc _
  have hF0 := (Blk.new w 26 #[.slice (some ⟨b, 0, none⟩) n n0]).alloc (.cells #[.slice p l.length c] 167)
  have hBs := Blk.new (w.alloc (.cells #[.slice (some ⟨b, 0, none⟩) n n0] 26)) 167 #[.slice p l.length c]
  have hB0 : Blk ((w.alloc (.cells #[.slice (some ⟨b, 0, none⟩) n n0] 26)).alloc (.cells #[.slice p l.length c] 167)) b t (bc n0 f) := (hB.alloc _).alloc _
  have hz : ((w.alloc (.cells #[.slice (some ⟨b, 0, none⟩) n n0] 26)).alloc (.cells #[.slice p l.length c] 167)).heap.size = w.heap.size + 2 := by simp
  rw [World.size_alloc] at hBs
  obtain ⟨wB, hwB⟩ : ∃ wB, (w.alloc (.cells #[.slice (some ⟨b, 0, none⟩) n n0] 26)).alloc (.cells #[.slice p l.length c] 167) = wB := ⟨_, rfl⟩
  rw [hwB] at hS0 hF0 hBs hB0 hz ⊢
  have hI0 : PutI b n n0 t f l w 0 wB := ⟨Nat.zero_le _, n, Lib.hid (by rw [sufs_zero]; rfl), hS0, by rw [sufs_zero, wr_nil]; exact hB0, hF0⟩
  have hlen : l.length ≤ 100000000 := by
    have := encs_len l
    rw [enc_lst, List.length_append] at hn
    omega
  refine range_count (gf := 115) (lb := #[.pointer (some ⟨w.heap.size + 1, 0, none⟩)]) [b, w.heap.size] rfl (enters_of Tryz.func115 (by kernel_rfl) rfl) l.length (enBack vs l.length) (fun _ => rfl)
    (fun l' J W hW hY h0 => bwd1_in _ (by omega) l' (w.heap.size + 1) wB.heap.size bl off l.length c [b, w.heap.size] p vs hlen hp (fun h => ⟨by have := (hbl h).1; omega, by have := (hbl h).1; have := (hbl h).2; simp; omega⟩) ⟨by omega, by simp; omega⟩ J hY W ((hW.cell (p := ⟨w.heap.size + 1, 0, none⟩) (by simp; omega)).trans (hBs.cell rfl)) (fun j hj => (hW.cell (p := ⟨bl, off + j, none⟩) (by have := (hbl (by omega)).1; simp; omega)).trans ((hS0.cell (p := ⟨bl, off + j, none⟩) (hbl (by omega)).1 (by simpa using (hbl (by omega)).2)).trans (hcell j hj).1)) h0)
    (PutI b n n0 t f l w) (fun k W W' h hB => h.below hB (by omega) (by omega)) hI0 (fun k => { tmps := #[.slice (some ⟨b, 0, none⟩) n n0, .iface 167 (.slice p l.length c), undef, undef, .slice none 0 0, .pointer (some ⟨w.heap.size, 0, none⟩), undef, undef, .slice p l.length c, undef, vs (l.length - 1 - k), .slice (some ⟨b, 0, none⟩) n n0, .iface 167 (.slice p l.length c), .tuple #[.int .u8 0, .bool false], .bool false, .int .u8 0, undef, undef, undef, .tuple #[.slice none 0 0, .bool false], .bool false, .slice none 0 0, undef, undef, undef, undef, undef, undef, undef, undef, undef, undef, undef, undef, undef, undef, undef, undef, undef, .tuple #[.slice p l.length c, .bool true], .bool true, .slice p l.length c, .slice p l.length c, .func (.func 115) #[] #[.pointer (some ⟨w.heap.size + 1, 0, none⟩)], .int .i64 ((l.length - 1 - k : Nat) : Int), vs (l.length - 1 - k), undef, undef, undef, undef, undef, undef, undef, undef, undef, undef, undef], defers := [] }) ?assign ?body ?done
  case assign =>
    intro l' k W K hK
    gi_wp2
    exact hK
  case body =>
    rintro l' j W hj ⟨_, L, hL, hT, hBW, hFW⟩ hsz
    obtain ⟨i, hii, hi⟩ : ∃ i, i = l.length - 1 - j ∧ i < l.length := ⟨_, rfl, by omega⟩
    have hsuf : sufs l (j + 1) = enc (l[i]'hi) ++ sufs l j := by subst hii; exact sufs_succ l j hi hj
    dsimp only
    rw [← hii]
    have hle := sufs_le l (j + 1)
    have hfit : (enc (l[i]'hi)).length ≤ L := by
      rw [hsuf, List.length_append] at hle
      rw [enc_lst, List.length_append] at hn
      have := hL.out
      omega
    have hcall := ih b L n0 (vs i) (l[i]'hi) t (wr f L (sufs l j)) W ((hcell i hi).2.tch hT) hBW hfit (by have := hL.out; omega) hm
    have hc := hFW.cell (j := 0) rfl
    have hf := hFW.free 0
    have HH := Lib.hid (And.intro hsuf (And.intro hfit (And.intro hL.out (And.intro hcell hii))))
    clear hsuf hfit hcell hle hii
    gi_wp2_with (refine ⟨trivial, ?_⟩; gi_at_call 58; refine (CallsIn.inRound l' (callsIn_wide.2 hcall)).mono ?_; rintro e w4 hpp; obtain rfl := hpp.1; have hFW4 := hpp.2.1.blk hFW (by simp; omega); replace hc := hFW4.cell (j := 0) rfl; replace hf := hFW4.free 0)
    have hO : Only w.heap.size w4 (w4.setCell ⟨w.heap.size, 0, none⟩ (.slice (some ⟨b, 0, none⟩) (L - (enc (l[i]'hi)).length) n0)) := Only.setCell _ ⟨w.heap.size, 0, none⟩ _
    have hT2 : Tch [b, w.heap.size] W (w4.setCell ⟨w.heap.size, 0, none⟩ (.slice (some ⟨b, 0, none⟩) (L - (enc (l[i]'hi)).length) n0)) := (hpp.2.1.mono (by simp)).only hO (.inr (by simp))
    refine ⟨blk_others hT2 (fun x hx => ?_), ⟨hT2.size, fun q hq hx => hT2.block q (by omega) hx⟩, by omega, L - (enc (l[i]'hi)).length, Lib.hid ?_, ?_, ?_, ?_⟩
    · simp at hx
      rcases hx with rfl | rfl
      · exact ⟨_, _, hBW⟩
      · exact ⟨_, _, hFW⟩
    · rw [HH.out.1, List.length_append]; have := HH.out.2.1; have := HH.out.2.2.1; omega
    · exact (hT.trans hpp.2.1).only hO (.inl (Nat.le_refl _))
    · have h4 := hpp.2.2
      have h5 := wr_wr f (L - (enc (l[i]'hi)).length) (enc (l[i]'hi)) (sufs l j)
      rw [Nat.sub_add_cancel HH.out.2.1] at h5
      rw [h5, ← HH.out.1] at h4
      exact h4.far (p := ⟨w.heap.size, 0, none⟩) (by simp; omega) _
    · exact hFW4.set 0 _
  case done =>
    rintro D W hD ⟨_, L, hL, hT, hBW, hFW⟩ hK
    rw [sufs_all] at hL hBW
    have hne : D ≠ w.heap.size ∧ D ≠ b := by omega
    have hl := enc_lst l
    have hll := congrArg List.length hl
    rw [List.length_append, hd_length] at hll
    have hh : hsz (encs l).length ≤ L := by have := hL.out; omega
    have hcall := putHead_any b L n0 192 (encs l).length t _ W hh (by have := hL.out; omega) hm (by have := hL.out; omega) (by omega) hBW
    have hc := hFW.cell (j := 0) rfl
    have hf := hFW.free 0
    have hLn : (n : Int) - (L : Int) = ((encs l).length : Int) := by have := hL.out; omega
    have HH := Lib.hid (And.intro hL.out (And.intro hl hh))
    clear hl hll hh
    generalize hM : encs l = M at *
    gi_wp2_with (refine ⟨trivial, ?_⟩; gi_at_call 86; refine (callsIn_wide.2 hcall).mono ?_; rintro e w4 hpp; obtain rfl := hpp.1; have hFW4 := hpp.2.1.blk hFW (by simp; omega); replace hc := hFW4.cell (j := 0) rfl; replace hf := hFW4.free 0)
    have hDW : D < W.heap.size := (Array.getElem?_eq_some_iff.1 hK).1
    have hO : Only w.heap.size w4 (w4.setCell ⟨w.heap.size, 0, none⟩ (.slice (some ⟨b, 0, none⟩) (L - (hd 192 M.length).length) n0)) := Only.setCell _ ⟨w.heap.size, 0, none⟩ _
    have hK4 : (w4.setCell ⟨w.heap.size, 0, none⟩ (.slice (some ⟨b, 0, none⟩) (L - (hd 192 M.length).length) n0)).heap[D]? = some (.deferred (some [])) :=
      (hO.block D hne.1).trans ((hpp.2.1.block D hDW (by simpa using hne.2)).trans hK)
    have hfin : PutPost b n n0 t f w (enc (.lst l)) (.returned (.slice (some ⟨b, 0, none⟩) (L - (hd 192 M.length).length) n0)) ((w4.setCell ⟨w.heap.size, 0, none⟩ (.slice (some ⟨b, 0, none⟩) (L - (hd 192 M.length).length) n0)).putObj D (.deferred none)) := by
      have e1 : n - (enc (.lst l)).length = L - (hd 192 M.length).length := by rw [HH.out.2.1, List.length_append]; have := HH.out.1; omega
      have hBel := belowK_b (n₀ := wB.heap.size) (w := wB) (Nat.le_refl _) _ D _ (.deferred none) hD hK4 rfl rfl
      have hT5 := (hT.trans hpp.2.1).only hO (.inl (Nat.le_refl _))
      refine ⟨by rw [e1], ⟨hBel.os.trans hT5.os, hBel.tape.trans hT5.tape, hBel.output.trans hT5.output, Nat.le_trans hT5.size hBel.size, fun q hq hx => (hBel.block q (by omega)).trans (hT5.block q hq hx)⟩, ?_⟩
      rw [e1, HH.out.2.1]
      have h4 := hpp.2.2
      have h5 := wr_wr f (L - (hd 192 M.length).length) (hd 192 M.length) M
      rw [Nat.sub_add_cancel (by rw [hd_length]; exact HH.out.2.2)] at h5
      rw [h5] at h4
      exact (h4.far (p := ⟨w.heap.size, 0, none⟩) (by simp; omega) _).below hBel (by omega)
    refine ⟨by simp, .inl ⟨_, _, rfl, run_takeDeferred hK4, ?_⟩⟩
    refine ⟨_, results_tmp (show Tryz.f58.results = #[.tmp 4] from rfl) _ _ _, ?_⟩
    exact hfin
/-- put of any tree. -/
theorem put_any : ∀ k, PutOK k
  | 0 => fun b n n0 v it t f w h => h.elim
  | k + 1 => fun b n n0 v it t f w h hB hn hn0 hm => by
    cases it with
    | str l =>
      unfold PcV at h
      rw [enc_str] at hn ⊢
      by_cases hs : single l = true
      · rw [if_pos hs] at h
        subst h
        obtain ⟨h1, h2⟩ := single_one hs
        have e : encS l = [l.getD 0 0] := by unfold encS; rw [if_pos hs]; exact h1
        rw [e] at hn ⊢
        exact put_single b n n0 _ t f w (by simp at hn; omega) hn0 hm h2 hB
      · rw [if_neg hs] at h
        obtain ⟨s, rfl, hv⟩ := h
        have e : encS l = hd 128 l.length ++ l := by unfold encS; rw [if_neg hs]
        rw [e] at hn ⊢
        rw [List.length_append, hd_length] at hn
        exact put_text b n n0 s l t f w hn hn0 hm hv hB
    | lst l =>
      unfold PcV at h
      obtain ⟨p, c, rfl, hc, h⟩ := h
      by_cases hl : l = []
      · subst hl
        exact put_list k (put_any k) b n n0 c 0 0 p [] (fun _ => undef) t f w (fun h => absurd h (by simp)) (fun h => absurd h (by simp)) (fun j h => absurd h (by simp)) hB hn hn0 hm
      · obtain ⟨bl, off, rfl, h1, h2, h3⟩ := h hl
        refine put_list k (put_any k) b n n0 c bl off _ l (fun j => (w.cell? ⟨bl, off + j, none⟩).getD undef) t f w (fun _ => rfl) (fun _ => ⟨h1, by simpa using h2⟩) (fun j hj => ?_) hB hn hn0 hm
        obtain ⟨u, h4, h5⟩ := h3 j hj
        exact ⟨by rw [h4]; rfl, by rw [h4]; exact h5⟩
end Go.Proofs.YtdjhjgockgmbkaaGreatDoor
