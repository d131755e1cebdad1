/- The tree between items and bytes, in memory; put, of one byte and of bytes. -/
import Derived.Test.YthchmnhoombecaaGreatR2
import Derived.Test.YthchmnhoombecaaGreatB0
import Derived.Laws.CopyOwn
namespace Go.Proofs.YthchmnhoombecaaGreat
open Go.RowKit

/-- A value that is the tree of an item; k: how deep it is at most. -/
def PcV (X : List Nat) (w : World) : Nat → Value → It → Prop
  | 0, _, _ => False
  | _ + 1, v, .str l => if single l then v = .iface 177 (.int .u8 ((l.getD 0 0 : Nat) : Int)) else ∃ s, v = .iface 179 s ∧ RdA X w s l
  | k + 1, v, .lst l => ∃ p c, v = .iface 184 (.slice p l.length c) ∧ l.length ≤ c ∧ (l ≠ [] → ∃ b o, p = some ⟨b, o, none⟩ ∧ b < w.heap.size ∧ b ∉ X ∧ ∀ i (h : i < l.length), ∃ u, w.cell? ⟨b, o + i, none⟩ = some u ∧ PcV X w k u l[i])
theorem PcV.tch {X : List Nat} {w w' : World} (hT : Tch X w w') : ∀ {k : Nat} {v : Value} {t : It}, PcV X w k v t → PcV X w' k v t
  | 0, _, _, h => h.elim
  | _ + 1, v, .str l, h => by
    unfold PcV at h ⊢
    split
    · rename_i h1; rw [if_pos h1] at h; exact h
    · rename_i h1; rw [if_neg h1] at h
      obtain ⟨s, h2, h3⟩ := h
      exact ⟨s, h2, h3.tch hT⟩
  | k + 1, v, .lst l, h => by
    unfold PcV at h ⊢
    obtain ⟨p, c, h1, h2, h3⟩ := h
    refine ⟨p, c, h1, h2, fun hl => ?_⟩
    obtain ⟨b, o, h4, h5, h6, h7⟩ := h3 hl
    refine ⟨b, o, h4, Nat.lt_of_lt_of_le h5 hT.size, h6, fun i hi => ?_⟩
    obtain ⟨u, h8, h9⟩ := h7 i hi
    exact ⟨u, by rw [hT.cell (p := ⟨b, o + i, none⟩) h5 h6]; exact h8, PcV.tch hT h9⟩
theorem PcV.mono {X Y : List Nat} {w : World} (hX : ∀ y ∈ Y, y ∈ X ∨ w.heap.size ≤ y) : ∀ {k : Nat} {v : Value} {t : It}, PcV X w k v t → PcV Y w k v t
  | 0, _, _, h => h.elim
  | _ + 1, v, .str l, h => by
    unfold PcV at h ⊢
    split
    · rename_i h1; rw [if_pos h1] at h; exact h
    · rename_i h1; rw [if_neg h1] at h
      obtain ⟨s, h2, h3⟩ := h
      exact ⟨s, h2, h3.mono hX⟩
  | k + 1, v, .lst l, h => by
    unfold PcV at h ⊢
    obtain ⟨p, c, h1, h2, h3⟩ := h
    refine ⟨p, c, h1, h2, fun hl => ?_⟩
    obtain ⟨b, o, h4, h5, h6, h7⟩ := h3 hl
    refine ⟨b, o, h4, h5, fun hm => (hX _ hm).elim h6 (fun h => by omega), fun i hi => ?_⟩
    obtain ⟨u, h8, h9⟩ := h7 i hi
    exact ⟨u, h8, PcV.mono hX h9⟩
/-- A tree may be held to be deeper than it is. -/
theorem PcV.up {X : List Nat} {w : World} : ∀ {k j : Nat} {v : Value} {t : It}, k ≤ j → PcV X w k v t → PcV X w j v t
  | 0, _, _, _, _, h => h.elim
  | _ + 1, 0, _, _, hj, _ => by omega
  | _ + 1, _ + 1, v, .str l, _, h => by unfold PcV at h ⊢; exact h
  | k + 1, j + 1, v, .lst l, hj, h => by
    unfold PcV at h ⊢
    obtain ⟨p, c, h1, h2, h3⟩ := h
    refine ⟨p, c, h1, h2, fun hl => ?_⟩
    obtain ⟨b, o, h4, h5, h6, h7⟩ := h3 hl
    refine ⟨b, o, h4, h5, h6, fun i hi => ?_⟩
    obtain ⟨u, h8, h9⟩ := h7 i hi
    exact ⟨u, h8, PcV.up (by omega) h9⟩
theorem single_one {l : List Nat} (h : single l = true) : l = [l.getD 0 0] ∧ l.getD 0 0 < 128 := by
  match l, h with
  | [x], h => exact ⟨rfl, by simpa [single] using h⟩
theorem taSS (v : Value) (w : World) : (Instr.typeAssert (.iface 177 v) 139 177 true).run Tryz.prog w = .ok (.tuple #[v, .bool true]) w := by kernel_rfl
theorem taST (v : Value) (w : World) : (Instr.typeAssert (.iface 177 v) 139 179 true).run Tryz.prog w = .ok (.tuple #[.slice none 0 0, .bool false]) w := by kernel_rfl
theorem taSL (v : Value) (w : World) : (Instr.typeAssert (.iface 177 v) 139 184 true).run Tryz.prog w = .ok (.tuple #[.slice none 0 0, .bool false]) w := by kernel_rfl
theorem taTS (v : Value) (w : World) : (Instr.typeAssert (.iface 179 v) 139 177 true).run Tryz.prog w = .ok (.tuple #[.int .u8 0, .bool false]) w := by kernel_rfl
theorem taTT (v : Value) (w : World) : (Instr.typeAssert (.iface 179 v) 139 179 true).run Tryz.prog w = .ok (.tuple #[v, .bool true]) w := by kernel_rfl
theorem taTL (v : Value) (w : World) : (Instr.typeAssert (.iface 179 v) 139 184 true).run Tryz.prog w = .ok (.tuple #[.slice none 0 0, .bool false]) w := by kernel_rfl
theorem taLS (v : Value) (w : World) : (Instr.typeAssert (.iface 184 v) 139 177 true).run Tryz.prog w = .ok (.tuple #[.int .u8 0, .bool false]) w := by kernel_rfl
theorem taLT (v : Value) (w : World) : (Instr.typeAssert (.iface 184 v) 139 179 true).run Tryz.prog w = .ok (.tuple #[.slice none 0 0, .bool false]) w := by kernel_rfl
theorem taLL (v : Value) (w : World) : (Instr.typeAssert (.iface 184 v) 139 184 true).run Tryz.prog w = .ok (.tuple #[v, .bool true]) w := by kernel_rfl
/-- The frame of a call that lays a box, calls, and stores into the box. -/
theorem front_tch {b : Nat} {w w2 : World} {o : Obj} {v : Value} (_hb : b < w.heap.size) (hT : Tch [b] (w.alloc o) w2) : Tch [b] w (w2.setCell ⟨w.heap.size, 0, none⟩ v) :=
  (((Tch.refl [b] w).alloc o).trans hT).only (Only.setCell w2 ⟨w.heap.size, 0, none⟩ v) (.inl (Nat.le_refl _))
set_option maxHeartbeats 1000000 in
set_option maxRecDepth 100000 in
theorem put_single (b n n0 x : Nat) (t : TypeId) (f : Nat → Nat) (w : World) (hn : 0 < n) (hn0 : n ≤ n0) (hm : n0 ≤ 100000000) (hx : x < 128) (hB : Blk w b t (bc n0 f)) :
    Calls Tryz.prog 70 #[.slice (some ⟨b, 0, none⟩) n n0, .iface 177 (.int .u8 (x : Int))] w (PutPost b n n0 t f w [x]) := by
  have hp := fun (w1 : World) (h1 : Blk w1 b t (bc n0 f)) => putByte_any b n n0 x t f w1 hn hn0 hm (by omega) h1
  have HP := Lib.hid hp
  have HB := Lib.hid hB
  clear hp hB
  have k1 := taSS
  go_enter Tryz.func70, Tryz.ntmps70
  go_wp2_with (go_at_call 101; refine (HP.out _ (HB.out.alloc _)).mono ?_; rintro e w2 ⟨rfl, hT, hB2⟩; have hfb := hT.blk (Blk.new w _ _) (by have := HB.out.lt; simp; omega); have hc := hfb.cell (j := 0) rfl; have hf := hfb.free 0)
  go_ret
  exact ⟨rfl, front_tch HB.out.lt hT, hB2.far (p := ⟨w.heap.size, 0, none⟩) (Nat.ne_of_lt HB.out.lt) _⟩
theorem putpost_head {b m n0 : Nat} {t : TypeId} {f : Nat → Nat} {w w3 w4 : World} {h l : List Nat} {e : Ending} {v : Value} (hh : h.length ≤ m) (hb : b < w.heap.size) (hT : Tch [b] w w3) (hp : PutPost b m n0 t (wr f m l) w3 h e w4) : PutPost b (m + l.length) n0 t f w (h ++ l) e (w4.setCell ⟨w.heap.size, 0, none⟩ v) := by
  have e1 : m + l.length - (h ++ l).length = m - h.length := by rw [List.length_append]; omega
  refine ⟨by rw [e1]; exact hp.1, (hT.trans hp.2.1).only (Only.setCell w4 ⟨w.heap.size, 0, none⟩ v) (.inl (Nat.le_refl _)), ?_⟩
  have h3 := hp.2.2
  have h4 := wr_wr f (m - h.length) h l
  rw [show m - h.length + h.length = m by omega] at h4
  rw [h4] at h3
  rw [e1]
  exact h3.far (p := ⟨w.heap.size, 0, none⟩) (Nat.ne_of_lt hb) v
set_option maxHeartbeats 1000000 in
set_option maxRecDepth 100000 in
theorem put_text (b n n0 : Nat) (s : Value) (l : List Nat) (t : TypeId) (f : Nat → Nat) (w : World) (hn : hsz l.length + l.length ≤ n) (hn0 : n ≤ n0) (hm : n0 ≤ 100000000) (hs : RdA [b] w s l) (hB : Blk w b t (bc n0 f)) :
    Calls Tryz.prog 70 #[.slice (some ⟨b, 0, none⟩) n n0, .iface 179 s] w (PutPost b n n0 t f w (hd 128 l.length ++ l)) := by
  obtain ⟨m, rfl⟩ : ∃ m, n = m + l.length := ⟨n - l.length, by omega⟩
  have hp := fun (w1 : World) (h1 : Blk w1 b t (bc n0 (wr f m l))) => (putHead_any b m n0 128 l.length t (wr f m l) w1 (by omega) (by omega) hm (by omega) (by omega) h1)
  obtain ⟨p, c, rfl, h2, h3, h4⟩ := id hs
  have hsl : ((m + l.length : Nat) : Int) - (l.length : Int) = (m : Int) := by omega
  have hfin := fun (w3 w4 : World) (v : Value) (e : Ending) (hT : Tch [b] w w3) (hp : PutPost b m n0 t (wr f m l) w3 (hd 128 l.length) e w4) => putpost_head (v := v) (by rw [hd_length]; omega) hB.lt hT hp
  have HF := Lib.hid hfin
  have HP := Lib.hid hp
  have HB := Lib.hid hB
  have HS := Lib.hid hs
  have HM := Lib.hid hn0
  clear hp hB hs h4 h3 hfin
  have k1 := taTS
  have k2 := taTT
  rcases Nat.lt_or_ge m n0 with hmn | hmn
  · go_enter Tryz.func70, Tryz.ntmps70
    go_wp2_with (first
      | (refine copy_bytes (l := l) (at_ := m) (f := f) (t := t) (n0 := n0) (b := b) (HB.out.alloc _) rfl (.tmp 32) (.tmp 33) rfl rfl (fun _ => rfl) rfl (HS.out.tch ((Tch.refl [b] w).alloc _)).rdB HM.out ?_
         intro w3 hB3 hO
         have hT3 := ((Tch.refl [b] w).alloc _).only hO (.inr (by simp))
         have hfb := hO.blk (Ne.symm (Nat.ne_of_lt HB.out.lt)) (Blk.new w _ _)
         have hc := hfb.cell (j := 0) rfl
         have hf := hfb.free 0)
      | (go_at_call 102; refine (HP.out _ hB3).mono ?_; rintro e w4 hpp; obtain rfl := hpp.1; replace hfb := hpp.2.1.blk hfb (by have := HB.out.lt; simp; omega); replace hc := hfb.cell (j := 0) rfl; replace hf := hfb.free 0))
    go_ret
    exact HF.out _ _ _ _ hT3 hpp
  · obtain rfl : l = [] := List.eq_nil_of_length_eq_zero (by have := HM.out; omega)
    obtain rfl : m = n0 := by have := HM.out; simp at this; omega
    simp only [List.length_nil, Nat.add_zero] at *
    go_enter Tryz.func70, Tryz.ntmps70
    go_wp2_with (first
      | (refine copy_bytes (l := []) (at_ := m) (f := f) (t := t) (n0 := m) (b := b) (HB.out.alloc _) rfl (.tmp 32) (.tmp 33) rfl rfl (fun h => absurd rfl h) rfl (HS.out.tch ((Tch.refl [b] w).alloc _)).rdB HM.out ?_
         intro w3 hB3 hO
         have hT3 := ((Tch.refl [b] w).alloc _).only hO (.inr (by simp))
         have hfb := hO.blk (Ne.symm (Nat.ne_of_lt HB.out.lt)) (Blk.new w _ _)
         have hc := hfb.cell (j := 0) rfl
         have hf := hfb.free 0)
      | (go_at_call 102; refine (HP.out _ hB3).mono ?_; rintro e w4 hpp; obtain rfl := hpp.1; replace hfb := hpp.2.1.blk hfb (by have := HB.out.lt; simp; omega); replace hc := hfb.cell (j := 0) rfl; replace hf := hfb.free 0))
    go_ret
    exact HF.out _ _ _ _ hT3 hpp
end Go.Proofs.YthchmnhoombecaaGreat
