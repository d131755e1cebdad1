/- The tree between items and bytes, in memory; put, of one byte and of bytes. -/
import Derived.Test.YtjlhnjnoigjjfaaDoorR2
import Derived.Laws.CopyOwn
namespace Go.Proofs.YtjlhnjnoigjjfaaDoor
open Go.RowKit

/-- A value that is a slice of these bytes, none of them in the blocks of X. -/
def RdA (X : List Nat) (w : World) (v : Value) (l : List Nat) : Prop := ∃ p c, v = .slice p l.length c ∧ l.length ≤ c ∧ (∀ x ∈ l, x < 256) ∧ (l ≠ [] → ∃ b o, p = some ⟨b, o, none⟩ ∧ b < w.heap.size ∧ b ∉ X ∧ ∀ i, i < l.length → w.cell? ⟨b, o + i, none⟩ = some (.int .u8 ((l.getD i 0 : Nat) : Int)))
theorem RdA.tch {X : List Nat} {w w' : World} {v : Value} {l : List Nat} (h : RdA X w v l) (hT : Tch X w w') : RdA X w' v l := by
  obtain ⟨p, c, h1, h2, h3, h4⟩ := h
  refine ⟨p, c, h1, h2, h3, fun hl => ?_⟩
  obtain ⟨b, o, h5, h6, h7, h8⟩ := h4 hl
  exact ⟨b, o, h5, Nat.lt_of_lt_of_le h6 hT.size, h7, fun i hi => by rw [hT.cell (p := ⟨b, o + i, none⟩) h6 h7]; exact h8 i hi⟩
theorem RdA.rdB {X : List Nat} {w : World} {v : Value} {l : List Nat} (h : RdA X w v l) : RdB w v l := by
  obtain ⟨p, c, h1, h2, h3, h4⟩ := h
  refine ⟨p, c, h1, h2, h3, fun hl => ?_⟩
  obtain ⟨b, o, h5, h6, _, h8⟩ := h4 hl
  exact ⟨b, o, h5, h6, h8⟩
theorem RdB.rdA {X : List Nat} {w : World} {v : Value} {l : List Nat} (h : RdB w v l) (hX : ∀ x ∈ X, w.heap.size ≤ x) : RdA X w v l := by
  obtain ⟨p, c, h1, h2, h3, h4⟩ := h
  refine ⟨p, c, h1, h2, h3, fun hl => ?_⟩
  obtain ⟨b, o, h5, h6, h8⟩ := h4 hl
  exact ⟨b, o, h5, h6, fun hm => Nat.lt_irrefl b (Nat.lt_of_lt_of_le h6 (hX _ hm)), h8⟩
theorem RdA.mono {X Y : List Nat} {w : World} {v : Value} {l : List Nat} (h : RdA X w v l) (hX : ∀ y ∈ Y, y ∈ X ∨ w.heap.size ≤ y) : RdA Y w v l := by
  obtain ⟨p, c, h1, h2, h3, h4⟩ := h
  refine ⟨p, c, h1, h2, h3, fun hl => ?_⟩
  obtain ⟨b, o, h5, h6, h7, h8⟩ := h4 hl
  exact ⟨b, o, h5, h6, fun hm => (hX _ hm).elim h7 (fun h => by omega), h8⟩
/-- A value that is the tree of an item; k: how deep it is at most. -/
def PcV (X : List Nat) (w : World) : Nat → Value → It → Prop
  | 0, _, _ => False
  | _ + 1, v, .str l => if single l then v = .iface 71 (.int .u8 ((l.getD 0 0 : Nat) : Int)) else ∃ s, v = .iface 73 s ∧ RdA X w s l
  | k + 1, v, .lst l => ∃ p c, v = .iface 77 (.slice p l.length c) ∧ l.length ≤ c ∧ (l ≠ [] → ∃ b o, p = some ⟨b, o, none⟩ ∧ b < w.heap.size ∧ b ∉ X ∧ ∀ i (h : i < l.length), ∃ u, w.cell? ⟨b, o + i, none⟩ = some u ∧ PcV X w k u l[i])
theorem PcV.tch {X : List Nat} {w w' : World} (hT : Tch X w w') : ∀ {k : Nat} {v : Value} {t : It}, PcV X w k v t → PcV X w' k v t
  | 0, _, _, h => h.elim
  | _ + 1, v, .str l, h => by
    unfold PcV at h ⊢
    split
    · rename_i h1; rw [if_pos h1] at h; exact h
    · rename_i h1; rw [if_neg h1] at h
      obtain ⟨s, h2, h3⟩ := h
      exact ⟨s, h2, h3.tch hT⟩
  | k + 1, v, .lst l, h => by
    unfold PcV at h ⊢
    obtain ⟨p, c, h1, h2, h3⟩ := h
    refine ⟨p, c, h1, h2, fun hl => ?_⟩
    obtain ⟨b, o, h4, h5, h6, h7⟩ := h3 hl
    refine ⟨b, o, h4, Nat.lt_of_lt_of_le h5 hT.size, h6, fun i hi => ?_⟩
    obtain ⟨u, h8, h9⟩ := h7 i hi
    exact ⟨u, by rw [hT.cell (p := ⟨b, o + i, none⟩) h5 h6]; exact h8, PcV.tch hT h9⟩
theorem PcV.mono {X Y : List Nat} {w : World} (hX : ∀ y ∈ Y, y ∈ X ∨ w.heap.size ≤ y) : ∀ {k : Nat} {v : Value} {t : It}, PcV X w k v t → PcV Y w k v t
  | 0, _, _, h => h.elim
  | _ + 1, v, .str l, h => by
    unfold PcV at h ⊢
    split
    · rename_i h1; rw [if_pos h1] at h; exact h
    · rename_i h1; rw [if_neg h1] at h
      obtain ⟨s, h2, h3⟩ := h
      exact ⟨s, h2, h3.mono hX⟩
  | k + 1, v, .lst l, h => by
    unfold PcV at h ⊢
    obtain ⟨p, c, h1, h2, h3⟩ := h
    refine ⟨p, c, h1, h2, fun hl => ?_⟩
    obtain ⟨b, o, h4, h5, h6, h7⟩ := h3 hl
    refine ⟨b, o, h4, h5, fun hm => (hX _ hm).elim h6 (fun h => by omega), fun i hi => ?_⟩
    obtain ⟨u, h8, h9⟩ := h7 i hi
    exact ⟨u, h8, PcV.mono hX h9⟩
/-- A tree may be held to be deeper than it is. -/
theorem PcV.up {X : List Nat} {w : World} : ∀ {k j : Nat} {v : Value} {t : It}, k ≤ j → PcV X w k v t → PcV X w j v t
  | 0, _, _, _, _, h => h.elim
  | _ + 1, 0, _, _, hj, _ => by omega
  | _ + 1, _ + 1, v, .str l, _, h => by unfold PcV at h ⊢; exact h
  | k + 1, j + 1, v, .lst l, hj, h => by
    unfold PcV at h ⊢
    obtain ⟨p, c, h1, h2, h3⟩ := h
    refine ⟨p, c, h1, h2, fun hl => ?_⟩
    obtain ⟨b, o, h4, h5, h6, h7⟩ := h3 hl
    refine ⟨b, o, h4, h5, h6, fun i hi => ?_⟩
    obtain ⟨u, h8, h9⟩ := h7 i hi
    exact ⟨u, h8, PcV.up (by omega) h9⟩
theorem single_one {l : List Nat} (h : single l = true) : l = [l.getD 0 0] ∧ l.getD 0 0 < 128 := by
  match l, h with
  | [x], h => exact ⟨rfl, by simpa [single] using h⟩
theorem taSS (v : Value) (w : World) : (Instr.typeAssert (.iface 71 v) 50 71 true).run Tryd.prog w = .ok (.tuple #[v, .bool true]) w := by kernel_rfl
theorem taST (v : Value) (w : World) : (Instr.typeAssert (.iface 71 v) 50 73 true).run Tryd.prog w = .ok (.tuple #[.slice none 0 0, .bool false]) w := by kernel_rfl
theorem taSL (v : Value) (w : World) : (Instr.typeAssert (.iface 71 v) 50 77 true).run Tryd.prog w = .ok (.tuple #[.slice none 0 0, .bool false]) w := by kernel_rfl
theorem taTS (v : Value) (w : World) : (Instr.typeAssert (.iface 73 v) 50 71 true).run Tryd.prog w = .ok (.tuple #[.int .u8 0, .bool false]) w := by kernel_rfl
theorem taTT (v : Value) (w : World) : (Instr.typeAssert (.iface 73 v) 50 73 true).run Tryd.prog w = .ok (.tuple #[v, .bool true]) w := by kernel_rfl
theorem taTL (v : Value) (w : World) : (Instr.typeAssert (.iface 73 v) 50 77 true).run Tryd.prog w = .ok (.tuple #[.slice none 0 0, .bool false]) w := by kernel_rfl
theorem taLS (v : Value) (w : World) : (Instr.typeAssert (.iface 77 v) 50 71 true).run Tryd.prog w = .ok (.tuple #[.int .u8 0, .bool false]) w := by kernel_rfl
theorem taLT (v : Value) (w : World) : (Instr.typeAssert (.iface 77 v) 50 73 true).run Tryd.prog w = .ok (.tuple #[.slice none 0 0, .bool false]) w := by kernel_rfl
theorem taLL (v : Value) (w : World) : (Instr.typeAssert (.iface 77 v) 50 77 true).run Tryd.prog w = .ok (.tuple #[v, .bool true]) w := by kernel_rfl
/-- The frame of a call that lays a box, calls, and stores into the box. -/
theorem front_tch {b : Nat} {w w2 : World} {o : Obj} {v : Value} (_hb : b < w.heap.size) (hT : Tch [b] (w.alloc o) w2) : Tch [b] w (w2.setCell ⟨w.heap.size, 0, none⟩ v) :=
  (((Tch.refl [b] w).alloc o).trans hT).only (Only.setCell w2 ⟨w.heap.size, 0, none⟩ v) (.inl (Nat.le_refl _))
set_option maxHeartbeats 1000000 in
set_option maxRecDepth 100000 in
theorem put_single (b n n0 x : Nat) (t : TypeId) (f : Nat → Nat) (w : World) (hn : 0 < n) (hn0 : n ≤ n0) (hm : n0 ≤ 100000000) (hx : x < 128) (hB : Blk w b t (bc n0 f)) :
    Calls Tryd.prog 25 #[.slice (some ⟨b, 0, none⟩) n n0, .iface 71 (.int .u8 (x : Int))] w (PutPost b n n0 t f w [x]) := by
  have hp := fun (w1 : World) (h1 : Blk w1 b t (bc n0 f)) => putByte_any b n n0 x t f w1 hn hn0 hm (by omega) h1
  have HP := Lib.hid hp
  have HB := Lib.hid hB
  clear hp hB
  have k1 := taSS
  go_enter Tryd.func25, Tryd.ntmps25
  go_wp2_with (go_at_call 36; refine (HP.out _ (HB.out.alloc _)).mono ?_; rintro e w2 ⟨rfl, hT, hB2⟩; have hfb := hT.blk (Blk.new w _ _) (by have := HB.out.lt; simp; omega); have hc := hfb.cell (j := 0) rfl; have hf := hfb.free 0)
  go_ret
  exact ⟨rfl, front_tch HB.out.lt hT, hB2.far (p := ⟨w.heap.size, 0, none⟩) (Nat.ne_of_lt HB.out.lt) _⟩
theorem splice_bc (n0 at_ : Nat) (f : Nat → Nat) (l : List Nat) (h : at_ + l.length ≤ n0) : ((bc n0 f).toList.take at_ ++ (nb l ++ (bc n0 f).toList.drop (at_ + (nb l).length))).toArray = bc n0 (wr f at_ l) := by
  apply Array.ext_getElem?
  intro i
  simp only [nb_length, List.getElem?_toArray]
  have hsz : (bc n0 f).toList.length = n0 := by simp [bc_size]
  have hg : ∀ i, (bc n0 f).toList[i]? = (bc n0 f)[i]? := fun i => Array.getElem?_toList
  by_cases h1 : i < at_
  · rw [List.getElem?_append_left (by rw [List.length_take, hsz]; omega), List.getElem?_take, if_pos h1, hg, bc_get (by omega), bc_get (by omega)]
    unfold wr; rw [if_neg (by omega)]
  · rw [List.getElem?_append_right (by rw [List.length_take, hsz]; omega), List.length_take, hsz, Nat.min_eq_left (by omega)]
    by_cases h2 : i < at_ + l.length
    · rw [List.getElem?_append_left (by rw [nb_length]; omega), nb_get (by omega), bc_get (by omega)]
      unfold wr; rw [if_pos (by omega)]
    · rw [List.getElem?_append_right (by rw [nb_length]; omega), nb_length, List.getElem?_drop, show at_ + l.length + (i - at_ - l.length) = i by omega, hg]
      by_cases h3 : i < n0
      · rw [bc_get h3, bc_get h3]; unfold wr; rw [if_neg (by omega)]
      · rw [bc_none (by omega), bc_none (by omega)]
/-- Bytes are copied into bytes. -/
theorem copy_bytes {ops : Array Oper} {rest : List Oper} {o : Oper} {a : Act} {w : World} {Q : Exit → Act → World → Prop} {b n0 at_ c : Nat} {t sT : TypeId} {f : Nat → Nat} {v : Value} {l : List Nat} (hB : Blk w b t (bc n0 f)) (hgd : o.guard = none) (d s : Operand)
    (ho : o.op = .call { callee := .builtin .copy, args := #[d, s], argTypes := #[24, sT] }) {dp : Option Addr} (hd : a.eval d = .slice dp l.length c) (hdp : l ≠ [] → dp = some ⟨b, at_, none⟩) (hs : a.eval s = v) (hv : RdB w v l) (hl : at_ + l.length ≤ n0)
    (h : ∀ w', Blk w' b t (bc n0 (wr f at_ l)) → Only b w w' → wpList Tryd.prog ops Q rest (a.put o.dst (goInt l.length)) w') : wpList Tryd.prog ops Q (o :: rest) a w := by
  obtain ⟨p, c', rfl, h2, h3, h4⟩ := hv
  by_cases hl0 : l = []
  · subst hl0
    refine wpList_copy_nothing hgd d s _ sT ho _ bytes_ty u8_size _ _ _ _ _ _ hd hs (by simp) ?_
    refine h w ?_ (Only.refl _ _)
    rw [wr_nil]; exact hB
  · obtain ⟨pb, po, rfl, h6, h7⟩ := h4 hl0
    obtain rfl := hdp hl0
    refine wpList_copy_own hgd d s 24 sT ho 5 bytes_ty u8_size b at_ l.length c ⟨pb, po, none⟩ l.length c' hd hs (bc n0 f) t hB (nb l) (by rw [nb_length]; exact (Nat.min_self _).symm) (fun j u hj => ?_) (by rw [nb_length, bc_size]; exact hl) (fun u hu => ?_) ?_
    · have hj' : j < l.length := by
        have := (List.getElem?_eq_some_iff.1 hj).1
        rwa [nb_length] at this
      have hadd : (⟨pb, po, none⟩ : Addr).add j = ⟨pb, po + j, none⟩ := by unfold Addr.add; split <;> simp_all
      rw [hadd, h7 j hj', ← nb_get hj', hj]
    · obtain ⟨x, _, rfl⟩ := List.mem_map.1 hu; rfl
    · rw [splice_bc _ _ _ _ hl, nb_length]
      exact h _ (hB.row _) (Only.setRow _ _ _)
theorem putpost_head {b m n0 : Nat} {t : TypeId} {f : Nat → Nat} {w w3 w4 : World} {h l : List Nat} {e : Ending} {v : Value} (hh : h.length ≤ m) (hb : b < w.heap.size) (hT : Tch [b] w w3) (hp : PutPost b m n0 t (wr f m l) w3 h e w4) : PutPost b (m + l.length) n0 t f w (h ++ l) e (w4.setCell ⟨w.heap.size, 0, none⟩ v) := by
  have e1 : m + l.length - (h ++ l).length = m - h.length := by rw [List.length_append]; omega
  refine ⟨by rw [e1]; exact hp.1, (hT.trans hp.2.1).only (Only.setCell w4 ⟨w.heap.size, 0, none⟩ v) (.inl (Nat.le_refl _)), ?_⟩
  have h3 := hp.2.2
  have h4 := wr_wr f (m - h.length) h l
  rw [show m - h.length + h.length = m by omega] at h4
  rw [h4] at h3
  rw [e1]
  exact h3.far (p := ⟨w.heap.size, 0, none⟩) (Nat.ne_of_lt hb) v
set_option maxHeartbeats 1000000 in
set_option maxRecDepth 100000 in
theorem put_text (b n n0 : Nat) (s : Value) (l : List Nat) (t : TypeId) (f : Nat → Nat) (w : World) (hn : hsz l.length + l.length ≤ n) (hn0 : n ≤ n0) (hm : n0 ≤ 100000000) (hs : RdA [b] w s l) (hB : Blk w b t (bc n0 f)) :
    Calls Tryd.prog 25 #[.slice (some ⟨b, 0, none⟩) n n0, .iface 73 s] w (PutPost b n n0 t f w (hd 128 l.length ++ l)) := by
  obtain ⟨m, rfl⟩ : ∃ m, n = m + l.length := ⟨n - l.length, by omega⟩
  have hp := fun (w1 : World) (h1 : Blk w1 b t (bc n0 (wr f m l))) => (putHead_any b m n0 128 l.length t (wr f m l) w1 (by omega) (by omega) hm (by omega) (by omega) h1)
  obtain ⟨p, c, rfl, h2, h3, h4⟩ := id hs
  have hsl : ((m + l.length : Nat) : Int) - (l.length : Int) = (m : Int) := by omega
  have hfin := fun (w3 w4 : World) (v : Value) (e : Ending) (hT : Tch [b] w w3) (hp : PutPost b m n0 t (wr f m l) w3 (hd 128 l.length) e w4) => putpost_head (v := v) (by rw [hd_length]; omega) hB.lt hT hp
  have HF := Lib.hid hfin
  have HP := Lib.hid hp
  have HB := Lib.hid hB
  have HS := Lib.hid hs
  have HM := Lib.hid hn0
  clear hp hB hs h4 h3 hfin
  have k1 := taTS
  have k2 := taTT
  rcases Nat.lt_or_ge m n0 with hmn | hmn
  · go_enter Tryd.func25, Tryd.ntmps25
    go_wp2_with (first
      | (refine copy_bytes (l := l) (at_ := m) (f := f) (t := t) (n0 := n0) (b := b) (HB.out.alloc _) rfl (.tmp 32) (.tmp 33) rfl rfl (fun _ => rfl) rfl (HS.out.tch ((Tch.refl [b] w).alloc _)).rdB HM.out ?_
         intro w3 hB3 hO
         have hT3 := ((Tch.refl [b] w).alloc _).only hO (.inr (by simp))
         have hfb := hO.blk (Ne.symm (Nat.ne_of_lt HB.out.lt)) (Blk.new w _ _)
         have hc := hfb.cell (j := 0) rfl
         have hf := hfb.free 0)
      | (go_at_call 37; refine (HP.out _ hB3).mono ?_; rintro e w4 hpp; obtain rfl := hpp.1; replace hfb := hpp.2.1.blk hfb (by have := HB.out.lt; simp; omega); replace hc := hfb.cell (j := 0) rfl; replace hf := hfb.free 0))
    go_ret
    exact HF.out _ _ _ _ hT3 hpp
  · obtain rfl : l = [] := List.eq_nil_of_length_eq_zero (by have := HM.out; omega)
    obtain rfl : m = n0 := by have := HM.out; simp at this; omega
    simp only [List.length_nil, Nat.add_zero] at *
    go_enter Tryd.func25, Tryd.ntmps25
    go_wp2_with (first
      | (refine copy_bytes (l := []) (at_ := m) (f := f) (t := t) (n0 := m) (b := b) (HB.out.alloc _) rfl (.tmp 32) (.tmp 33) rfl rfl (fun h => absurd rfl h) rfl (HS.out.tch ((Tch.refl [b] w).alloc _)).rdB HM.out ?_
         intro w3 hB3 hO
         have hT3 := ((Tch.refl [b] w).alloc _).only hO (.inr (by simp))
         have hfb := hO.blk (Ne.symm (Nat.ne_of_lt HB.out.lt)) (Blk.new w _ _)
         have hc := hfb.cell (j := 0) rfl
         have hf := hfb.free 0)
      | (go_at_call 37; refine (HP.out _ hB3).mono ?_; rintro e w4 hpp; obtain rfl := hpp.1; replace hfb := hpp.2.1.blk hfb (by have := HB.out.lt; simp; omega); replace hc := hfb.cell (j := 0) rfl; replace hf := hfb.free 0))
    go_ret
    exact HF.out _ _ _ _ hT3 hpp
end Go.Proofs.YtjlhnjnoigjjfaaDoor
