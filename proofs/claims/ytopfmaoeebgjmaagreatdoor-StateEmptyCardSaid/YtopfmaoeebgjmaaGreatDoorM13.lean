/- A region that draws its order and holds one call whose value hangs on the world: reads are taken first, the call comes up alone, then the rest is quiet in a class of its own. -/
import Derived.Test.YtopfmaoeebgjmaaGreatDoorM01
import Derived.Test.YtopfmaoeebgjmaaGreatDoorM02
import Derived.Test.YtopfmaoeebgjmaaGreatDoorM03
import Derived.Test.YtopfmaoeebgjmaaGreatDoorM12
import Derived.Deep.RegionHeld3
import Derived.Laws.CopyOwn
set_option linter.unusedVariables false
set_option linter.unusedSimpArgs false
namespace Go.Proofs.YtopfmaoeebgjmaaGreatDoor
section
open Go.RowKit
section
variable {ops : Array Oper} {md : Region.Mode} {Q : Exit → Act → World → Prop} {S : World → Prop} {a : Act} {w : World} {fuel : Nat} {listed : Array Bool}
theorem held_one {P : Program} (k : Nat) (hr : Region.ready md ops listed = [k]) (h : wpOp P ops Q k (fun a' w' => S w' ∧ wpAnyH P md ops Q S fuel (listed.setIfInBounds k true) a' w') a w) : wpAnyH P md ops Q S (fuel + 1) listed a w :=
  wpAnyH_all hr (by simp) (fun i hi => by
    have : i = k := by simpa using hi
    subst this; exact h)
end
end
section
open Go.RowKit
theorem byteN_ty : Tryz.prog.underlying 5 = some (.int .u8) := by kernel_rfl
def bytesOfN (n : Nat) (f : Nat → Nat) : List UInt8 := (List.range n).map fun i => UInt8.ofNat (f i)
theorem bc_bytesN (n : Nat) (f : Nat → Nat) (h : ∀ i, i < n → f i < 256) : bc n f = ((bytesOfN n f).map Extern.Stop.cell).toArray := by
  unfold bytesOfN
  rw [List.map_map]
  show ((List.range n).map fun i => Value.int .u8 ((f i : Nat) : Int)).toArray = _
  congr 1
  apply List.map_congr_left
  intro i hi
  simp only [Function.comp, Extern.Stop.cell]
  have h := h i (List.mem_range.1 hi)
  congr 1
  simp [Nat.mod_eq_of_lt h]
theorem run_eql_hash (l : List Nat) (w : World) : (binOp .eql 25 (.agg (wf (hashN l))) (.agg (wf (hashN l)))).run Tryz.prog w = .ok (.bool true) w := by
  have := run_eql_bytes (P := Tryz.prog) w 25 5 32 word_type byteN_ty (fun w => sizeOf_u8 w) (bytesOfN 32 (hashN l)) (bytesOfN 32 (hashN l)) (by simp [bytesOfN]) (by simp [bytesOfN])
  rw [← bc_bytesN 32 (hashN l) (fun i _ => outN_lt _ _), beq_self_eq_true, bc_wf] at this
  exact this
section
variable {a : Act} {w : World} {o : Oper}
theorem x_hash {l : List Nat} (xo yo : Operand) (yt : TypeId) (ho : o.op = .binOp .eql 25 xo yo yt) (hxe : a.eval xo = .agg (wf (hashN l))) (hye : a.eval yo = .agg (wf (hashN l))) : (execOp a.eval o).run Tryz.prog w = .ok (.value (.bool true)) w := by
  have := run_eql_hash l w
  unfold execOp
  simp only [ho, hxe, hye]
  show Sem.run _ _ w = _
  simp [eqGuard, this]
end
section
variable {o : Oper} {a : Act} {ops : Array Oper} {rest : List Oper} {C : World → Prop} {Q : Act → Prop}
end
section
variable {ops : Array Oper} {md : Region.Mode} {Q : Exit → Act → World → Prop} {S : World → Prop} {a : Act} {w : World} {fuel : Nat} {listed : Array Bool} {o : Oper}
theorem held_in {l0 : List Oper} {v : Value} (i : Nat) (hi : l0[i]? = some o) (hs : Region.noSelect l0.toArray = true) (hf : Region.free md l0.toArray listed i = true) (hr : (Region.ready md l0.toArray listed).contains i = true) (hQ : ∀ c a w, Q (.panic c) (a.put o.dst v) w → Q (.panic c) a w) (hS : S w)
    (hw : Region.wanted o (yielded l0.toArray a.tmps) = true) (hx : ∀ w, S w → (execOp a.eval o).run Tryz.prog w = .ok (.value v) w)
    (h : wpAnyH Tryz.prog md l0.toArray Q S fuel (listed.setIfInBounds i true) (a.put o.dst v) w) : wpAnyH Tryz.prog md l0.toArray Q S (fuel + 1) listed a w :=
  wpAnyH_take (by rw [List.getElem?_toArray]; exact hi) hs hf hr hQ (.inl ⟨hw, fun w hS => by rw [hx w hS]⟩) hS h
end
end
section
open Go.RowKit
def PcV (X : List Nat) (w : World) : Nat → Value → It → Prop
  | 0, _, _ => False
  | _ + 1, v, .str l => if single l then v = .iface 234 (.int .u8 ((l.getD 0 0 : Nat) : Int)) else ∃ s, v = .iface 235 s ∧ RdA X w s l
  | k + 1, v, .lst l => ∃ p c, v = .iface 240 (.slice p l.length c) ∧ l.length ≤ c ∧ (l ≠ [] → ∃ b o, p = some ⟨b, o, none⟩ ∧ b < w.heap.size ∧ b ∉ X ∧ ∀ i (h : i < l.length), ∃ u, w.cell? ⟨b, o + i, none⟩ = some u ∧ PcV X w k u l[i])
theorem PcV.tch {X : List Nat} {w w' : World} (hT : Tch X w w') : ∀ {k : Nat} {v : Value} {t : It}, PcV X w k v t → PcV X w' k v t
  | 0, _, _, h => h.elim
  | _ + 1, v, .str l, h => by
    unfold PcV at h ⊢
    split
    · rename_i h1; rw [if_pos h1] at h; exact h
    · rename_i h1; rw [if_neg h1] at h
      obtain ⟨s, h2, h3⟩ := h
      exact ⟨s, h2, h3.tch hT⟩
  | k + 1, v, .lst l, h => by
    unfold PcV at h ⊢
    obtain ⟨p, c, h1, h2, h3⟩ := h
    refine ⟨p, c, h1, h2, fun hl => ?_⟩
    obtain ⟨b, o, h4, h5, h6, h7⟩ := h3 hl
    refine ⟨b, o, h4, Nat.lt_of_lt_of_le h5 hT.size, h6, fun i hi => ?_⟩
    obtain ⟨u, h8, h9⟩ := h7 i hi
    exact ⟨u, by rw [hT.cell (p := ⟨b, o + i, none⟩) h5 h6]; exact h8, PcV.tch hT h9⟩
theorem PcV.mono {X Y : List Nat} {w : World} (hX : ∀ y ∈ Y, y ∈ X ∨ w.heap.size ≤ y) : ∀ {k : Nat} {v : Value} {t : It}, PcV X w k v t → PcV Y w k v t
  | 0, _, _, h => h.elim
  | _ + 1, v, .str l, h => by
    unfold PcV at h ⊢
    split
    · rename_i h1; rw [if_pos h1] at h; exact h
    · rename_i h1; rw [if_neg h1] at h
      obtain ⟨s, h2, h3⟩ := h
      exact ⟨s, h2, h3.mono hX⟩
  | k + 1, v, .lst l, h => by
    unfold PcV at h ⊢
    obtain ⟨p, c, h1, h2, h3⟩ := h
    refine ⟨p, c, h1, h2, fun hl => ?_⟩
    obtain ⟨b, o, h4, h5, h6, h7⟩ := h3 hl
    refine ⟨b, o, h4, h5, fun hm => (hX _ hm).elim h6 (fun h => by omega), fun i hi => ?_⟩
    obtain ⟨u, h8, h9⟩ := h7 i hi
    exact ⟨u, h8, PcV.mono hX h9⟩
theorem PcV.up {X : List Nat} {w : World} : ∀ {k j : Nat} {v : Value} {t : It}, k ≤ j → PcV X w k v t → PcV X w j v t
  | 0, _, _, _, _, h => h.elim
  | _ + 1, 0, _, _, hj, _ => by omega
  | _ + 1, _ + 1, v, .str l, _, h => by unfold PcV at h ⊢; exact h
  | k + 1, j + 1, v, .lst l, hj, h => by
    unfold PcV at h ⊢
    obtain ⟨p, c, h1, h2, h3⟩ := h
    refine ⟨p, c, h1, h2, fun hl => ?_⟩
    obtain ⟨b, o, h4, h5, h6, h7⟩ := h3 hl
    refine ⟨b, o, h4, h5, h6, fun i hi => ?_⟩
    obtain ⟨u, h8, h9⟩ := h7 i hi
    exact ⟨u, h8, PcV.up (by omega) h9⟩
theorem single_one {l : List Nat} (h : single l = true) : l = [l.getD 0 0] ∧ l.getD 0 0 < 128 := by
  match l, h with
  | [x], h => exact ⟨rfl, by simpa [single] using h⟩
theorem taSS (v : Value) (w : World) : (Instr.typeAssert (.iface 234 v) 192 234 true).run Tryz.prog w = .ok (.tuple #[v, .bool true]) w := by kernel_rfl
theorem taTS (v : Value) (w : World) : (Instr.typeAssert (.iface 235 v) 192 234 true).run Tryz.prog w = .ok (.tuple #[.int .u8 0, .bool false]) w := by kernel_rfl
theorem taTT (v : Value) (w : World) : (Instr.typeAssert (.iface 235 v) 192 235 true).run Tryz.prog w = .ok (.tuple #[v, .bool true]) w := by kernel_rfl
theorem taLS (v : Value) (w : World) : (Instr.typeAssert (.iface 240 v) 192 234 true).run Tryz.prog w = .ok (.tuple #[.int .u8 0, .bool false]) w := by kernel_rfl
theorem taLT (v : Value) (w : World) : (Instr.typeAssert (.iface 240 v) 192 235 true).run Tryz.prog w = .ok (.tuple #[.slice none 0 0, .bool false]) w := by kernel_rfl
theorem taLL (v : Value) (w : World) : (Instr.typeAssert (.iface 240 v) 192 240 true).run Tryz.prog w = .ok (.tuple #[v, .bool true]) w := by kernel_rfl
theorem front_tch {b : Nat} {w w2 : World} {o : Obj} {v : Value} (_hb : b < w.heap.size) (hT : Tch [b] (w.alloc o) w2) : Tch [b] w (w2.setCell ⟨w.heap.size, 0, none⟩ v) :=
  (((Tch.refl [b] w).alloc o).trans hT).only (Only.setCell w2 ⟨w.heap.size, 0, none⟩ v) (.inl (Nat.le_refl _))
set_option maxHeartbeats 1000000 in
set_option maxRecDepth 100000 in
theorem put_single (b n n0 x : Nat) (t : TypeId) (f : Nat → Nat) (w : World) (hn : 0 < n) (hn0 : n ≤ n0) (hm : n0 ≤ 100000000) (hx : x < 128) (hB : Blk w b t (bc n0 f)) :
    Calls Tryz.prog 104 #[.slice (some ⟨b, 0, none⟩) n n0, .iface 234 (.int .u8 (x : Int))] w (PutPost b n n0 t f w [x]) := by
  have hp := fun (w1 : World) (h1 : Blk w1 b t (bc n0 f)) => putByte_any b n n0 x t f w1 hn hn0 hm (by omega) h1
  have HP := hQz hp
  have HB := hQz hB
  clear hp hB
  have k1 := taSS
  go_enter Tryz.func104, Tryz.ntmps104
  go_wp2_with (go_at_call 129; refine (HP.out _ (HB.out.alloc _)).mono ?_; rintro e w2 ⟨rfl, hT, hB2⟩; have hfb := hT.blk (Blk.new w _ _) (by have := HB.out.lt; simp; omega); have hc := hfb.cell (j := 0) rfl; have hf := hfb.free 0)
  go_ret
  exact ⟨rfl, front_tch HB.out.lt hT, hB2.far (p := ⟨w.heap.size, 0, none⟩) (Nat.ne_of_lt HB.out.lt) _⟩
theorem putpost_head {b m n0 : Nat} {t : TypeId} {f : Nat → Nat} {w w3 w4 : World} {h l : List Nat} {e : Ending} {v : Value} (hh : h.length ≤ m) (hb : b < w.heap.size) (hT : Tch [b] w w3) (hp : PutPost b m n0 t (wr f m l) w3 h e w4) : PutPost b (m + l.length) n0 t f w (h ++ l) e (w4.setCell ⟨w.heap.size, 0, none⟩ v) := by
  have e1 : m + l.length - (h ++ l).length = m - h.length := by rw [List.length_append]; omega
  refine ⟨by rw [e1]; exact hp.1, (hT.trans hp.2.1).only (Only.setCell w4 ⟨w.heap.size, 0, none⟩ v) (.inl (Nat.le_refl _)), ?_⟩
  have h3 := hp.2.2
  have h4 := wr_wr f (m - h.length) h l
  rw [show m - h.length + h.length = m by omega] at h4
  rw [h4] at h3
  rw [e1]
  exact h3.far (p := ⟨w.heap.size, 0, none⟩) (Nat.ne_of_lt hb) v
set_option maxHeartbeats 1000000 in
set_option maxRecDepth 100000 in
theorem put_text (b n n0 : Nat) (s : Value) (l : List Nat) (t : TypeId) (f : Nat → Nat) (w : World) (hn : hsz l.length + l.length ≤ n) (hn0 : n ≤ n0) (hm : n0 ≤ 100000000) (hs : RdA [b] w s l) (hB : Blk w b t (bc n0 f)) :
    Calls Tryz.prog 104 #[.slice (some ⟨b, 0, none⟩) n n0, .iface 235 s] w (PutPost b n n0 t f w (hd 128 l.length ++ l)) := by
  obtain ⟨m, rfl⟩ : ∃ m, n = m + l.length := ⟨n - l.length, by omega⟩
  have hp := fun (w1 : World) (h1 : Blk w1 b t (bc n0 (wr f m l))) => (putHead_any b m n0 128 l.length t (wr f m l) w1 (by omega) (by omega) hm (by omega) (by omega) h1)
  obtain ⟨p, c, rfl, h2, h3, h4⟩ := id hs
  have hsl : ((m + l.length : Nat) : Int) - (l.length : Int) = (m : Int) := by omega
  have hfin := fun (w3 w4 : World) (v : Value) (e : Ending) (hT : Tch [b] w w3) (hp : PutPost b m n0 t (wr f m l) w3 (hd 128 l.length) e w4) => putpost_head (v := v) (by rw [hd_length]; omega) hB.lt hT hp
  have HF := hQz hfin
  have HP := hQz hp
  have HB := hQz hB
  have HS := hQz hs
  have HM := hQz hn0
  clear hp hB hs h4 h3 hfin
  have k1 := taTS
  have k2 := taTT
  rcases Nat.lt_or_ge m n0 with hmn | hmn
  · go_enter Tryz.func104, Tryz.ntmps104
    go_wp2_with (first
      | (refine copy_bytes (l := l) (at_ := m) (f := f) (t := t) (n0 := n0) (b := b) (HB.out.alloc _) rfl (.tmp 32) (.tmp 33) rfl rfl (fun _ => rfl) rfl (HS.out.tch ((Tch.refl [b] w).alloc _)).rdB HM.out ?_
         intro w3 hB3 hO
         have hT3 := ((Tch.refl [b] w).alloc _).only hO (.inr (by simp))
         have hfb := hO.blk (Ne.symm (Nat.ne_of_lt HB.out.lt)) (Blk.new w _ _)
         have hc := hfb.cell (j := 0) rfl
         have hf := hfb.free 0)
      | (go_at_call 130; refine (HP.out _ hB3).mono ?_; rintro e w4 hpp; obtain rfl := hpp.1; replace hfb := hpp.2.1.blk hfb (by have := HB.out.lt; simp; omega); replace hc := hfb.cell (j := 0) rfl; replace hf := hfb.free 0))
    go_ret
    exact HF.out _ _ _ _ hT3 hpp
  · obtain rfl : l = [] := List.eq_nil_of_length_eq_zero (by have := HM.out; omega)
    obtain rfl : m = n0 := by have := HM.out; simp at this; omega
    simp only [List.length_nil, Nat.add_zero] at *
    go_enter Tryz.func104, Tryz.ntmps104
    go_wp2_with (first
      | (refine copy_bytes (l := []) (at_ := m) (f := f) (t := t) (n0 := m) (b := b) (HB.out.alloc _) rfl (.tmp 32) (.tmp 33) rfl rfl (fun h => absurd rfl h) rfl (HS.out.tch ((Tch.refl [b] w).alloc _)).rdB HM.out ?_
         intro w3 hB3 hO
         have hT3 := ((Tch.refl [b] w).alloc _).only hO (.inr (by simp))
         have hfb := hO.blk (Ne.symm (Nat.ne_of_lt HB.out.lt)) (Blk.new w _ _)
         have hc := hfb.cell (j := 0) rfl
         have hf := hfb.free 0)
      | (go_at_call 130; refine (HP.out _ hB3).mono ?_; rintro e w4 hpp; obtain rfl := hpp.1; replace hfb := hpp.2.1.blk hfb (by have := HB.out.lt; simp; omega); replace hc := hfb.cell (j := 0) rfl; replace hf := hfb.free 0))
    go_ret
    exact HF.out _ _ _ _ hT3 hpp
end
end Go.Proofs.YtopfmaoeebgjmaaGreatDoor
