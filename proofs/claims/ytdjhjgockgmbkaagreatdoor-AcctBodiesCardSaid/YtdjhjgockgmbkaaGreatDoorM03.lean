/- Items in memory; the grower, at byte strings. -/
import Derived.Test.YtdjhjgockgmbkaaGreatDoorM02
import Derived.BigQuiet
import Derived.Lib.SlBytesConst
set_option linter.unusedVariables false
set_option linter.unusedSimpArgs false
namespace Go.Proofs.YtdjhjgockgmbkaaGreatDoor
open Go.RowKit

/-- Three values that are the cells of an item; k: how deep it is at most. -/
def ItC (X : List Nat) (w : World) : Nat → Value → Value → Value → It → Prop
  | 0, _, _, _, _ => False
  | _ + 1, x0, vb, _, .str l => x0 = .bool false ∧ RdA X w vb l ∧ l.length < 4611686018427387904
  | k + 1, x0, _, vl, .lst l => x0 = .bool true ∧ ∃ p c, vl = .slice p l.length c ∧ (l.length ≤ c ∧ l.length < 4611686018427387904) ∧ (l ≠ [] → ∃ b o, p = some ⟨b, o, none⟩ ∧ b < w.heap.size ∧ b ∉ X ∧ ∀ i (h : i < l.length), ∃ y0 yb yl, w.cell? ⟨b, o + i * 3, none⟩ = some y0 ∧ w.cell? ⟨b, o + i * 3 + 1, none⟩ = some yb ∧ w.cell? ⟨b, o + i * 3 + 2, none⟩ = some yl ∧ ItC X w k y0 yb yl l[i])
theorem ItC.tch {X : List Nat} {w w' : World} (hT : Tch X w w') : ∀ {k : Nat} {x y z : Value} {t : It}, ItC X w k x y z t → ItC X w' k x y z t
  | 0, _, _, _, _, h => h.elim
  | _ + 1, _, _, _, .str l, h => by unfold ItC at h ⊢; exact ⟨h.1, h.2.1.tch hT, h.2.2⟩
  | k + 1, _, _, _, .lst l, h => by
    unfold ItC at h ⊢
    obtain ⟨h0, p, c, h1, h2, h3⟩ := h
    refine ⟨h0, p, c, h1, h2, fun hl => ?_⟩
    obtain ⟨b, o, h4, h5, h6, h7⟩ := h3 hl
    refine ⟨b, o, h4, Nat.lt_of_lt_of_le h5 hT.size, h6, fun i hi => ?_⟩
    obtain ⟨y0, yb, yl, h8, h9, h10, h11⟩ := h7 i hi
    exact ⟨y0, yb, yl, by rw [hT.cell (p := ⟨b, o + i * 3, none⟩) h5 h6]; exact h8, by rw [hT.cell (p := ⟨b, o + i * 3 + 1, none⟩) h5 h6]; exact h9, by rw [hT.cell (p := ⟨b, o + i * 3 + 2, none⟩) h5 h6]; exact h10, ItC.tch hT h11⟩
theorem ItC.mono {X Y : List Nat} {w : World} (hX : ∀ y ∈ Y, y ∈ X ∨ w.heap.size ≤ y) : ∀ {k : Nat} {x y z : Value} {t : It}, ItC X w k x y z t → ItC Y w k x y z t
  | 0, _, _, _, _, h => h.elim
  | _ + 1, _, _, _, .str l, h => by unfold ItC at h ⊢; exact ⟨h.1, h.2.1.mono hX, h.2.2⟩
  | k + 1, _, _, _, .lst l, h => by
    unfold ItC at h ⊢
    obtain ⟨h0, p, c, h1, h2, h3⟩ := h
    refine ⟨h0, p, c, h1, h2, fun hl => ?_⟩
    obtain ⟨b, o, h4, h5, h6, h7⟩ := h3 hl
    refine ⟨b, o, h4, h5, fun hm => (hX _ hm).elim h6 (fun h => by omega), fun i hi => ?_⟩
    obtain ⟨y0, yb, yl, h8, h9, h10, h11⟩ := h7 i hi
    exact ⟨y0, yb, yl, h8, h9, h10, ItC.mono hX h11⟩
theorem ItC.up {X : List Nat} {w : World} : ∀ {k j : Nat} {x y z : Value} {t : It}, k ≤ j → ItC X w k x y z t → ItC X w j x y z t
  | 0, _, _, _, _, _, _, h => h.elim
  | _ + 1, 0, _, _, _, _, hj, _ => by omega
  | _ + 1, _ + 1, _, _, _, .str l, _, h => by unfold ItC at h ⊢; exact h
  | k + 1, j + 1, _, _, _, .lst l, hj, h => by
    unfold ItC at h ⊢
    obtain ⟨h0, p, c, h1, h2, h3⟩ := h
    refine ⟨h0, p, c, h1, h2, fun hl => ?_⟩
    obtain ⟨b, o, h4, h5, h6, h7⟩ := h3 hl
    refine ⟨b, o, h4, h5, h6, fun i hi => ?_⟩
    obtain ⟨y0, yb, yl, h8, h9, h10, h11⟩ := h7 i hi
    exact ⟨y0, yb, yl, h8, h9, h10, ItC.up (by omega) h11⟩
/-- What the grower leaves: j: how many lists may still be begun; r: the room. -/
def GrowPost (X : List Nat) (g : Nat) (t : TypeId) (r j k : Nat) (it : It) (w : World) (e : Ending) (w' : World) : Prop :=
  Tch [g] w w' ∧ if dep it ≤ j ∧ (enc it).length ≤ r then ∃ v, e = .returned (.tuple #[v, .bool true]) ∧ PcV X w' k v it ∧ Blk w' g t (gro ((r - (enc it).length : Nat) : Int)) else ∃ v, e = .returned (.tuple #[v, .bool false])
theorem growpost_yes {X : List Nat} {g : Nat} {t : TypeId} {r j k : Nat} {it : It} {w w' : World} {v : Value} {x : Int} (hT : Tch [g] w w') (h : dep it ≤ j ∧ (enc it).length ≤ r) (hv : PcV X w' k v it) (hB : Blk w' g t (gro x)) (hx : x = ((r - (enc it).length : Nat) : Int)) :
    GrowPost X g t r j k it w (.returned (.tuple #[v, .bool true])) w' := ⟨hT, by rw [if_pos h]; exact ⟨v, rfl, hv, by rw [← hx]; exact hB⟩⟩
theorem growpost_no {X : List Nat} {g : Nat} {t : TypeId} {r j k : Nat} {it : It} {w w' : World} {v : Value} (hT : Tch [g] w w') (h : ¬ (dep it ≤ j ∧ (enc it).length ≤ r)) :
    GrowPost X g t r j k it w (.returned (.tuple #[v, .bool false])) w' := ⟨hT, by rw [if_neg h]; exact ⟨v, rfl⟩⟩
theorem growpost_dec {X : List Nat} {g : Nat} {t : TypeId} {r j k m : Nat} {it : It} {w w2 : World} {v : Value} {x : Int} {d : Bool} (hT : Tch [g] w.drew w2) (hd : dep it ≤ j) (he : (enc it).length = m) (hv : Tch [g] w w2 → PcV X w2 k v it) (hB : Blk w2 g t (gro x)) (hx : x = (r : Int) - m) (hdd : d = decide ((m : Int) ≤ (r : Int))) :
    GrowPost X g t r j k it w (.returned (.tuple #[v, .bool d])) w2 := by
  have hT2 : Tch [g] w w2 := ⟨hT.os, hT.tape, hT.output, hT.size, hT.block⟩
  subst hdd
  by_cases h : m ≤ r
  · rw [decide_eq_true (show (m : Int) ≤ (r : Int) by omega)]
    exact growpost_yes hT2 ⟨hd, by omega⟩ (hv hT2) hB (by omega)
  · rw [decide_eq_false (show ¬ (m : Int) ≤ (r : Int) by omega)]
    exact growpost_no hT2 (by omega)
theorem mkS (v : Value) (w : World) : (Instr.makeInterface 161 v).run Tryz.prog w = .ok (.iface 161 v) w := by kernel_rfl
theorem mkT (v : Value) (w : World) : (Instr.makeInterface 162 v).run Tryz.prog w = .ok (.iface 162 v) w := by kernel_rfl
theorem mkL (v : Value) (w : World) : (Instr.makeInterface 167 v).run Tryz.prog w = .ok (.iface 167 v) w := by kernel_rfl
set_option maxHeartbeats 2000000 in
set_option maxRecDepth 100000 in
theorem grow_one (X : List Nat) (g r j b o bb ob c x : Nat) (t : TypeId) (nested : Int) (w : World) (hg : g ∈ X) (hr : r ≤ 16777216) (hx : x < 128) (hbX : b ∉ X) (hb : b < w.heap.size) (hbb : bb < w.heap.size) (hbbX : bb ∉ X) (hG : Blk w g t (gro r))
    (h0 : w.cell? ⟨b, o, none⟩ = some (.bool false)) (h1 : w.cell? ⟨b, o + 1, none⟩ = some (.slice (some ⟨bb, ob, none⟩) 1 c)) (h2 : w.cell? ⟨bb, ob, none⟩ = some (.int .u8 (x : Int))) :
    Calls Tryz.prog 57 #[.pointer (some ⟨g, 0, none⟩), .pointer (some ⟨b, o, none⟩), .int .i64 nested] w (GrowPost X g t r j 1 (.str [x]) w) := by
  have hgb : b ≠ g := fun e => hbX (e ▸ hg)
  have hgbb : bb ≠ g := fun e => hbbX (e ▸ hg)
  have hmk := mkS
  have hsp := fun (w1 : World) (hB : Blk w1 g t (gro r)) => spend_any g r 1 t w1 (by omega) (by omega) hB
  have HS := Lib.hid hsp
  have HG := Lib.hid hG
  clear hsp hG
  have hx128 : (x : Int) < 128 := by omega
  go_enter Tryz.func57, Tryz.ntmps57
  go_wp2
  go_region_held3 (fun w' => w'.cell? ⟨b, o + 1, none⟩ = some (.slice (some ⟨bb, ob, none⟩) 1 c) ∧ w'.cell? ⟨bb, ob, none⟩ = some (.int .u8 (x : Int)))
    (first
      | go_keep
      | (go_split_ands
         refine ⟨?_, ?_⟩
         · (rw [hT.cell (p := ⟨b, o + 1, none⟩) hb (by simpa using hgb)]; assumption)
         · (rw [hT.cell (p := ⟨bb, ob, none⟩) hbb (by simpa using hgbb)]; assumption)))
    (first | (go_at_call 83; refine (HS.out _ HG.out.drew).mono ?_; rintro e w2 ⟨rfl, hT, hG2⟩))
  go_wp2
  go_ret2
  have e1 : (enc (.str [x])).length = 1 := by rw [enc_str]; unfold encS single; rw [if_pos (by simpa using hx)]; rfl
  have hT2 : Tch [g] w w2 := ⟨hT.os, hT.tape, hT.output, hT.size, hT.block⟩
  by_cases h : 1 ≤ r
  · rw [decide_eq_true (show (1 : Int) ≤ (r : Int) by omega)]
    refine growpost_yes hT2 ⟨by rw [dep_str]; omega, by rw [e1]; exact h⟩ ?_ hG2 (by rw [e1]; omega)
    unfold PcV
    rw [if_pos (by simpa [single] using hx)]; rfl
  · rw [decide_eq_false (show ¬ (1 : Int) ≤ (r : Int) by omega)]
    exact growpost_no hT2 (by rw [e1]; omega)
set_option maxHeartbeats 2000000 in
set_option maxRecDepth 100000 in
theorem grow_text (X : List Nat) (g r j b o c : Nat) (p : Option Addr) (l : List Nat) (t : TypeId) (nested : Int) (w : World) (hg : g ∈ X) (hr : r ≤ 16777216) (hbX : b ∉ X) (hb : b < w.heap.size) (hG : Blk w g t (gro r))
    (h0 : w.cell? ⟨b, o, none⟩ = some (.bool false)) (h1 : w.cell? ⟨b, o + 1, none⟩ = some (.slice p l.length c)) (hl : l.length < 4611686018427387904) (hv : RdA X w (.slice p l.length c) l)
    (hne : l.length ≠ 1) (hs1 : single l = false) :
    Calls Tryz.prog 57 #[.pointer (some ⟨g, 0, none⟩), .pointer (some ⟨b, o, none⟩), .int .i64 nested] w (GrowPost X g t r j 1 (.str l) w) := by
  have hgb : b ≠ g := fun e => hbX (e ▸ hg)
  have hmk := mkT
  have e1 : (enc (.str l)).length = hsz l.length + l.length := by rw [enc_str]; unfold encS; rw [if_neg (by rw [hs1]; decide), List.length_append, hd_length]
  have hpc : ∀ w2, Tch [g] w w2 → PcV X w2 1 (.iface 162 (.slice p l.length c)) (.str l) := fun w2 hT => by
    unfold PcV; rw [if_neg (by rw [hs1]; decide)]
    exact ⟨_, rfl, hv.tch (hT.mono (fun x hx => .inl (by simp at hx; rw [hx]; exact hg)))⟩
  have hdx : dep (.str l) ≤ j := by rw [dep_str]; omega
  have HP := Lib.hid (And.intro hpc (And.intro e1 hdx))
  have HG := Lib.hid hG
  clear hG hpc e1 hv hs1 hdx
  by_cases hn : l.length ≤ 16777216
  · have hz5 := hsz_le (n := l.length) (by omega)
    have hd : decide ((l.length : Int) ≤ 16777216) = true := decide_eq_true (by omega)
    have hsp := fun (w1 : World) (hB : Blk w1 g t (gro r)) => spend_any g r (hsz l.length + l.length) t w1 (by omega) (by omega) hB
    have hhs := fun (w1 : World) => headSize_any l.length w1 (by omega)
    generalize hH : hsz l.length = H at *
    rw [show (((H + l.length : Nat)) : Int) = (H : Int) + (l.length : Int) by omega] at hsp
    have hsum : IntKind.i64.wrap ((H : Int) + (l.length : Int)) = (H : Int) + (l.length : Int) := IntWalk.i64_in _ (by omega)
    have HS := Lib.hid hsp
    have HH := Lib.hid hhs
    clear hsp hhs
    · have hne' : ¬ (l.length : Int) = 1 := by omega
      go_enter Tryz.func57, Tryz.ntmps57
      go_wp2
      go_region_held3 (fun w' => w'.cell? ⟨b, o + 1, none⟩ = some (.slice p l.length c))
        (first
          | go_keep
          | (rw [hT.cell (p := ⟨b, o + 1, none⟩) hb (by simpa using hgb)]; assumption))
        (first
          | (go_at_call 84; refine (HH.out _).mono ?_; rintro e w' ⟨rfl, rfl⟩)
          | (go_at_call 83; refine (HS.out _ HG.out.drew).mono ?_; rintro e w2 ⟨rfl, hT, hG2⟩))
      go_wp2
      go_ret2
      exact growpost_dec hT HP.out.2.2 HP.out.2.1 (HP.out.1 _) hG2 (by omega) (by first | rfl | (congr 1; simp; done) | (apply decide_eq_decide.2; simp))
  · have hd : decide ((l.length : Int) ≤ 16777216) = false := decide_eq_false (by omega)
    · have hne' : ¬ (l.length : Int) = 1 := by omega
      go_enter Tryz.func57, Tryz.ntmps57
      go_wp2
      go_quiet (fail)
      go_wp2
      go_ret2
      exact growpost_no ((Tch.refl _ _).drewN _) (by have := HP.out.2.1; omega)
set_option maxHeartbeats 2000000 in
set_option maxRecDepth 100000 in
theorem grow_two (X : List Nat) (g r j b o bb ob c x : Nat) (t : TypeId) (nested : Int) (w : World) (hg : g ∈ X) (hr : r ≤ 16777216) (hx : 128 ≤ x) (hbX : b ∉ X) (hb : b < w.heap.size) (hG : Blk w g t (gro r))
    (h0 : w.cell? ⟨b, o, none⟩ = some (.bool false)) (h1 : w.cell? ⟨b, o + 1, none⟩ = some (.slice (some ⟨bb, ob, none⟩) 1 c)) (h2 : w.cell? ⟨bb, ob, none⟩ = some (.int .u8 (x : Int))) (hv : RdA X w (.slice (some ⟨bb, ob, none⟩) 1 c) [x]) :
    Calls Tryz.prog 57 #[.pointer (some ⟨g, 0, none⟩), .pointer (some ⟨b, o, none⟩), .int .i64 nested] w (GrowPost X g t r j 1 (.str [x]) w) := by
  have hgb : b ≠ g := fun e => hbX (e ▸ hg)
  have hmk := mkT
  have hs1 : single [x] = false := by simp [single]; omega
  have e1 : (enc (.str [x])).length = 2 := by rw [enc_str]; unfold encS; rw [if_neg (by rw [hs1]; decide), List.length_append, hd_length]; rfl
  have hpc : ∀ w2, Tch [g] w w2 → PcV X w2 1 (.iface 162 (.slice (some ⟨bb, ob, none⟩) 1 c)) (.str [x]) := fun w2 hT => by
    unfold PcV; rw [if_neg (by rw [hs1]; decide)]
    exact ⟨_, rfl, hv.tch (hT.mono (fun x hx => .inl (by simp at hx; rw [hx]; exact hg)))⟩
  have HP := Lib.hid (And.intro hpc (And.intro e1 (show dep (.str [x]) ≤ j by rw [dep_str]; omega)))
  have HG := Lib.hid hG
  clear hG hpc e1 hv hs1
  have hsp := fun (w1 : World) (hB : Blk w1 g t (gro r)) => spend_any g r 2 t w1 (by omega) (by omega) hB
  have hhs := fun (w1 : World) => headSize_any 1 w1 (by omega)
  have HS := Lib.hid hsp
  have HH := Lib.hid hhs
  clear hsp hhs
  have hx' : ¬ (x : Int) < 128 := by omega
  go_enter Tryz.func57, Tryz.ntmps57
  go_wp2
  go_region_held3 (fun w' => w'.cell? ⟨b, o + 1, none⟩ = some (.slice (some ⟨bb, ob, none⟩) 1 c))
    (first
      | go_keep
      | (rw [hT.cell (p := ⟨b, o + 1, none⟩) hb (by simpa using hgb)]; assumption))
    (first
      | (go_at_call 84; refine (HH.out _).mono ?_; rintro e w' ⟨rfl, rfl⟩)
      | (go_at_call 83; refine (HS.out _ HG.out.drew).mono ?_; rintro e w2 ⟨rfl, hT, hG2⟩))
  go_wp2
  go_ret2
  exact growpost_dec hT HP.out.2.2 HP.out.2.1 (HP.out.1 _) hG2 (by omega) (by first | rfl | (apply decide_eq_decide.2; simp))
theorem growpost_up {X : List Nat} {g : Nat} {t : TypeId} {r j k k' : Nat} {it : It} {w w' : World} {e : Ending} (hk : k ≤ k') (h : GrowPost X g t r j k it w e w') : GrowPost X g t r j k' it w e w' := by
  refine ⟨h.1, ?_⟩
  have := h.2
  split
  · rename_i hc; rw [if_pos hc] at this
    obtain ⟨v, h1, h2, h3⟩ := this
    exact ⟨v, h1, h2.up hk, h3⟩
  · rename_i hc; rw [if_neg hc] at this
    exact this
/-- The grower at a byte string. -/
theorem grow_str (X : List Nat) (g r j b o : Nat) (vb : Value) (l : List Nat) (t : TypeId) (nested : Int) (w : World) (hg : g ∈ X) (hr : r ≤ 16777216) (hbX : b ∉ X) (hb : b < w.heap.size) (hG : Blk w g t (gro r))
    (h0 : w.cell? ⟨b, o, none⟩ = some (.bool false)) (h1 : w.cell? ⟨b, o + 1, none⟩ = some vb) (hl : l.length < 4611686018427387904) (hv : RdA X w vb l) :
    Calls Tryz.prog 57 #[.pointer (some ⟨g, 0, none⟩), .pointer (some ⟨b, o, none⟩), .int .i64 nested] w (GrowPost X g t r j 1 (.str l) w) := by
  obtain ⟨p, c, rfl, h2, h3, h4⟩ := id hv
  by_cases hl1 : l.length = 1
  · obtain ⟨x, rfl⟩ := List.length_eq_one_iff.1 hl1
    obtain ⟨bb, ob, rfl, h5, h6, h7⟩ := h4 (by simp)
    have h8 : w.cell? ⟨bb, ob, none⟩ = some (.int .u8 (x : Int)) := by have := h7 0 (by simp); simpa using this
    by_cases hx : x < 128
    · exact grow_one X g r j b o bb ob c x t nested w hg hr hx hbX hb h5 h6 hG h0 h1 h8
    · exact grow_two X g r j b o bb ob c x t nested w hg hr (by omega) hbX hb hG h0 h1 h8 hv
  · have hs : single l = false := by
      cases l with
      | nil => rfl
      | cons a q =>
        cases q with
        | nil => simp at hl1
        | cons _ _ => rfl
    exact grow_text X g r j b o c p l t nested w hg hr hbX hb hG h0 h1 hl hv hl1 hs
end Go.Proofs.YtdjhjgockgmbkaaGreatDoor

/- The grower, at lists and at any item. -/
namespace Go.Proofs.YtdjhjgockgmbkaaGreatDoor
open Go.RowKit

theorem piece_info : (Tryz.prog.info? 114).map (fun i => (i.zero, i.size, i.bytes)) = some (some .nilIface, 1, 16) := by kernel_rfl
theorem list_ty : Tryz.prog.underlying 167 = some (.slice 114) := by kernel_rfl
theorem make_pieces (n : Nat) : madeCells (Value.nilIface).cells (n * 1) = Array.replicate n .nilIface := by
  simp only [madeCells, Value.cells, Nat.mul_one]
  apply Array.ext (by simp)
  intro j h1 h2
  simp [Nat.mod_one]
/-- Pieces are made. -/
theorem st_makeP {ops : Array Oper} {rest : List Oper} {o : Oper} {a : Act} {w : World} {Q : Exit → Act → World → Prop} (n : Nat) (hgd : o.guard = none) (x y : Operand) (ho : o.op = .makeSlice 167 x y) (hx : a.eval x = .int .i64 (n : Int)) (hy : a.eval y = .int .i64 (n : Int)) (hn : n ≤ 16777216)
    (h : wpList Tryz.prog ops Q rest (a.put o.dst (.slice (some ⟨w.heap.size, 0, none⟩) n n)) (w.alloc (.cells (Array.replicate n .nilIface) 114))) : wpList Tryz.prog ops Q (o :: rest) a w :=
  wpList_plain hgd fun K hK => by
    obtain ⟨i, hi, hz, hs, hb⟩ := info_parts piece_info
    have hr := run_makeSlice (P := Tryz.prog) w 167 114 i .nilIface list_ty hi hz .i64 .i64 n n (by omega) (by omega) (by rw [hs]; simp; omega) (by rw [hb]; omega) (by omega)
    rw [hs, Int.toNat_natCast, make_pieces] at hr
    unfold Oper.wp execOp
    simp only [ho, hx, hy, Sem.run_bind, hr, Result.andThen_ok, Sem.run_pure]
    exact hK _ _ h
def GrowOK (j : Nat) : Prop := ∀ (X : List Nat) (g r k b o : Nat) (x0 vb vl : Value) (it : It) (t : TypeId) (d : Int) (w : World), g ∈ X → (∀ x ∈ X, x < w.heap.size) → r ≤ 16777216 → b ∉ X → b < w.heap.size → Blk w g t (gro r) →
  w.cell? ⟨b, o, none⟩ = some x0 → w.cell? ⟨b, o + 1, none⟩ = some vb → w.cell? ⟨b, o + 2, none⟩ = some vl → ItC X w k x0 vb vl it → d + j = 32 → 0 ≤ d →
  Calls Tryz.prog 57 #[.pointer (some ⟨g, 0, none⟩), .pointer (some ⟨b, o, none⟩), .int .i64 d] w (GrowPost X g t r j k it w)
/-- What holds behind m rounds. -/
def GLI (X : List Nat) (g r j k Lb : Nat) (t : TypeId) (l : List It) (w : World) (m : Nat) (W : World) : Prop :=
  Tch [g] w W ∧ w.heap.size ≤ Lb ∧ (∃ c, Blk W Lb 114 c ∧ c.size = l.length ∧ ∀ q (h : q < l.length), q < m → ∃ u, c[q]? = some u ∧ PcV (Lb :: X) W k u l[q]) ∧ (encs (l.take m)).length ≤ r ∧ deps (l.take m) ≤ j ∧ Blk W g t (gro ((r - (encs (l.take m)).length : Nat) : Int))
theorem take_more (l : List It) (m : Nat) (h : m < l.length) : encs (l.take (m + 1)) = encs (l.take m) ++ enc l[m] ∧ deps (l.take (m + 1)) = max (deps (l.take m)) (dep l[m]) := by
  rw [List.take_succ_eq_append_getElem h, encs_append, deps_append, encs_one]
  exact ⟨rfl, by simp [deps]⟩
theorem encs_split (l : List It) (m : Nat) (h : m < l.length) : (encs (l.take m)).length + (enc l[m]).length ≤ (encs l).length := by
  have e := congrArg List.length (congrArg encs (List.take_append_drop (m + 1) l))
  rw [encs_append, List.length_append, (take_more l m h).1, List.length_append] at e
  omega
set_option maxHeartbeats 2000000 in
set_option maxRecDepth 100000 in
theorem growList_zero (X : List Nat) (g r k c : Nat) (p : Option Addr) (l : List It) (t : TypeId) (w : World) :
    Calls Tryz.prog 82 #[.pointer (some ⟨g, 0, none⟩), .slice p l.length c, .int .i64 32] w (GrowPost X g t r 0 k (.lst l) w) := by
  go_enter Tryz.func82, Tryz.ntmps82
  go_wp2
  go_ret2
  exact growpost_no (Tch.refl _ _) (by rw [dep_lst]; omega)
theorem PcV.iface {X : List Nat} {w : World} : ∀ {k : Nat} {v : Value} {t : It}, PcV X w k v t → ∃ T u, v = .iface T u
  | 0, _, _, h => h.elim
  | _ + 1, _, .str l, h => by
    unfold PcV at h
    split at h
    · exact ⟨_, _, h⟩
    · obtain ⟨s, h, _⟩ := h; exact ⟨_, _, h⟩
  | _ + 1, _, .lst l, h => by
    unfold PcV at h
    obtain ⟨p, c, h, _⟩ := h; exact ⟨_, _, h⟩
theorem gli_step {X : List Nat} {g r j k Lb m : Nat} {t : TypeId} {l : List It} {w wr w2 : World} {T : TypeId} {u : Value} (hm : m < l.length) (hI : GLI X g r j k Lb t l w m wr) (hLX : Lb ≠ g) (hg : g ∈ X) (hT2 : Tch [g] wr w2) (hv : PcV (Lb :: X) w2 k (.iface T u) l[m]) (hd : dep l[m] ≤ j) (hle : (enc l[m]).length ≤ r - (encs (l.take m)).length)
    (hB2 : Blk w2 g t (gro ((r - (encs (l.take m)).length - (enc l[m]).length : Nat) : Int))) : GLI X g r j k Lb t l w (m + 1) (w2.setCell ⟨Lb, m, none⟩ (.iface T u)) := by
  obtain ⟨hT, hLb, ⟨cs, hBL, hcs, hps⟩, hle0, hdp, hBg⟩ := hI
  have hO : Only Lb w2 (w2.setCell ⟨Lb, m, none⟩ (.iface T u)) := Only.setCell _ ⟨Lb, m, none⟩ _
  have hTO : Tch (Lb :: X) w2 (w2.setCell ⟨Lb, m, none⟩ (.iface T u)) := (Tch.refl _ _).only hO (.inr (by simp))
  obtain ⟨he, hdd⟩ := take_more l m hm
  have hel : (encs (l.take (m + 1))).length = (encs (l.take m)).length + (enc l[m]).length := by rw [he, List.length_append]
  refine ⟨(hT.trans hT2).only hO (.inl hLb), hLb, ⟨cs.setIfInBounds m (.iface T u), (hT2.blk hBL (by simpa using hLX)).set m _, by simp [hcs], fun q hq hqm => ?_⟩, by rw [hel]; omega, by rw [hdd]; omega, ?_⟩
  · rw [Array.getElem?_setIfInBounds]
    by_cases hqe : m = q
    · subst hqe
      exact ⟨_, by rw [if_pos rfl, if_pos (by omega)], hv.tch hTO⟩
    · rw [if_neg hqe]
      obtain ⟨u', h1, h2⟩ := hps q hq (by omega)
      exact ⟨u', h1, (h2.tch (hT2.mono (fun x hx => .inl (by simp at hx; rw [hx]; exact List.mem_cons_of_mem _ hg)))).tch hTO⟩
  · rw [hel, Nat.sub_add_eq]
    exact hO.blk (Ne.symm hLX) hB2
theorem gli_end {X : List Nat} {g r j k Lb n : Nat} {t : TypeId} {l : List It} {w wr w3 : World} {d : Bool} {x : Int} (hn : n = l.length) (hI : GLI X g r j k Lb t l w l.length wr) (hX : ∀ x ∈ X, x < w.heap.size) (hg : g ∈ X) (hLw : Lb < wr.heap.size) (hT3 : Tch [g] wr w3) (hB3 : Blk w3 g t (gro x)) (hx : x = ((r - (encs l).length : Nat) : Int) - hsz (encs l).length) (hdd : d = decide (0 ≤ x)) :
    GrowPost X g t r (j + 1) (k + 1) (.lst l) w (.returned (.tuple #[.iface 167 (.slice (some ⟨Lb, 0, none⟩) n n), .bool d])) w3 := by
  subst hn
  obtain ⟨hT, hLb, ⟨cs, hBL, hcs, hps⟩, hle0, hdp, hBg⟩ := hI
  rw [List.take_length] at *
  have he : (enc (.lst l)).length = hsz (encs l).length + (encs l).length := by rw [enc_lst, List.length_append, hd_length]
  have hLg : Lb ∉ [g] := by intro h; simp at h; have := hX g hg; omega
  have hT3' : Tch (Lb :: X) wr w3 := hT3.mono (fun x hx => .inl (by simp at hx; rw [hx]; exact List.mem_cons_of_mem _ hg))
  have hpc : PcV X w3 (k + 1) (.iface 167 (.slice (some ⟨Lb, 0, none⟩) l.length l.length)) (.lst l) := by
    unfold PcV
    refine ⟨_, _, rfl, Nat.le_refl _, fun _ => ⟨Lb, 0, rfl, Nat.lt_of_lt_of_le hLw hT3.size, fun h => by have := hX _ h; omega, fun i hi => ?_⟩⟩
    obtain ⟨u, h1, h2⟩ := hps i hi hi
    refine ⟨u, ?_, (h2.tch hT3').mono (fun y hy => .inl (List.mem_cons_of_mem _ hy))⟩
    rw [Nat.zero_add]
    exact (hT3.blk hBL hLg).cell h1
  subst hdd
  by_cases h : hsz (encs l).length ≤ r - (encs l).length
  · rw [decide_eq_true (show 0 ≤ x by omega)]
    exact growpost_yes (hT.trans hT3) ⟨by rw [dep_lst]; omega, by omega⟩ hpc hB3 (by rw [he]; omega)
  · rw [decide_eq_false (show ¬ 0 ≤ x by omega)]
    exact growpost_no (hT.trans hT3) (by omega)
set_option maxHeartbeats 2000000 in
set_option maxRecDepth 100000 in
theorem growList_any (j : Nat) (ih : GrowOK j) (X : List Nat) (g r k b o c : Nat) (p : Option Addr) (l : List It) (t : TypeId) (d : Int) (w : World) (hg : g ∈ X) (hX : ∀ x ∈ X, x < w.heap.size) (hr : r ≤ 16777216) (hG : Blk w g t (gro r)) (hd : d + (j + 1 : Nat) = 32) (hd0 : 0 ≤ d) (hlen : l.length < 4611686018427387904)
    (hp : 0 < l.length → p = some ⟨b, o, none⟩ ∧ b < w.heap.size ∧ b ∉ X)
    (hc : ∀ i (h : i < l.length), ∃ y0 yb yl, w.cell? ⟨b, o + i * 3, none⟩ = some y0 ∧ w.cell? ⟨b, o + i * 3 + 1, none⟩ = some yb ∧ w.cell? ⟨b, o + i * 3 + 2, none⟩ = some yl ∧ ItC X w k y0 yb yl l[i]) :
    Calls Tryz.prog 82 #[.pointer (some ⟨g, 0, none⟩), .slice p l.length c, .int .i64 d] w (GrowPost X g t r (j + 1) (k + 1) (.lst l) w) := by
  have hgc := hG.cell (j := 0) (v := .int .i64 r) rfl
  have hd32 : ¬ d = 32 := by omega
  by_cases hroom : l.length ≤ r
  · have hroom' : ¬ (r : Int) < (l.length : Int) := by omega
    have h0 : GLI X g r j k w.heap.size t l w 0 (w.alloc (.cells (Array.replicate l.length .nilIface) 114)) :=
      ⟨(Tch.refl _ _).alloc _, Nat.le_refl _, ⟨_, Blk.new w _ _, by simp, fun q _ hq => by omega⟩, by simp [encs], by simp [deps], by simpa [encs] using hG.alloc _⟩
    have hgw := hG.lt
    have H0 := Lib.hid h0
    have hgc2 := ((hG.alloc (.cells (Array.replicate l.length .nilIface) 114))).cell (j := 0) (v := .int .i64 r) rfl
    have HC := Lib.hid hc
    have hmk := mkL
    clear h0 hG hc
    go_enter Tryz.func82, Tryz.ntmps82
    go_wp2_with (refine st_makeP l.length rfl _ _ rfl rfl rfl (by omega) ?_)
    go_loopw [33] (fun i wr => ∃ m : Nat, m ≤ l.length ∧ i = .int .i64 (m : Int) ∧ GLI X g r j k w.heap.size t l w m wr) (fun i _ => l.length - (intOf i).toNat)
    case atStart => exact ⟨0, Nat.zero_le _, rfl, H0.out⟩
    case round =>
      obtain ⟨m, hm, rfl, hI⟩ := hrel
      have hI' := hI
      obtain ⟨hT, hLb, ⟨cs, hBL, hcs, hps⟩, hle, hdp, hBg⟩ := hI'
      have hgL : w.heap.size ≠ g := by omega
      by_cases hlt : m < l.length
      · obtain ⟨rfl, hb, hbX⟩ := hp (by omega)
        have hbg : b ∉ [g] := by intro h; simp at h; subst h; exact hbX hg
        obtain ⟨y0, yb, yl, c0, c1, c2, hit⟩ := HC.out m hlt
        have hmono : ∀ x ∈ [g], x ∈ w.heap.size :: X ∨ w.heap.size ≤ x := fun x hx => .inl (by simp at hx; rw [hx]; exact List.mem_cons_of_mem _ hg)
        have hwr : w.heap.size < wr.heap.size := hBL.lt
        have hit' := (hit.mono (Y := w.heap.size :: X) (fun y hy => by rcases List.mem_cons.1 hy with rfl | hy; exact .inr (Nat.le_refl _); exact .inl hy)).tch (hT.mono hmono)
        have hcall := ih (w.heap.size :: X) g (r - (encs (l.take m)).length) k b (o + m * 3) y0 yb yl l[m] t (d + 1) wr (List.mem_cons_of_mem _ hg) (fun x hx => by rcases List.mem_cons.1 hx with rfl | hx; exact hwr; exact Nat.lt_trans (hX x hx) hwr) (by omega)
          (by intro h; rcases List.mem_cons.1 h with h | h; omega; exact hbX h) (by omega) hBg ((hT.cell (p := ⟨b, o + m * 3, none⟩) hb hbg).trans c0) ((hT.cell (p := ⟨b, o + m * 3 + 1, none⟩) hb hbg).trans c1) ((hT.cell (p := ⟨b, o + m * 3 + 2, none⟩) hb hbg).trans c2) hit' (by omega) (by omega)
        by_cases hok : dep l[m] ≤ j ∧ (enc l[m]).length ≤ r - (encs (l.take m)).length
        · have hcall2 := hcall.mono (R' := fun e w' => ∃ v, e = .returned (.tuple #[v, .bool true]) ∧ Tch [g] wr w' ∧ PcV (w.heap.size :: X) w' k v l[m] ∧ Blk w' g t (gro ((r - (encs (l.take m)).length - (enc l[m]).length : Nat) : Int))) (fun e w' h => by
            obtain ⟨h1, h2⟩ := h
            rw [if_pos hok] at h2
            obtain ⟨v, h3, h4, h5⟩ := h2
            exact ⟨v, h3, h1, h4, h5⟩)
          have HK := Lib.hid hcall2
          have HOK := Lib.hid hok
          have HI := Lib.hid hI
          have hcm : cs[m]? = some (cs[m]'(by omega)) := Array.getElem?_eq_getElem (by omega)
          have HM := Lib.hid hcm
          clear hcall hcall2 hok hcm hit hit' c0 c1 c2 hps hle hdp hI hT hmono
          go_wp2_with (go_at_call 57; refine HK.out.mono ?_; rintro e w2 ⟨v, rfl, hT2, hv, hB2⟩; obtain ⟨T, u, rfl⟩ := hv.iface; have hBL2 := hT2.blk hBL (by simpa using hgL); have hcl := hBL2.cell (j := m) HM.out; have hfl := hBL2.free m)
          go_roundw
          case rel => exact ⟨m + 1, by omega, by go_num, gli_step hlt HI.out hgL hg hT2 hv HOK.out.1 HOK.out.2 hB2⟩
          case measure => simp [intOf]; omega
        · have hcall2 := hcall.mono (R' := fun e w' => ∃ v, e = .returned (.tuple #[v, .bool false]) ∧ Tch [g] wr w') (fun e w' h => by
            obtain ⟨h1, h2⟩ := h
            rw [if_neg hok] at h2
            obtain ⟨v, h3⟩ := h2
            exact ⟨v, h3, h1⟩)
          have hno : ¬ (dep (.lst l) ≤ j + 1 ∧ (enc (.lst l)).length ≤ r) := by
            have h1 := encs_split l m hlt
            have h2 := deps_mem (List.getElem_mem hlt)
            rw [dep_lst, enc_lst, List.length_append]
            omega
          have HK := Lib.hid hcall2
          have HN := Lib.hid (And.intro hno hT)
          clear hcall hcall2 hok hit hit' c0 c1 c2 hps hle hdp hI hno hT hmono
          go_wp2_with (go_at_call 57; refine HK.out.mono ?_; rintro e w2 ⟨v, rfl, hT2⟩)
          go_ret2
          exact growpost_no (HN.out.2.trans hT2) HN.out.1
      · obtain rfl : m = l.length := by omega
        rw [List.take_length] at hle hBg
        have HI := Lib.hid hI
        obtain ⟨R, hR⟩ : ∃ R, R = r - (encs l).length := ⟨_, rfl⟩
        rw [← hR] at hBg
        have hgr : wr.cell? ⟨g, 0, none⟩ = some (.int .i64 (R : Int)) := hBg.cell (j := 0) rfl
        have hE : (r : Int) - (R : Int) = ((encs l).length : Int) := by omega
        have hhs := fun (w1 : World) => headSize_any (encs l).length w1 (by omega)
        have h5 := hsz_le (n := (encs l).length) (by omega)
        have hsp := spend_any g R (hsz (encs l).length) t wr (by omega) (by omega) hBg
        have HH := Lib.hid hhs
        have HS := Lib.hid hsp
        have HR := Lib.hid hR
        clear hhs hsp hI hps hT hR
        generalize hEE : (encs l).length = E at *
        generalize hHH : hsz E = H at *
        go_wp2_with (first
          | (go_at_call 84; refine (HH.out _).mono ?_; rintro e w' ⟨rfl, rfl⟩)
          | (go_at_call 83; refine HS.out.mono ?_; rintro e w2 ⟨rfl, hT2, hG2⟩))
        go_ret2
        refine gli_end rfl HI.out hX hg hBL.lt hT2 hG2 (by rw [hEE, hHH, HR.out]) ?_
        first | rfl | (apply decide_eq_decide.2; omega)
  · have hroom' : (r : Int) < (l.length : Int) := by omega
    have hno : ¬ (dep (.lst l) ≤ j + 1 ∧ (enc (.lst l)).length ≤ r) := by
      have := encs_len l
      rw [enc_lst, List.length_append]; omega
    have HN := Lib.hid hno
    clear hno
    go_enter Tryz.func82, Tryz.ntmps82
    go_wp2
    go_ret2
    exact growpost_no (Tch.refl _ _) HN.out
/-- The grower at a list, out of growList. -/
theorem growList_grow (X : List Nat) (g r j k b o c : Nat) (p : Option Addr) (l : List It) (t : TypeId) (d : Int) (w : World) (h0 : w.cell? ⟨b, o, none⟩ = some (.bool true)) (h2 : w.cell? ⟨b, o + 2, none⟩ = some (.slice p l.length c))
    (hc : Calls Tryz.prog 82 #[.pointer (some ⟨g, 0, none⟩), .slice p l.length c, .int .i64 d] w (GrowPost X g t r j k (.lst l) w)) :
    Calls Tryz.prog 57 #[.pointer (some ⟨g, 0, none⟩), .pointer (some ⟨b, o, none⟩), .int .i64 d] w (GrowPost X g t r j k (.lst l) w) := by
  have hc2 := hc.mono (R' := fun e w' => ∃ v d, e = .returned (.tuple #[v, .bool d]) ∧ GrowPost X g t r j k (.lst l) w (.returned (.tuple #[v, .bool d])) w') (fun e w' h => by
    have h' := h
    obtain ⟨h1, h3⟩ := h
    split at h3
    · obtain ⟨v, rfl, _⟩ := h3; exact ⟨v, true, rfl, h'⟩
    · obtain ⟨v, rfl⟩ := h3; exact ⟨v, false, rfl, h'⟩)
  have HC := Lib.hid hc2
  clear hc hc2
  go_enter Tryz.func57, Tryz.ntmps57
  go_wp2_with (go_at_call 82; refine HC.out.mono ?_; rintro e w2 ⟨v, d, rfl, hp⟩; have HP := Lib.hid hp; clear hp)
  go_ret2
  exact HP.out
theorem grow_any : ∀ j, GrowOK j := by
  intro j
  induction j with
  | zero =>
    intro X g r k b o x0 vb vl it t d w hg hX hr hbX hb hG h0 h1 h2 hit hd hd0
    cases k with
    | zero => exact hit.elim
    | succ k =>
      cases it with
      | str l =>
        unfold ItC at hit
        obtain ⟨rfl, hv, hl⟩ := hit
        exact (grow_str X g r 0 b o vb l t d w hg hr hbX hb hG h0 h1 hl hv).mono fun e w' h => growpost_up (by omega) h
      | lst l =>
        unfold ItC at hit
        obtain ⟨rfl, p, c, rfl, hl, hc⟩ := hit
        obtain rfl : d = 32 := by omega
        exact growList_grow X g r 0 (k + 1) b o c p l t 32 w h0 h2 (growList_zero X g r (k + 1) c p l t w)
  | succ j ih =>
    intro X g r k b o x0 vb vl it t d w hg hX hr hbX hb hG h0 h1 h2 hit hd hd0
    cases k with
    | zero => exact hit.elim
    | succ k =>
      cases it with
      | str l =>
        unfold ItC at hit
        obtain ⟨rfl, hv, hl⟩ := hit
        exact (grow_str X g r (j + 1) b o vb l t d w hg hr hbX hb hG h0 h1 hl hv).mono fun e w' h => growpost_up (by omega) h
      | lst l =>
        unfold ItC at hit
        obtain ⟨rfl, p, c, rfl, hl, hc⟩ := hit
        refine growList_grow X g r (j + 1) (k + 1) b o c p l t d w h0 h2 ?_
        by_cases hl0 : l = []
        · subst hl0
          exact growList_any j ih X g r k 0 0 c p [] t d w hg hX hr hG hd hd0 hl.2 (fun h => absurd h (by simp)) (fun i h => absurd h (by simp))
        · obtain ⟨bl, ol, rfl, h5, h6, h7⟩ := hc hl0
          exact growList_any j ih X g r k bl ol c _ l t d w hg hX hr hG hd hd0 hl.2 (fun _ => ⟨rfl, h5, h6⟩) h7
end Go.Proofs.YtdjhjgockgmbkaaGreatDoor

/- rlp.Pack of any item. -/
namespace Go.Proofs.YtdjhjgockgmbkaaGreatDoor
open Go.RowKit

theorem hd_lt {base n : Nat} (hb : base ≤ 192) (hn : n ≤ 16777216) : ∀ x ∈ hd base n, x < 256 := by
  intro x hx
  unfold hd at hx
  split at hx
  · have := List.mem_singleton.1 hx; omega
  · rcases List.mem_cons.1 hx with rfl | hx
    · have := lsz_le (n := n) (by omega); omega
    · exact be_lt n x hx
theorem mem_encs {l : List It} {x : Nat} (h : x ∈ encs l) : ∃ i, ∃ h : i < l.length, x ∈ enc l[i] := by
  induction l with
  | nil => simp [encs] at h
  | cons y r ih =>
    rw [encs] at h
    rcases List.mem_append.1 h with h | h
    · exact ⟨0, by simp, h⟩
    · obtain ⟨i, hi, h⟩ := ih h
      exact ⟨i + 1, by simp; omega, by simpa using h⟩
theorem encs_item (l : List It) (i : Nat) (h : i < l.length) : (enc l[i]).length ≤ (encs l).length := by have := encs_split l i h; omega
theorem enc_lt {X : List Nat} {w : World} : ∀ {k : Nat} {x0 vb vl : Value} {it : It}, ItC X w k x0 vb vl it → (enc it).length ≤ 16777216 → ∀ x ∈ enc it, x < 256
  | 0, _, _, _, _, h, _ => h.elim
  | _ + 1, _, _, _, .str l, h, hl => by
    unfold ItC at h
    obtain ⟨_, ⟨p, c, _, _, h3, _⟩, _⟩ := h
    rw [enc_str] at hl ⊢
    unfold encS at hl ⊢
    split at hl
    · rename_i hs; rw [if_pos hs]; exact h3
    · rename_i hs; rw [if_neg hs]
      rw [List.length_append] at hl
      intro x hx
      rcases List.mem_append.1 hx with hx | hx
      · exact hd_lt (by omega) (by omega) x hx
      · exact h3 x hx
  | k + 1, _, _, _, .lst l, h, hl => by
    unfold ItC at h
    obtain ⟨_, p, c, _, _, h3⟩ := h
    rw [enc_lst] at hl ⊢
    rw [List.length_append] at hl
    intro x hx
    rcases List.mem_append.1 hx with hx | hx
    · exact hd_lt (by omega) (by omega) x hx
    · obtain ⟨i, hi, hx⟩ := mem_encs hx
      have hne : l ≠ [] := by intro e; subst e; simp at hi
      obtain ⟨b, o, _, _, _, h7⟩ := h3 hne
      obtain ⟨y0, yb, yl, _, _, _, h8⟩ := h7 i hi
      exact enc_lt h8 (by have := encs_item l i hi; omega) x hx
/-- What Pack answers. -/
def PackPost (it : It) (w : World) (e : Ending) (w' : World) : Prop :=
  Tch [] w w' ∧ if dep it ≤ 32 ∧ (enc it).length ≤ 16777216 then ∃ b, w.heap.size ≤ b ∧ e = .returned (.tuple #[.slice (some ⟨b, 0, none⟩) (enc it).length (enc it).length, .int .i64 0]) ∧ Blk w' b 5 (bc (enc it).length fun i => (enc it).getD i 0) else e = .returned (.tuple #[.slice none 0 0, .int .i64 3])
theorem packpost_no {it : It} {w w' : World} (h : ¬ (dep it ≤ 32 ∧ (enc it).length ≤ 16777216)) (hT : Tch [] w w') : PackPost it w (.returned (.tuple #[.slice none 0 0, .int .i64 3])) w' := ⟨hT, by rw [if_neg h]⟩
/-- Bytes are made. -/
theorem st_makeN {ops : Array Oper} {rest : List Oper} {o : Oper} {a : Act} {w : World} {Q : Exit → Act → World → Prop} (n : Nat) (hgd : o.guard = none) (x y : Operand) (ho : o.op = .makeSlice 26 x y) (hx : a.eval x = .int .i64 (n : Int)) (hy : a.eval y = .int .i64 (n : Int)) (hn : n ≤ 16777216)
    (h : wpList Tryz.prog ops Q rest (a.put o.dst (.slice (some ⟨w.heap.size, 0, none⟩) n n)) (w.alloc (.cells (bc n fun _ => 0) 5))) : wpList Tryz.prog ops Q (o :: rest) a w :=
  wpList_plain hgd fun K hK => by
    obtain ⟨i, hi, hz, hs, hb⟩ := info_parts A_info
    have hr := run_makeSlice (P := Tryz.prog) w 26 5 i (.int .u8 0) bytes_ty hi hz .i64 .i64 n n (by omega) (by omega) (by rw [hs]; simp; omega) (by rw [hb]; omega) (by omega)
    rw [hs, Int.toNat_natCast, make_bytes] at hr
    unfold Oper.wp execOp
    simp only [ho, hx, hy, Sem.run_bind, hr, Result.andThen_ok, Sem.run_pure]
    exact hK _ _ h
set_option maxHeartbeats 2000000 in
set_option maxRecDepth 100000 in
theorem pack_any (k : Nat) (x0 vb vl : Value) (it : It) (w : World) (hit : ItC [] w k x0 vb vl it) :
    Calls Tryz.prog 25 #[.agg #[x0, vb, vl]] w (PackPost it w) := by
  obtain ⟨W2, hW2⟩ : ∃ W2, W2 = (w.alloc (.cells #[x0, vb, vl] 68)).alloc (.cells #[.int .i64 16777216] 112) := ⟨_, rfl⟩
  have hT2 : Tch [] w W2 := by rw [hW2]; exact ((Tch.refl _ _).alloc _).alloc _
  have hz2 : W2.heap.size = w.heap.size + 2 := by rw [hW2]; simp
  have hG2 : Blk W2 (w.heap.size + 1) 112 (gro ((16777216 : Nat) : Int)) := by
    have := Blk.new (w.alloc (.cells #[x0, vb, vl] 68)) 112 #[.int .i64 16777216]
    rw [World.size_alloc] at this
    rw [hW2]; exact this
  have hI2 : Blk W2 w.heap.size 68 #[x0, vb, vl] := by rw [hW2]; exact (Blk.new w _ _).alloc _
  have hitm : ItC [w.heap.size + 1] W2 k x0 vb vl it := (hit.mono (Y := [w.heap.size + 1]) (fun y hy => .inr (by simp at hy; omega))).tch (hT2.mono (by simp))
  have hcall := grow_any 32 [w.heap.size + 1] (w.heap.size + 1) 16777216 k w.heap.size 0 x0 vb vl it 112 0 W2 (by simp) (by simp; omega) (by omega) (by simp) (by omega) hG2 (hI2.cell rfl) (hI2.cell rfl) (hI2.cell rfl) hitm (by omega) (by omega)
  have hlt8 := enc_lt hit
  clear hit hitm hI2 hG2
  by_cases hok : dep it ≤ 32 ∧ (enc it).length ≤ 16777216
  · obtain ⟨n, hn⟩ : ∃ n, n = (enc it).length := ⟨_, rfl⟩
    obtain ⟨R, hR⟩ : ∃ R, R = 16777216 - n := ⟨_, rfl⟩
    have hcall2 := hcall.mono (R' := fun e w' => ∃ v, e = .returned (.tuple #[v, .bool true]) ∧ Tch [w.heap.size + 1] W2 w' ∧ PcV [w.heap.size + 1] w' k v it ∧ Blk w' (w.heap.size + 1) 112 (gro (R : Int))) (fun e w' h => by
      obtain ⟨h1, h2⟩ := h
      rw [if_pos hok, ← hn, ← hR] at h2
      obtain ⟨v, h3, h4, h5⟩ := h2
      exact ⟨v, h3, h1, h4, h5⟩)
    have hput := fun (w3 : World) (v : Value) (h : PcV [w.heap.size + 1] w3 k v it) => put_any k w3.heap.size n n v it 5 (fun _ => 0) (w3.alloc (.cells (bc n fun _ => 0) 5)) ((h.mono (Y := [w3.heap.size]) (fun y hy => .inr (by simp at hy; omega))).tch ((Tch.refl _ _).alloc _)) (Blk.new _ _ _) (by omega) (Nat.le_refl _) (by omega)
    have hfin : ∀ (w3 w5 : World) (e : Ending), Tch [w.heap.size + 1] W2 w3 → PutPost w3.heap.size n n 5 (fun _ => 0) (w3.alloc (.cells (bc n fun _ => 0) 5)) (enc it) e w5 → PackPost it w (.returned (.tuple #[.slice (some ⟨w3.heap.size, 0, none⟩) n n, .int .i64 0])) w5 := fun w3 w5 e hT3 hp => by
      have hT3' := hT2.fresh hT3 (by simp)
      refine ⟨(hT3'.alloc _).fresh hp.2.1 (fun x hx => by simp at hx; rw [hx]; exact hT3'.size), ?_⟩
      rw [if_pos hok]
      refine ⟨w3.heap.size, hT3'.size, by rw [hn], ?_⟩
      have h3 := hp.2.2
      rw [← hn, Nat.sub_self] at h3
      rw [hn] at h3
      rw [← wr_zero (fun _ => 0)]
      exact h3
    have hRn : (16777216 : Int) - (R : Int) = (n : Int) := by omega
    have hn8 : n ≤ 16777216 := by omega
    have HC := Lib.hid hcall2
    have HP := Lib.hid hput
    have HF := Lib.hid hfin
    clear hcall hcall2 hput hfin hlt8 hok hn hR hT2 hz2
    go_enter Tryz.func25, Tryz.ntmps25
    go_wp2_with (first
      | (go_at_call 57; rw [← hW2]; refine HC.out.mono ?_; rintro e w3 ⟨v, rfl, hT3, hv, hG3⟩; have hgc : w3.cell? ⟨w.heap.size + 1, 0, none⟩ = some (.int .i64 (R : Int)) := hG3.cell (j := 0) rfl)
      | (refine st_makeN n rfl _ _ rfl rfl rfl hn8 ?_)
      | (go_at_call 58; refine (HP.out w3 v hv).mono ?_; rintro e w5 hp; obtain ⟨u, hu⟩ : ∃ u, e = .returned u := ⟨_, hp.1⟩; subst hu; have HQ := Lib.hid hp; clear hp))
    go_ret2
    exact HF.out _ _ _ hT3 HQ.out
  · have hcall2 := hcall.mono (R' := fun e w' => ∃ v, e = .returned (.tuple #[v, .bool false]) ∧ Tch [w.heap.size + 1] W2 w') (fun e w' h => by
      obtain ⟨h1, h2⟩ := h
      rw [if_neg hok] at h2
      obtain ⟨v, h3⟩ := h2
      exact ⟨v, h3, h1⟩)
    have HC := Lib.hid hcall2
    have HT := Lib.hid (And.intro hT2 hok)
    clear hcall hcall2 hlt8 hok hT2 hz2
    go_enter Tryz.func25, Tryz.ntmps25
    go_wp2_with (go_at_call 57; rw [← hW2]; refine HC.out.mono ?_; rintro e w3 ⟨v, rfl, hT3⟩)
    go_ret2
    exact packpost_no HT.out.2 (HT.out.1.fresh hT3 (by simp))
end Go.Proofs.YtdjhjgockgmbkaaGreatDoor

/- The example that each law of rlp begins with. -/
namespace Go.Proofs.YtdjhjgockgmbkaaGreatDoor
open Go.RowKit

theorem range_getD (l : List Nat) : ((List.range l.length).map fun i => l.getD i 0) = l := by
  apply List.ext_getElem (by simp)
  intro i h1 h2
  simp [h2]
theorem PackPost.rdB {it : It} {w w' : World} {e : Ending} (h : PackPost it w e w') (h1 : dep it ≤ 32) (h2 : (enc it).length ≤ 16777216) (h3 : ∀ x ∈ enc it, x < 256) :
    ∃ v, e = .returned (.tuple #[v, .int .i64 0]) ∧ Tch [] w w' ∧ RdB w' v (enc it) := by
  obtain ⟨hT, h⟩ := h
  rw [if_pos ⟨h1, h2⟩] at h
  obtain ⟨b, _, he, hB⟩ := h
  have hr := RdB.blk hB (fun i hi => by
    have : (enc it).getD i 0 = (enc it)[i] := by simp [hi]
    rw [this]; exact h3 _ (List.getElem_mem hi))
  rw [range_getD] at hr
  exact ⟨_, he, hT, hr⟩
end Go.Proofs.YtdjhjgockgmbkaaGreatDoor
