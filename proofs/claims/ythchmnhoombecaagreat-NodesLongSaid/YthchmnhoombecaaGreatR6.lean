/- Items in memory; the grower, at byte strings. -/
import Derived.Test.YthchmnhoombecaaGreatR5
import Derived.BigQuiet
namespace Go.Proofs.YthchmnhoombecaaGreat
open Go.RowKit

/-- Three values that are the cells of an item; k: how deep it is at most. -/
def ItC (X : List Nat) (w : World) : Nat → Value → Value → Value → It → Prop
  | 0, _, _, _, _ => False
  | _ + 1, x0, vb, _, .str l => x0 = .bool false ∧ RdA X w vb l ∧ l.length < 4611686018427387904
  | k + 1, x0, _, vl, .lst l => x0 = .bool true ∧ ∃ p c, vl = .slice p l.length c ∧ (l.length ≤ c ∧ l.length < 4611686018427387904) ∧ (l ≠ [] → ∃ b o, p = some ⟨b, o, none⟩ ∧ b < w.heap.size ∧ b ∉ X ∧ ∀ i (h : i < l.length), ∃ y0 yb yl, w.cell? ⟨b, o + i * 3, none⟩ = some y0 ∧ w.cell? ⟨b, o + i * 3 + 1, none⟩ = some yb ∧ w.cell? ⟨b, o + i * 3 + 2, none⟩ = some yl ∧ ItC X w k y0 yb yl l[i])
theorem ItC.tch {X : List Nat} {w w' : World} (hT : Tch X w w') : ∀ {k : Nat} {x y z : Value} {t : It}, ItC X w k x y z t → ItC X w' k x y z t
  | 0, _, _, _, _, h => h.elim
  | _ + 1, _, _, _, .str l, h => by unfold ItC at h ⊢; exact ⟨h.1, h.2.1.tch hT, h.2.2⟩
  | k + 1, _, _, _, .lst l, h => by
    unfold ItC at h ⊢
    obtain ⟨h0, p, c, h1, h2, h3⟩ := h
    refine ⟨h0, p, c, h1, h2, fun hl => ?_⟩
    obtain ⟨b, o, h4, h5, h6, h7⟩ := h3 hl
    refine ⟨b, o, h4, Nat.lt_of_lt_of_le h5 hT.size, h6, fun i hi => ?_⟩
    obtain ⟨y0, yb, yl, h8, h9, h10, h11⟩ := h7 i hi
    exact ⟨y0, yb, yl, by rw [hT.cell (p := ⟨b, o + i * 3, none⟩) h5 h6]; exact h8, by rw [hT.cell (p := ⟨b, o + i * 3 + 1, none⟩) h5 h6]; exact h9, by rw [hT.cell (p := ⟨b, o + i * 3 + 2, none⟩) h5 h6]; exact h10, ItC.tch hT h11⟩
theorem ItC.mono {X Y : List Nat} {w : World} (hX : ∀ y ∈ Y, y ∈ X ∨ w.heap.size ≤ y) : ∀ {k : Nat} {x y z : Value} {t : It}, ItC X w k x y z t → ItC Y w k x y z t
  | 0, _, _, _, _, h => h.elim
  | _ + 1, _, _, _, .str l, h => by unfold ItC at h ⊢; exact ⟨h.1, h.2.1.mono hX, h.2.2⟩
  | k + 1, _, _, _, .lst l, h => by
    unfold ItC at h ⊢
    obtain ⟨h0, p, c, h1, h2, h3⟩ := h
    refine ⟨h0, p, c, h1, h2, fun hl => ?_⟩
    obtain ⟨b, o, h4, h5, h6, h7⟩ := h3 hl
    refine ⟨b, o, h4, h5, fun hm => (hX _ hm).elim h6 (fun h => by omega), fun i hi => ?_⟩
    obtain ⟨y0, yb, yl, h8, h9, h10, h11⟩ := h7 i hi
    exact ⟨y0, yb, yl, h8, h9, h10, ItC.mono hX h11⟩
theorem ItC.up {X : List Nat} {w : World} : ∀ {k j : Nat} {x y z : Value} {t : It}, k ≤ j → ItC X w k x y z t → ItC X w j x y z t
  | 0, _, _, _, _, _, _, h => h.elim
  | _ + 1, 0, _, _, _, _, hj, _ => by omega
  | _ + 1, _ + 1, _, _, _, .str l, _, h => by unfold ItC at h ⊢; exact h
  | k + 1, j + 1, _, _, _, .lst l, hj, h => by
    unfold ItC at h ⊢
    obtain ⟨h0, p, c, h1, h2, h3⟩ := h
    refine ⟨h0, p, c, h1, h2, fun hl => ?_⟩
    obtain ⟨b, o, h4, h5, h6, h7⟩ := h3 hl
    refine ⟨b, o, h4, h5, h6, fun i hi => ?_⟩
    obtain ⟨y0, yb, yl, h8, h9, h10, h11⟩ := h7 i hi
    exact ⟨y0, yb, yl, h8, h9, h10, ItC.up (by omega) h11⟩
/-- What the grower leaves: j: how many lists may still be begun; r: the room. -/
def GrowPost (X : List Nat) (g : Nat) (t : TypeId) (r j k : Nat) (it : It) (w : World) (e : Ending) (w' : World) : Prop :=
  Tch [g] w w' ∧ if dep it ≤ j ∧ (enc it).length ≤ r then ∃ v, e = .returned (.tuple #[v, .bool true]) ∧ PcV X w' k v it ∧ Blk w' g t (gro ((r - (enc it).length : Nat) : Int)) else ∃ v, e = .returned (.tuple #[v, .bool false])
theorem growpost_yes {X : List Nat} {g : Nat} {t : TypeId} {r j k : Nat} {it : It} {w w' : World} {v : Value} {x : Int} (hT : Tch [g] w w') (h : dep it ≤ j ∧ (enc it).length ≤ r) (hv : PcV X w' k v it) (hB : Blk w' g t (gro x)) (hx : x = ((r - (enc it).length : Nat) : Int)) :
    GrowPost X g t r j k it w (.returned (.tuple #[v, .bool true])) w' := ⟨hT, by rw [if_pos h]; exact ⟨v, rfl, hv, by rw [← hx]; exact hB⟩⟩
theorem growpost_no {X : List Nat} {g : Nat} {t : TypeId} {r j k : Nat} {it : It} {w w' : World} {v : Value} (hT : Tch [g] w w') (h : ¬ (dep it ≤ j ∧ (enc it).length ≤ r)) :
    GrowPost X g t r j k it w (.returned (.tuple #[v, .bool false])) w' := ⟨hT, by rw [if_neg h]; exact ⟨v, rfl⟩⟩
theorem growpost_dec {X : List Nat} {g : Nat} {t : TypeId} {r j k m : Nat} {it : It} {w w2 : World} {v : Value} {x : Int} {d : Bool} (hT : Tch [g] w.drew w2) (hd : dep it ≤ j) (he : (enc it).length = m) (hv : Tch [g] w w2 → PcV X w2 k v it) (hB : Blk w2 g t (gro x)) (hx : x = (r : Int) - m) (hdd : d = decide ((m : Int) ≤ (r : Int))) :
    GrowPost X g t r j k it w (.returned (.tuple #[v, .bool d])) w2 := by
  have hT2 : Tch [g] w w2 := ⟨hT.os, hT.tape, hT.output, hT.size, hT.block⟩
  subst hdd
  by_cases h : m ≤ r
  · rw [decide_eq_true (show (m : Int) ≤ (r : Int) by omega)]
    exact growpost_yes hT2 ⟨hd, by omega⟩ (hv hT2) hB (by omega)
  · rw [decide_eq_false (show ¬ (m : Int) ≤ (r : Int) by omega)]
    exact growpost_no hT2 (by omega)
theorem mkS (v : Value) (w : World) : (Instr.makeInterface 177 v).run Tryz.prog w = .ok (.iface 177 v) w := by kernel_rfl
theorem mkT (v : Value) (w : World) : (Instr.makeInterface 179 v).run Tryz.prog w = .ok (.iface 179 v) w := by kernel_rfl
theorem mkL (v : Value) (w : World) : (Instr.makeInterface 184 v).run Tryz.prog w = .ok (.iface 184 v) w := by kernel_rfl
set_option maxHeartbeats 2000000 in
set_option maxRecDepth 100000 in
theorem grow_one (X : List Nat) (g r j b o bb ob c x : Nat) (t : TypeId) (nested : Int) (w : World) (hg : g ∈ X) (hr : r ≤ 16777216) (hx : x < 128) (hbX : b ∉ X) (hb : b < w.heap.size) (hbb : bb < w.heap.size) (hbbX : bb ∉ X) (hG : Blk w g t (gro r))
    (h0 : w.cell? ⟨b, o, none⟩ = some (.bool false)) (h1 : w.cell? ⟨b, o + 1, none⟩ = some (.slice (some ⟨bb, ob, none⟩) 1 c)) (h2 : w.cell? ⟨bb, ob, none⟩ = some (.int .u8 (x : Int))) :
    Calls Tryz.prog 69 #[.pointer (some ⟨g, 0, none⟩), .pointer (some ⟨b, o, none⟩), .int .i64 nested] w (GrowPost X g t r j 1 (.str [x]) w) := by
  have hgb : b ≠ g := fun e => hbX (e ▸ hg)
  have hgbb : bb ≠ g := fun e => hbbX (e ▸ hg)
  have hmk := mkS
  have hsp := fun (w1 : World) (hB : Blk w1 g t (gro r)) => spend_any g r 1 t w1 (by omega) (by omega) hB
  have HS := Lib.hid hsp
  have HG := Lib.hid hG
  clear hsp hG
  have hx128 : (x : Int) < 128 := by omega
  go_enter Tryz.func69, Tryz.ntmps69
  go_wp2
  go_region_held3 (fun w' => w'.cell? ⟨b, o + 1, none⟩ = some (.slice (some ⟨bb, ob, none⟩) 1 c) ∧ w'.cell? ⟨bb, ob, none⟩ = some (.int .u8 (x : Int)))
    (first
      | go_keep
      | (go_split_ands
         refine ⟨?_, ?_⟩
         · (rw [hT.cell (p := ⟨b, o + 1, none⟩) hb (by simpa using hgb)]; assumption)
         · (rw [hT.cell (p := ⟨bb, ob, none⟩) hbb (by simpa using hgbb)]; assumption)))
    (first | (go_at_call 99; refine (HS.out _ HG.out.drew).mono ?_; rintro e w2 ⟨rfl, hT, hG2⟩))
  go_wp2
  go_ret2
  have e1 : (enc (.str [x])).length = 1 := by rw [enc_str]; unfold encS single; rw [if_pos (by simpa using hx)]; rfl
  have hT2 : Tch [g] w w2 := ⟨hT.os, hT.tape, hT.output, hT.size, hT.block⟩
  by_cases h : 1 ≤ r
  · rw [decide_eq_true (show (1 : Int) ≤ (r : Int) by omega)]
    refine growpost_yes hT2 ⟨by rw [dep_str]; omega, by rw [e1]; exact h⟩ ?_ hG2 (by rw [e1]; omega)
    unfold PcV
    rw [if_pos (by simpa [single] using hx)]; rfl
  · rw [decide_eq_false (show ¬ (1 : Int) ≤ (r : Int) by omega)]
    exact growpost_no hT2 (by rw [e1]; omega)
set_option maxHeartbeats 2000000 in
set_option maxRecDepth 100000 in
theorem grow_text (X : List Nat) (g r j b o c : Nat) (p : Option Addr) (l : List Nat) (t : TypeId) (nested : Int) (w : World) (hg : g ∈ X) (hr : r ≤ 16777216) (hbX : b ∉ X) (hb : b < w.heap.size) (hG : Blk w g t (gro r))
    (h0 : w.cell? ⟨b, o, none⟩ = some (.bool false)) (h1 : w.cell? ⟨b, o + 1, none⟩ = some (.slice p l.length c)) (hl : l.length < 4611686018427387904) (hv : RdA X w (.slice p l.length c) l)
    (hne : l.length ≠ 1) (hs1 : single l = false) :
    Calls Tryz.prog 69 #[.pointer (some ⟨g, 0, none⟩), .pointer (some ⟨b, o, none⟩), .int .i64 nested] w (GrowPost X g t r j 1 (.str l) w) := by
  have hgb : b ≠ g := fun e => hbX (e ▸ hg)
  have hmk := mkT
  have e1 : (enc (.str l)).length = hsz l.length + l.length := by rw [enc_str]; unfold encS; rw [if_neg (by rw [hs1]; decide), List.length_append, hd_length]
  have hpc : ∀ w2, Tch [g] w w2 → PcV X w2 1 (.iface 179 (.slice p l.length c)) (.str l) := fun w2 hT => by
    unfold PcV; rw [if_neg (by rw [hs1]; decide)]
    exact ⟨_, rfl, hv.tch (hT.mono (fun x hx => .inl (by simp at hx; rw [hx]; exact hg)))⟩
  have hdx : dep (.str l) ≤ j := by rw [dep_str]; omega
  have HP := Lib.hid (And.intro hpc (And.intro e1 hdx))
  have HG := Lib.hid hG
  clear hG hpc e1 hv hs1 hdx
  by_cases hn : l.length ≤ 16777216
  · have hz5 := hsz_le (n := l.length) (by omega)
    have hd : decide ((l.length : Int) ≤ 16777216) = true := decide_eq_true (by omega)
    have hsp := fun (w1 : World) (hB : Blk w1 g t (gro r)) => spend_any g r (hsz l.length + l.length) t w1 (by omega) (by omega) hB
    have hhs := fun (w1 : World) => headSize_any l.length w1 (by omega)
    generalize hH : hsz l.length = H at *
    rw [show (((H + l.length : Nat)) : Int) = (H : Int) + (l.length : Int) by omega] at hsp
    have hsum : IntKind.i64.wrap ((H : Int) + (l.length : Int)) = (H : Int) + (l.length : Int) := IntWalk.i64_in _ (by omega)
    have HS := Lib.hid hsp
    have HH := Lib.hid hhs
    clear hsp hhs
    · have hne' : ¬ (l.length : Int) = 1 := by omega
      go_enter Tryz.func69, Tryz.ntmps69
      go_wp2
      go_region_held3 (fun w' => w'.cell? ⟨b, o + 1, none⟩ = some (.slice p l.length c))
        (first
          | go_keep
          | (rw [hT.cell (p := ⟨b, o + 1, none⟩) hb (by simpa using hgb)]; assumption))
        (first
          | (go_at_call 100; refine (HH.out _).mono ?_; rintro e w' ⟨rfl, rfl⟩)
          | (go_at_call 99; refine (HS.out _ HG.out.drew).mono ?_; rintro e w2 ⟨rfl, hT, hG2⟩))
      go_wp2
      go_ret2
      exact growpost_dec hT HP.out.2.2 HP.out.2.1 (HP.out.1 _) hG2 (by omega) (by first | rfl | (congr 1; simp; done) | (apply decide_eq_decide.2; simp))
  · have hd : decide ((l.length : Int) ≤ 16777216) = false := decide_eq_false (by omega)
    · have hne' : ¬ (l.length : Int) = 1 := by omega
      go_enter Tryz.func69, Tryz.ntmps69
      go_wp2
      go_quiet (fail)
      go_wp2
      go_ret2
      exact growpost_no ((Tch.refl _ _).drewN _) (by have := HP.out.2.1; omega)
set_option maxHeartbeats 2000000 in
set_option maxRecDepth 100000 in
theorem grow_two (X : List Nat) (g r j b o bb ob c x : Nat) (t : TypeId) (nested : Int) (w : World) (hg : g ∈ X) (hr : r ≤ 16777216) (hx : 128 ≤ x) (hbX : b ∉ X) (hb : b < w.heap.size) (hG : Blk w g t (gro r))
    (h0 : w.cell? ⟨b, o, none⟩ = some (.bool false)) (h1 : w.cell? ⟨b, o + 1, none⟩ = some (.slice (some ⟨bb, ob, none⟩) 1 c)) (h2 : w.cell? ⟨bb, ob, none⟩ = some (.int .u8 (x : Int))) (hv : RdA X w (.slice (some ⟨bb, ob, none⟩) 1 c) [x]) :
    Calls Tryz.prog 69 #[.pointer (some ⟨g, 0, none⟩), .pointer (some ⟨b, o, none⟩), .int .i64 nested] w (GrowPost X g t r j 1 (.str [x]) w) := by
  have hgb : b ≠ g := fun e => hbX (e ▸ hg)
  have hmk := mkT
  have hs1 : single [x] = false := by simp [single]; omega
  have e1 : (enc (.str [x])).length = 2 := by rw [enc_str]; unfold encS; rw [if_neg (by rw [hs1]; decide), List.length_append, hd_length]; rfl
  have hpc : ∀ w2, Tch [g] w w2 → PcV X w2 1 (.iface 179 (.slice (some ⟨bb, ob, none⟩) 1 c)) (.str [x]) := fun w2 hT => by
    unfold PcV; rw [if_neg (by rw [hs1]; decide)]
    exact ⟨_, rfl, hv.tch (hT.mono (fun x hx => .inl (by simp at hx; rw [hx]; exact hg)))⟩
  have HP := Lib.hid (And.intro hpc (And.intro e1 (show dep (.str [x]) ≤ j by rw [dep_str]; omega)))
  have HG := Lib.hid hG
  clear hG hpc e1 hv hs1
  have hsp := fun (w1 : World) (hB : Blk w1 g t (gro r)) => spend_any g r 2 t w1 (by omega) (by omega) hB
  have hhs := fun (w1 : World) => headSize_any 1 w1 (by omega)
  have HS := Lib.hid hsp
  have HH := Lib.hid hhs
  clear hsp hhs
  have hx' : ¬ (x : Int) < 128 := by omega
  go_enter Tryz.func69, Tryz.ntmps69
  go_wp2
  go_region_held3 (fun w' => w'.cell? ⟨b, o + 1, none⟩ = some (.slice (some ⟨bb, ob, none⟩) 1 c))
    (first
      | go_keep
      | (rw [hT.cell (p := ⟨b, o + 1, none⟩) hb (by simpa using hgb)]; assumption))
    (first
      | (go_at_call 100; refine (HH.out _).mono ?_; rintro e w' ⟨rfl, rfl⟩)
      | (go_at_call 99; refine (HS.out _ HG.out.drew).mono ?_; rintro e w2 ⟨rfl, hT, hG2⟩))
  go_wp2
  go_ret2
  exact growpost_dec hT HP.out.2.2 HP.out.2.1 (HP.out.1 _) hG2 (by omega) (by first | rfl | (apply decide_eq_decide.2; simp))
theorem growpost_up {X : List Nat} {g : Nat} {t : TypeId} {r j k k' : Nat} {it : It} {w w' : World} {e : Ending} (hk : k ≤ k') (h : GrowPost X g t r j k it w e w') : GrowPost X g t r j k' it w e w' := by
  refine ⟨h.1, ?_⟩
  have := h.2
  split
  · rename_i hc; rw [if_pos hc] at this
    obtain ⟨v, h1, h2, h3⟩ := this
    exact ⟨v, h1, h2.up hk, h3⟩
  · rename_i hc; rw [if_neg hc] at this
    exact this
/-- The grower at a byte string. -/
theorem grow_str (X : List Nat) (g r j b o : Nat) (vb : Value) (l : List Nat) (t : TypeId) (nested : Int) (w : World) (hg : g ∈ X) (hr : r ≤ 16777216) (hbX : b ∉ X) (hb : b < w.heap.size) (hG : Blk w g t (gro r))
    (h0 : w.cell? ⟨b, o, none⟩ = some (.bool false)) (h1 : w.cell? ⟨b, o + 1, none⟩ = some vb) (hl : l.length < 4611686018427387904) (hv : RdA X w vb l) :
    Calls Tryz.prog 69 #[.pointer (some ⟨g, 0, none⟩), .pointer (some ⟨b, o, none⟩), .int .i64 nested] w (GrowPost X g t r j 1 (.str l) w) := by
  obtain ⟨p, c, rfl, h2, h3, h4⟩ := id hv
  by_cases hl1 : l.length = 1
  · obtain ⟨x, rfl⟩ := List.length_eq_one_iff.1 hl1
    obtain ⟨bb, ob, rfl, h5, h6, h7⟩ := h4 (by simp)
    have h8 : w.cell? ⟨bb, ob, none⟩ = some (.int .u8 (x : Int)) := by have := h7 0 (by simp); simpa using this
    by_cases hx : x < 128
    · exact grow_one X g r j b o bb ob c x t nested w hg hr hx hbX hb h5 h6 hG h0 h1 h8
    · exact grow_two X g r j b o bb ob c x t nested w hg hr (by omega) hbX hb hG h0 h1 h8 hv
  · have hs : single l = false := by
      cases l with
      | nil => rfl
      | cons a q =>
        cases q with
        | nil => simp at hl1
        | cons _ _ => rfl
    exact grow_text X g r j b o c p l t nested w hg hr hbX hb hG h0 h1 hl hv hl1 hs
end Go.Proofs.YthchmnhoombecaaGreat
