/- asm.Print. -/
import Derived.Test.YtjbjjiibldlipaaJ3
namespace Go.Proofs.Ytjbjjiibldlipaa
open Go.RowKit

theorem cells_strB (l : List Nat) : Lib.strCells (strB l) = Lib.byteCells (l.map UInt8.ofNat) := by
  unfold Lib.strCells Lib.byteCells
  rw [strB_data]
theorem cells_app (l m : List UInt8) : Lib.byteCells (l ++ m) = Lib.byteCells l ++ Lib.byteCells m := by simp [Lib.byteCells]
theorem cells_more (T l : List Nat) : Lib.byteCells (T.map UInt8.ofNat) ++ Lib.strCells (strB l) = Lib.byteCells ((T ++ l).map UInt8.ofNat) := by
  rw [cells_strB, List.map_append, cells_app]
theorem cells_end (T : List Nat) : Lib.byteCells (T.map UInt8.ofNat) ++ [.int .u8 10] = Lib.byteCells ((T ++ [10]).map UInt8.ofNat) := by
  rw [List.map_append, cells_app]; rfl
def lenV : Value → Nat
  | .slice _ n _ => n
  | _ => 0
theorem lenV_rd {w : World} {v : Value} {l : List Nat} (h : RdB w v l) : lenV v = l.length := by
  obtain ⟨p, c, rfl, _⟩ := h; rfl
theorem RdB.from_ {w : World} {p q : Option Addr} {n c k c' : Nat} {l : List Nat} (h : RdB w (.slice p n c) l) (hs : ∀ X w l, RdA X w (.slice p n c) l → RdA X w (.slice q (n - k) c') (l.drop k)) : RdB w (.slice q (n - k) c') (l.drop k) :=
  (hs [] w l (h.rdA (by simp))).rdB
theorem own_tch {w w' : World} {B n sz : Nat} {e : TypeId} {v : Value} {l : List Value} (h : w.ownsRow B e sz v n l) (hT : Tch [] w w') : w'.ownsRow B e sz v n l := by
  refine ⟨h.1, ?_⟩
  rcases h.2 with hn | ⟨g, cap, cur, rfl, hb, hgg, rest⟩
  · exact .inl hn
  · exact .inr ⟨g, cap, cur, rfl, hb, by rw [hT.block g (Array.getElem?_eq_some_iff.1 hgg).1 (by simp)]; exact hgg, rest⟩
theorem bldAt_tch {B b : Nat} {p : Value} {bs : List Value} {w w' : World} (h : Lib.BuilderAt 39 5 B b p bs w) (hT : Tch [] w w') : Lib.BuilderAt 39 5 B b p bs w' := by
  obtain ⟨hB, v, hb, hown, hne⟩ := h
  exact ⟨hB, v, by rw [hT.block b (Array.getElem?_eq_some_iff.1 hb).1 (by simp)]; exact hb, own_tch hown hT, hne⟩
theorem bldI_tch {B b : Nat} {bs : List Value} {w w' : World} (h : BldI B b bs w) (hT : Tch [] w w') : BldI B b bs w' := h.elim (fun h => .inl (bldAt_tch h hT)) (fun h => .inr (bldAt_tch h hT))
theorem below_tch {w w1 w2 : World} (h : Below w.heap.size w w1) (hT : Tch [] w1 w2) : Below w.heap.size w w2 := ((Tch.of_below h).trans hT).below
def PrintPost (L : List Nat) (w : World) (e : Ending) (w' : World) : Prop := e = .returned (.string (strB (prt L))) ∧ Tch [] w w'
set_option maxHeartbeats 2000000 in
set_option maxRecDepth 100000 in
theorem print_any (v : Value) (L : List Nat) (w : World) (hv : RdB w v L) (hm : L.length ≤ 1000000) :
    Calls Try.prog 8 #[v] w (PrintPost L w) := by
  have hL : ∀ x ∈ L, x < 256 := hv.choose_spec.choose_spec.2.2.1
  have HLEN := Lib.hid (prt_len L hL)
  have HL := Lib.hid hL
  clear hL
  have hz : (zeroValue 39).run Try.prog w = .ok (.agg #[.pointer none, .slice none 0 0]) w := by kernel_rfl
  have hB0 : BldI w.heap.size w.heap.size (Lib.byteCells (([] : List Nat).map UInt8.ofNat)) (w.alloc (.cells #[.pointer none, .slice none 0 0] 39)) := Lib.fresh_isBuilder _ _ w
  have hb0 : Below w.heap.size w (w.alloc (.cells #[.pointer none, .slice none 0 0] 39)) := (Below.refl _ _).alloc (Nat.le_refl _) _
  go_enter Try.func8, Try.ntmps8
  go_wp2
  go_loopw [0] (fun u wr => ∃ T M : List Nat, Hid (T ++ prt M = prt L ∧ M.length ≤ L.length) ∧ RdB w u M ∧ BldI w.heap.size w.heap.size (Lib.byteCells (T.map UInt8.ofNat)) wr ∧ Below w.heap.size w wr) (fun u _ => lenV u)
  case atStart => exact ⟨[], L, Lib.hid ⟨rfl, Nat.le_refl _⟩, hv, hB0, hb0⟩
  case round =>
    clear hB0 hb0 hz
    obtain ⟨T, M, HT, hM, hB, hb⟩ := hrel
    cases M with
    | nil =>
      have he : T = prt L := by have := HT.out.1; rwa [prt_nil, List.append_nil] at this
      subst he
      obtain ⟨p, c, rfl, _⟩ := hM
      have hstr := Try.Builder_String_any w.heap.size w.heap.size ((prt L).map UInt8.ofNat) wr hB hb.size
      go_wp2_with (go_at_call 16; refine hstr.mono ?_; rintro e w1 ⟨rfl, hb1⟩)
      go_ret
      exact ⟨rfl, Tch.of_below (hb.trans hb1)⟩
    | cons x r =>
      have hlen : T.length + (lineN (x :: r)).1.length + 1 ≤ 15000000 := by
        have h1 := congrArg List.length HT.out.1
        rw [prt_cons, List.length_append, List.length_append, List.length_cons] at h1
        have h2 := HLEN.out
        omega
      have hT9 : ((T ++ (lineN (x :: r)).1 ++ [10]) ++ prt ((x :: r).drop (lineN (x :: r)).2) = prt L) := by
        rw [← HT.out.1, prt_cons]; simp [List.append_assoc]
      have hrl : r.length ≤ 1000000 := by have := HT.out.2; rw [List.length_cons] at this; omega
      have hdl : ((x :: r).drop (lineN (x :: r)).2).length ≤ L.length := by have := HT.out.2; rw [List.length_drop]; omega
      have hle := lineN_le x r
      have hpos := lineN_pos (x :: r)
      have hlv := lenV_rd hM
      have HM := Lib.hid hM
      have HR := Lib.hid (hM.tch (Tch.of_below hb) (by simp))
      obtain ⟨b0, o, c, rfl, hc, hbw, _⟩ := hM.head
      obtain ⟨q, c', hsl, hc', hrd⟩ := slice_from (some ⟨b0, o, none⟩) (r.length + 1) c (lineN (x :: r)).2 hle hc
      have HSL := Lib.hid hsl
      have HRD := Lib.hid (RdB.from_ HM.out hrd)
      have HFI := Lib.hid (first_any _ x r wr HR.out hrl)
      have HT9 := Lib.hid (And.intro hT9 hdl)
      clear hM hsl hrd hlv hT9 hdl
      generalize hz1 : (lineN (x :: r)).1 = l1 at *
      generalize hz2 : (lineN (x :: r)).2 = n1 at *
      have HFI2 := HFI.out
      unfold FirstPost at HFI2
      rw [hz1, hz2] at HFI2
      have HF := Lib.hid HFI2
      clear HFI2 HFI hz1 hz2
      have hl1 := strB_size l1
      have hsz : (Lib.byteCells (T.map UInt8.ofNat)).length = T.length := by rw [byteCells_length, List.length_map]
      go_wp2_with (first
        | (go_at_call 13; refine HF.out.mono ?_; rintro e w1 ⟨rfl, hT1⟩; have hb1 := below_tch hb hT1)
        | (go_at_call 14; refine (writeString_I _ _ _ _ _ (bldI_tch hB hT1) (by omega) hb1.size).mono ?_; rintro e w2 ⟨rfl, hB2, hb2⟩; replace hb2 := hb1.trans hb2; rw [cells_more] at hB2)
        | (go_at_call 15; refine (writeByte_any _ _ _ _ _ hB2 (by rw [byteCells_length, List.length_map, List.length_append]; omega) hb2.size).mono ?_; rintro e w3 ⟨rfl, hB3, hb3⟩; replace hb3 := hb2.trans hb3; rw [cells_end] at hB3)
        | (refine st_slO (vl := some (.int .i64 ((n1 : Nat) : Int))) (vh := none) rfl rfl rfl rfl rfl HSL.out ?_))
      go_roundw
      case rel => exact ⟨T ++ l1 ++ [10], (x :: r).drop n1, HT9, HRD.out, .inr hB3, hb3⟩
      case measure => simp [lenV]; omega
end Go.Proofs.Ytjbjjiibldlipaa
