/- parseList; parse and parseList at any bytes. -/
import Derived.Test.YtdjhjgockgmbkaaGreatDoorM07
set_option linter.unusedVariables false
set_option linter.unusedSimpArgs false
namespace Go.Proofs.YtdjhjgockgmbkaaGreatDoor
open Go.RowKit

/-- What holds behind some rounds. -/
def PLI (X : List Nat) (j : Nat) (l : List Nat) (w : World) (vb vl : Value) (wr : World) (q : List Nat) (ts : List It) : Prop :=
  PRow X w.heap.size (j + 1) wr vl ts ∧ RdA (vl.ownBlock.toList ++ X) wr vb q ∧ Tch [] w wr ∧ q.length + ts.length ≤ l.length ∧ decL (dec j) l.length l = app ts (decL (dec j) (l.length - ts.length) q)
theorem PRow.pcv {X : List Nat} {B k : Nat} {w : World} {v : Value} {ts : List It} (h : PRow X B k w v ts) (hX : ∀ x ∈ X, x < B) : ∃ p c, v = .slice p ts.length c ∧ PcV X w (k + 1) (.iface 167 (.slice p ts.length c)) (.lst ts) := by
  obtain ⟨us, h1, h2⟩ := h
  rcases h1.2 with ⟨rfl, h0⟩ | ⟨g, cap, cur, rfl, hg, hb, hn, _, hcs, htk⟩
  · have : ts = [] := List.length_eq_zero_iff.1 h0
    subst this
    refine ⟨none, 0, rfl, ?_⟩
    unfold PcV
    exact ⟨none, 0, rfl, Nat.le_refl _, fun h => absurd rfl h⟩
  · refine ⟨_, cap, rfl, ?_⟩
    unfold PcV
    refine ⟨_, cap, rfl, hn, fun _ => ⟨g, 0, rfl, (Array.getElem?_eq_some_iff.1 hb).1, fun hm => by have := hX _ hm; omega, fun i hi => ?_⟩⟩
    obtain ⟨u, h3, h4⟩ := h2 i hi
    refine ⟨u, ?_, h4.mono (fun y hy => .inl (List.mem_append_right _ hy))⟩
    have := h1.cells (g := g) rfl i u h3
    have hadd : (⟨g, 0, none⟩ : Addr).add i = ⟨g, i, none⟩ := by unfold Addr.add; split <;> simp_all
    rw [hadd] at this
    rw [Nat.zero_add]; exact this
theorem pli_end {X : List Nat} {j : Nat} {l : List Nat} {w wr : World} {vb vl : Value} {ts : List It} (h : PLI X j l w vb vl wr [] ts) (hX : ∀ x ∈ X, x < w.heap.size) : ListPost X j l w (.returned (.tuple #[vl, .int .i64 0])) wr := by
  obtain ⟨h1, h2, h3, h4, h5⟩ := h
  obtain ⟨p, c, rfl, hp⟩ := h1.pcv hX
  refine ⟨h3, ?_⟩
  rw [h5, decL_nil]
  simp only [app, List.append_nil]
  exact ⟨p, c, rfl, hp⟩
theorem pli_err {X : List Nat} {j c : Nat} {l q : List Nat} {w wr w' : World} {vb vl : Value} {ts : List It} {n : Int} (h : PLI X j l w vb vl wr q ts) (hq : q ≠ []) (hc : dec j q = .error c) (hn : n = (c : Int)) (hT : Tch [] wr w') : ListPost X j l w (.returned (.tuple #[.slice none 0 0, .int .i64 n])) w' := by
  obtain ⟨h1, h2, h3, h4, h5⟩ := h
  have hl := List.length_pos_iff.2 hq
  refine ⟨h3.trans hT, ?_⟩
  obtain ⟨m, hm⟩ : ∃ m, l.length - ts.length = m + 1 := ⟨l.length - ts.length - 1, by omega⟩
  rw [h5, hm, decL_err hq hc, hn]
  exact ⟨_, _, _, rfl⟩
theorem pli_step {X : List Nat} {j : Nat} {l q r : List Nat} {w wr w' : World} {vb vl vb' vl' : Value} {ts : List It} {t : It} (h : PLI X j l w vb vl wr q ts) (hq : q ≠ []) (hc : dec j q = .ok (t, r)) (h1 : PRow X w.heap.size (j + 1) w' vl' (ts ++ [t])) (h2 : RdA (vl'.ownBlock.toList ++ X) w' vb' r) (hT : Tch [] w w') : PLI X j l w vb' vl' w' r (ts ++ [t]) := by
  obtain ⟨_, _, _, h4, h5⟩ := h
  have hl := List.length_pos_iff.2 hq
  obtain ⟨_, _, _, _, hlt⟩ := dec_rest hc
  obtain ⟨m, hm⟩ : ∃ m, l.length - ts.length = m + 1 := ⟨l.length - ts.length - 1, by omega⟩
  refine ⟨h1, h2, hT, by rw [List.length_append, List.length_singleton]; omega, ?_⟩
  rw [h5, hm, decL_ok hq hc, app_app, List.length_append, List.length_singleton, show l.length - (ts.length + 1) = m by omega]
set_option maxHeartbeats 600000 in
set_option maxRecDepth 100000 in
theorem list_of (j : Nat) (ih : ParseOK j) : ListOK j := by
  intro X v l w d hn hX hv hd hd0
  have hcount := count_any v l w hn (hv.mono (Y := []) (by simp))
  have HC := Lib.hid hcount
  have HI := Lib.hid ih
  obtain ⟨i0, hi, hz0, hz1, hz2⟩ := info_parts piece_info
  obtain ⟨p0, n0, c0, rfl⟩ := slice_keep hv
  have HV := Lib.hid hv
  clear hcount ih hv
  go_enter Tryz.func91, Tryz.ntmps91
  go_wp2_with (first
    | (go_at_call 118; refine HC.out.mono ?_; rintro e w1 ⟨hT1, k, hk, rfl⟩)
    | (refine wpList_make_own w1 rfl _ _ 167 rfl w.heap.size 114 i0 .nilIface 1 list_ty hi hz0 hz1 .i64 .i64 _ k rfl rfl rfl (by rw [hz2]; omega) (by unfold maxLen; omega) hT1.size ?_; intro w2 hown hg2))
  have hT2 : Tch [] w1 w2 := ⟨hg2.os, hg2.tape, hg2.output, hg2.size, fun q hq _ => hg2.block q hq (by simp)⟩
  have h0 : PLI X j l w (.slice p0 n0 c0) (.slice (some ⟨w1.heap.size, 0, none⟩) 0 k) w2 l [] := by
    refine ⟨⟨[], hown, fun i hi => absurd hi (by simp)⟩, ?_, hT1.trans hT2, by simp, by simp only [List.length_nil, Nat.sub_zero]; cases decL (dec j) l.length l <;> rfl⟩
    refine (HV.out.mono (Y := (Value.slice (some ⟨w1.heap.size, 0, none⟩) 0 k).ownBlock.toList ++ X) (fun y hy => ?_)).tch ((hT1.trans hT2).mono (by simp))
    rcases List.mem_append.1 hy with hy | hy
    · simp [Value.ownBlock] at hy; subst hy; exact .inr hT1.size
    · exact .inl hy
  have H0 := Lib.hid h0
  clear h0 hown hg2 hT1 hT2
  go_loopw [0, 6] (fun vb vl wr => ∃ q ts u1 u2, u1 = vb ∧ u2 = vl ∧ PLI X j l w u1 u2 wr q ts) (fun vb _ _ => slLen vb)
  case atStart => exact ⟨l, [], _, _, rfl, rfl, H0.out⟩
  case round =>
    obtain ⟨q, ts, vb, vl, rfl, rfl, hI⟩ := hrel
    obtain ⟨hR, hq, hT, hqt, _⟩ := id hI
    have hx1 := hR.choose_spec.1.lt
    have hc := HI.out (vl.ownBlock.toList ++ X) vb q wr d (by omega) (fun y hy => by
      rcases List.mem_append.1 hy with hy | hy
      · exact (hx1 y (by simpa using hy)).2
      · exact Nat.lt_of_lt_of_le (hX y hy) hT.size) hq hd hd0
    obtain ⟨p1, n1, c1, rfl⟩ := slice_keep hq
    have hlq := hq.len
    have HII := Lib.hid hI
    have HR := Lib.hid hR
    clear hI hx1
    by_cases hq0 : q = []
    · subst hq0
      obtain rfl : n1 = 0 := hlq
      clear hc
      go_wp2
      go_ret2
      exact pli_end HII.out hX
    · have hpos := List.length_pos_iff.2 hq0
      have hn1 : 0 < n1 := by omega
      have HQ := Lib.hid hlq
      clear hlq
      cases hdq : dec j q with
      | error c =>
        have hc2 := hc.mono (R' := fun e w' => ∃ v1 v2, e = .returned (.tuple #[v1, v2, .int .i64 (c : Int)]) ∧ Tch [] wr w') (fun e w' h => by
          obtain ⟨h1, h2⟩ := h
          rw [hdq] at h2
          obtain ⟨v1, v2, h3⟩ := h2
          exact ⟨v1, v2, h3, h1⟩)
        have hc0 := dec_error hdq
        have hcn : ((c : Int) != 0) = true := by rw [bne_iff_ne]; omega
        have HCC := Lib.hid hc2
        have HD := Lib.hid hdq
        clear hc hc2 hdq
        go_wp2_with (go_at_call 63; refine HCC.out.mono ?_; rintro e w2 ⟨v1, v2, rfl, hT2⟩)
        go_ret2
        exact pli_err HII.out hq0 HD.out rfl hT2
      | ok tr =>
        obtain ⟨t, r⟩ := tr
        have hc2 := hc.mono (R' := fun e w' => ∃ v1 p2 n2 c2, e = .returned (.tuple #[v1, .slice p2 n2 c2, .int .i64 0]) ∧ Tch [] wr w' ∧ PcV (vl.ownBlock.toList ++ X) w' (j + 1) v1 t ∧ RdA (vl.ownBlock.toList ++ X) w' (.slice p2 n2 c2) r) (fun e w' h => by
          obtain ⟨h1, h2⟩ := h
          rw [hdq] at h2
          obtain ⟨v1, v2, h3, h4, h5⟩ := h2
          obtain ⟨p2, n2, c2, rfl⟩ := slice_keep h5
          exact ⟨v1, p2, n2, c2, h3, h1, h4, h5⟩)
        have hlt : r.length < q.length := by obtain ⟨_, _, _, _, h⟩ := dec_rest hdq; exact h
        have HCC := Lib.hid hc2
        have HD := Lib.hid hdq
        clear hc hc2 hdq
        go_wp2_with (first
          | (go_at_call 63; refine HCC.out.mono ?_; rintro e w2 ⟨v1, p2, n2, c2, rfl, hT2, hpc, hr2⟩; obtain ⟨T1, u1, rfl⟩ := hpc.iface)
          | (at_builtin; refine st_appendP (w := w2) (w0 := w) (X := X) (k := j + 1) (v := vl) (u := .iface T1 u1) (ts := ts) (t := t) (by rfl) _ _ (by rfl) (by rfl) (by rfl) (HR.out.call hT2) hpc (hT.trans hT2) (by omega) ?_; intro v' w3 hR3 hT3 hrd))
        have hr3 := hrd _ _ hr2
        have hl2 := hr2.len
        have HL2 := Lib.hid hl2
        clear hl2
        go_roundw
        case rel => exact ⟨r, ts ++ [t], _, _, rfl, rfl, pli_step HII.out hq0 HD.out hR3 hr3 hT3⟩
        case measure =>
          have h1 := HL2.out
          have h2 := HQ.out
          simp [slLen]; omega
theorem parse_list_any : ∀ j, ParseOK j ∧ ListOK j := by
  intro j
  induction j with
  | zero =>
    have h := parse_of 0 (fun j' h => by omega)
    exact ⟨h, list_of 0 h⟩
  | succ j ih =>
    have h := parse_of (j + 1) (fun j' h => by obtain rfl : j = j' := by omega
                                               exact ih.2)
    exact ⟨h, list_of (j + 1) h⟩
end Go.Proofs.YtdjhjgockgmbkaaGreatDoor

/- bytes.Clone; stores of any one value, and of a whole item among items. -/
namespace Go.Proofs.YtdjhjgockgmbkaaGreatDoor
open Go.RowKit

set_option maxHeartbeats 600000 in
set_option maxRecDepth 100000 in
theorem clone_any (v : Value) (l : List Nat) (w : World) (hn : l.length ≤ 100000000) (hv : RdA [] w v l) : Calls Tryz.prog 92 #[v] w fun e w' => Tch [] w w' ∧ ∃ p n c, e = .returned (.slice p n c) ∧ RdF w w' (.slice p n c) l := by
  obtain ⟨p, c, rfl, hlc, hb, h4⟩ := hv
  have qe := fun (w : World) (a : Option Addr) (n c n' c' : Nat) => Lib.run_eql_slice_nil (P := Tryz.prog) w 26 5 a n c n' c' bytes_ty
  cases p with
  | none =>
    have hl : l = [] := by
      cases l with
      | nil => rfl
      | cons x r => obtain ⟨_, _, h, _⟩ := h4 (by simp); cases h
    subst hl
    clear h4 hb
    simp only [List.length_nil]
    go_enter Tryz.func92, Tryz.ntmps92
    go_wp2
    go_ret
    exact ⟨Tch.refl _ _, _, _, _, rfl, fun X _ => (RdB.nil w).rdA' X⟩
  | some a =>
    obtain ⟨i0, hi, hz0, hz1, hz2⟩ := info_parts A_info
    have hcell : ∀ j u, (nb l)[j]? = some u → w.cell? (a.add j) = some u := fun j u hu => by
      obtain ⟨hj, rfl⟩ := nb_ne hu
      obtain ⟨b, o, h5, h6, _, h7⟩ := h4 (by intro e; subst e; simp at hj)
      cases h5
      have hadd : (⟨b, o, none⟩ : Addr).add j = ⟨b, o + j, none⟩ := by unfold Addr.add; split <;> simp_all
      rw [hadd]; exact h7 j hj
    have HC := Lib.hid hcell
    have HB := Lib.hid hb
    clear hcell h4 hb
    go_enter Tryz.func92, Tryz.ntmps92
    go_wp2_with (at_builtin; refine wpList_append_own _ rfl _ _ 26 rfl w.heap.size 5 i0 (.int .u8 0) 1 1 bytes_ty hi hz0 hz1 hz2 rfl (by decide) _ _ _ rfl (World.ownsRow_made w #[] 0 (Nat.le_refl _) (Nat.zero_le _) rfl) a l.length c (nb l) rfl ?qc1 ?qc2 ?qc3 ?qc4 ?qc5 ?qc6 ?_)
    case qc1 => rw [nb_length, Nat.mul_one]
    case qc2 => exact fun j u hu => Lib.cell?_alloc_some _ (HC.out j u hu)
    case qc3 => intro u hu; obtain ⟨x, _, rfl⟩ := List.mem_map.1 hu; rfl
    case qc4 => unfold maxLen; omega
    case qc5 => omega
    case qc6 => simp
    intro v' w1 hown hgrow hnil
    have hT : Tch [] w w1 := ⟨hgrow.os, hgrow.tape, hgrow.output, by have := hgrow.size; simp at this; omega, fun k hk _ => (hgrow.block k (by simp; omega) (by simp [Value.ownBlock]; omega)).trans (Below.heap_alloc _ _ _ hk)⟩
    have hrd := RdF.own hown HB.out
    obtain ⟨p1, n1, c1, rfl⟩ := slice_keep (hrd [] (by simp))
    have HR := Lib.hid hrd
    clear hown hgrow hnil hrd
    go_wp2
    go_ret
    exact ⟨hT, _, _, _, rfl, HR.out⟩
end Go.Proofs.YtdjhjgockgmbkaaGreatDoor

/- The item of a tree: item; rlp.Read. -/
namespace Go.Proofs.YtdjhjgockgmbkaaGreatDoor
open Go.RowKit

theorem item_size : (Tryz.prog.info? 68).map (·.size) = some 3 := by kernel_rfl
theorem item_zero : (Tryz.prog.info? 68).bind (·.zero) = some (.agg #[.bool false, .slice none 0 0, .slice none 0 0]) := by kernel_rfl
theorem item_infos : (Tryz.prog.info? 68).map (fun i => (i.zero, i.size, i.bytes)) = some (some (.agg #[.bool false, .slice none 0 0, .slice none 0 0]), 3, 56) := by kernel_rfl
theorem slc_size : (Tryz.prog.info? 26).map (·.size) = some 1 := by kernel_rfl
theorem sli_size : (Tryz.prog.info? 66).map (·.size) = some 1 := by kernel_rfl
theorem bool_size : (Tryz.prog.info? 4).map (·.size) = some 1 := by kernel_rfl
section
variable {P : Program} {ops : Array Oper} {rest : List Oper} {o : Oper} {a : Act} {bs : List Nat} {w0 w : World} {Q : Exit → Act → World → Prop} {L L' : List Ent} {b : Nat} {t : TypeId} {c c' : Array Value}
/-- Any value of one cell is stored. -/
theorem st_store1v {v : Value} {j : Nat} (hS : St bs w0 w L) (hgd : o.guard = none) (ty : TypeId) (x y : Operand) (ho : o.op = .store ty x y) (hx : a.eval x = .pointer (some ⟨b, j, none⟩)) (hy : a.eval y = v) (hv : v.oneCell' = true) (hi : (P.info? ty).map (·.size) = some 1)
    (m : Upd L b t c (c.setIfInBounds j v) L') (hj : j < c.size)
    (h : ∀ w', St bs w0 w' L' → wpList P ops Q rest (a.put o.dst undef) w') : wpList P ops Q (o :: rest) a w :=
  arm_store1 hgd ty x y ho hx hy hv hi (hS.get m.at_) hj fun w' hB hO => h w' (hS.upd m hO hB)
end
/-- A row of cells with some of them others. -/
def splice (c : Array Value) (o : Nat) (c' : Array Value) : Array Value := (c.toList.take o ++ c'.toList ++ c.toList.drop (o + c'.size)).toArray
theorem Blk.storeAt {P : Program} {w : World} {b o : Nat} {t ty : TypeId} {c c' : Array Value} (h : Blk w b t c) {n : Nat} (hi : (P.info? ty).map (·.size) = some n) (hn' : c'.size = n) (hl : o + c'.size ≤ c.size) (h1 : c'.all (·.oneCell') = true) :
    (Instr.storeAt ty (.pointer (some ⟨b, o, none⟩)) (.agg c')).run P w = .ok () (w.setRow b (splice c o c')) := by
  have := run_storeCells_at (P := P) b o t c'.toList 0 c w h (by simpa using hl) (fun x hx => (Array.all_eq_true_iff_forall_mem.1 h1) x (by simpa using hx))
  cases hq : P.info? ty with
  | none => simp [hq] at hi
  | some i =>
    have hs : i.size = n := by simpa [hq] using hi
    simp only [Nat.add_zero] at this
    simp [Instr.storeAt, Instr.sureAddr, storeVar, sizeOf, typeInfo, hq, Value.cells, hs, hn', this, splice]
theorem one3 {a b c : Value} (ha : a.oneCell' = true) (hb : b.oneCell' = true) (hc : c.oneCell' = true) : (#[a, b, c] : Array Value).all (·.oneCell') = true := by simp [ha, hb, hc]
/-- An item in memory that the call made. -/
def ItF (w w' : World) (k : Nat) (x0 vb vl : Value) (it : It) : Prop := ∀ X, (∀ x ∈ X, x < w.heap.size) → ItC X w' k x0 vb vl it
end Go.Proofs.YtdjhjgockgmbkaaGreatDoor

/- The item of a list's tree; of any tree. -/
namespace Go.Proofs.YtdjhjgockgmbkaaGreatDoor
open Go.RowKit

theorem St.setc {bs : List Nat} {w0 w : World} {L : List Ent} {b : Nat} {t : TypeId} {c : Array Value} (h : St bs w0 w ((b, t, c) :: L)) (j : Nat) (v : Value) : St bs w0 (w.setCell ⟨b, j, none⟩ v) ((b, t, c.setIfInBounds j v) :: L) :=
  h.upd .head (Only.setCell w ⟨b, j, none⟩ v) ((h.get .head).set j v)
theorem set3_at {c : Array Value} {j : Nat} {a b d : Value} (h : j + 2 < c.size) : (((c.setIfInBounds j a).setIfInBounds (j + 1) b).setIfInBounds (j + 2) d)[j]? = some a ∧ (((c.setIfInBounds j a).setIfInBounds (j + 1) b).setIfInBounds (j + 2) d)[j + 1]? = some b ∧ (((c.setIfInBounds j a).setIfInBounds (j + 1) b).setIfInBounds (j + 2) d)[j + 2]? = some d := by
  refine ⟨?_, ?_, ?_⟩
  · rw [Array.getElem?_setIfInBounds_ne (by omega), Array.getElem?_setIfInBounds_ne (by omega), Array.getElem?_setIfInBounds_self_of_lt (by omega)]
  · rw [Array.getElem?_setIfInBounds_ne (by omega), Array.getElem?_setIfInBounds_self_of_lt (by simp; omega)]
  · rw [Array.getElem?_setIfInBounds_self_of_lt (by simp; omega)]
theorem set3_off {c : Array Value} {j i : Nat} {a b d : Value} (h : i < j ∨ j + 2 < i) : (((c.setIfInBounds j a).setIfInBounds (j + 1) b).setIfInBounds (j + 2) d)[i]? = c[i]? := by
  rw [Array.getElem?_setIfInBounds_ne (by omega), Array.getElem?_setIfInBounds_ne (by omega), Array.getElem?_setIfInBounds_ne (by omega)]
theorem row_blk {w : World} {B g n cap sz : Nat} {e : TypeId} {xs : List Value} (h : w.ownsRow B e sz (.slice (some ⟨g, 0, none⟩) n cap) n xs) : ∃ cur, Blk w g e cur ∧ cur.size = cap * sz := by
  rcases h.2 with ⟨h1, _⟩ | ⟨g', cap', cur, h1, _, hb, _, _, hcs, _⟩
  · cases h1
  · cases h1; exact ⟨cur, hb, hcs⟩
end Go.Proofs.YtdjhjgockgmbkaaGreatDoor
