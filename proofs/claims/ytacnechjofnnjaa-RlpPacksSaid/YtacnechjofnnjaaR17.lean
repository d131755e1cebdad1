/- parseList; parse and parseList at any bytes. -/
import Derived.Test.YtacnechjofnnjaaR16
namespace Go.Proofs.Ytacnechjofnnjaa
open Go.RowKit

/-- What holds behind some rounds. -/
def PLI (X : List Nat) (j : Nat) (l : List Nat) (w : World) (vb vl : Value) (wr : World) (q : List Nat) (ts : List It) : Prop :=
  PRow X w.heap.size (j + 1) wr vl ts ∧ RdA (vl.ownBlock.toList ++ X) wr vb q ∧ Tch [] w wr ∧ q.length + ts.length ≤ l.length ∧ decL (dec j) l.length l = app ts (decL (dec j) (l.length - ts.length) q)
theorem PRow.pcv {X : List Nat} {B k : Nat} {w : World} {v : Value} {ts : List It} (h : PRow X B k w v ts) (hX : ∀ x ∈ X, x < B) : ∃ p c, v = .slice p ts.length c ∧ PcV X w (k + 1) (.iface 61 (.slice p ts.length c)) (.lst ts) := by
  obtain ⟨us, h1, h2⟩ := h
  rcases h1.2 with ⟨rfl, h0⟩ | ⟨g, cap, cur, rfl, hg, hb, hn, _, hcs, htk⟩
  · have : ts = [] := List.length_eq_zero_iff.1 h0
    subst this
    refine ⟨none, 0, rfl, ?_⟩
    unfold PcV
    exact ⟨none, 0, rfl, Nat.le_refl _, fun h => absurd rfl h⟩
  · refine ⟨_, cap, rfl, ?_⟩
    unfold PcV
    refine ⟨_, cap, rfl, hn, fun _ => ⟨g, 0, rfl, (Array.getElem?_eq_some_iff.1 hb).1, fun hm => by have := hX _ hm; omega, fun i hi => ?_⟩⟩
    obtain ⟨u, h3, h4⟩ := h2 i hi
    refine ⟨u, ?_, h4.mono (fun y hy => .inl (List.mem_append_right _ hy))⟩
    have := h1.cells (g := g) rfl i u h3
    have hadd : (⟨g, 0, none⟩ : Addr).add i = ⟨g, i, none⟩ := by unfold Addr.add; split <;> simp_all
    rw [hadd] at this
    rw [Nat.zero_add]; exact this
theorem pli_end {X : List Nat} {j : Nat} {l : List Nat} {w wr : World} {vb vl : Value} {ts : List It} (h : PLI X j l w vb vl wr [] ts) (hX : ∀ x ∈ X, x < w.heap.size) : ListPost X j l w (.returned (.tuple #[vl, .int .i64 0])) wr := by
  obtain ⟨h1, h2, h3, h4, h5⟩ := h
  obtain ⟨p, c, rfl, hp⟩ := h1.pcv hX
  refine ⟨h3, ?_⟩
  rw [h5, decL_nil]
  simp only [app, List.append_nil]
  exact ⟨p, c, rfl, hp⟩
theorem pli_err {X : List Nat} {j c : Nat} {l q : List Nat} {w wr w' : World} {vb vl : Value} {ts : List It} {n : Int} (h : PLI X j l w vb vl wr q ts) (hq : q ≠ []) (hc : dec j q = .error c) (hn : n = (c : Int)) (hT : Tch [] wr w') : ListPost X j l w (.returned (.tuple #[.slice none 0 0, .int .i64 n])) w' := by
  obtain ⟨h1, h2, h3, h4, h5⟩ := h
  have hl := List.length_pos_iff.2 hq
  refine ⟨h3.trans hT, ?_⟩
  obtain ⟨m, hm⟩ : ∃ m, l.length - ts.length = m + 1 := ⟨l.length - ts.length - 1, by omega⟩
  rw [h5, hm, decL_err hq hc, hn]
  exact ⟨_, _, _, rfl⟩
theorem pli_step {X : List Nat} {j : Nat} {l q r : List Nat} {w wr w' : World} {vb vl vb' vl' : Value} {ts : List It} {t : It} (h : PLI X j l w vb vl wr q ts) (hq : q ≠ []) (hc : dec j q = .ok (t, r)) (h1 : PRow X w.heap.size (j + 1) w' vl' (ts ++ [t])) (h2 : RdA (vl'.ownBlock.toList ++ X) w' vb' r) (hT : Tch [] w w') : PLI X j l w vb' vl' w' r (ts ++ [t]) := by
  obtain ⟨_, _, _, h4, h5⟩ := h
  have hl := List.length_pos_iff.2 hq
  obtain ⟨_, _, _, _, hlt⟩ := dec_rest hc
  obtain ⟨m, hm⟩ : ∃ m, l.length - ts.length = m + 1 := ⟨l.length - ts.length - 1, by omega⟩
  refine ⟨h1, h2, hT, by rw [List.length_append, List.length_singleton]; omega, ?_⟩
  rw [h5, hm, decL_ok hq hc, app_app, List.length_append, List.length_singleton, show l.length - (ts.length + 1) = m by omega]
set_option maxHeartbeats 600000 in
set_option maxRecDepth 100000 in
theorem list_of (j : Nat) (ih : ParseOK j) : ListOK j := by
  intro X v l w d hn hX hv hd hd0
  have hcount := count_any v l w hn (hv.mono (Y := []) (by simp))
  have HC := Lib.hid hcount
  have HI := Lib.hid ih
  obtain ⟨i0, hi, hz0, hz1, hz2⟩ := info_parts piece_info
  obtain ⟨p0, n0, c0, rfl⟩ := slice_keep hv
  have HV := Lib.hid hv
  clear hcount ih hv
  go_enter Try.func27, Try.ntmps27
  go_wp2_with (first
    | (go_at_call 32; refine HC.out.mono ?_; rintro e w1 ⟨hT1, k, hk, rfl⟩)
    | (refine wpList_make_own w1 rfl _ _ 61 rfl w.heap.size 42 i0 .nilIface 1 list_ty hi hz0 hz1 .i64 .i64 _ k rfl rfl rfl (by rw [hz2]; omega) (by unfold maxLen; omega) hT1.size ?_; intro w2 hown hg2))
  have hT2 : Tch [] w1 w2 := ⟨hg2.os, hg2.tape, hg2.output, hg2.size, fun q hq _ => hg2.block q hq (by simp)⟩
  have h0 : PLI X j l w (.slice p0 n0 c0) (.slice (some ⟨w1.heap.size, 0, none⟩) 0 k) w2 l [] := by
    refine ⟨⟨[], hown, fun i hi => absurd hi (by simp)⟩, ?_, hT1.trans hT2, by simp, by simp only [List.length_nil, Nat.sub_zero]; cases decL (dec j) l.length l <;> rfl⟩
    refine (HV.out.mono (Y := (Value.slice (some ⟨w1.heap.size, 0, none⟩) 0 k).ownBlock.toList ++ X) (fun y hy => ?_)).tch ((hT1.trans hT2).mono (by simp))
    rcases List.mem_append.1 hy with hy | hy
    · simp [Value.ownBlock] at hy; subst hy; exact .inr hT1.size
    · exact .inl hy
  have H0 := Lib.hid h0
  clear h0 hown hg2 hT1 hT2
  go_loopw [0, 6] (fun vb vl wr => ∃ q ts u1 u2, u1 = vb ∧ u2 = vl ∧ PLI X j l w u1 u2 wr q ts) (fun vb _ _ => slLen vb)
  case atStart => exact ⟨l, [], _, _, rfl, rfl, H0.out⟩
  case round =>
    obtain ⟨q, ts, vb, vl, rfl, rfl, hI⟩ := hrel
    obtain ⟨hR, hq, hT, hqt, _⟩ := id hI
    have hx1 := hR.choose_spec.1.lt
    have hc := HI.out (vl.ownBlock.toList ++ X) vb q wr d (by omega) (fun y hy => by
      rcases List.mem_append.1 hy with hy | hy
      · exact (hx1 y (by simpa using hy)).2
      · exact Nat.lt_of_lt_of_le (hX y hy) hT.size) hq hd hd0
    obtain ⟨p1, n1, c1, rfl⟩ := slice_keep hq
    have hlq := hq.len
    have HII := Lib.hid hI
    have HR := Lib.hid hR
    clear hI hx1
    by_cases hq0 : q = []
    · subst hq0
      obtain rfl : n1 = 0 := hlq
      clear hc
      go_wp2
      go_ret2
      exact pli_end HII.out hX
    · have hpos := List.length_pos_iff.2 hq0
      have hn1 : 0 < n1 := by omega
      have HQ := Lib.hid hlq
      clear hlq
      cases hdq : dec j q with
      | error c =>
        have hc2 := hc.mono (R' := fun e w' => ∃ v1 v2, e = .returned (.tuple #[v1, v2, .int .i64 (c : Int)]) ∧ Tch [] wr w') (fun e w' h => by
          obtain ⟨h1, h2⟩ := h
          rw [hdq] at h2
          obtain ⟨v1, v2, h3⟩ := h2
          exact ⟨v1, v2, h3, h1⟩)
        have hc0 := dec_error hdq
        have hcn : ((c : Int) != 0) = true := by rw [bne_iff_ne]; omega
        have HCC := Lib.hid hc2
        have HD := Lib.hid hdq
        clear hc hc2 hdq
        go_wp2_with (go_at_call 17; refine HCC.out.mono ?_; rintro e w2 ⟨v1, v2, rfl, hT2⟩)
        go_ret2
        exact pli_err HII.out hq0 HD.out rfl hT2
      | ok tr =>
        obtain ⟨t, r⟩ := tr
        have hc2 := hc.mono (R' := fun e w' => ∃ v1 p2 n2 c2, e = .returned (.tuple #[v1, .slice p2 n2 c2, .int .i64 0]) ∧ Tch [] wr w' ∧ PcV (vl.ownBlock.toList ++ X) w' (j + 1) v1 t ∧ RdA (vl.ownBlock.toList ++ X) w' (.slice p2 n2 c2) r) (fun e w' h => by
          obtain ⟨h1, h2⟩ := h
          rw [hdq] at h2
          obtain ⟨v1, v2, h3, h4, h5⟩ := h2
          obtain ⟨p2, n2, c2, rfl⟩ := slice_keep h5
          exact ⟨v1, p2, n2, c2, h3, h1, h4, h5⟩)
        have hlt : r.length < q.length := by obtain ⟨_, _, _, _, h⟩ := dec_rest hdq; exact h
        have HCC := Lib.hid hc2
        have HD := Lib.hid hdq
        clear hc hc2 hdq
        go_wp2_with (first
          | (go_at_call 17; refine HCC.out.mono ?_; rintro e w2 ⟨v1, p2, n2, c2, rfl, hT2, hpc, hr2⟩; obtain ⟨T1, u1, rfl⟩ := hpc.iface)
          | (at_builtin; refine st_appendP (w := w2) (w0 := w) (X := X) (k := j + 1) (v := vl) (u := .iface T1 u1) (ts := ts) (t := t) (by rfl) _ _ (by rfl) (by rfl) (by rfl) (HR.out.call hT2) hpc (hT.trans hT2) (by omega) ?_; intro v' w3 hR3 hT3 hrd))
        have hr3 := hrd _ _ hr2
        have hl2 := hr2.len
        have HL2 := Lib.hid hl2
        clear hl2
        go_roundw
        case rel => exact ⟨r, ts ++ [t], _, _, rfl, rfl, pli_step HII.out hq0 HD.out hR3 hr3 hT3⟩
        case measure =>
          have h1 := HL2.out
          have h2 := HQ.out
          simp [slLen]; omega
theorem parse_list_any : ∀ j, ParseOK j ∧ ListOK j := by
  intro j
  induction j with
  | zero =>
    have h := parse_of 0 (fun j' h => by omega)
    exact ⟨h, list_of 0 h⟩
  | succ j ih =>
    have h := parse_of (j + 1) (fun j' h => by obtain rfl : j = j' := by omega
                                               exact ih.2)
    exact ⟨h, list_of (j + 1) h⟩
end Go.Proofs.Ytacnechjofnnjaa
