/- put, of a list; put of any tree. -/
import Derived.Test.YtanmpcgackfpaaaGreatM01
import Derived.Test.YtanmpcgackfpaaaGreatM10
import Derived.BigQuiet
set_option linter.unusedVariables false
set_option linter.unusedSimpArgs false
namespace Go.Proofs.YtanmpcgackfpaaaGreat
section
open Go.RowKit Go.Shelf
attribute [local go_sem] Oper.semAt_some
def sufs (l : List It) (k : Nat) : List Nat := encs (l.drop (l.length - k))
theorem sufs_zero (l : List It) : sufs l 0 = [] := by unfold sufs; rw [Nat.sub_zero, List.drop_length]; simp [encs]
theorem sufs_all (l : List It) : sufs l l.length = encs l := by unfold sufs; rw [Nat.sub_self, List.drop_zero]
theorem sufs_succ (l : List It) (k : Nat) (h : l.length - 1 - k < l.length) (hk : k < l.length) : sufs l (k + 1) = enc (l[l.length - 1 - k]'h) ++ sufs l k := by
  unfold sufs
  rw [show l.length - (k + 1) = l.length - 1 - k by omega, List.drop_eq_getElem_cons h, encs, show l.length - 1 - k + 1 = l.length - k by omega]
theorem sufs_le (l : List It) (k : Nat) : (sufs l k).length ≤ (encs l).length := by
  unfold sufs
  have := congrArg List.length (congrArg encs (List.take_append_drop (l.length - k) l))
  rw [qj6, List.length_append] at this
  omega
def PutOK (k : Nat) : Prop := ∀ (b n n0 : Nat) (v : Value) (it : It) (t : TypeId) (f : Nat → Nat) (w : World), PcV [b] w k v it → Blk w b t (bc n0 f) → (enc it).length ≤ n → n ≤ n0 → n0 ≤ 100000000 →
  Calls Tryz.prog 112 #[.slice (some ⟨b, 0, none⟩) n n0, v] w (PutPost b n n0 t f w (enc it))
def PutI (b n n0 : Nat) (t : TypeId) (f : Nat → Nat) (l : List It) (w : World) (k : Nat) (W : World) : Prop :=
  k ≤ l.length ∧ ∃ L, Hid (L + (sufs l k).length = n) ∧ Tch [b] w W ∧ Blk W b t (bc n0 (wr f L (sufs l k))) ∧ Blk W w.heap.size 23 #[.slice (some ⟨b, 0, none⟩) L n0]
theorem PutI.below {b n n0 : Nat} {t : TypeId} {f : Nat → Nat} {l : List It} {w : World} {k B : Nat} {W W' : World} (h : PutI b n n0 t f l w k W) (hB : Below B W W') (hb : b < B) (hw : w.heap.size < B) : PutI b n n0 t f l w k W' := by
  obtain ⟨h0, L, h1, h2, h3, h4⟩ := h
  exact ⟨h0, L, h1, ⟨hB.os.trans h2.os, hB.tape.trans h2.tape, hB.output.trans h2.output, Nat.le_trans h2.size hB.size, fun i hi hx => (hB.block i (by omega)).trans (h2.block i hi hx)⟩, h3.below hB hb, h4.below hB hw⟩
set_option maxHeartbeats 2000000 in
set_option maxRecDepth 100000 in
theorem put_list (k : Nat) (ih : PutOK k) (b n n0 c bl off : Nat) (p : Option Addr) (l : List It) (vs : Nat → Value) (t : TypeId) (f : Nat → Nat) (w : World) (hp : 0 < l.length → p = some ⟨bl, off, none⟩) (hbl : 0 < l.length → bl < w.heap.size ∧ bl ≠ b)
    (hcell : ∀ j (h : j < l.length), w.cell? ⟨bl, off + j, none⟩ = some (vs j) ∧ PcV [b] w k (vs j) l[j]) (hB : Blk w b t (bc n0 f)) (hn : (enc (.lst l)).length ≤ n) (hn0 : n ≤ n0) (hm : n0 ≤ 100000000) :
    Calls Tryz.prog 112 #[.slice (some ⟨b, 0, none⟩) n n0, .iface 219 (.slice p l.length c)] w (PutPost b n n0 t f w (enc (.lst l))) := by
  have hb := hB.lt
  have k1 := taLS
  have k2 := taLT
  have k3 := taLL
  refine (callsIn_wide (n := 3)).1 ?_
  refine callsIn_of_wp_marks Tryz.func112 rfl trivial ?_ rfl
  simp only [Tryz.ntmps112, List.size_toArray, List.length_cons, List.length_nil, Nat.reduceAdd, Nat.reduceSub, Array.replicate_succ, Array.replicate_zero, List.push_toArray, List.append_toArray, List.nil_append, List.cons_append]
  gi_wp2_with (refine ⟨trivial, ?_⟩; gi_at_call 134; refine (callsIn_wide.2 (backward_any _ _ _ _)).mono ?_; rintro e w' ⟨rfl, rfl⟩)
  have hS0 : Tch [b] w ((w.alloc (.cells #[.slice (some ⟨b, 0, none⟩) n n0] 23)).alloc (.cells #[.slice p l.length c] 219)) := ((Tch.refl _ _).alloc _).alloc _
  have hF0 := (Blk.new w 23 #[.slice (some ⟨b, 0, none⟩) n n0]).alloc (.cells #[.slice p l.length c] 219)
  have hBs := Blk.new (w.alloc (.cells #[.slice (some ⟨b, 0, none⟩) n n0] 23)) 219 #[.slice p l.length c]
  have hB0 : Blk ((w.alloc (.cells #[.slice (some ⟨b, 0, none⟩) n n0] 23)).alloc (.cells #[.slice p l.length c] 219)) b t (bc n0 f) := (hB.alloc _).alloc _
  have hz : ((w.alloc (.cells #[.slice (some ⟨b, 0, none⟩) n n0] 23)).alloc (.cells #[.slice p l.length c] 219)).heap.size = w.heap.size + 2 := by simp
  rw [World.size_alloc] at hBs
  obtain ⟨wB, hwB⟩ : ∃ wB, (w.alloc (.cells #[.slice (some ⟨b, 0, none⟩) n n0] 23)).alloc (.cells #[.slice p l.length c] 219) = wB := ⟨_, rfl⟩
  rw [hwB] at hS0 hF0 hBs hB0 hz ⊢
  have hI0 : PutI b n n0 t f l w 0 wB := ⟨Nat.zero_le _, n, hQz (by rw [sufs_zero]; rfl), hS0, by rw [sufs_zero, wr_nil]; exact hB0, hF0⟩
  have hlen : l.length ≤ 100000000 := by
    have := encs_len l
    rw [qi5, List.length_append] at hn
    omega
  refine range_count (gf := 141) (lb := #[.pointer (some ⟨w.heap.size + 1, 0, none⟩)]) [b, w.heap.size] rfl (enters_of Tryz.func141 (by kernel_rfl) rfl) l.length (enBack vs l.length) (fun _ => rfl)
    (fun l' J W hW hY h0 => bwd1_in _ (by omega) l' (w.heap.size + 1) wB.heap.size bl off l.length c [b, w.heap.size] p vs hlen hp (fun h => ⟨by have := (hbl h).1; omega, by have := (hbl h).1; have := (hbl h).2; simp; omega⟩) ⟨by omega, by simp; omega⟩ J hY W ((hW.cell (p := ⟨w.heap.size + 1, 0, none⟩) (by simp; omega)).trans (hBs.cell rfl)) (fun j hj => (hW.cell (p := ⟨bl, off + j, none⟩) (by have := (hbl (by omega)).1; simp; omega)).trans ((hS0.cell (p := ⟨bl, off + j, none⟩) (hbl (by omega)).1 (by simpa using (hbl (by omega)).2)).trans (hcell j hj).1)) h0)
    (PutI b n n0 t f l w) (fun k W W' h hB => h.below hB (by omega) (by omega)) hI0 (fun k => { tmps := #[.slice (some ⟨b, 0, none⟩) n n0, .iface 219 (.slice p l.length c), undef, undef, .slice none 0 0, .pointer (some ⟨w.heap.size, 0, none⟩), undef, undef, .slice p l.length c, undef, vs (l.length - 1 - k), .slice (some ⟨b, 0, none⟩) n n0, .iface 219 (.slice p l.length c), .tuple #[.int .u8 0, .bool false], .bool false, .int .u8 0, undef, undef, undef, .tuple #[.slice none 0 0, .bool false], .bool false, .slice none 0 0, undef, undef, undef, undef, undef, undef, undef, undef, undef, undef, undef, undef, undef, undef, undef, undef, undef, .tuple #[.slice p l.length c, .bool true], .bool true, .slice p l.length c, .slice p l.length c, .func (.func 141) #[] #[.pointer (some ⟨w.heap.size + 1, 0, none⟩)], .int .i64 ((l.length - 1 - k : Nat) : Int), vs (l.length - 1 - k), undef, undef, undef, undef, undef, undef, undef, undef, undef, undef, undef], defers := [] }) ?assign ?body ?done
  case assign =>
    intro l' k W K hK
    gi_wp2
    exact hK
  case body =>
    rintro l' j W hj ⟨_, L, hL, hT, hBW, hFW⟩ hsz
    obtain ⟨i, hii, hi⟩ : ∃ i, i = l.length - 1 - j ∧ i < l.length := ⟨_, rfl, by omega⟩
    have hsuf : sufs l (j + 1) = enc (l[i]'hi) ++ sufs l j := by subst hii; exact sufs_succ l j hi hj
    dsimp only
    rw [← hii]
    have hle := sufs_le l (j + 1)
    have hfit : (enc (l[i]'hi)).length ≤ L := by
      rw [hsuf, List.length_append] at hle
      rw [qi5, List.length_append] at hn
      have := hL.out
      omega
    have hcall := ih b L n0 (vs i) (l[i]'hi) t (wr f L (sufs l j)) W ((hcell i hi).2.tch hT) hBW hfit (by have := hL.out; omega) hm
    have hc := hFW.cell (j := 0) rfl
    have hf := hFW.free 0
    have HH := hQz (And.intro hsuf (And.intro hfit (And.intro hL.out (And.intro hcell hii))))
    clear hsuf hfit hcell hle hii
    gi_wp2_with (refine ⟨trivial, ?_⟩; gi_at_call 112; refine (CallsIn.inRound l' (callsIn_wide.2 hcall)).mono ?_; rintro e w4 hpp; obtain rfl := hpp.1; have hFW4 := hpp.2.1.blk hFW (by simp; omega); replace hc := hFW4.cell (j := 0) rfl; replace hf := hFW4.free 0)
    have hO : Only w.heap.size w4 (w4.setCell ⟨w.heap.size, 0, none⟩ (.slice (some ⟨b, 0, none⟩) (L - (enc (l[i]'hi)).length) n0)) := Only.setCell _ ⟨w.heap.size, 0, none⟩ _
    have hT2 : Tch [b, w.heap.size] W (w4.setCell ⟨w.heap.size, 0, none⟩ (.slice (some ⟨b, 0, none⟩) (L - (enc (l[i]'hi)).length) n0)) := (hpp.2.1.mono (by simp)).only hO (.inr (by simp))
    refine ⟨blk_others hT2 (fun x hx => ?_), ⟨hT2.size, fun q hq hx => hT2.block q (by omega) hx⟩, by omega, L - (enc (l[i]'hi)).length, hQz ?_, ?_, ?_, ?_⟩
    · simp at hx
      rcases hx with rfl | rfl
      · exact ⟨_, _, hBW⟩
      · exact ⟨_, _, hFW⟩
    · rw [HH.out.1, List.length_append]; have := HH.out.2.1; have := HH.out.2.2.1; omega
    · exact (hT.trans hpp.2.1).only hO (.inl (Nat.le_refl _))
    · have h4 := hpp.2.2
      have h5 := wr_wr f (L - (enc (l[i]'hi)).length) (enc (l[i]'hi)) (sufs l j)
      rw [Nat.sub_add_cancel HH.out.2.1] at h5
      rw [h5, ← HH.out.1] at h4
      exact h4.far (p := ⟨w.heap.size, 0, none⟩) (by simp; omega) _
    · exact hFW4.set 0 _
  case done =>
    rintro D W hD ⟨_, L, hL, hT, hBW, hFW⟩ hK
    rw [sufs_all] at hL hBW
    have hne : D ≠ w.heap.size ∧ D ≠ b := by omega
    have hl := qi5 l
    have hll := congrArg List.length hl
    rw [List.length_append, qe6] at hll
    have hh : hsz (encs l).length ≤ L := by have := hL.out; omega
    have hcall := putHead_any b L n0 192 (encs l).length t _ W hh (by have := hL.out; omega) hm (by have := hL.out; omega) (by omega) hBW
    have hc := hFW.cell (j := 0) rfl
    have hf := hFW.free 0
    have hLn : (n : Int) - (L : Int) = ((encs l).length : Int) := by have := hL.out; omega
    have HH := hQz (And.intro hL.out (And.intro hl hh))
    clear hl hll hh
    generalize hM : encs l = M at *
    gi_wp2_with (refine ⟨trivial, ?_⟩; gi_at_call 133; refine (callsIn_wide.2 hcall).mono ?_; rintro e w4 hpp; obtain rfl := hpp.1; have hFW4 := hpp.2.1.blk hFW (by simp; omega); replace hc := hFW4.cell (j := 0) rfl; replace hf := hFW4.free 0)
    have hDW : D < W.heap.size := (Array.getElem?_eq_some_iff.1 hK).1
    have hO : Only w.heap.size w4 (w4.setCell ⟨w.heap.size, 0, none⟩ (.slice (some ⟨b, 0, none⟩) (L - (hd 192 M.length).length) n0)) := Only.setCell _ ⟨w.heap.size, 0, none⟩ _
    have hK4 : (w4.setCell ⟨w.heap.size, 0, none⟩ (.slice (some ⟨b, 0, none⟩) (L - (hd 192 M.length).length) n0)).heap[D]? = some (.deferred (some [])) :=
      (hO.block D hne.1).trans ((hpp.2.1.block D hDW (by simpa using hne.2)).trans hK)
    have hfin : PutPost b n n0 t f w (enc (.lst l)) (.returned (.slice (some ⟨b, 0, none⟩) (L - (hd 192 M.length).length) n0)) ((w4.setCell ⟨w.heap.size, 0, none⟩ (.slice (some ⟨b, 0, none⟩) (L - (hd 192 M.length).length) n0)).putObj D (.deferred none)) := by
      have e1 : n - (enc (.lst l)).length = L - (hd 192 M.length).length := by rw [HH.out.2.1, List.length_append]; have := HH.out.1; omega
      have hBel := belowK_b (n₀ := wB.heap.size) (w := wB) (Nat.le_refl _) _ D _ (.deferred none) hD hK4 rfl rfl
      have hT5 := (hT.trans hpp.2.1).only hO (.inl (Nat.le_refl _))
      refine ⟨by rw [e1], ⟨hBel.os.trans hT5.os, hBel.tape.trans hT5.tape, hBel.output.trans hT5.output, Nat.le_trans hT5.size hBel.size, fun q hq hx => (hBel.block q (by omega)).trans (hT5.block q hq hx)⟩, ?_⟩
      rw [e1, HH.out.2.1]
      have h4 := hpp.2.2
      have h5 := wr_wr f (L - (hd 192 M.length).length) (hd 192 M.length) M
      rw [Nat.sub_add_cancel (by rw [qe6]; exact HH.out.2.2)] at h5
      rw [h5] at h4
      exact (h4.far (p := ⟨w.heap.size, 0, none⟩) (by simp; omega) _).below hBel (by omega)
    refine ⟨by simp, .inl ⟨_, _, rfl, run_takeDeferred hK4, ?_⟩⟩
    refine ⟨_, results_tmp (show Tryz.f112.results = #[.tmp 4] from rfl) _ _ _, ?_⟩
    exact hfin
theorem put_any : ∀ k, PutOK k
  | 0 => fun b n n0 v it t f w h => h.elim
  | k + 1 => fun b n n0 v it t f w h hB hn hn0 hm => by
    cases it with
    | str l =>
      unfold PcV at h
      rw [qf4] at hn ⊢
      by_cases hs : single l = true
      · rw [if_pos hs] at h
        subst h
        obtain ⟨h1, h2⟩ := single_one hs
        have e : encS l = [l.getD 0 0] := by unfold encS; rw [if_pos hs]; exact h1
        rw [e] at hn ⊢
        exact put_single b n n0 _ t f w (by simp at hn; omega) hn0 hm h2 hB
      · rw [if_neg hs] at h
        obtain ⟨s, rfl, hv⟩ := h
        have e : encS l = hd 128 l.length ++ l := by unfold encS; rw [if_neg hs]
        rw [e] at hn ⊢
        rw [List.length_append, qe6] at hn
        exact put_text b n n0 s l t f w hn hn0 hm hv hB
    | lst l =>
      unfold PcV at h
      obtain ⟨p, c, rfl, hc, h⟩ := h
      by_cases hl : l = []
      · subst hl
        exact put_list k (put_any k) b n n0 c 0 0 p [] (fun _ => undef) t f w (fun h => absurd h (by simp)) (fun h => absurd h (by simp)) (fun j h => absurd h (by simp)) hB hn hn0 hm
      · obtain ⟨bl, off, rfl, h1, h2, h3⟩ := h hl
        refine put_list k (put_any k) b n n0 c bl off _ l (fun j => (w.cell? ⟨bl, off + j, none⟩).getD undef) t f w (fun _ => rfl) (fun _ => ⟨h1, by simpa using h2⟩) (fun j hj => ?_) hB hn hn0 hm
        obtain ⟨u, h4, h5⟩ := h3 j hj
        exact ⟨by rw [h4]; rfl, by rw [h4]; exact h5⟩
end
section
open Go.RowKit
def ItC (X : List Nat) (w : World) : Nat → Value → Value → Value → It → Prop
  | 0, _, _, _, _ => False
  | _ + 1, x0, vb, _, .str l => x0 = .bool false ∧ RdA X w vb l ∧ l.length < 4611686018427387904
  | k + 1, x0, _, vl, .lst l => x0 = .bool true ∧ ∃ p c, vl = .slice p l.length c ∧ (l.length ≤ c ∧ l.length < 4611686018427387904) ∧ (l ≠ [] → ∃ b o, p = some ⟨b, o, none⟩ ∧ b < w.heap.size ∧ b ∉ X ∧ ∀ i (h : i < l.length), ∃ y0 yb yl, w.cell? ⟨b, o + i * 3, none⟩ = some y0 ∧ w.cell? ⟨b, o + i * 3 + 1, none⟩ = some yb ∧ w.cell? ⟨b, o + i * 3 + 2, none⟩ = some yl ∧ ItC X w k y0 yb yl l[i])
theorem ItC.tch {X : List Nat} {w w' : World} (hT : Tch X w w') : ∀ {k : Nat} {x y z : Value} {t : It}, ItC X w k x y z t → ItC X w' k x y z t
  | 0, _, _, _, _, h => h.elim
  | _ + 1, _, _, _, .str l, h => by unfold ItC at h ⊢; exact ⟨h.1, h.2.1.tch hT, h.2.2⟩
  | k + 1, _, _, _, .lst l, h => by
    unfold ItC at h ⊢
    obtain ⟨h0, p, c, h1, h2, h3⟩ := h
    refine ⟨h0, p, c, h1, h2, fun hl => ?_⟩
    obtain ⟨b, o, h4, h5, h6, h7⟩ := h3 hl
    refine ⟨b, o, h4, Nat.lt_of_lt_of_le h5 hT.size, h6, fun i hi => ?_⟩
    obtain ⟨y0, yb, yl, h8, h9, h10, h11⟩ := h7 i hi
    exact ⟨y0, yb, yl, by rw [hT.cell (p := ⟨b, o + i * 3, none⟩) h5 h6]; exact h8, by rw [hT.cell (p := ⟨b, o + i * 3 + 1, none⟩) h5 h6]; exact h9, by rw [hT.cell (p := ⟨b, o + i * 3 + 2, none⟩) h5 h6]; exact h10, ItC.tch hT h11⟩
theorem ItC.mono {X Y : List Nat} {w : World} (hX : ∀ y ∈ Y, y ∈ X ∨ w.heap.size ≤ y) : ∀ {k : Nat} {x y z : Value} {t : It}, ItC X w k x y z t → ItC Y w k x y z t
  | 0, _, _, _, _, h => h.elim
  | _ + 1, _, _, _, .str l, h => by unfold ItC at h ⊢; exact ⟨h.1, h.2.1.mono hX, h.2.2⟩
  | k + 1, _, _, _, .lst l, h => by
    unfold ItC at h ⊢
    obtain ⟨h0, p, c, h1, h2, h3⟩ := h
    refine ⟨h0, p, c, h1, h2, fun hl => ?_⟩
    obtain ⟨b, o, h4, h5, h6, h7⟩ := h3 hl
    refine ⟨b, o, h4, h5, fun hm => (hX _ hm).elim h6 (fun h => by omega), fun i hi => ?_⟩
    obtain ⟨y0, yb, yl, h8, h9, h10, h11⟩ := h7 i hi
    exact ⟨y0, yb, yl, h8, h9, h10, ItC.mono hX h11⟩
theorem ItC.up {X : List Nat} {w : World} : ∀ {k j : Nat} {x y z : Value} {t : It}, k ≤ j → ItC X w k x y z t → ItC X w j x y z t
  | 0, _, _, _, _, _, _, h => h.elim
  | _ + 1, 0, _, _, _, _, hj, _ => by omega
  | _ + 1, _ + 1, _, _, _, .str l, _, h => by unfold ItC at h ⊢; exact h
  | k + 1, j + 1, _, _, _, .lst l, hj, h => by
    unfold ItC at h ⊢
    obtain ⟨h0, p, c, h1, h2, h3⟩ := h
    refine ⟨h0, p, c, h1, h2, fun hl => ?_⟩
    obtain ⟨b, o, h4, h5, h6, h7⟩ := h3 hl
    refine ⟨b, o, h4, h5, h6, fun i hi => ?_⟩
    obtain ⟨y0, yb, yl, h8, h9, h10, h11⟩ := h7 i hi
    exact ⟨y0, yb, yl, h8, h9, h10, ItC.up (by omega) h11⟩
def GrowPost (X : List Nat) (g : Nat) (t : TypeId) (r j k : Nat) (it : It) (w : World) (e : Ending) (w' : World) : Prop :=
  Tch [g] w w' ∧ if dep it ≤ j ∧ (enc it).length ≤ r then ∃ v, e = .returned (.tuple #[v, .bool true]) ∧ PcV X w' k v it ∧ Blk w' g t (gro ((r - (enc it).length : Nat) : Int)) else ∃ v, e = .returned (.tuple #[v, .bool false])
theorem growpost_yes {X : List Nat} {g : Nat} {t : TypeId} {r j k : Nat} {it : It} {w w' : World} {v : Value} {x : Int} (hT : Tch [g] w w') (h : dep it ≤ j ∧ (enc it).length ≤ r) (hv : PcV X w' k v it) (hB : Blk w' g t (gro x)) (hx : x = ((r - (enc it).length : Nat) : Int)) :
    GrowPost X g t r j k it w (.returned (.tuple #[v, .bool true])) w' := ⟨hT, by rw [if_pos h]; exact ⟨v, rfl, hv, by rw [← hx]; exact hB⟩⟩
theorem qi7 {X : List Nat} {g : Nat} {t : TypeId} {r j k : Nat} {it : It} {w w' : World} {v : Value} (hT : Tch [g] w w') (h : ¬ (dep it ≤ j ∧ (enc it).length ≤ r)) :
    GrowPost X g t r j k it w (.returned (.tuple #[v, .bool false])) w' := ⟨hT, by rw [if_neg h]; exact ⟨v, rfl⟩⟩
theorem growpost_dec {X : List Nat} {g : Nat} {t : TypeId} {r j k m : Nat} {it : It} {w w2 : World} {v : Value} {x : Int} {d : Bool} (hT : Tch [g] w.drew w2) (hd : dep it ≤ j) (he : (enc it).length = m) (hv : Tch [g] w w2 → PcV X w2 k v it) (hB : Blk w2 g t (gro x)) (hx : x = (r : Int) - m) (hdd : d = decide ((m : Int) ≤ (r : Int))) :
    GrowPost X g t r j k it w (.returned (.tuple #[v, .bool d])) w2 := by
  have hT2 : Tch [g] w w2 := ⟨hT.os, hT.tape, hT.output, hT.size, hT.block⟩
  subst hdd
  by_cases h : m ≤ r
  · rw [decide_eq_true (show (m : Int) ≤ (r : Int) by omega)]
    exact growpost_yes hT2 ⟨hd, by omega⟩ (hv hT2) hB (by omega)
  · rw [decide_eq_false (show ¬ (m : Int) ≤ (r : Int) by omega)]
    exact qi7 hT2 (by omega)
theorem mkS (v : Value) (w : World) : (Instr.makeInterface 212 v).run Tryz.prog w = .ok (.iface 212 v) w := by kernel_rfl
theorem mkT (v : Value) (w : World) : (Instr.makeInterface 214 v).run Tryz.prog w = .ok (.iface 214 v) w := by kernel_rfl
theorem mkL (v : Value) (w : World) : (Instr.makeInterface 219 v).run Tryz.prog w = .ok (.iface 219 v) w := by kernel_rfl
set_option maxHeartbeats 2000000 in
set_option maxRecDepth 100000 in
theorem grow_one (X : List Nat) (g r j b o bb ob c x : Nat) (t : TypeId) (nested : Int) (w : World) (hg : g ∈ X) (hr : r ≤ 16777216) (hx : x < 128) (hbX : b ∉ X) (hb : b < w.heap.size) (hbb : bb < w.heap.size) (hbbX : bb ∉ X) (hG : Blk w g t (gro r))
    (h0 : w.cell? ⟨b, o, none⟩ = some (.bool false)) (h1 : w.cell? ⟨b, o + 1, none⟩ = some (.slice (some ⟨bb, ob, none⟩) 1 c)) (h2 : w.cell? ⟨bb, ob, none⟩ = some (.int .u8 (x : Int))) :
    Calls Tryz.prog 111 #[.pointer (some ⟨g, 0, none⟩), .pointer (some ⟨b, o, none⟩), .int .i64 nested] w (GrowPost X g t r j 1 (.str [x]) w) := by
  have hgb : b ≠ g := fun e => hbX (e ▸ hg)
  have hgbb : bb ≠ g := fun e => hbbX (e ▸ hg)
  have hmk := mkS
  have hsp := fun (w1 : World) (hB : Blk w1 g t (gro r)) => spend_any g r 1 t w1 (by omega) (by omega) hB
  have HS := hQz hsp
  have HG := hQz hG
  clear hsp hG
  have hx128 : (x : Int) < 128 := by omega
  go_enter Tryz.func111, Tryz.ntmps111
  go_wp2
  go_region_held3 (fun w' => w'.cell? ⟨b, o + 1, none⟩ = some (.slice (some ⟨bb, ob, none⟩) 1 c) ∧ w'.cell? ⟨bb, ob, none⟩ = some (.int .u8 (x : Int)))
    (first
      | go_keep
      | (go_split_ands
         refine ⟨?_, ?_⟩
         · (rw [hT.cell (p := ⟨b, o + 1, none⟩) hb (by simpa using hgb)]; assumption)
         · (rw [hT.cell (p := ⟨bb, ob, none⟩) hbb (by simpa using hgbb)]; assumption)))
    (first | (go_at_call 130; refine (HS.out _ HG.out.drew).mono ?_; rintro e w2 ⟨rfl, hT, hG2⟩))
  go_wp2
  go_ret2
  have e1 : (enc (.str [x])).length = 1 := by rw [qf4]; unfold encS single; rw [if_pos (by simpa using hx)]; rfl
  have hT2 : Tch [g] w w2 := ⟨hT.os, hT.tape, hT.output, hT.size, hT.block⟩
  by_cases h : 1 ≤ r
  · rw [decide_eq_true (show (1 : Int) ≤ (r : Int) by omega)]
    refine growpost_yes hT2 ⟨by rw [qg4]; omega, by rw [e1]; exact h⟩ ?_ hG2 (by rw [e1]; omega)
    unfold PcV
    rw [if_pos (by simpa [single] using hx)]; rfl
  · rw [decide_eq_false (show ¬ (1 : Int) ≤ (r : Int) by omega)]
    exact qi7 hT2 (by rw [e1]; omega)
set_option maxHeartbeats 2000000 in
set_option maxRecDepth 100000 in
theorem grow_text (X : List Nat) (g r j b o c : Nat) (p : Option Addr) (l : List Nat) (t : TypeId) (nested : Int) (w : World) (hg : g ∈ X) (hr : r ≤ 16777216) (hbX : b ∉ X) (hb : b < w.heap.size) (hG : Blk w g t (gro r))
    (h0 : w.cell? ⟨b, o, none⟩ = some (.bool false)) (h1 : w.cell? ⟨b, o + 1, none⟩ = some (.slice p l.length c)) (hl : l.length < 4611686018427387904) (hv : RdA X w (.slice p l.length c) l)
    (hne : l.length ≠ 1) (hs1 : single l = false) :
    Calls Tryz.prog 111 #[.pointer (some ⟨g, 0, none⟩), .pointer (some ⟨b, o, none⟩), .int .i64 nested] w (GrowPost X g t r j 1 (.str l) w) := by
  have hgb : b ≠ g := fun e => hbX (e ▸ hg)
  have hmk := mkT
  have e1 : (enc (.str l)).length = hsz l.length + l.length := by rw [qf4]; unfold encS; rw [if_neg (by rw [hs1]; decide), List.length_append, qe6]
  have hpc : ∀ w2, Tch [g] w w2 → PcV X w2 1 (.iface 214 (.slice p l.length c)) (.str l) := fun w2 hT => by
    unfold PcV; rw [if_neg (by rw [hs1]; decide)]
    exact ⟨_, rfl, hv.tch (hT.mono (fun x hx => .inl (by simp at hx; rw [hx]; exact hg)))⟩
  have hdx : dep (.str l) ≤ j := by rw [qg4]; omega
  have HP := hQz (And.intro hpc (And.intro e1 hdx))
  have HG := hQz hG
  clear hG hpc e1 hv hs1 hdx
  by_cases hn : l.length ≤ 16777216
  · have hz5 := hsz_le (n := l.length) (by omega)
    have hd : decide ((l.length : Int) ≤ 16777216) = true := decide_eq_true (by omega)
    have hsp := fun (w1 : World) (hB : Blk w1 g t (gro r)) => spend_any g r (hsz l.length + l.length) t w1 (by omega) (by omega) hB
    have hhs := fun (w1 : World) => headSize_any l.length w1 (by omega)
    generalize hH : hsz l.length = H at *
    rw [show (((H + l.length : Nat)) : Int) = (H : Int) + (l.length : Int) by omega] at hsp
    have hsum : IntKind.i64.wrap ((H : Int) + (l.length : Int)) = (H : Int) + (l.length : Int) := IntWalk.i64_in _ (by omega)
    have HS := hQz hsp
    have HH := hQz hhs
    clear hsp hhs
    · have hne' : ¬ (l.length : Int) = 1 := by omega
      go_enter Tryz.func111, Tryz.ntmps111
      go_wp2
      go_region_held3 (fun w' => w'.cell? ⟨b, o + 1, none⟩ = some (.slice p l.length c))
        (first
          | go_keep
          | (rw [hT.cell (p := ⟨b, o + 1, none⟩) hb (by simpa using hgb)]; assumption))
        (first
          | (go_at_call 131; refine (HH.out _).mono ?_; rintro e w' ⟨rfl, rfl⟩)
          | (go_at_call 130; refine (HS.out _ HG.out.drew).mono ?_; rintro e w2 ⟨rfl, hT, hG2⟩))
      go_wp2
      go_ret2
      exact growpost_dec hT HP.out.2.2 HP.out.2.1 (HP.out.1 _) hG2 (by omega) (by first | rfl | (congr 1; simp; done) | (apply decide_eq_decide.2; simp))
  · have hd : decide ((l.length : Int) ≤ 16777216) = false := decide_eq_false (by omega)
    · have hne' : ¬ (l.length : Int) = 1 := by omega
      go_enter Tryz.func111, Tryz.ntmps111
      go_wp2
      go_quiet (fail)
      go_wp2
      go_ret2
      exact qi7 ((Tch.refl _ _).drewN _) (by have := HP.out.2.1; omega)
set_option maxHeartbeats 2000000 in
set_option maxRecDepth 100000 in
theorem grow_two (X : List Nat) (g r j b o bb ob c x : Nat) (t : TypeId) (nested : Int) (w : World) (hg : g ∈ X) (hr : r ≤ 16777216) (hx : 128 ≤ x) (hbX : b ∉ X) (hb : b < w.heap.size) (hG : Blk w g t (gro r))
    (h0 : w.cell? ⟨b, o, none⟩ = some (.bool false)) (h1 : w.cell? ⟨b, o + 1, none⟩ = some (.slice (some ⟨bb, ob, none⟩) 1 c)) (h2 : w.cell? ⟨bb, ob, none⟩ = some (.int .u8 (x : Int))) (hv : RdA X w (.slice (some ⟨bb, ob, none⟩) 1 c) [x]) :
    Calls Tryz.prog 111 #[.pointer (some ⟨g, 0, none⟩), .pointer (some ⟨b, o, none⟩), .int .i64 nested] w (GrowPost X g t r j 1 (.str [x]) w) := by
  have hgb : b ≠ g := fun e => hbX (e ▸ hg)
  have hmk := mkT
  have hs1 : single [x] = false := by simp [single]; omega
  have e1 : (enc (.str [x])).length = 2 := by rw [qf4]; unfold encS; rw [if_neg (by rw [hs1]; decide), List.length_append, qe6]; rfl
  have hpc : ∀ w2, Tch [g] w w2 → PcV X w2 1 (.iface 214 (.slice (some ⟨bb, ob, none⟩) 1 c)) (.str [x]) := fun w2 hT => by
    unfold PcV; rw [if_neg (by rw [hs1]; decide)]
    exact ⟨_, rfl, hv.tch (hT.mono (fun x hx => .inl (by simp at hx; rw [hx]; exact hg)))⟩
  have HP := hQz (And.intro hpc (And.intro e1 (show dep (.str [x]) ≤ j by rw [qg4]; omega)))
  have HG := hQz hG
  clear hG hpc e1 hv hs1
  have hsp := fun (w1 : World) (hB : Blk w1 g t (gro r)) => spend_any g r 2 t w1 (by omega) (by omega) hB
  have hhs := fun (w1 : World) => headSize_any 1 w1 (by omega)
  have HS := hQz hsp
  have HH := hQz hhs
  clear hsp hhs
  have hx' : ¬ (x : Int) < 128 := by omega
  go_enter Tryz.func111, Tryz.ntmps111
  go_wp2
  go_region_held3 (fun w' => w'.cell? ⟨b, o + 1, none⟩ = some (.slice (some ⟨bb, ob, none⟩) 1 c))
    (first
      | go_keep
      | (rw [hT.cell (p := ⟨b, o + 1, none⟩) hb (by simpa using hgb)]; assumption))
    (first
      | (go_at_call 131; refine (HH.out _).mono ?_; rintro e w' ⟨rfl, rfl⟩)
      | (go_at_call 130; refine (HS.out _ HG.out.drew).mono ?_; rintro e w2 ⟨rfl, hT, hG2⟩))
  go_wp2
  go_ret2
  exact growpost_dec hT HP.out.2.2 HP.out.2.1 (HP.out.1 _) hG2 (by omega) (by first | rfl | (apply decide_eq_decide.2; simp))
theorem growpost_up {X : List Nat} {g : Nat} {t : TypeId} {r j k k' : Nat} {it : It} {w w' : World} {e : Ending} (hk : k ≤ k') (h : GrowPost X g t r j k it w e w') : GrowPost X g t r j k' it w e w' := by
  refine ⟨h.1, ?_⟩
  have := h.2
  split
  · rename_i hc; rw [if_pos hc] at this
    obtain ⟨v, h1, h2, h3⟩ := this
    exact ⟨v, h1, h2.up hk, h3⟩
  · rename_i hc; rw [if_neg hc] at this
    exact this
theorem grow_str (X : List Nat) (g r j b o : Nat) (vb : Value) (l : List Nat) (t : TypeId) (nested : Int) (w : World) (hg : g ∈ X) (hr : r ≤ 16777216) (hbX : b ∉ X) (hb : b < w.heap.size) (hG : Blk w g t (gro r))
    (h0 : w.cell? ⟨b, o, none⟩ = some (.bool false)) (h1 : w.cell? ⟨b, o + 1, none⟩ = some vb) (hl : l.length < 4611686018427387904) (hv : RdA X w vb l) :
    Calls Tryz.prog 111 #[.pointer (some ⟨g, 0, none⟩), .pointer (some ⟨b, o, none⟩), .int .i64 nested] w (GrowPost X g t r j 1 (.str l) w) := by
  obtain ⟨p, c, rfl, h2, h3, h4⟩ := id hv
  by_cases hl1 : l.length = 1
  · obtain ⟨x, rfl⟩ := List.length_eq_one_iff.1 hl1
    obtain ⟨bb, ob, rfl, h5, h6, h7⟩ := h4 (by simp)
    have h8 : w.cell? ⟨bb, ob, none⟩ = some (.int .u8 (x : Int)) := by have := h7 0 (by simp); simpa using this
    by_cases hx : x < 128
    · exact grow_one X g r j b o bb ob c x t nested w hg hr hx hbX hb h5 h6 hG h0 h1 h8
    · exact grow_two X g r j b o bb ob c x t nested w hg hr (by omega) hbX hb hG h0 h1 h8 hv
  · have hs : single l = false := by
      cases l with
      | nil => rfl
      | cons a q =>
        cases q with
        | nil => simp at hl1
        | cons _ _ => rfl
    exact grow_text X g r j b o c p l t nested w hg hr hbX hb hG h0 h1 hl hv hl1 hs
end
section
open Go.RowKit
theorem piece_info : (Tryz.prog.info? 191).map (fun i => (i.zero, i.size, i.bytes)) = some (some .nilIface, 1, 16) := by kernel_rfl
theorem list_ty : Tryz.prog.underlying 219 = some (.slice 191) := by kernel_rfl
theorem make_pieces (n : Nat) : madeCells (Value.nilIface).cells (n * 1) = Array.replicate n .nilIface := by
  simp only [madeCells, Value.cells, Nat.mul_one]
  apply Array.ext (by simp)
  intro j h1 h2
  simp [Nat.mod_one]
theorem st_makeP {ops : Array Oper} {rest : List Oper} {o : Oper} {a : Act} {w : World} {Q : Exit → Act → World → Prop} (n : Nat) (hgd : o.guard = none) (x y : Operand) (ho : o.op = .makeSlice 219 x y) (hx : a.eval x = .int .i64 (n : Int)) (hy : a.eval y = .int .i64 (n : Int)) (hn : n ≤ 16777216)
    (h : wpList Tryz.prog ops Q rest (a.put o.dst (.slice (some ⟨w.heap.size, 0, none⟩) n n)) (w.alloc (.cells (Array.replicate n .nilIface) 191))) : wpList Tryz.prog ops Q (o :: rest) a w :=
  wpList_plain hgd fun K hK => by
    obtain ⟨i, hi, hz, hs, hb⟩ := info_parts piece_info
    have hr := run_makeSlice (P := Tryz.prog) w 219 191 i .nilIface list_ty hi hz .i64 .i64 n n (by omega) (by omega) (by rw [hs]; simp; omega) (by rw [hb]; omega) (by omega)
    rw [hs, Int.toNat_natCast, make_pieces] at hr
    unfold Oper.wp execOp
    simp only [ho, hx, hy, Sem.run_bind, hr, Result.andThen_ok, Sem.run_pure]
    exact hK _ _ h
def GrowOK (j : Nat) : Prop := ∀ (X : List Nat) (g r k b o : Nat) (x0 vb vl : Value) (it : It) (t : TypeId) (d : Int) (w : World), g ∈ X → (∀ x ∈ X, x < w.heap.size) → r ≤ 16777216 → b ∉ X → b < w.heap.size → Blk w g t (gro r) →
  w.cell? ⟨b, o, none⟩ = some x0 → w.cell? ⟨b, o + 1, none⟩ = some vb → w.cell? ⟨b, o + 2, none⟩ = some vl → ItC X w k x0 vb vl it → d + j = 32 → 0 ≤ d →
  Calls Tryz.prog 111 #[.pointer (some ⟨g, 0, none⟩), .pointer (some ⟨b, o, none⟩), .int .i64 d] w (GrowPost X g t r j k it w)
def GLI (X : List Nat) (g r j k Lb : Nat) (t : TypeId) (l : List It) (w : World) (m : Nat) (W : World) : Prop :=
  Tch [g] w W ∧ w.heap.size ≤ Lb ∧ (∃ c, Blk W Lb 191 c ∧ c.size = l.length ∧ ∀ q (h : q < l.length), q < m → ∃ u, c[q]? = some u ∧ PcV (Lb :: X) W k u l[q]) ∧ (encs (l.take m)).length ≤ r ∧ deps (l.take m) ≤ j ∧ Blk W g t (gro ((r - (encs (l.take m)).length : Nat) : Int))
theorem take_more (l : List It) (m : Nat) (h : m < l.length) : encs (l.take (m + 1)) = encs (l.take m) ++ enc l[m] ∧ deps (l.take (m + 1)) = max (deps (l.take m)) (dep l[m]) := by
  rw [List.take_succ_eq_append_getElem h, qj6, deps_append, encs_one]
  exact ⟨rfl, by simp [deps]⟩
theorem encs_split (l : List It) (m : Nat) (h : m < l.length) : (encs (l.take m)).length + (enc l[m]).length ≤ (encs l).length := by
  have e := congrArg List.length (congrArg encs (List.take_append_drop (m + 1) l))
  rw [qj6, List.length_append, (take_more l m h).1, List.length_append] at e
  omega
set_option maxHeartbeats 2000000 in
set_option maxRecDepth 100000 in
theorem growList_zero (X : List Nat) (g r k c : Nat) (p : Option Addr) (l : List It) (t : TypeId) (w : World) :
    Calls Tryz.prog 129 #[.pointer (some ⟨g, 0, none⟩), .slice p l.length c, .int .i64 32] w (GrowPost X g t r 0 k (.lst l) w) := by
  go_enter Tryz.func129, Tryz.ntmps129
  go_wp2
  go_ret2
  exact qi7 (Tch.refl _ _) (by rw [dep_lst]; omega)
theorem PcV.iface {X : List Nat} {w : World} : ∀ {k : Nat} {v : Value} {t : It}, PcV X w k v t → ∃ T u, v = .iface T u
  | 0, _, _, h => h.elim
  | _ + 1, _, .str l, h => by
    unfold PcV at h
    split at h
    · exact ⟨_, _, h⟩
    · obtain ⟨s, h, _⟩ := h; exact ⟨_, _, h⟩
  | _ + 1, _, .lst l, h => by
    unfold PcV at h
    obtain ⟨p, c, h, _⟩ := h; exact ⟨_, _, h⟩
theorem gli_step {X : List Nat} {g r j k Lb m : Nat} {t : TypeId} {l : List It} {w wr w2 : World} {T : TypeId} {u : Value} (hm : m < l.length) (hI : GLI X g r j k Lb t l w m wr) (hLX : Lb ≠ g) (hg : g ∈ X) (hT2 : Tch [g] wr w2) (hv : PcV (Lb :: X) w2 k (.iface T u) l[m]) (hd : dep l[m] ≤ j) (hle : (enc l[m]).length ≤ r - (encs (l.take m)).length)
    (hB2 : Blk w2 g t (gro ((r - (encs (l.take m)).length - (enc l[m]).length : Nat) : Int))) : GLI X g r j k Lb t l w (m + 1) (w2.setCell ⟨Lb, m, none⟩ (.iface T u)) := by
  obtain ⟨hT, hLb, ⟨cs, hBL, hcs, hps⟩, hle0, hdp, hBg⟩ := hI
  have hO : Only Lb w2 (w2.setCell ⟨Lb, m, none⟩ (.iface T u)) := Only.setCell _ ⟨Lb, m, none⟩ _
  have hTO : Tch (Lb :: X) w2 (w2.setCell ⟨Lb, m, none⟩ (.iface T u)) := (Tch.refl _ _).only hO (.inr (by simp))
  obtain ⟨he, hdd⟩ := take_more l m hm
  have hel : (encs (l.take (m + 1))).length = (encs (l.take m)).length + (enc l[m]).length := by rw [he, List.length_append]
  refine ⟨(hT.trans hT2).only hO (.inl hLb), hLb, ⟨cs.setIfInBounds m (.iface T u), (hT2.blk hBL (by simpa using hLX)).set m _, by simp [hcs], fun q hq hqm => ?_⟩, by rw [hel]; omega, by rw [hdd]; omega, ?_⟩
  · rw [Array.getElem?_setIfInBounds]
    by_cases hqe : m = q
    · subst hqe
      exact ⟨_, by rw [if_pos rfl, if_pos (by omega)], hv.tch hTO⟩
    · rw [if_neg hqe]
      obtain ⟨u', h1, h2⟩ := hps q hq (by omega)
      exact ⟨u', h1, (h2.tch (hT2.mono (fun x hx => .inl (by simp at hx; rw [hx]; exact List.mem_cons_of_mem _ hg)))).tch hTO⟩
  · rw [hel, Nat.sub_add_eq]
    exact hO.blk (Ne.symm hLX) hB2
theorem gli_end {X : List Nat} {g r j k Lb n : Nat} {t : TypeId} {l : List It} {w wr w3 : World} {d : Bool} {x : Int} (hn : n = l.length) (hI : GLI X g r j k Lb t l w l.length wr) (hX : ∀ x ∈ X, x < w.heap.size) (hg : g ∈ X) (hLw : Lb < wr.heap.size) (hT3 : Tch [g] wr w3) (hB3 : Blk w3 g t (gro x)) (hx : x = ((r - (encs l).length : Nat) : Int) - hsz (encs l).length) (hdd : d = decide (0 ≤ x)) :
    GrowPost X g t r (j + 1) (k + 1) (.lst l) w (.returned (.tuple #[.iface 219 (.slice (some ⟨Lb, 0, none⟩) n n), .bool d])) w3 := by
  subst hn
  obtain ⟨hT, hLb, ⟨cs, hBL, hcs, hps⟩, hle0, hdp, hBg⟩ := hI
  rw [List.take_length] at *
  have he : (enc (.lst l)).length = hsz (encs l).length + (encs l).length := by rw [qi5, List.length_append, qe6]
  have hLg : Lb ∉ [g] := by intro h; simp at h; have := hX g hg; omega
  have hT3' : Tch (Lb :: X) wr w3 := hT3.mono (fun x hx => .inl (by simp at hx; rw [hx]; exact List.mem_cons_of_mem _ hg))
  have hpc : PcV X w3 (k + 1) (.iface 219 (.slice (some ⟨Lb, 0, none⟩) l.length l.length)) (.lst l) := by
    unfold PcV
    refine ⟨_, _, rfl, Nat.le_refl _, fun _ => ⟨Lb, 0, rfl, Nat.lt_of_lt_of_le hLw hT3.size, fun h => by have := hX _ h; omega, fun i hi => ?_⟩⟩
    obtain ⟨u, h1, h2⟩ := hps i hi hi
    refine ⟨u, ?_, (h2.tch hT3').mono (fun y hy => .inl (List.mem_cons_of_mem _ hy))⟩
    rw [Nat.zero_add]
    exact (hT3.blk hBL hLg).cell h1
  subst hdd
  by_cases h : hsz (encs l).length ≤ r - (encs l).length
  · rw [decide_eq_true (show 0 ≤ x by omega)]
    exact growpost_yes (hT.trans hT3) ⟨by rw [dep_lst]; omega, by omega⟩ hpc hB3 (by rw [he]; omega)
  · rw [decide_eq_false (show ¬ 0 ≤ x by omega)]
    exact qi7 (hT.trans hT3) (by omega)
set_option maxHeartbeats 2000000 in
set_option maxRecDepth 100000 in
theorem growList_any (j : Nat) (ih : GrowOK j) (X : List Nat) (g r k b o c : Nat) (p : Option Addr) (l : List It) (t : TypeId) (d : Int) (w : World) (hg : g ∈ X) (hX : ∀ x ∈ X, x < w.heap.size) (hr : r ≤ 16777216) (hG : Blk w g t (gro r)) (hd : d + (j + 1 : Nat) = 32) (hd0 : 0 ≤ d) (hlen : l.length < 4611686018427387904)
    (hp : 0 < l.length → p = some ⟨b, o, none⟩ ∧ b < w.heap.size ∧ b ∉ X)
    (hc : ∀ i (h : i < l.length), ∃ y0 yb yl, w.cell? ⟨b, o + i * 3, none⟩ = some y0 ∧ w.cell? ⟨b, o + i * 3 + 1, none⟩ = some yb ∧ w.cell? ⟨b, o + i * 3 + 2, none⟩ = some yl ∧ ItC X w k y0 yb yl l[i]) :
    Calls Tryz.prog 129 #[.pointer (some ⟨g, 0, none⟩), .slice p l.length c, .int .i64 d] w (GrowPost X g t r (j + 1) (k + 1) (.lst l) w) := by
  have hgc := hG.cell (j := 0) (v := .int .i64 r) rfl
  have hd32 : ¬ d = 32 := by omega
  by_cases hroom : l.length ≤ r
  · have hroom' : ¬ (r : Int) < (l.length : Int) := by omega
    have h0 : GLI X g r j k w.heap.size t l w 0 (w.alloc (.cells (Array.replicate l.length .nilIface) 191)) :=
      ⟨(Tch.refl _ _).alloc _, Nat.le_refl _, ⟨_, Blk.new w _ _, by simp, fun q _ hq => by omega⟩, by simp [encs], by simp [deps], by simpa [encs] using hG.alloc _⟩
    have hgw := hG.lt
    have H0 := hQz h0
    have hgc2 := ((hG.alloc (.cells (Array.replicate l.length .nilIface) 191))).cell (j := 0) (v := .int .i64 r) rfl
    have HC := hQz hc
    have hmk := mkL
    clear h0 hG hc
    go_enter Tryz.func129, Tryz.ntmps129
    go_wp2_with (refine st_makeP l.length rfl _ _ rfl rfl rfl (by omega) ?_)
    go_loopw [33] (fun i wr => ∃ m : Nat, m ≤ l.length ∧ i = .int .i64 (m : Int) ∧ GLI X g r j k w.heap.size t l w m wr) (fun i _ => l.length - (intOf i).toNat)
    case atStart => exact ⟨0, Nat.zero_le _, rfl, H0.out⟩
    case round =>
      obtain ⟨m, hm, rfl, hI⟩ := hrel
      have hI' := hI
      obtain ⟨hT, hLb, ⟨cs, hBL, hcs, hps⟩, hle, hdp, hBg⟩ := hI'
      have hgL : w.heap.size ≠ g := by omega
      by_cases hlt : m < l.length
      · obtain ⟨rfl, hb, hbX⟩ := hp (by omega)
        have hbg : b ∉ [g] := by intro h; simp at h; subst h; exact hbX hg
        obtain ⟨y0, yb, yl, c0, c1, c2, hit⟩ := HC.out m hlt
        have hmono : ∀ x ∈ [g], x ∈ w.heap.size :: X ∨ w.heap.size ≤ x := fun x hx => .inl (by simp at hx; rw [hx]; exact List.mem_cons_of_mem _ hg)
        have hwr : w.heap.size < wr.heap.size := hBL.lt
        have hit' := (hit.mono (Y := w.heap.size :: X) (fun y hy => by rcases List.mem_cons.1 hy with rfl | hy; exact .inr (Nat.le_refl _); exact .inl hy)).tch (hT.mono hmono)
        have hcall := ih (w.heap.size :: X) g (r - (encs (l.take m)).length) k b (o + m * 3) y0 yb yl l[m] t (d + 1) wr (List.mem_cons_of_mem _ hg) (fun x hx => by rcases List.mem_cons.1 hx with rfl | hx; exact hwr; exact Nat.lt_trans (hX x hx) hwr) (by omega)
          (by intro h; rcases List.mem_cons.1 h with h | h; omega; exact hbX h) (by omega) hBg ((hT.cell (p := ⟨b, o + m * 3, none⟩) hb hbg).trans c0) ((hT.cell (p := ⟨b, o + m * 3 + 1, none⟩) hb hbg).trans c1) ((hT.cell (p := ⟨b, o + m * 3 + 2, none⟩) hb hbg).trans c2) hit' (by omega) (by omega)
        by_cases hok : dep l[m] ≤ j ∧ (enc l[m]).length ≤ r - (encs (l.take m)).length
        · have hcall2 := hcall.mono (R' := fun e w' => ∃ v, e = .returned (.tuple #[v, .bool true]) ∧ Tch [g] wr w' ∧ PcV (w.heap.size :: X) w' k v l[m] ∧ Blk w' g t (gro ((r - (encs (l.take m)).length - (enc l[m]).length : Nat) : Int))) (fun e w' h => by
            obtain ⟨h1, h2⟩ := h
            rw [if_pos hok] at h2
            obtain ⟨v, h3, h4, h5⟩ := h2
            exact ⟨v, h3, h1, h4, h5⟩)
          have HK := hQz hcall2
          have HOK := hQz hok
          have HI := hQz hI
          have hcm : cs[m]? = some (cs[m]'(by omega)) := Array.getElem?_eq_getElem (by omega)
          have HM := hQz hcm
          clear hcall hcall2 hok hcm hit hit' c0 c1 c2 hps hle hdp hI hT hmono
          go_wp2_with (go_at_call 111; refine HK.out.mono ?_; rintro e w2 ⟨v, rfl, hT2, hv, hB2⟩; obtain ⟨T, u, rfl⟩ := hv.iface; have hBL2 := hT2.blk hBL (by simpa using hgL); have hcl := hBL2.cell (j := m) HM.out; have hfl := hBL2.free m)
          go_roundw
          case rel => exact ⟨m + 1, by omega, by go_num, gli_step hlt HI.out hgL hg hT2 hv HOK.out.1 HOK.out.2 hB2⟩
          case measure => simp [intOf]; omega
        · have hcall2 := hcall.mono (R' := fun e w' => ∃ v, e = .returned (.tuple #[v, .bool false]) ∧ Tch [g] wr w') (fun e w' h => by
            obtain ⟨h1, h2⟩ := h
            rw [if_neg hok] at h2
            obtain ⟨v, h3⟩ := h2
            exact ⟨v, h3, h1⟩)
          have hno : ¬ (dep (.lst l) ≤ j + 1 ∧ (enc (.lst l)).length ≤ r) := by
            have h1 := encs_split l m hlt
            have h2 := deps_mem (List.getElem_mem hlt)
            rw [dep_lst, qi5, List.length_append]
            omega
          have HK := hQz hcall2
          have HN := hQz (And.intro hno hT)
          clear hcall hcall2 hok hit hit' c0 c1 c2 hps hle hdp hI hno hT hmono
          go_wp2_with (go_at_call 111; refine HK.out.mono ?_; rintro e w2 ⟨v, rfl, hT2⟩)
          go_ret2
          exact qi7 (HN.out.2.trans hT2) HN.out.1
      · obtain rfl : m = l.length := by omega
        rw [List.take_length] at hle hBg
        have HI := hQz hI
        obtain ⟨R, hR⟩ : ∃ R, R = r - (encs l).length := ⟨_, rfl⟩
        rw [← hR] at hBg
        have hgr : wr.cell? ⟨g, 0, none⟩ = some (.int .i64 (R : Int)) := hBg.cell (j := 0) rfl
        have hE : (r : Int) - (R : Int) = ((encs l).length : Int) := by omega
        have hhs := fun (w1 : World) => headSize_any (encs l).length w1 (by omega)
        have h5 := hsz_le (n := (encs l).length) (by omega)
        have hsp := spend_any g R (hsz (encs l).length) t wr (by omega) (by omega) hBg
        have HH := hQz hhs
        have HS := hQz hsp
        have HR := hQz hR
        clear hhs hsp hI hps hT hR
        generalize hEE : (encs l).length = E at *
        generalize hHH : hsz E = H at *
        go_wp2_with (first
          | (go_at_call 131; refine (HH.out _).mono ?_; rintro e w' ⟨rfl, rfl⟩)
          | (go_at_call 130; refine HS.out.mono ?_; rintro e w2 ⟨rfl, hT2, hG2⟩))
        go_ret2
        refine gli_end rfl HI.out hX hg hBL.lt hT2 hG2 (by rw [hEE, hHH, HR.out]) ?_
        first | rfl | (apply decide_eq_decide.2; omega)
  · have hroom' : (r : Int) < (l.length : Int) := by omega
    have hno : ¬ (dep (.lst l) ≤ j + 1 ∧ (enc (.lst l)).length ≤ r) := by
      have := encs_len l
      rw [qi5, List.length_append]; omega
    have HN := hQz hno
    clear hno
    go_enter Tryz.func129, Tryz.ntmps129
    go_wp2
    go_ret2
    exact qi7 (Tch.refl _ _) HN.out
theorem growList_grow (X : List Nat) (g r j k b o c : Nat) (p : Option Addr) (l : List It) (t : TypeId) (d : Int) (w : World) (h0 : w.cell? ⟨b, o, none⟩ = some (.bool true)) (h2 : w.cell? ⟨b, o + 2, none⟩ = some (.slice p l.length c))
    (hc : Calls Tryz.prog 129 #[.pointer (some ⟨g, 0, none⟩), .slice p l.length c, .int .i64 d] w (GrowPost X g t r j k (.lst l) w)) :
    Calls Tryz.prog 111 #[.pointer (some ⟨g, 0, none⟩), .pointer (some ⟨b, o, none⟩), .int .i64 d] w (GrowPost X g t r j k (.lst l) w) := by
  have hc2 := hc.mono (R' := fun e w' => ∃ v d, e = .returned (.tuple #[v, .bool d]) ∧ GrowPost X g t r j k (.lst l) w (.returned (.tuple #[v, .bool d])) w') (fun e w' h => by
    have h' := h
    obtain ⟨h1, h3⟩ := h
    split at h3
    · obtain ⟨v, rfl, _⟩ := h3; exact ⟨v, true, rfl, h'⟩
    · obtain ⟨v, rfl⟩ := h3; exact ⟨v, false, rfl, h'⟩)
  have HC := hQz hc2
  clear hc hc2
  go_enter Tryz.func111, Tryz.ntmps111
  go_wp2_with (go_at_call 129; refine HC.out.mono ?_; rintro e w2 ⟨v, d, rfl, hp⟩; have HP := hQz hp; clear hp)
  go_ret2
  exact HP.out
theorem grow_any : ∀ j, GrowOK j := by
  intro j
  induction j with
  | zero =>
    intro X g r k b o x0 vb vl it t d w hg hX hr hbX hb hG h0 h1 h2 hit hd hd0
    cases k with
    | zero => exact hit.elim
    | succ k =>
      cases it with
      | str l =>
        unfold ItC at hit
        obtain ⟨rfl, hv, hl⟩ := hit
        exact (grow_str X g r 0 b o vb l t d w hg hr hbX hb hG h0 h1 hl hv).mono fun e w' h => growpost_up (by omega) h
      | lst l =>
        unfold ItC at hit
        obtain ⟨rfl, p, c, rfl, hl, hc⟩ := hit
        obtain rfl : d = 32 := by omega
        exact growList_grow X g r 0 (k + 1) b o c p l t 32 w h0 h2 (growList_zero X g r (k + 1) c p l t w)
  | succ j ih =>
    intro X g r k b o x0 vb vl it t d w hg hX hr hbX hb hG h0 h1 h2 hit hd hd0
    cases k with
    | zero => exact hit.elim
    | succ k =>
      cases it with
      | str l =>
        unfold ItC at hit
        obtain ⟨rfl, hv, hl⟩ := hit
        exact (grow_str X g r (j + 1) b o vb l t d w hg hr hbX hb hG h0 h1 hl hv).mono fun e w' h => growpost_up (by omega) h
      | lst l =>
        unfold ItC at hit
        obtain ⟨rfl, p, c, rfl, hl, hc⟩ := hit
        refine growList_grow X g r (j + 1) (k + 1) b o c p l t d w h0 h2 ?_
        by_cases hl0 : l = []
        · subst hl0
          exact growList_any j ih X g r k 0 0 c p [] t d w hg hX hr hG hd hd0 hl.2 (fun h => absurd h (by simp)) (fun i h => absurd h (by simp))
        · obtain ⟨bl, ol, rfl, h5, h6, h7⟩ := hc hl0
          exact growList_any j ih X g r k bl ol c _ l t d w hg hX hr hG hd hd0 hl.2 (fun _ => ⟨rfl, h5, h6⟩) h7
end
section
open Go.RowKit
theorem hd_lt {base n : Nat} (hb : base ≤ 192) (hn : n ≤ 16777216) : ∀ x ∈ hd base n, x < 256 := by
  intro x hx
  unfold hd at hx
  split at hx
  · have := List.mem_singleton.1 hx; omega
  · rcases List.mem_cons.1 hx with rfl | hx
    · have := lsz_le (n := n) (by omega); omega
    · exact be_lt n x hx
theorem mem_encs {l : List It} {x : Nat} (h : x ∈ encs l) : ∃ i, ∃ h : i < l.length, x ∈ enc l[i] := by
  induction l with
  | nil => simp [encs] at h
  | cons y r ih =>
    rw [encs] at h
    rcases List.mem_append.1 h with h | h
    · exact ⟨0, by simp, h⟩
    · obtain ⟨i, hi, h⟩ := ih h
      exact ⟨i + 1, by simp; omega, by simpa using h⟩
theorem encs_item (l : List It) (i : Nat) (h : i < l.length) : (enc l[i]).length ≤ (encs l).length := by have := encs_split l i h; omega
theorem enc_lt {X : List Nat} {w : World} : ∀ {k : Nat} {x0 vb vl : Value} {it : It}, ItC X w k x0 vb vl it → (enc it).length ≤ 16777216 → ∀ x ∈ enc it, x < 256
  | 0, _, _, _, _, h, _ => h.elim
  | _ + 1, _, _, _, .str l, h, hl => by
    unfold ItC at h
    obtain ⟨_, ⟨p, c, _, _, h3, _⟩, _⟩ := h
    rw [qf4] at hl ⊢
    unfold encS at hl ⊢
    split at hl
    · rename_i hs; rw [if_pos hs]; exact h3
    · rename_i hs; rw [if_neg hs]
      rw [List.length_append] at hl
      intro x hx
      rcases List.mem_append.1 hx with hx | hx
      · exact hd_lt (by omega) (by omega) x hx
      · exact h3 x hx
  | k + 1, _, _, _, .lst l, h, hl => by
    unfold ItC at h
    obtain ⟨_, p, c, _, _, h3⟩ := h
    rw [qi5] at hl ⊢
    rw [List.length_append] at hl
    intro x hx
    rcases List.mem_append.1 hx with hx | hx
    · exact hd_lt (by omega) (by omega) x hx
    · obtain ⟨i, hi, hx⟩ := mem_encs hx
      have hne : l ≠ [] := by intro e; subst e; simp at hi
      obtain ⟨b, o, _, _, _, h7⟩ := h3 hne
      obtain ⟨y0, yb, yl, _, _, _, h8⟩ := h7 i hi
      exact enc_lt h8 (by have := encs_item l i hi; omega) x hx
def PackPost (it : It) (w : World) (e : Ending) (w' : World) : Prop :=
  Tch [] w w' ∧ if dep it ≤ 32 ∧ (enc it).length ≤ 16777216 then ∃ b, w.heap.size ≤ b ∧ e = .returned (.tuple #[.slice (some ⟨b, 0, none⟩) (enc it).length (enc it).length, .int .i64 0]) ∧ Blk w' b 5 (bc (enc it).length fun i => (enc it).getD i 0) else e = .returned (.tuple #[.slice none 0 0, .int .i64 3])
theorem packpost_no {it : It} {w w' : World} (h : ¬ (dep it ≤ 32 ∧ (enc it).length ≤ 16777216)) (hT : Tch [] w w') : PackPost it w (.returned (.tuple #[.slice none 0 0, .int .i64 3])) w' := ⟨hT, by rw [if_neg h]⟩
theorem st_makeN {ops : Array Oper} {rest : List Oper} {o : Oper} {a : Act} {w : World} {Q : Exit → Act → World → Prop} (n : Nat) (hgd : o.guard = none) (x y : Operand) (ho : o.op = .makeSlice 23 x y) (hx : a.eval x = .int .i64 (n : Int)) (hy : a.eval y = .int .i64 (n : Int)) (hn : n ≤ 16777216)
    (h : wpList Tryz.prog ops Q rest (a.put o.dst (.slice (some ⟨w.heap.size, 0, none⟩) n n)) (w.alloc (.cells (bc n fun _ => 0) 5))) : wpList Tryz.prog ops Q (o :: rest) a w :=
  wpList_plain hgd fun K hK => by
    obtain ⟨i, hi, hz, hs, hb⟩ := info_parts A_info
    have hr := run_makeSlice (P := Tryz.prog) w 23 5 i (.int .u8 0) qb5 hi hz .i64 .i64 n n (by omega) (by omega) (by rw [hs]; simp; omega) (by rw [hb]; omega) (by omega)
    rw [hs, Int.toNat_natCast, make_bytes] at hr
    unfold Oper.wp execOp
    simp only [ho, hx, hy, Sem.run_bind, hr, Result.andThen_ok, Sem.run_pure]
    exact hK _ _ h
set_option maxHeartbeats 2000000 in
set_option maxRecDepth 100000 in
theorem pack_any (k : Nat) (x0 vb vl : Value) (it : It) (w : World) (hit : ItC [] w k x0 vb vl it) :
    Calls Tryz.prog 83 #[.agg #[x0, vb, vl]] w (PackPost it w) := by
  obtain ⟨W2, hW2⟩ : ∃ W2, W2 = (w.alloc (.cells #[x0, vb, vl] 101)).alloc (.cells #[.int .i64 16777216] 189) := ⟨_, rfl⟩
  have hT2 : Tch [] w W2 := by rw [hW2]; exact ((Tch.refl _ _).alloc _).alloc _
  have hz2 : W2.heap.size = w.heap.size + 2 := by rw [hW2]; simp
  have hG2 : Blk W2 (w.heap.size + 1) 189 (gro ((16777216 : Nat) : Int)) := by
    have := Blk.new (w.alloc (.cells #[x0, vb, vl] 101)) 189 #[.int .i64 16777216]
    rw [World.size_alloc] at this
    rw [hW2]; exact this
  have hI2 : Blk W2 w.heap.size 101 #[x0, vb, vl] := by rw [hW2]; exact (Blk.new w _ _).alloc _
  have hitm : ItC [w.heap.size + 1] W2 k x0 vb vl it := (hit.mono (Y := [w.heap.size + 1]) (fun y hy => .inr (by simp at hy; omega))).tch (hT2.mono (by simp))
  have hcall := grow_any 32 [w.heap.size + 1] (w.heap.size + 1) 16777216 k w.heap.size 0 x0 vb vl it 189 0 W2 (by simp) (by simp; omega) (by omega) (by simp) (by omega) hG2 (hI2.cell rfl) (hI2.cell rfl) (hI2.cell rfl) hitm (by omega) (by omega)
  have hlt8 := enc_lt hit
  clear hit hitm hI2 hG2
  by_cases hok : dep it ≤ 32 ∧ (enc it).length ≤ 16777216
  · obtain ⟨n, hn⟩ : ∃ n, n = (enc it).length := ⟨_, rfl⟩
    obtain ⟨R, hR⟩ : ∃ R, R = 16777216 - n := ⟨_, rfl⟩
    have hcall2 := hcall.mono (R' := fun e w' => ∃ v, e = .returned (.tuple #[v, .bool true]) ∧ Tch [w.heap.size + 1] W2 w' ∧ PcV [w.heap.size + 1] w' k v it ∧ Blk w' (w.heap.size + 1) 189 (gro (R : Int))) (fun e w' h => by
      obtain ⟨h1, h2⟩ := h
      rw [if_pos hok, ← hn, ← hR] at h2
      obtain ⟨v, h3, h4, h5⟩ := h2
      exact ⟨v, h3, h1, h4, h5⟩)
    have hput := fun (w3 : World) (v : Value) (h : PcV [w.heap.size + 1] w3 k v it) => put_any k w3.heap.size n n v it 5 (fun _ => 0) (w3.alloc (.cells (bc n fun _ => 0) 5)) ((h.mono (Y := [w3.heap.size]) (fun y hy => .inr (by simp at hy; omega))).tch ((Tch.refl _ _).alloc _)) (Blk.new _ _ _) (by omega) (Nat.le_refl _) (by omega)
    have hfin : ∀ (w3 w5 : World) (e : Ending), Tch [w.heap.size + 1] W2 w3 → PutPost w3.heap.size n n 5 (fun _ => 0) (w3.alloc (.cells (bc n fun _ => 0) 5)) (enc it) e w5 → PackPost it w (.returned (.tuple #[.slice (some ⟨w3.heap.size, 0, none⟩) n n, .int .i64 0])) w5 := fun w3 w5 e hT3 hp => by
      have hT3' := hT2.fresh hT3 (by simp)
      refine ⟨(hT3'.alloc _).fresh hp.2.1 (fun x hx => by simp at hx; rw [hx]; exact hT3'.size), ?_⟩
      rw [if_pos hok]
      refine ⟨w3.heap.size, hT3'.size, by rw [hn], ?_⟩
      have h3 := hp.2.2
      rw [← hn, Nat.sub_self] at h3
      rw [hn] at h3
      rw [← wr_zero (fun _ => 0)]
      exact h3
    have hRn : (16777216 : Int) - (R : Int) = (n : Int) := by omega
    have hn8 : n ≤ 16777216 := by omega
    have HC := hQz hcall2
    have HP := hQz hput
    have HF := hQz hfin
    clear hcall hcall2 hput hfin hlt8 hok hn hR hT2 hz2
    go_enter Tryz.func83, Tryz.ntmps83
    go_wp2_with (first
      | (go_at_call 111; rw [← hW2]; refine HC.out.mono ?_; rintro e w3 ⟨v, rfl, hT3, hv, hG3⟩; have hgc : w3.cell? ⟨w.heap.size + 1, 0, none⟩ = some (.int .i64 (R : Int)) := hG3.cell (j := 0) rfl)
      | (refine st_makeN n rfl _ _ rfl rfl rfl hn8 ?_)
      | (go_at_call 112; refine (HP.out w3 v hv).mono ?_; rintro e w5 hp; obtain ⟨u, hu⟩ : ∃ u, e = .returned u := ⟨_, hp.1⟩; subst hu; have HQ := hQz hp; clear hp))
    go_ret2
    exact HF.out _ _ _ hT3 HQ.out
  · have hcall2 := hcall.mono (R' := fun e w' => ∃ v, e = .returned (.tuple #[v, .bool false]) ∧ Tch [w.heap.size + 1] W2 w') (fun e w' h => by
      obtain ⟨h1, h2⟩ := h
      rw [if_neg hok] at h2
      obtain ⟨v, h3⟩ := h2
      exact ⟨v, h3, h1⟩)
    have HC := hQz hcall2
    have HT := hQz (And.intro hT2 hok)
    clear hcall hcall2 hlt8 hok hT2 hz2
    go_enter Tryz.func83, Tryz.ntmps83
    go_wp2_with (go_at_call 111; rw [← hW2]; refine HC.out.mono ?_; rintro e w3 ⟨v, rfl, hT3⟩)
    go_ret2
    exact packpost_no HT.out.2 (HT.out.1.fresh hT3 (by simp))
end
end Go.Proofs.YtanmpcgackfpaaaGreat
