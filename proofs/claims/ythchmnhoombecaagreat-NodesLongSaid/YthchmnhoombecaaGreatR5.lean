/- put, of a list; put of any tree. -/
import Derived.Test.YthchmnhoombecaaGreatR4
namespace Go.Proofs.YthchmnhoombecaaGreat
open Go.RowKit Go.Shelf
attribute [local go_sem] Oper.semAt_some

/-- What has been written when the last k items of a list have been. -/
def sufs (l : List It) (k : Nat) : List Nat := encs (l.drop (l.length - k))
theorem sufs_zero (l : List It) : sufs l 0 = [] := by unfold sufs; rw [Nat.sub_zero, List.drop_length]; simp [encs]
theorem sufs_all (l : List It) : sufs l l.length = encs l := by unfold sufs; rw [Nat.sub_self, List.drop_zero]
theorem sufs_succ (l : List It) (k : Nat) (h : l.length - 1 - k < l.length) (hk : k < l.length) : sufs l (k + 1) = enc (l[l.length - 1 - k]'h) ++ sufs l k := by
  unfold sufs
  rw [show l.length - (k + 1) = l.length - 1 - k by omega, List.drop_eq_getElem_cons h, encs, show l.length - 1 - k + 1 = l.length - k by omega]
theorem sufs_le (l : List It) (k : Nat) : (sufs l k).length ≤ (encs l).length := by
  unfold sufs
  have := congrArg List.length (congrArg encs (List.take_append_drop (l.length - k) l))
  rw [encs_append, List.length_append] at this
  omega
def PutOK (k : Nat) : Prop := ∀ (b n n0 : Nat) (v : Value) (it : It) (t : TypeId) (f : Nat → Nat) (w : World), PcV [b] w k v it → Blk w b t (bc n0 f) → (enc it).length ≤ n → n ≤ n0 → n0 ≤ 100000000 →
  Calls Tryz.prog 70 #[.slice (some ⟨b, 0, none⟩) n n0, v] w (PutPost b n n0 t f w (enc it))
/-- What holds behind k rounds. -/
def PutI (b n n0 : Nat) (t : TypeId) (f : Nat → Nat) (l : List It) (w : World) (k : Nat) (W : World) : Prop :=
  k ≤ l.length ∧ ∃ L, Hid (L + (sufs l k).length = n) ∧ Tch [b] w W ∧ Blk W b t (bc n0 (wr f L (sufs l k))) ∧ Blk W w.heap.size 31 #[.slice (some ⟨b, 0, none⟩) L n0]
theorem PutI.below {b n n0 : Nat} {t : TypeId} {f : Nat → Nat} {l : List It} {w : World} {k B : Nat} {W W' : World} (h : PutI b n n0 t f l w k W) (hB : Below B W W') (hb : b < B) (hw : w.heap.size < B) : PutI b n n0 t f l w k W' := by
  obtain ⟨h0, L, h1, h2, h3, h4⟩ := h
  exact ⟨h0, L, h1, ⟨hB.os.trans h2.os, hB.tape.trans h2.tape, hB.output.trans h2.output, Nat.le_trans h2.size hB.size, fun i hi hx => (hB.block i (by omega)).trans (h2.block i hi hx)⟩, h3.below hB hb, h4.below hB hw⟩
set_option maxHeartbeats 2000000 in
set_option maxRecDepth 100000 in
theorem put_list (k : Nat) (ih : PutOK k) (b n n0 c bl off : Nat) (p : Option Addr) (l : List It) (vs : Nat → Value) (t : TypeId) (f : Nat → Nat) (w : World) (hp : 0 < l.length → p = some ⟨bl, off, none⟩) (hbl : 0 < l.length → bl < w.heap.size ∧ bl ≠ b)
    (hcell : ∀ j (h : j < l.length), w.cell? ⟨bl, off + j, none⟩ = some (vs j) ∧ PcV [b] w k (vs j) l[j]) (hB : Blk w b t (bc n0 f)) (hn : (enc (.lst l)).length ≤ n) (hn0 : n ≤ n0) (hm : n0 ≤ 100000000) :
    Calls Tryz.prog 70 #[.slice (some ⟨b, 0, none⟩) n n0, .iface 184 (.slice p l.length c)] w (PutPost b n n0 t f w (enc (.lst l))) := by
  have hb := hB.lt
  have k1 := taLS
  have k2 := taLT
  have k3 := taLL
  refine (callsIn_wide (n := 3)).1 ?_
  refine callsIn_of_wp_marks Tryz.func70 rfl trivial ?_ rfl
  simp only [Tryz.ntmps70, List.size_toArray, List.length_cons, List.length_nil, Nat.reduceAdd, Nat.reduceSub, Array.replicate_succ, Array.replicate_zero, List.push_toArray, List.append_toArray, List.nil_append, List.cons_append]
  gi_wp2_with (refine ⟨trivial, ?_⟩; gi_at_call 103; refine (callsIn_wide.2 (backward_any _ _ _ _)).mono ?_; rintro e w' ⟨rfl, rfl⟩)
  have hS0 : Tch [b] w ((w.alloc (.cells #[.slice (some ⟨b, 0, none⟩) n n0] 31)).alloc (.cells #[.slice p l.length c] 184)) := ((Tch.refl _ _).alloc _).alloc _
  have hF0 := (Blk.new w 31 #[.slice (some ⟨b, 0, none⟩) n n0]).alloc (.cells #[.slice p l.length c] 184)
  have hBs := Blk.new (w.alloc (.cells #[.slice (some ⟨b, 0, none⟩) n n0] 31)) 184 #[.slice p l.length c]
  have hB0 : Blk ((w.alloc (.cells #[.slice (some ⟨b, 0, none⟩) n n0] 31)).alloc (.cells #[.slice p l.length c] 184)) b t (bc n0 f) := (hB.alloc _).alloc _
  have hz : ((w.alloc (.cells #[.slice (some ⟨b, 0, none⟩) n n0] 31)).alloc (.cells #[.slice p l.length c] 184)).heap.size = w.heap.size + 2 := by simp
  rw [World.size_alloc] at hBs
  obtain ⟨wB, hwB⟩ : ∃ wB, (w.alloc (.cells #[.slice (some ⟨b, 0, none⟩) n n0] 31)).alloc (.cells #[.slice p l.length c] 184) = wB := ⟨_, rfl⟩
  rw [hwB] at hS0 hF0 hBs hB0 hz ⊢
  have hI0 : PutI b n n0 t f l w 0 wB := ⟨Nat.zero_le _, n, Lib.hid (by rw [sufs_zero]; rfl), hS0, by rw [sufs_zero, wr_nil]; exact hB0, hF0⟩
  have hlen : l.length ≤ 100000000 := by
    have := encs_len l
    rw [enc_lst, List.length_append] at hn
    omega
  refine range_count (gf := 129) (lb := #[.pointer (some ⟨w.heap.size + 1, 0, none⟩)]) [b, w.heap.size] rfl (enters_of Tryz.func129 (by kernel_rfl) rfl) l.length (enBack vs l.length) (fun _ => rfl)
    (fun l' J W hW hY h0 => bwd1_in _ (by omega) l' (w.heap.size + 1) wB.heap.size bl off l.length c [b, w.heap.size] p vs hlen hp (fun h => ⟨by have := (hbl h).1; omega, by have := (hbl h).1; have := (hbl h).2; simp; omega⟩) ⟨by omega, by simp; omega⟩ J hY W ((hW.cell (p := ⟨w.heap.size + 1, 0, none⟩) (by simp; omega)).trans (hBs.cell rfl)) (fun j hj => (hW.cell (p := ⟨bl, off + j, none⟩) (by have := (hbl (by omega)).1; simp; omega)).trans ((hS0.cell (p := ⟨bl, off + j, none⟩) (hbl (by omega)).1 (by simpa using (hbl (by omega)).2)).trans (hcell j hj).1)) h0)
    (PutI b n n0 t f l w) (fun k W W' h hB => h.below hB (by omega) (by omega)) hI0 (fun k => { tmps := #[.slice (some ⟨b, 0, none⟩) n n0, .iface 184 (.slice p l.length c), undef, undef, .slice none 0 0, .pointer (some ⟨w.heap.size, 0, none⟩), undef, undef, .slice p l.length c, undef, vs (l.length - 1 - k), .slice (some ⟨b, 0, none⟩) n n0, .iface 184 (.slice p l.length c), .tuple #[.int .u8 0, .bool false], .bool false, .int .u8 0, undef, undef, undef, .tuple #[.slice none 0 0, .bool false], .bool false, .slice none 0 0, undef, undef, undef, undef, undef, undef, undef, undef, undef, undef, undef, undef, undef, undef, undef, undef, undef, .tuple #[.slice p l.length c, .bool true], .bool true, .slice p l.length c, .slice p l.length c, .func (.func 129) #[] #[.pointer (some ⟨w.heap.size + 1, 0, none⟩)], .int .i64 ((l.length - 1 - k : Nat) : Int), vs (l.length - 1 - k), undef, undef, undef, undef, undef, undef, undef, undef, undef, undef, undef], defers := [] }) ?assign ?body ?done
  case assign =>
    intro l' k W K hK
    gi_wp2
    exact hK
  case body =>
    rintro l' j W hj ⟨_, L, hL, hT, hBW, hFW⟩ hsz
    obtain ⟨i, hii, hi⟩ : ∃ i, i = l.length - 1 - j ∧ i < l.length := ⟨_, rfl, by omega⟩
    have hsuf : sufs l (j + 1) = enc (l[i]'hi) ++ sufs l j := by subst hii; exact sufs_succ l j hi hj
    dsimp only
    rw [← hii]
    have hle := sufs_le l (j + 1)
    have hfit : (enc (l[i]'hi)).length ≤ L := by
      rw [hsuf, List.length_append] at hle
      rw [enc_lst, List.length_append] at hn
      have := hL.out
      omega
    have hcall := ih b L n0 (vs i) (l[i]'hi) t (wr f L (sufs l j)) W ((hcell i hi).2.tch hT) hBW hfit (by have := hL.out; omega) hm
    have hc := hFW.cell (j := 0) rfl
    have hf := hFW.free 0
    have HH := Lib.hid (And.intro hsuf (And.intro hfit (And.intro hL.out (And.intro hcell hii))))
    clear hsuf hfit hcell hle hii
    gi_wp2_with (refine ⟨trivial, ?_⟩; gi_at_call 70; refine (CallsIn.inRound l' (callsIn_wide.2 hcall)).mono ?_; rintro e w4 hpp; obtain rfl := hpp.1; have hFW4 := hpp.2.1.blk hFW (by simp; omega); replace hc := hFW4.cell (j := 0) rfl; replace hf := hFW4.free 0)
    have hO : Only w.heap.size w4 (w4.setCell ⟨w.heap.size, 0, none⟩ (.slice (some ⟨b, 0, none⟩) (L - (enc (l[i]'hi)).length) n0)) := Only.setCell _ ⟨w.heap.size, 0, none⟩ _
    have hT2 : Tch [b, w.heap.size] W (w4.setCell ⟨w.heap.size, 0, none⟩ (.slice (some ⟨b, 0, none⟩) (L - (enc (l[i]'hi)).length) n0)) := (hpp.2.1.mono (by simp)).only hO (.inr (by simp))
    refine ⟨blk_others hT2 (fun x hx => ?_), ⟨hT2.size, fun q hq hx => hT2.block q (by omega) hx⟩, by omega, L - (enc (l[i]'hi)).length, Lib.hid ?_, ?_, ?_, ?_⟩
    · simp at hx
      rcases hx with rfl | rfl
      · exact ⟨_, _, hBW⟩
      · exact ⟨_, _, hFW⟩
    · rw [HH.out.1, List.length_append]; have := HH.out.2.1; have := HH.out.2.2.1; omega
    · exact (hT.trans hpp.2.1).only hO (.inl (Nat.le_refl _))
    · have h4 := hpp.2.2
      have h5 := wr_wr f (L - (enc (l[i]'hi)).length) (enc (l[i]'hi)) (sufs l j)
      rw [Nat.sub_add_cancel HH.out.2.1] at h5
      rw [h5, ← HH.out.1] at h4
      exact h4.far (p := ⟨w.heap.size, 0, none⟩) (by simp; omega) _
    · exact hFW4.set 0 _
  case done =>
    rintro D W hD ⟨_, L, hL, hT, hBW, hFW⟩ hK
    rw [sufs_all] at hL hBW
    have hne : D ≠ w.heap.size ∧ D ≠ b := by omega
    have hl := enc_lst l
    have hll := congrArg List.length hl
    rw [List.length_append, hd_length] at hll
    have hh : hsz (encs l).length ≤ L := by have := hL.out; omega
    have hcall := putHead_any b L n0 192 (encs l).length t _ W hh (by have := hL.out; omega) hm (by have := hL.out; omega) (by omega) hBW
    have hc := hFW.cell (j := 0) rfl
    have hf := hFW.free 0
    have hLn : (n : Int) - (L : Int) = ((encs l).length : Int) := by have := hL.out; omega
    have HH := Lib.hid (And.intro hL.out (And.intro hl hh))
    clear hl hll hh
    generalize hM : encs l = M at *
    gi_wp2_with (refine ⟨trivial, ?_⟩; gi_at_call 102; refine (callsIn_wide.2 hcall).mono ?_; rintro e w4 hpp; obtain rfl := hpp.1; have hFW4 := hpp.2.1.blk hFW (by simp; omega); replace hc := hFW4.cell (j := 0) rfl; replace hf := hFW4.free 0)
    have hDW : D < W.heap.size := (Array.getElem?_eq_some_iff.1 hK).1
    have hO : Only w.heap.size w4 (w4.setCell ⟨w.heap.size, 0, none⟩ (.slice (some ⟨b, 0, none⟩) (L - (hd 192 M.length).length) n0)) := Only.setCell _ ⟨w.heap.size, 0, none⟩ _
    have hK4 : (w4.setCell ⟨w.heap.size, 0, none⟩ (.slice (some ⟨b, 0, none⟩) (L - (hd 192 M.length).length) n0)).heap[D]? = some (.deferred (some [])) :=
      (hO.block D hne.1).trans ((hpp.2.1.block D hDW (by simpa using hne.2)).trans hK)
    have hfin : PutPost b n n0 t f w (enc (.lst l)) (.returned (.slice (some ⟨b, 0, none⟩) (L - (hd 192 M.length).length) n0)) ((w4.setCell ⟨w.heap.size, 0, none⟩ (.slice (some ⟨b, 0, none⟩) (L - (hd 192 M.length).length) n0)).putObj D (.deferred none)) := by
      have e1 : n - (enc (.lst l)).length = L - (hd 192 M.length).length := by rw [HH.out.2.1, List.length_append]; have := HH.out.1; omega
      have hBel := belowK_b (n₀ := wB.heap.size) (w := wB) (Nat.le_refl _) _ D _ (.deferred none) hD hK4 rfl rfl
      have hT5 := (hT.trans hpp.2.1).only hO (.inl (Nat.le_refl _))
      refine ⟨by rw [e1], ⟨hBel.os.trans hT5.os, hBel.tape.trans hT5.tape, hBel.output.trans hT5.output, Nat.le_trans hT5.size hBel.size, fun q hq hx => (hBel.block q (by omega)).trans (hT5.block q hq hx)⟩, ?_⟩
      rw [e1, HH.out.2.1]
      have h4 := hpp.2.2
      have h5 := wr_wr f (L - (hd 192 M.length).length) (hd 192 M.length) M
      rw [Nat.sub_add_cancel (by rw [hd_length]; exact HH.out.2.2)] at h5
      rw [h5] at h4
      exact (h4.far (p := ⟨w.heap.size, 0, none⟩) (by simp; omega) _).below hBel (by omega)
    refine ⟨by simp, .inl ⟨_, _, rfl, run_takeDeferred hK4, ?_⟩⟩
    refine ⟨_, results_tmp (show Tryz.f70.results = #[.tmp 4] from rfl) _ _ _, ?_⟩
    exact hfin
/-- put of any tree. -/
theorem put_any : ∀ k, PutOK k
  | 0 => fun b n n0 v it t f w h => h.elim
  | k + 1 => fun b n n0 v it t f w h hB hn hn0 hm => by
    cases it with
    | str l =>
      unfold PcV at h
      rw [enc_str] at hn ⊢
      by_cases hs : single l = true
      · rw [if_pos hs] at h
        subst h
        obtain ⟨h1, h2⟩ := single_one hs
        have e : encS l = [l.getD 0 0] := by unfold encS; rw [if_pos hs]; exact h1
        rw [e] at hn ⊢
        exact put_single b n n0 _ t f w (by simp at hn; omega) hn0 hm h2 hB
      · rw [if_neg hs] at h
        obtain ⟨s, rfl, hv⟩ := h
        have e : encS l = hd 128 l.length ++ l := by unfold encS; rw [if_neg hs]
        rw [e] at hn ⊢
        rw [List.length_append, hd_length] at hn
        exact put_text b n n0 s l t f w hn hn0 hm hv hB
    | lst l =>
      unfold PcV at h
      obtain ⟨p, c, rfl, hc, h⟩ := h
      by_cases hl : l = []
      · subst hl
        exact put_list k (put_any k) b n n0 c 0 0 p [] (fun _ => undef) t f w (fun h => absurd h (by simp)) (fun h => absurd h (by simp)) (fun j h => absurd h (by simp)) hB hn hn0 hm
      · obtain ⟨bl, off, rfl, h1, h2, h3⟩ := h hl
        refine put_list k (put_any k) b n n0 c bl off _ l (fun j => (w.cell? ⟨bl, off + j, none⟩).getD undef) t f w (fun _ => rfl) (fun _ => ⟨h1, by simpa using h2⟩) (fun j hj => ?_) hB hn hn0 hm
        obtain ⟨u, h4, h5⟩ := h3 j hj
        exact ⟨by rw [h4]; rfl, by rw [h4]; exact h5⟩
end Go.Proofs.YthchmnhoombecaaGreat
