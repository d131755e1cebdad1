/- The item of a list's tree; of any tree. -/
import Derived.Test.YtacnechjofnnjaaR19
namespace Go.Proofs.Ytacnechjofnnjaa
open Go.RowKit

theorem St.setc {bs : List Nat} {w0 w : World} {L : List Ent} {b : Nat} {t : TypeId} {c : Array Value} (h : St bs w0 w ((b, t, c) :: L)) (j : Nat) (v : Value) : St bs w0 (w.setCell ⟨b, j, none⟩ v) ((b, t, c.setIfInBounds j v) :: L) :=
  h.upd .head (Only.setCell w ⟨b, j, none⟩ v) ((h.get .head).set j v)
theorem set3_at {c : Array Value} {j : Nat} {a b d : Value} (h : j + 2 < c.size) : (((c.setIfInBounds j a).setIfInBounds (j + 1) b).setIfInBounds (j + 2) d)[j]? = some a ∧ (((c.setIfInBounds j a).setIfInBounds (j + 1) b).setIfInBounds (j + 2) d)[j + 1]? = some b ∧ (((c.setIfInBounds j a).setIfInBounds (j + 1) b).setIfInBounds (j + 2) d)[j + 2]? = some d := by
  refine ⟨?_, ?_, ?_⟩
  · rw [Array.getElem?_setIfInBounds_ne (by omega), Array.getElem?_setIfInBounds_ne (by omega), Array.getElem?_setIfInBounds_self_of_lt (by omega)]
  · rw [Array.getElem?_setIfInBounds_ne (by omega), Array.getElem?_setIfInBounds_self_of_lt (by simp; omega)]
  · rw [Array.getElem?_setIfInBounds_self_of_lt (by simp; omega)]
theorem set3_off {c : Array Value} {j i : Nat} {a b d : Value} (h : i < j ∨ j + 2 < i) : (((c.setIfInBounds j a).setIfInBounds (j + 1) b).setIfInBounds (j + 2) d)[i]? = c[i]? := by
  rw [Array.getElem?_setIfInBounds_ne (by omega), Array.getElem?_setIfInBounds_ne (by omega), Array.getElem?_setIfInBounds_ne (by omega)]
theorem ili_step {w wr w2 : World} {k n b0 b1 Rb m : Nat} {ts : List It} {d : Bool} {p1 p2 : Option Addr} {n1 c1 n2 c2 : Nat} {c : Array Value} (hn : n = ts.length) (hm : m < n) (hT2 : Tch [] wr.drew w2) (hitf : ItF wr.drew w2 k (.bool d) (.slice p1 n1 c1) (.slice p2 n2 c2) (ts[m]'(by omega)))
    (hS : St [] w wr [(Rb, 25, c), (b1, 25, #[.bool true, .slice none 0 0, .slice (some ⟨Rb, 0, none⟩) n n]), (b0, 25, #[.bool false, .slice none 0 0, .slice none 0 0])]) (hc : c.size = n * 3)
    (hps : ∀ q (h : q < ts.length), q < m → ∃ y0 yb yl, c[q * 3]? = some y0 ∧ c[q * 3 + 1]? = some yb ∧ c[q * 3 + 2]? = some yl ∧ ∀ X, (∀ x ∈ X, x < w.heap.size) → ItC (Rb :: b0 :: X) wr k y0 yb yl ts[q]) :
    ILI w k n ts b0 b1 Rb (m + 1) (((w2.setCell ⟨Rb, m * 3, none⟩ (.bool d)).setCell ⟨Rb, m * 3 + 1, none⟩ (.slice p1 n1 c1)).setCell ⟨Rb, m * 3 + 2, none⟩ (.slice p2 n2 c2)) := by
  have hS3 := (((hS.drew.call hT2).setc (m * 3) (.bool d)).setc (m * 3 + 1) (.slice p1 n1 c1)).setc (m * 3 + 2) (.slice p2 n2 c2)
  have hO : Only Rb w2 (((w2.setCell ⟨Rb, m * 3, none⟩ (.bool d)).setCell ⟨Rb, m * 3 + 1, none⟩ (.slice p1 n1 c1)).setCell ⟨Rb, m * 3 + 2, none⟩ (.slice p2 n2 c2)) := ((Only.setCell w2 ⟨Rb, m * 3, none⟩ _).trans (Only.setCell _ ⟨Rb, m * 3 + 1, none⟩ _)).trans (Only.setCell _ ⟨Rb, m * 3 + 2, none⟩ _)
  refine ⟨_, hS3, by simp [hc], fun q hq hqm => ?_⟩
  have hT3 : ∀ X, Tch (Rb :: X) w2 _ := fun X => (Tch.refl _ _).only hO (.inr (by simp))
  have hTd : Tch [] wr w2 := ⟨hT2.os, hT2.tape, hT2.output, hT2.size, hT2.block⟩
  by_cases hqe : q = m
  · subst hqe
    obtain ⟨h1, h2, h3⟩ := set3_at (a := .bool d) (b := .slice p1 n1 c1) (d := .slice p2 n2 c2) (c := c) (j := q * 3) (by omega)
    exact ⟨_, _, _, h1, h2, h3, fun X hX => (hitf (Rb :: b0 :: X) (fun x hx => by
      rcases List.mem_cons.1 hx with rfl | hx
      · exact (hS.get .head).lt
      rcases List.mem_cons.1 hx with rfl | hx
      · exact (hS.get (.tail (.tail .head))).lt
      · exact Nat.lt_of_lt_of_le (hX x hx) hS.frame.size)).tch (hT3 _)⟩
  · obtain ⟨y0, yb, yl, h1, h2, h3, h4⟩ := hps q hq (by omega)
    exact ⟨y0, yb, yl, by rw [set3_off (by omega)]; exact h1, by rw [set3_off (by omega)]; exact h2, by rw [set3_off (by omega)]; exact h3, fun X hX => ((h4 X hX).tch (hTd.mono (by simp))).tch (hT3 _)⟩
theorem ili_end {w wr w4 : World} {k n b0 b1 Rb : Nat} {ts : List It} (hn : n = ts.length) (hlen : n ≤ 100000000) (hI : ILI w k n ts b0 b1 Rb n wr) (hw : w.heap.size ≤ Rb) (hO : Only b0 wr w4) (hT : Tch [] w w4) (hne : b0 ≠ Rb) :
    ItemPost w (k + 1) (.lst ts) (.returned (.agg #[.bool true, .slice none 0 0, .slice (some ⟨Rb, 0, none⟩) n n])) w4 := by
  obtain ⟨c, hS, hc, hps⟩ := hI
  refine ⟨hT, _, _, _, _, _, _, _, rfl, fun X hX => ?_⟩
  have hB := hO.blk (Ne.symm hne) (hS.get .head)
  unfold ItC
  refine ⟨rfl, _, n, by rw [hn], by omega, fun _ => ⟨Rb, 0, rfl, hB.lt, fun hm => by have := hX _ hm; omega, fun i hi => ?_⟩⟩
  obtain ⟨y0, yb, yl, h1, h2, h3, h4⟩ := hps i hi (by omega)
  refine ⟨y0, yb, yl, by rw [Nat.zero_add]; exact hB.cell h1, by rw [Nat.zero_add]; exact hB.cell h2, by rw [Nat.zero_add]; exact hB.cell h3, ?_⟩
  exact ((h4 X hX).tch ((Tch.refl _ _).only hO (.inr (by simp)))).mono (fun y hy => .inl (List.mem_cons_of_mem _ (List.mem_cons_of_mem _ hy)))
theorem madeI_size (n : Nat) : (madeCells (Value.agg #[.bool false, .slice none 0 0, .slice none 0 0]).cells (n * 3)).size = n * 3 := by simp [madeCells]
theorem row_blk {w : World} {B g n cap sz : Nat} {e : TypeId} {xs : List Value} (h : w.ownsRow B e sz (.slice (some ⟨g, 0, none⟩) n cap) n xs) : ∃ cur, Blk w g e cur ∧ cur.size = cap * sz := by
  rcases h.2 with ⟨h1, _⟩ | ⟨g', cap', cur, h1, _, hb, _, _, hcs, _⟩
  · cases h1
  · cases h1; exact ⟨cur, hb, hcs⟩
set_option maxHeartbeats 800000 in
set_option maxRecDepth 100000 in
theorem item_list (k : Nat) (ih : ItemOK k) (X : List Nat) (p : Option Addr) (c : Nat) (ts : List It) (w : World) (hlen : (enc (.lst ts)).length ≤ 100000000) (hv : PcV X w (k + 1) (.iface 61 (.slice p ts.length c)) (.lst ts)) : Calls Try.prog 18 #[.iface 61 (.slice p ts.length c)] w (ItemPost w (k + 1) (.lst ts)) := by
  obtain ⟨f0, f1, f2, hty, _⟩ := item_ty
  obtain ⟨i0, hi, hz0, hz1, hz2⟩ := info_parts item_infos
  unfold PcV at hv
  obtain ⟨p', c', he, hcap, hcells⟩ := hv
  cases he
  have hS := St.start w
  have k1 := taLS
  have k2 := taLT
  have k3 := taLL
  have hel : ∀ i (h : i < ts.length), (enc ts[i]).length ≤ 100000000 := fun i h => by
    have h1 := encs_item ts i h
    rw [enc_lst, List.length_append] at hlen
    omega
  have hn8 : ts.length ≤ 100000000 := by
    have := encs_len ts
    rw [enc_lst, List.length_append] at hlen
    omega
  obtain ⟨n, hn⟩ : ∃ n, n = ts.length := ⟨_, rfl⟩
  rw [← hn] at hcap ⊢
  have HN := Lib.hid hn
  have HC := Lib.hid (And.intro hcells hel)
  have hn9 : n ≤ 100000000 := by omega
  clear hcells hel hn hlen hn8
  go_enter Try.func18, Try.ntmps18
  go_wp2_with (first
    | (refine st_new (L := []) hS rfl 25 rfl item_zero ?_; clear hS; intro w0 b0 hS)
    | (refine st_new hS rfl 25 rfl item_zero ?_; clear hS; intro w1 b1 hS)
    | (refine st_store1v (j := 0) (v := .bool true) hS rfl 4 _ _ rfl rfl rfl rfl bool_size (by repeat (first | exact Upd.head | apply Upd.tail)) (by decide) ?_; clear hS; intro w2 hS)
    | (refine wpList_make_full w2 rfl _ _ 23 rfl w.heap.size 25 i0 _ 3 items_ty hi hz0 hz1 .i64 .i64 _ _ n rfl rfl rfl rfl (by rw [hz2]; omega) (by unfold maxLen; omega) hS.frame.size ?_; intro w3 hown hg; obtain ⟨cur, hcb, hcs⟩ := row_blk hown; replace hS := hS.callNew ⟨hg.os, hg.tape, hg.output, hg.size, fun q hq _ => hg.block q hq (by simp)⟩ hcb (Nat.le_refl _); clear hown hg hcb)
    | (refine st_store1v (j := 2) (v := .slice (some ⟨w2.heap.size, 0, none⟩) n n) hS rfl 23 _ _ rfl rfl rfl rfl sli_size (by repeat (first | exact Upd.head | apply Upd.tail)) (by decide) ?_; clear hS; intro w4 hS))
  have hF := hS.frame.size
  have hge0 := (hS.own (.tail (.tail .head))).resolve_right (by simp)
  have hgeR := (hS.own .head).resolve_right (by simp)
  have hRlt := (hS.get .head).lt
  have hne0 : b0 ≠ w2.heap.size := fun e => (List.pairwise_cons.1 hS.apart).1 (b0, _, _) (.tail _ (.head _)) e.symm
  obtain ⟨Rb, hRb⟩ : ∃ Rb, w2.heap.size = Rb := ⟨_, rfl⟩
  rw [hRb] at hS hgeR hRlt hne0 ⊢
  have hI0 : ILI w k n ts b0 b1 Rb 0 w4 := ⟨cur, hS, hcs, fun q _ hq => absurd hq (by omega)⟩
  have H0 := Lib.hid hI0
  clear hI0 hS hRb hcs
  go_loopw [32] (fun i wr => ∃ m : Nat, m ≤ n ∧ i = .int .i64 (m : Int) ∧ ILI w k n ts b0 b1 Rb m wr) (fun i _ => n - (intOf i).toNat)
  case atStart => exact ⟨0, Nat.zero_le _, rfl, H0.out⟩
  case round =>
    obtain ⟨m, hm, rfl, hI⟩ := hrel
    obtain ⟨cs, hS, hcs, hps⟩ := id hI
    have HI := Lib.hid hI
    have HPS := Lib.hid (And.intro hcs hps)
    clear hI hcs hps
    by_cases hlt : m < n
    · have hmt : m < ts.length := by have := HN.out; omega
      obtain ⟨b, o, rfl, hbw, hbX, hcc⟩ := HC.out.1 (by intro e; rw [e] at hmt; simp at hmt)
      obtain ⟨u, hcu, hpu⟩ := hcc m hmt
      have hc := (hS.frame.cell (p := ⟨b, o + m, none⟩) hbw (by simp)).trans hcu
      have hcall := ih X u ts[m] wr.drew ((hpu.tch (hS.frame.mono (by simp))).tch ((Tch.refl _ _).drew)) (HC.out.2 m hmt)
      have HK := Lib.hid hcall
      have hlf := (hS.get (.tail .head)).cell (j := 2) rfl
      have hlt1 := (hS.get (.tail .head)).lt
      have hne1 : b1 ≠ Rb := fun e => hS.apart2 e.symm
      have hq : cs[m * 3]? = some (cs[m * 3]'(by have := HPS.out.1; omega)) ∧ cs[m * 3 + 1]? = some (cs[m * 3 + 1]'(by have := HPS.out.1; omega)) ∧ cs[m * 3 + 2]? = some (cs[m * 3 + 2]'(by have := HPS.out.1; omega)) := ⟨Array.getElem?_eq_getElem _, Array.getElem?_eq_getElem _, Array.getElem?_eq_getElem _⟩
      have HQ := Lib.hid hq
      clear hcall hcc hcu hpu hq
      go_wp2
      go_region_held3 (fun w' => w'.cell? ⟨b1, 2, none⟩ = some (.slice (some ⟨Rb, 0, none⟩) n n))
        (first
          | go_keep
          | (rw [hT2.cell (p := ⟨b1, 2, none⟩) hlt1 (by simp)]; assumption)
          | exact (((hB15.far (p := ⟨Rb, m * 3, none⟩) hne1 _).far (p := ⟨Rb, m * 3 + 1, none⟩) hne1 _).far (p := ⟨Rb, m * 3 + 2, none⟩) hne1 _).cell rfl)
        (first
          | (go_at_call 18; refine HK.out.mono ?_; rintro e w5 ⟨hT2, d, p1, n1, c1, p2, n2, c2, rfl, hitf⟩; have hB5 := (hS.drew.call hT2).get .head; have hB15 := (hS.drew.call hT2).get (.tail .head); have hq0 := hB5.cell (HQ.out.1); have hq1 := hB5.cell (HQ.out.2.1); have hq2 := hB5.cell (HQ.out.2.2); have hf0 := hB5.free (m * 3); have hf1 := hB5.free (m * 3 + 1); have hf2 := hB5.free (m * 3 + 2)))
      have hIs := ili_step HN.out hlt hT2 hitf hS HPS.out.1 HPS.out.2
      have HIS := Lib.hid hIs
      clear hIs hq0 hq1 hq2 hf0 hf1 hf2 hB5 hB15 hitf
      go_wp2
      go_roundw
      case rel => exact ⟨m + 1, by omega, by go_num, HIS.out⟩
      case measure => simp [intOf]; omega
    · obtain rfl : m = n := by omega
      go_wp2_with (first
        | (refine st_load hS rfl 25 _ rfl rfl (by repeat (first | exact At.head | apply At.tail)) hty rfl item_size (by rfl) ?_)
        | (refine arm_store (w' := wr.setRow b0 #[.bool true, .slice none 0 0, .slice (some ⟨Rb, 0, none⟩) m m]) (b := b0) (c := #[.bool true, .slice none 0 0, .slice (some ⟨Rb, 0, none⟩) m m]) rfl 25 _ _ rfl rfl rfl ((hS.get (.tail (.tail .head))).store item_size (by rfl) (by rfl) (one3 rfl rfl rfl)) ?_))
      have hS7 := hS.upd (.tail (.tail .head)) (Only.setRow wr b0 #[.bool true, .slice none 0 0, .slice (some ⟨Rb, 0, none⟩) m m]) ((hS.get (.tail (.tail .head))).row _)
      exact st_post (c := #[.bool true, .slice none 0 0, .slice (some ⟨Rb, 0, none⟩) m m]) hS7 2 25 rfl rfl rfl (by repeat (first | exact At.head | apply At.tail)) hty rfl item_size rfl (fun hT => ili_end HN.out hn9 HI.out hgeR (Only.setRow wr b0 _) hT hne0)
theorem item_any : ∀ k, ItemOK k
  | 0 => fun X v it w h _ => h.elim
  | k + 1 => fun X v it w h hl => by
    cases it with
    | str l =>
      unfold PcV at h
      by_cases hs : single l = true
      · rw [if_pos hs] at h
        subst h
        obtain ⟨h1, h2⟩ := single_one hs
        have := item_single (l.getD 0 0) k w h2
        rwa [← h1] at this
      · rw [if_neg hs] at h
        obtain ⟨s, rfl, hv⟩ := h
        refine item_text X k s l w ?_ hv
        rw [enc_str] at hl
        unfold encS at hl
        rw [if_neg hs, List.length_append] at hl
        omega
    | lst l =>
      obtain ⟨p, c, rfl⟩ : ∃ p c, v = .iface 61 (.slice p l.length c) := by
        unfold PcV at h
        obtain ⟨p, c, h, _⟩ := h; exact ⟨p, c, h⟩
      exact item_list k (item_any k) X p c l w hl h
end Go.Proofs.Ytacnechjofnnjaa
