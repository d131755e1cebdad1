/- The document's part: byte strings. -/
import Derived.Test.YtnkfkahbkjdnpaaR27
namespace Go.Proofs.Ytnkfkahbkjdnpaa
open Go.RowKit

theorem short_some {x : Nat} {r : List Nat} {h n : Nat} (hs : spl (x :: r) = some (h, n)) (hx : 128 ≤ x) (h64 : x % 64 ≤ 55) : h = 1 ∧ n = x % 64 ∧ n ≤ r.length ∧ ¬ (x = 129 ∧ r.getD 0 0 < 128) := by
  rw [spl_cons, if_neg (by omega), if_pos h64] at hs
  obtain ⟨rfl, rfl, h3, h4⟩ := chk_some hs
  simp only [List.length_cons] at h3
  exact ⟨rfl, rfl, by omega, by simpa using h4⟩
/-- The end at a byte string. -/
theorem part_str_end {j x h n0 V A : Nat} {r l : List Nat} {w w6 : World} {p2 : Option Addr} {n2 c2 : Nat} {n : Int} (hg : x < 192) (hx : 128 ≤ x) (hs : spl (x :: r) = some (h, n0)) (hA : A = h) (hV : V = n0) (hn : n = ((A + V : Nat) : Int)) (hl : l = ((x :: r).drop h).take n0) (hr : RdF w w6 (.slice p2 n2 c2) l) (hlen : (x :: r).length ≤ 16777216) (hT : Tch [] w w6) :
    PartPost j (x :: r) w (.returned (.tuple #[.agg #[.bool false, .slice p2 n2 c2, .slice none 0 0], .int .i64 n, .int .i64 0])) w6 := by
  subst hA; subst hV
  have hle := spl_some hs
  have hdec : dec j (x :: r) = .ok (.str l, (x :: r).drop (A + V)) := by
    rw [dec_eq, if_neg (by simp; omega), hs, hl]; simp only []; rw [if_pos (by simp; omega)]
  refine partpost_yes (k := 1) hdec hn (by rw [List.length_drop]; omega) rfl (by omega) (fun X hX => ?_) hT
  unfold ItC
  refine ⟨rfl, hr X hX, ?_⟩
  rw [hl, List.length_take, List.length_drop]; omega
set_option maxHeartbeats 1000000 in
set_option maxRecDepth 100000 in
theorem part_short_text (j : Nat) (v : Value) (x : Nat) (r : List Nat) (w : World) (hn : (x :: r).length ≤ 16777216) (hv : RdA [] w v (x :: r)) (h n0 : Nat) (body : List Nat) (hx : 128 ≤ x) (hx1 : x < 192) (hs : spl (x :: r) = some (h, n0)) (h64 : x % 64 ≤ 55) (hbody : body = ((x :: r).drop h).take n0) : Calls Try.prog 25 #[v, .int .i64 (j : Int)] w (PartPost j (x :: r) w) := by
  obtain ⟨f0, f1, f2, hty, _⟩ := item_ty
  have hS := St.start w
  obtain ⟨p, n, c, rfl⟩ := slice_keep hv
  obtain ⟨p', c', hp, hcap, hb, h4⟩ := id hv
  have hxb := hb x List.mem_cons_self
  cases hp
  obtain ⟨b, o, rfl, hbw, _, h8⟩ := h4 (by simp)
  have hc0 := h8 0 (by simp)
  rw [Nat.add_zero] at hc0
  simp only [List.getD_cons_zero] at hc0
  obtain ⟨rfl, rfl, hfit, hno⟩ := short_some hs hx h64
  have hg : ¬ (192 ≤ x ∧ j = 0) := by omega
  have hx2 : ¬ (x : Int) < 128 := by omega
  have hxx : (192 ≤ x ∧ 0 < j) ∨ x < 192 := by
    rcases Nat.lt_or_ge x 192 with h | h
    · exact .inr h
    · exact .inl ⟨h, by rcases Nat.eq_zero_or_pos j with h0 | h0; exact absurd ⟨h, h0⟩ hg; exact h0⟩
  obtain ⟨N, hN⟩ : ∃ N, N = x % 64 := ⟨_, rfl⟩
  have hand := and63 x hxb
  rw [← hN] at hand
  have hk4 : ∀ w' : World, Tch [] w w' → w'.cell? ⟨b, o, none⟩ = some (.int .u8 (x : Int)) := fun w' hT => (hT.cell (p := ⟨b, o, none⟩) hbw (by simp)).trans hc0
  have HK := Lib.hid hk4
  have hHE := And.intro hx1 (And.intro hx (And.intro hs hbody))
  have hbb : ∀ y ∈ body, y < 256 := fun y hy => hb y (by rw [hbody] at hy; exact List.mem_of_mem_drop (List.mem_of_mem_take hy))
  have hbl : body.length ≤ 100000000 := by rw [hbody, List.length_take, List.length_drop]; simp at hn ⊢; omega
  have HE := Lib.hid hHE
  have HBB := Lib.hid hbb
  have HBL := Lib.hid hbl
  have hX : ∀ q, (c ≠ 1 → q = some ⟨b, o + 1, none⟩) → RdA [] w (.slice q N (c - 1)) body := fun q hq => by
    by_cases hc1 : c = 1
    · have h0 : N = 0 := by have : r.length + 1 ≤ c := hcap; omega
      have hb0 : body = [] := by rw [hbody, ← hN, h0, List.take_zero]
      rw [hb0, h0]
      exact ⟨q, c - 1, rfl, Nat.zero_le _, by simp, fun h => absurd rfl h⟩
    · rw [hq hc1, hbody, ← hN]
      exact (hv.from_ne 1 (by simp)).take (by simp; omega)
  have HX := Lib.hid hX
  have hN55 : N ≤ 55 := by omega
  have hlt55 : ¬ (55 : Int) < (N : Int) := by omega
  have hfit2 : ¬ ((r.length + 1 : Nat) : Int) - 1 < (N : Int) := by omega
  have hfit3 : N ≤ r.length := by omega
  have hcap2 : r.length + 1 ≤ c := hcap
  have hx4 : ¬ (192 : Int) ≤ x := by omega
  have hk5 : N = 1 → ∀ w' : World, Tch [] w w' → ∃ y, ¬ (y : Int) < 128 ∧ w'.cell? ⟨b, o + 1, none⟩ = some (.int .u8 (y : Int)) := fun h1 w' hT => by
    have hc1 := h8 1 (by simp; omega)
    simp only [List.getD_cons_succ] at hc1
    refine ⟨((r.getD 0 0 : Nat) : Int), by omega, (hT.cell (p := ⟨b, o + 1, none⟩) hbw (by simp)).trans hc1⟩
  have HK5 := Lib.hid hk5
  have HN := Lib.hid hN
  have hlen3 : r.length + 1 ≤ 16777216 := hn
  clear h8 h4 hv hb hk4 hk5 hc0 hs hg hN hX hHE hbb hbl hbody h64 hno hfit
  simp only [List.length_cons] at *
  rcases hxx with h | hx3
  · exact absurd h.1 (by omega)
  · clear hx3
    by_cases hN1 : N = 1
    · subst hN1
      have hcc : ¬ c = 1 := by omega
      go_enter Try.func25, Try.ntmps25
      go_wp2_with (first
        | (refine st_new (L := []) hS rfl 25 rfl item_zero ?_; clear hS; intro w4 b4 hS; have hc4 := HK.out w4 hS.frame; obtain ⟨y5, hy5, hc5⟩ := HK5.out rfl w4 hS.frame)
        | (refine st_cloneB (v := .slice (some ⟨b, o + 1, none⟩) 1 (c - 1)) (l := body) (by rfl) _ _ (by rfl) (by rfl) (by rfl) (RdA.tch (by first | exact HX.out _ (fun _ => rfl) | (rw [Nat.add_sub_cancel_left]; exact HX.out _ (fun _ => rfl))) hS.frame) HBL.out ?_
           intro v5 w5 hown hT5
           have hrd := RdF.own hown HBB.out
           obtain ⟨p2, n2, c2, rfl⟩ := slice_keep (hrd [] (by simp))
           have HRD := Lib.hid hrd
           have hB4 := (hS.call hT5).get .head
           have hF := hS.frame
           have hlt4 := (hS.get .head).lt
           have hge4 := (hS.own .head).resolve_right (by simp)
           clear hS hown hrd
           have hS := St.one hB4)
        | (refine st_store (c' := #[.bool false, .slice p2 n2 c2, .slice none 0 0]) hS rfl 25 _ _ rfl rfl rfl (by repeat (first | exact Upd.head | apply Upd.tail)) item_size (by rfl) (by rfl) (one3 rfl rfl rfl) ?_; clear hS; intro w6 hS))
      refine post_cell_two 4 5 6 25 rfl rfl rfl rfl rfl (hS.get .head) hty rfl item_size rfl (part_str_end (h := 1) (n0 := x % 64) HE.out.1 HE.out.2.1 HE.out.2.2.1 rfl HN.out rfl HE.out.2.2.2 (fun X hX => ?_) (by simp; omega) ((hF.trans hT5).fresh hS.frame (fun y hy => by simp at hy; omega)))
      exact ((HRD.out (b4 :: X) (fun y hy => by
        rcases List.mem_cons.1 hy with rfl | hy
        · exact hlt4
        · exact Nat.lt_of_lt_of_le (hX y hy) hF.size)).tch (hS.frame.mono (by simp))).mono (fun y hy => .inl (List.mem_cons_of_mem _ hy))
    · have hN1' : ((N : Int) == 1) = false := by rw [beq_eq_false_iff_ne]; omega
      by_cases hcc : c = 1
      · subst hcc
        go_enter Try.func25, Try.ntmps25
        go_wp2_with (first
          | (refine st_new (L := []) hS rfl 25 rfl item_zero ?_; clear hS; intro w4 b4 hS; have hc4 := HK.out w4 hS.frame)
          | (refine st_cloneB (v := .slice (some ⟨b, o, none⟩) (1 + N - 1) 0) (l := body) (by rfl) _ _ (by rfl) (by rfl) (by rfl) (RdA.tch (by first | exact HX.out _ (fun h => absurd rfl h) | (rw [Nat.add_sub_cancel_left]; exact HX.out _ (fun h => absurd rfl h))) hS.frame) HBL.out ?_
             intro v5 w5 hown hT5
             have hrd := RdF.own hown HBB.out
             obtain ⟨p2, n2, c2, rfl⟩ := slice_keep (hrd [] (by simp))
             have HRD := Lib.hid hrd
             have hB4 := (hS.call hT5).get .head
             have hF := hS.frame
             have hlt4 := (hS.get .head).lt
             have hge4 := (hS.own .head).resolve_right (by simp)
             clear hS hown hrd
             have hS := St.one hB4)
          | (refine st_store (c' := #[.bool false, .slice p2 n2 c2, .slice none 0 0]) hS rfl 25 _ _ rfl rfl rfl (by repeat (first | exact Upd.head | apply Upd.tail)) item_size (by rfl) (by rfl) (one3 rfl rfl rfl) ?_; clear hS; intro w6 hS))
        refine post_cell_two 4 5 6 25 rfl rfl rfl rfl rfl (hS.get .head) hty rfl item_size rfl (part_str_end (h := 1) (n0 := x % 64) HE.out.1 HE.out.2.1 HE.out.2.2.1 rfl HN.out (by first | omega | simp) HE.out.2.2.2 (fun X hX => ?_) (by simp; omega) ((hF.trans hT5).fresh hS.frame (fun y hy => by simp at hy; omega)))
        exact ((HRD.out (b4 :: X) (fun y hy => by
          rcases List.mem_cons.1 hy with rfl | hy
          · exact hlt4
          · exact Nat.lt_of_lt_of_le (hX y hy) hF.size)).tch (hS.frame.mono (by simp))).mono (fun y hy => .inl (List.mem_cons_of_mem _ hy))
      · go_enter Try.func25, Try.ntmps25
        go_wp2_with (first
          | (refine st_new (L := []) hS rfl 25 rfl item_zero ?_; clear hS; intro w4 b4 hS; have hc4 := HK.out w4 hS.frame)
          | (refine st_cloneB (v := .slice (some ⟨b, o + 1, none⟩) (1 + N - 1) (c - 1)) (l := body) (by rfl) _ _ (by rfl) (by rfl) (by rfl) (RdA.tch (by first | exact HX.out _ (fun _ => rfl) | (rw [Nat.add_sub_cancel_left]; exact HX.out _ (fun _ => rfl))) hS.frame) HBL.out ?_
             intro v5 w5 hown hT5
             have hrd := RdF.own hown HBB.out
             obtain ⟨p2, n2, c2, rfl⟩ := slice_keep (hrd [] (by simp))
             have HRD := Lib.hid hrd
             have hB4 := (hS.call hT5).get .head
             have hF := hS.frame
             have hlt4 := (hS.get .head).lt
             have hge4 := (hS.own .head).resolve_right (by simp)
             clear hS hown hrd
             have hS := St.one hB4)
          | (refine st_store (c' := #[.bool false, .slice p2 n2 c2, .slice none 0 0]) hS rfl 25 _ _ rfl rfl rfl (by repeat (first | exact Upd.head | apply Upd.tail)) item_size (by rfl) (by rfl) (one3 rfl rfl rfl) ?_; clear hS; intro w6 hS))
        refine post_cell_two 4 5 6 25 rfl rfl rfl rfl rfl (hS.get .head) hty rfl item_size rfl (part_str_end (h := 1) (n0 := x % 64) HE.out.1 HE.out.2.1 HE.out.2.2.1 rfl HN.out (by first | omega | simp) HE.out.2.2.2 (fun X hX => ?_) (by simp; omega) ((hF.trans hT5).fresh hS.frame (fun y hy => by simp at hy; omega)))
        exact ((HRD.out (b4 :: X) (fun y hy => by
          rcases List.mem_cons.1 hy with rfl | hy
          · exact hlt4
          · exact Nat.lt_of_lt_of_le (hX y hy) hF.size)).tch (hS.frame.mono (by simp))).mono (fun y hy => .inl (List.mem_cons_of_mem _ hy))
set_option maxHeartbeats 1000000 in
set_option maxRecDepth 100000 in
theorem part_long_text (j : Nat) (v : Value) (x : Nat) (r : List Nat) (w : World) (hn : (x :: r).length ≤ 16777216) (hv : RdA [] w v (x :: r)) (h n0 : Nat) (body : List Nat) (hx : 128 ≤ x) (hx1 : x < 192) (hs : spl (x :: r) = some (h, n0)) (h64 : 55 < x % 64) (hbody : body = ((x :: r).drop h).take n0) : Calls Try.prog 25 #[v, .int .i64 (j : Int)] w (PartPost j (x :: r) w) := by
  obtain ⟨f0, f1, f2, hty, _⟩ := item_ty
  have hS := St.start w
  obtain ⟨p, n, c, rfl⟩ := slice_keep hv
  obtain ⟨p', c', hp, hcap, hb, h4⟩ := id hv
  have hxb := hb x List.mem_cons_self
  cases hp
  obtain ⟨b, o, rfl, hbw, _, h8⟩ := h4 (by simp)
  have hc0 := h8 0 (by simp)
  rw [Nat.add_zero] at hc0
  simp only [List.getD_cons_zero] at hc0
  obtain ⟨hf, hy, hm4, hm1, hnv, hh, hn55, hfit0⟩ := long_some hs hx h64 rfl
  have hg : ¬ (192 ≤ x ∧ j = 0) := by omega
  have hx2 : ¬ (x : Int) < 128 := by omega
  have hxx : (192 ≤ x ∧ 0 < j) ∨ x < 192 := by
    rcases Nat.lt_or_ge x 192 with h | h
    · exact .inr h
    · exact .inl ⟨h, by rcases Nat.eq_zero_or_pos j with h0 | h0; exact absurd ⟨h, h0⟩ hg; exact h0⟩
  obtain ⟨N, hN⟩ : ∃ N, N = x % 64 := ⟨_, rfl⟩
  have hand := and63 x hxb
  rw [← hN] at hand
  have hk4 : ∀ w' : World, Tch [] w w' → w'.cell? ⟨b, o, none⟩ = some (.int .u8 (x : Int)) := fun w' hT => (hT.cell (p := ⟨b, o, none⟩) hbw (by simp)).trans hc0
  have HK := Lib.hid hk4
  obtain ⟨m, hm⟩ : ∃ m, m = x % 64 - 55 := ⟨_, rfl⟩
  have hlt55 : (55 : Int) < (N : Int) := by omega
  have hmN : (N : Int) - 55 = (m : Int) := by omega
  have hN64 : N < 64 := by omega
  have hm8 : m ≤ 8 := by omega
  have hr1 : 1 ≤ r.length := by omega
  have hrb : ∀ y ∈ r, y < 256 := fun y hy => hb y (List.mem_cons_of_mem _ hy)
  have hkall : ∀ i, i < r.length → ∀ w' : World, Tch [] w w' → w'.cell? ⟨b, o + (1 + i), none⟩ = some (.int .u8 ((r.getD i 0 : Nat) : Int)) := fun i hi w' hT => by
    have := h8 (1 + i) (by simp; omega)
    rw [Nat.add_comm 1 i, List.getD_cons_succ] at this
    rw [Nat.add_comm 1 i]
    exact (hT.cell (p := ⟨b, o + (i + 1), none⟩) hbw (by simp)).trans this
  have hk5 : ∀ w' : World, Tch [] w w' → w'.cell? ⟨b, o + 1, none⟩ = some (.int .u8 ((r.getD 0 0 : Nat) : Int)) := fun w' hT => hkall 0 (by omega) w' hT
  have hki : ∀ i, i < m → ∀ w' : World, Tch [] w w' → w'.cell? ⟨b, o + (1 + i), none⟩ = some (.int .u8 ((r.getD i 0 : Nat) : Int)) := fun i hi => hkall i (by omega)
  have hvs : ∀ i, i < m → val (r.take (i + 1)) = val (r.take i) * 256 + r.getD i 0 ∧ r.getD i 0 < 256 := fun i hi => val_step hrb (by omega)
  have hy0 : ((r.getD 0 0 : Int) == 0) = false := by rw [beq_eq_false_iff_ne]; omega
  have hy1 : ¬ (r.getD 0 0 : Int) = 0 := by omega
  have hshort : ¬ ((r.length + 1 : Nat) : Int) < 1 + (m : Int) := by omega
  have HK5 := Lib.hid hk5
  have HKI := Lib.hid hki
  have HV := Lib.hid hvs
  have HM := Lib.hid hm
  have hHE := And.intro hx1 (And.intro hx (And.intro hs hbody))
  have hbb : ∀ y ∈ body, y < 256 := fun y hy => hb y (by rw [hbody] at hy; exact List.mem_of_mem_drop (List.mem_of_mem_take hy))
  have hbl : body.length ≤ 100000000 := by rw [hbody, List.length_take, List.length_drop]; simp at hn ⊢; omega
  have HE := Lib.hid hHE
  have HBB := Lib.hid hbb
  have HBL := Lib.hid hbl
  rw [← hm] at hf hm4 hm1 hnv hh hfit0
  have hcap2 : r.length + 1 ≤ c := hcap
  have hX : ∀ q, q = some ⟨b, o + (1 + m), none⟩ → RdA [] w (.slice q n0 (c - (1 + m))) body := fun q hq => by
    rw [hq, hbody, hh]
    exact (hv.from_ne (1 + m) (by simp; omega)).take (by simp; omega)
  have HX := Lib.hid hX
  have hbig0 : ∀ i, i < m → val (r.take i) < 16777216 := fun i hi => val_take_lt hrb (by omega)
  have HBIG := Lib.hid hbig0
  have HM2 := Lib.hid hnv
  have HH := Lib.hid hh
  have hbo : n0 ≤ r.length - m ∧ 55 < n0 := ⟨hfit0, hn55⟩
  have HBO := Lib.hid hbo
  have hx4 : ¬ (192 : Int) ≤ x := by omega
  have hlen3 : r.length + 1 ≤ 16777216 := hn
  clear h8 h4 hv hb hk4 hk5 hc0 hs hg hN hX hHE hbb hbl hbody h64 hkall hki hvs hrb hbig0 hnv hh hbo hm
  generalize r.getD 0 0 = y0 at *
  simp only [List.length_cons] at *
  rcases hxx with h | hx3
  · exact absurd h.1 (by omega)
  · clear hx3
    go_enter Try.func25, Try.ntmps25
    go_wp2_with (first | (refine st_new (L := []) hS rfl 25 rfl item_zero ?_; clear hS; intro w4 b4 hS; have hc4 := HK.out w4 hS.frame; have hc5 := HK5.out w4 hS.frame))
    have H0 := Lib.hid hS
    clear hS hc4 hc5
    go_loopw [9, 12] (fun nv iv wr => ∃ i : Nat, i ≤ m ∧ iv = .int .i64 (i : Int) ∧ nv = .int .i64 (val (r.take i) : Int) ∧ St [] w wr [(b4, 25, #[.bool false, .slice none 0 0, .slice none 0 0])] ∧ val (r.take i) ≤ 4294967551) (fun _ iv _ => m - (intOf iv).toNat)
    case atStart => exact ⟨0, Nat.zero_le _, rfl, rfl, H0.out, by simp [val]⟩
    case round =>
      obtain ⟨i, him, rfl, rfl, hS, hVB⟩ := hrel
      by_cases hlt : i < m
      · by_cases hbig : 16777216 < val (r.take i)
        · exact absurd (HBIG.out i hlt) (by omega)
        · obtain ⟨hst, hyb⟩ := HV.out i hlt
          have hor := or_byte2 (val (r.take i)) (r.getD i 0) hyb (by omega)
          have hci := HKI.out i hlt wr hS.frame
          have HST := Lib.hid hst
          have hVb : ¬ (16777216 : Int) < (val (r.take i) : Int) := by omega
          have hV2 : val (r.take i) ≤ 16777216 := by omega
          clear hst hbig
          generalize val (r.take i) = V at *
          generalize r.getD i 0 = y at *
          go_wp2
          go_roundw
          case rel => exact ⟨i + 1, by omega, by go_num, by rw [HST.out]; simp, hS, by rw [HST.out]; omega⟩
          case measure => simp [intOf]; omega
      · obtain rfl : i = m := by omega
        have hbo := HBO.out
        have hVV : val (r.take i) = n0 := HM2.out.symm
        rw [hVV]
        have hV : ¬ (n0 : Int) < 56 := by omega
        have hfit : ¬ ((r.length + 1 : Nat) : Int) - (1 + (i : Int)) < (n0 : Int) := by omega
        have hV1 : ((n0 : Int) == 1) = false := by rw [beq_eq_false_iff_ne]; omega
        have hcc : ¬ c = 1 + i := by omega
        generalize hn0 : n0 = V at *
        have HVN := Lib.hid hn0
        clear hn0 hVV
        go_wp2_with (first
          | (refine st_cloneB (v := .slice (some ⟨b, o + (1 + i), none⟩) (1 + i + V - (1 + i)) (c - (1 + i))) (l := body) (by rfl) _ _ (by rfl) (by rfl) (by rfl) (RdA.tch (by first | exact HX.out _ rfl | (rw [Nat.add_sub_cancel_left]; exact HX.out _ rfl)) hS.frame) HBL.out ?_
             intro v5 w5 hown hT5
             have hrd := RdF.own hown HBB.out
             obtain ⟨p2, n2, c2, rfl⟩ := slice_keep (hrd [] (by simp))
             have HRD := Lib.hid hrd
             have hB4 := (hS.call hT5).get .head
             have hF := hS.frame
             have hlt4 := (hS.get .head).lt
             have hge4 := (hS.own .head).resolve_right (by simp)
             clear hS hown hrd
             have hS := St.one hB4)
          | (refine st_store (c' := #[.bool false, .slice p2 n2 c2, .slice none 0 0]) hS rfl 25 _ _ rfl rfl rfl (by repeat (first | exact Upd.head | apply Upd.tail)) item_size (by rfl) (by rfl) (one3 rfl rfl rfl) ?_; clear hS; intro w6 hS))
        refine post_cell_two 4 5 6 25 rfl rfl rfl rfl rfl (hS.get .head) hty rfl item_size rfl (part_str_end (h := h) (n0 := V) HE.out.1 HE.out.2.1 HE.out.2.2.1 HH.out.symm rfl (by first | omega | simp) HE.out.2.2.2 (fun X hX => ?_) (by simp; omega) ((hF.trans hT5).fresh hS.frame (fun y hy => by simp at hy; omega)))
        exact ((HRD.out (b4 :: X) (fun y hy => by
          rcases List.mem_cons.1 hy with rfl | hy
          · exact hlt4
          · exact Nat.lt_of_lt_of_le (hX y hy) hF.size)).tch (hS.frame.mono (by simp))).mono (fun y hy => .inl (List.mem_cons_of_mem _ hy))
end Go.Proofs.Ytnkfkahbkjdnpaa
