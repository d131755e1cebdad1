/- The document's part: lists with a long head. -/
import Derived.Test.YtdjhjgockgmbkaaGreatDoorM30
set_option linter.unusedVariables false
set_option linter.unusedSimpArgs false
namespace Go.Proofs.YtdjhjgockgmbkaaGreatDoor
open Go.RowKit

set_option maxHeartbeats 6000000 in
set_option maxRecDepth 100000 in
theorem part_list_long (j : Nat) (v : Value) (x : Nat) (r : List Nat) (w : World) (hn : (x :: r).length ≤ 16777216) (hv : RdA [] w v (x :: r)) (h n0 j' : Nat) (body : List Nat) (hx : 128 ≤ x) (hx1 : 192 ≤ x) (hjj : j = j' + 1) (hj32 : j ≤ 32) (hih : PartOK j') (hs : spl (x :: r) = some (h, n0)) (h64 : 55 < x % 64) (hbody : body = ((x :: r).drop h).take n0) : Calls Tryz.prog 66 #[v, .int .i64 (j : Int)] w (PartPost j (x :: r) w) := by
  obtain ⟨f0, f1, f2, hty, _⟩ := item_ty
  have hS := St.start w
  obtain ⟨p, n, c, rfl⟩ := slice_keep hv
  obtain ⟨p', c', hp, hcap, hb, h4⟩ := id hv
  have hxb := hb x List.mem_cons_self
  cases hp
  obtain ⟨b, o, rfl, hbw, _, h8⟩ := h4 (by simp)
  have hc0 := h8 0 (by simp)
  rw [Nat.add_zero] at hc0
  simp only [List.getD_cons_zero] at hc0
  obtain ⟨hf, hy, hm4, hm1, hnv, hh, hn55, hfit0⟩ := long_some hs hx h64 rfl
  have hg : ¬ (192 ≤ x ∧ j = 0) := by omega
  have hx2 : ¬ (x : Int) < 128 := by omega
  have hxx : (192 ≤ x ∧ 0 < j) ∨ x < 192 := by
    rcases Nat.lt_or_ge x 192 with h | h
    · exact .inr h
    · exact .inl ⟨h, by rcases Nat.eq_zero_or_pos j with h0 | h0; exact absurd ⟨h, h0⟩ hg; exact h0⟩
  obtain ⟨N, hN⟩ : ∃ N, N = x % 64 := ⟨_, rfl⟩
  have hand := and63 x hxb
  rw [← hN] at hand
  have hk4 : ∀ w' : World, Tch [] w w' → w'.cell? ⟨b, o, none⟩ = some (.int .u8 (x : Int)) := fun w' hT => (hT.cell (p := ⟨b, o, none⟩) hbw (by simp)).trans hc0
  have HK := Lib.hid hk4
  obtain ⟨m, hm⟩ : ∃ m, m = x % 64 - 55 := ⟨_, rfl⟩
  have hlt55 : (55 : Int) < (N : Int) := by omega
  have hmN : (N : Int) - 55 = (m : Int) := by omega
  have hN64 : N < 64 := by omega
  have hm8 : m ≤ 8 := by omega
  have hr1 : 1 ≤ r.length := by omega
  have hrb : ∀ y ∈ r, y < 256 := fun y hy => hb y (List.mem_cons_of_mem _ hy)
  have hkall : ∀ i, i < r.length → ∀ w' : World, Tch [] w w' → w'.cell? ⟨b, o + (1 + i), none⟩ = some (.int .u8 ((r.getD i 0 : Nat) : Int)) := fun i hi w' hT => by
    have := h8 (1 + i) (by simp; omega)
    rw [Nat.add_comm 1 i, List.getD_cons_succ] at this
    rw [Nat.add_comm 1 i]
    exact (hT.cell (p := ⟨b, o + (i + 1), none⟩) hbw (by simp)).trans this
  have hk5 : ∀ w' : World, Tch [] w w' → w'.cell? ⟨b, o + 1, none⟩ = some (.int .u8 ((r.getD 0 0 : Nat) : Int)) := fun w' hT => hkall 0 (by omega) w' hT
  have hki : ∀ i, i < m → ∀ w' : World, Tch [] w w' → w'.cell? ⟨b, o + (1 + i), none⟩ = some (.int .u8 ((r.getD i 0 : Nat) : Int)) := fun i hi => hkall i (by omega)
  have hvs : ∀ i, i < m → val (r.take (i + 1)) = val (r.take i) * 256 + r.getD i 0 ∧ r.getD i 0 < 256 := fun i hi => val_step hrb (by omega)
  have hy0 : ((r.getD 0 0 : Int) == 0) = false := by rw [beq_eq_false_iff_ne]; omega
  have hy1 : ¬ (r.getD 0 0 : Int) = 0 := by omega
  have hshort : ¬ ((r.length + 1 : Nat) : Int) < 1 + (m : Int) := by omega
  have HK5 := Lib.hid hk5
  have HKI := Lib.hid hki
  have HV := Lib.hid hvs
  have HM := Lib.hid hm
  have hHE := And.intro hx1 (And.intro hx (And.intro hs hbody))
  have hbl : body.length ≤ 16777216 := by rw [hbody, List.length_take, List.length_drop]; simp at hn ⊢; omega
  have HE := Lib.hid hHE
  have HBL := Lib.hid hbl
  have HJ := Lib.hid hjj
  have HIH := Lib.hid hih
  have HLEN := Lib.hid hn
  have hx4 : (192 : Int) ≤ x := by omega
  have hj0 : ((j : Int) == 0) = false := by rw [beq_eq_false_iff_ne]; omega
  have hj1 : ¬ (j : Int) = 0 := by omega
  have hjm : (j : Int) - 1 = (j' : Int) := by omega
  have hjl : j' ≤ 31 := by omega
  rw [← hm] at hf hm4 hm1 hnv hh hfit0
  have hcap2 : r.length + 1 ≤ c := hcap
  have hX : ∀ q, q = some ⟨b, o + (1 + m), none⟩ → RdA [] w (.slice q n0 (c - (1 + m))) body := fun q hq => by
    rw [hq, hbody, hh]
    exact (hv.from_ne (1 + m) (by simp; omega)).take (by simp; omega)
  have HX := Lib.hid hX
  have hbig0 : ∀ i, i < m → val (r.take i) < 16777216 := fun i hi => val_take_lt hrb (by omega)
  have HBIG := Lib.hid hbig0
  have HM2 := Lib.hid hnv
  have HH := Lib.hid hh
  have hbo : n0 ≤ r.length - m ∧ 55 < n0 := ⟨hfit0, hn55⟩
  have HBO := Lib.hid hbo
  have hlen3 : r.length + 1 ≤ 16777216 := hn
  clear h8 h4 hv hb hk4 hk5 hc0 hs hg hN hX hHE hbl hbody h64 hkall hki hvs hrb hbig0 hnv hh hbo hm hih hjj hxx hx hx1
  generalize r.getD 0 0 = y0 at *
  simp only [List.length_cons] at *
  go_enter Tryz.func66, Tryz.ntmps66
  go_wp2_with (first | (refine st_new (L := []) hS rfl 68 rfl item_zero ?_; clear hS; intro w4 b4 hS; have hc4 := HK.out w4 hS.frame; have hc5 := HK5.out w4 hS.frame))
  have H0 := Lib.hid hS
  clear hS hc4 hc5
  go_loopw [9, 12] (fun nv iv wr => ∃ i : Nat, i ≤ m ∧ iv = .int .i64 (i : Int) ∧ nv = .int .i64 (val (r.take i) : Int) ∧ St [] w wr [(b4, 68, #[.bool false, .slice none 0 0, .slice none 0 0])] ∧ val (r.take i) ≤ 4294967551) (fun _ iv _ => m - (intOf iv).toNat)
  case atStart => exact ⟨0, Nat.zero_le _, rfl, rfl, H0.out, by simp [val]⟩
  case round =>
    obtain ⟨i, him, rfl, rfl, hS, hVB⟩ := hrel
    by_cases hlt : i < m
    · by_cases hbig : 16777216 < val (r.take i)
      · exact absurd (HBIG.out i hlt) (by omega)
      · obtain ⟨hst, hyb⟩ := HV.out i hlt
        have hor := or_byte2 (val (r.take i)) (r.getD i 0) hyb (by omega)
        have hci := HKI.out i hlt wr hS.frame
        have HST := Lib.hid hst
        have hVb : ¬ (16777216 : Int) < (val (r.take i) : Int) := by omega
        have hV2 : val (r.take i) ≤ 16777216 := by omega
        clear hst hbig
        generalize val (r.take i) = V at *
        generalize r.getD i 0 = y at *
        go_wp2
        go_roundw
        case rel => exact ⟨i + 1, by omega, by go_num, by rw [HST.out]; simp, hS, by rw [HST.out]; omega⟩
        case measure => simp [intOf]; omega
    · obtain rfl : i = m := by omega
      have hbo := HBO.out
      have hVV : val (r.take i) = n0 := HM2.out.symm
      rw [hVV]
      have hV : ¬ (n0 : Int) < 56 := by omega
      have hfit : ¬ ((r.length + 1 : Nat) : Int) - (1 + (i : Int)) < (n0 : Int) := by omega
      have hV1 : ((n0 : Int) == 1) = false := by rw [beq_eq_false_iff_ne]; omega
      have hcc : ¬ c = 1 + i := by omega
      generalize hn0 : n0 = V at *
      have HVN := Lib.hid hn0
      clear hn0 hVV
      go_wp2_with (first
        | (refine st_new (L := [(b4, 68, #[.bool false, .slice none 0 0, .slice none 0 0])]) hS rfl 68 rfl item_zero ?_; clear hS; intro w5 b14 hS)
        | (refine st_store (c' := #[.bool true, .slice none 0 0, .slice none 0 0]) hS rfl 68 _ _ rfl rfl rfl (by repeat (first | exact Upd.head | apply Upd.tail)) item_size (by rfl) (by rfl) (one3 rfl rfl rfl) ?_; clear hS; intro w6 hS))
      have H6 := Lib.hid (pti_start (j := j') hS (HX.out (some ⟨b, o + (1 + i), none⟩) rfl))
      clear hS
      go_loopw [13] (fun uv wr => ∃ u q ts, u = uv ∧ PTI w j' b4 b14 body u q ts wr) (fun uv _ => slLen uv)
      case atStart =>
        refine ⟨_, body, [], ?_, H6.out⟩
        first
        | rfl
        | rw [Nat.add_sub_cancel_left]
      case round =>
        obtain ⟨u, q, ts, rfl, hI⟩ := hrel
        obtain ⟨pn, nn, cn, hS, hnn, hR, hown, hu, hql, _⟩ := id hI
        subst hnn
        obtain ⟨pu, nu, cu, rfl⟩ := slice_keep hu
        have hlq := hu.len
        have hcu := hu.cap
        have hblen := HBL.out
        have HII := Lib.hid hI
        have HR := Lib.hid hR
        have HOWN := Lib.hid hown
        have HU := Lib.hid hu
        have hge14 := (hS.own .head).resolve_right (by simp)
        have hge4 := (hS.own (.tail .head)).resolve_right (by simp)
        clear hI hR hown hu
        by_cases hq0 : q = []
        · subst hq0
          obtain rfl : nu = 0 := hlq
          go_wp2_with (first
            | (refine st_load hS rfl 68 _ rfl rfl (by repeat (first | exact At.head | apply At.tail)) hty rfl item_size (by rfl) ?_)
            | (refine arm_store (w' := wr.setRow b4 #[.bool true, .slice none 0 0, .slice pn ts.length cn]) (b := b4) (c := #[.bool true, .slice none 0 0, .slice pn ts.length cn]) rfl 68 _ _ rfl rfl rfl ((hS.get (.tail .head)).store item_size (by rfl) (by rfl) (one3 rfl rfl rfl)) ?_))
          have hS9 := hS.upd (.tail .head) (Only.setRow wr b4 #[.bool true, .slice none 0 0, .slice pn ts.length cn]) ((hS.get (.tail .head)).row _)
          refine post_cell_two 4 5 6 68 rfl rfl rfl rfl rfl (hS9.get (.tail .head)) hty rfl item_size rfl ?_
          rw [HJ.out]
          exact part_lst_end (h := h) (n0 := V) HE.out.1 HE.out.2.2.1 HH.out.symm rfl (by first | omega | simp) HE.out.2.2.2 HLEN.out HII.out HR.out rfl HOWN.out (Only.setRow _ _ _) hge4 hS9.frame
        · have hpos := List.length_pos_iff.2 hq0
          have hnu : 0 < nu := by omega
          have hnu2 : nu ≤ 16777216 := by omega
          have HLQ := Lib.hid hlq
          have hcall := HIH.out (.slice pu nu cu) q wr (by omega) (HU.out.tch hS.frame)
          have HQ0 := Lib.hid hq0
          cases hdq : dec j' q with
          | error ec =>
            have hc2 := hcall.mono (R' := fun e w' => ∃ d p1 n1 c1 p2 n2 c2, ∃ cnt : Nat, e = .returned (.tuple #[.agg #[.bool d, .slice p1 n1 c1, .slice p2 n2 c2], .int .i64 (cnt : Int), .int .i64 (ec : Int)]) ∧ Tch [] wr w') (fun e w' h => by
              obtain ⟨h1, d, p1, n1, c1, p2, n2, c2, cnt, en, h2, h3⟩ := h
              rw [hdq] at h3
              obtain ⟨rfl, _⟩ := h3
              exact ⟨d, p1, n1, c1, p2, n2, c2, cnt, h2, h1⟩)
            have hec := dec_error hdq
            have hec0 : ((ec : Int) != 0) = true := by rw [bne_iff_ne]; omega
            have hec1 : ¬ (ec : Int) = 0 := by omega
            have HCC := Lib.hid hc2
            have HLE := Lib.hid (part_lst_err (h := h) (n0 := V) HE.out.1 HE.out.2.2.1 HE.out.2.2.2 (pti_err HII.out hq0 hdq))
            clear hcall hc2 hdq hlq
            go_wp2_with (first
              | (go_at_call 66; with_reducible refine HCC.out.mono ?_; rintro e w7 ⟨d, p1, n1, c1, p2, n2, c2, cnt, rfl, hT7⟩; replace hS := hS.call hT7)
              | (refine st_new (L := [(b14, 68, #[.bool true, .slice none 0 0, .slice pn ts.length cn]), (b4, 68, #[.bool false, .slice none 0 0, .slice none 0 0])]) hS rfl 68 rfl item_zero ?_; clear hS; intro w8 b15 hS)
              | (refine st_store (c' := #[.bool d, .slice p1 n1 c1, .slice p2 n2 c2]) hS rfl 68 _ _ rfl rfl rfl (by repeat (first | exact Upd.head | apply Upd.tail)) item_size (by rfl) (by rfl) (one3 rfl rfl rfl) ?_; clear hS; intro w9 hS)
              | (refine st_store (c' := #[.bool false, .slice none 0 0, .slice none 0 0]) hS rfl 68 _ _ rfl rfl rfl (by repeat (first | exact Upd.head | apply Upd.tail)) item_size (by rfl) (by rfl) (one3 rfl rfl rfl) ?_; clear hS; intro w10 hS))
            refine post_cell_two 4 5 6 68 rfl rfl rfl rfl rfl (hS.get (.tail (.tail .head))) hty rfl item_size rfl ?_
            rw [HJ.out]
            exact partpost_no HLE.out rfl hS.frame
          | ok tr =>
            obtain ⟨t, rr⟩ := tr
            have hlt : rr.length < q.length := by obtain ⟨_, _, _, _, h⟩ := dec_rest hdq; exact h
            have hc2 := hcall.mono (R' := fun e w' => ∃ d p1 n1 c1 p2 n2 c2, ∃ cnt : Nat, e = .returned (.tuple #[.agg #[.bool d, .slice p1 n1 c1, .slice p2 n2 c2], .int .i64 (cnt : Int), .int .i64 0]) ∧ Tch [] wr w' ∧ cnt + rr.length = q.length ∧ rr = q.drop cnt ∧ ItF wr w' (j' + 1) (.bool d) (.slice p1 n1 c1) (.slice p2 n2 c2) t) (fun e w' h => by
              obtain ⟨h1, d, p1, n1, c1, p2, n2, c2, cnt, en, h2, h3⟩ := h
              rw [hdq] at h3
              obtain ⟨rfl, h4, h5, h6⟩ := h3
              exact ⟨d, p1, n1, c1, p2, n2, c2, cnt, h2, h1, h4, h5, h6⟩)
            have HCC := Lib.hid hc2
            have HPD := Lib.hid (pti_dec HII.out hq0 hdq)
            have HBS : Hid (∀ y ∈ [b14, b4], y ∈ [b14, b4] ∧ (Value.slice pn ts.length cn).ownBlock ≠ some y) := Lib.hid (fun y hy => ⟨hy, fun e => by
              have h1 := HOWN.out y e
              simp only [List.mem_cons, List.not_mem_nil, or_false] at hy
              exact hy.elim h1.1 h1.2⟩)
            have HFR : Hid (∀ Z : List Nat, (∀ z ∈ Z, z < w.heap.size) → ∀ y ∈ (Value.slice pn ts.length cn).ownBlock.toList ++ ([b14, b4] ++ Z), y < wr.heap.size) := Lib.hid (fun Z hZ y hy => by
              rcases List.mem_append.1 hy with hy | hy
              · exact (HR.out.lt y (by simpa using hy)).2
              rcases List.mem_append.1 hy with hy | hy
              · simp only [List.mem_cons, List.not_mem_nil, or_false] at hy
                rcases hy with rfl | rfl
                · exact (hS.get .head).lt
                · exact (hS.get (.tail .head)).lt
              · exact Nat.lt_of_lt_of_le (hZ y hy) hS.frame.size)
            clear hcall hc2 hdq hlq
            go_wp2_with (first
              | (go_at_call 66
                 with_reducible refine HCC.out.mono ?_
                 rintro e w7 ⟨d, p1, n1, c1, p2, n2, c2, cnt, rfl, hT7, hcnt, hrr, hitf⟩
                 have hcn : cnt ≤ nu := by have := HLQ.out; omega
                 have hcn1 : 0 < cnt := by omega
                 have hmn : nu - cnt = rr.length := by have := HLQ.out; omega
                 have HMN := Lib.hid hmn
                 clear hmn
                 have hS7 := hS.call hT7
                 have HF7 := Lib.hid hS7.frame
                 have hne := hS7.apart2
                 have HR7 := Lib.hid (HR.out.call hT7)
                 have HIT := Lib.hid hitf
                 have HRR := Lib.hid hrr
                 obtain ⟨p3, c3, hsl, hc3, hrd⟩ := slice_from pu nu cu cnt hcn hcu
                 have HSL := Lib.hid hsl
                 have HRD := Lib.hid (hrd [] w q HU.out)
                 clear hS hT7 hrr hitf hsl hrd
                 have hS := St.two (hS7.get .head) (hS7.get (.tail .head)) hne
                 clear hS7)
              | (refine st_new (L := [(b14, 68, #[.bool true, .slice none 0 0, .slice pn ts.length cn]), (b4, 68, #[.bool false, .slice none 0 0, .slice none 0 0])]) hS rfl 68 rfl item_zero ?_; clear hS; intro w8 b15 hS)
              | (refine st_store (c' := #[.bool d, .slice p1 n1 c1, .slice p2 n2 c2]) hS rfl 68 _ _ rfl rfl rfl (by repeat (first | exact Upd.head | apply Upd.tail)) item_size (by rfl) (by rfl) (one3 rfl rfl rfl) ?_; clear hS; intro w9 hS; have hcl := (hS.get (.tail .head)).cell (j := 2) rfl)
              | (refine st_load (b := b15) hS rfl 68 _ rfl rfl (by repeat (first | exact At.head | apply At.tail)) hty rfl item_size (by rfl) ?_)
              | (at_builtin
                 go_must (
                   refine st_appendI (w0 := w) (w := w9) (X := [b14, b4]) (k := j' + 1) (v := .slice pn ts.length cn) (y0 := .bool d) (yb := .slice p1 n1 c1) (yl := .slice p2 n2 c2) (ts := ts) (t := t) (by rfl) _ _ (by rfl) (by rfl) (by rfl) (HR7.out.tch hS.frame HBS.out) (fun Z hZ => (HIT.out _ (HFR.out Z hZ)).tch (hS.frame.mono (fun y hy => .inl (List.mem_append_right _ (List.mem_append_left _ hy))))) (one3 rfl rfl rfl) (HF7.out.fresh hS.frame (fun y hy => by simp only [List.mem_cons, List.not_mem_nil, or_false] at hy; rcases hy with rfl | rfl; exact hge14; exact hge4)) (by omega) ?_
                   intro p4 c4 w10 hR10 hT10 hsz hkeep hown10
                   have hB14 : Blk w10 b14 68 #[.bool true, .slice none 0 0, .slice pn ts.length cn] := by unfold Blk; rw [hkeep b14 (hS.get (.tail .head)).lt (fun e => (HOWN.out _ e).1 rfl)]; exact hS.get (.tail .head)
                   have hB4 : Blk w10 b4 68 #[.bool false, .slice none 0 0, .slice none 0 0] := by unfold Blk; rw [hkeep b4 (hS.get (.tail (.tail .head))).lt (fun e => (HOWN.out _ e).2 rfl)]; exact hS.get (.tail (.tail .head))
                   have hown11 : ∀ g, (Value.slice p4 (ts.length + 1) c4).ownBlock = some g → g ≠ b14 ∧ g ≠ b4 := fun g hg => by
                     rcases hown10 with e | e
                     · rw [e] at hg; exact HOWN.out g hg
                     · have h1 := e g hg
                       have h2 := (hS.get (.tail .head)).lt
                       have h3 := (hS.get (.tail (.tail .head))).lt
                       omega
                   have HR10 := Lib.hid hR10
                   have HO11 := Lib.hid hown11
                   have hS10 := St.of_two hT10 hB14 hB4 hne hge14 hge4
                   clear hS hcl hR10 hT10 hsz hkeep hown10 hown11 hB14 hB4
                   have hS := hS10
                   clear hS10))
              | (refine arm_store1 (b := b14) (j := 2) (v := .slice p4 (ts.length + 1) c4) rfl 66 _ _ rfl rfl rfl rfl sli_size (hS.get .head) (by show 2 < 3; decide) ?_
                 intro w11 hB11 hO11
                 have hS11 := hS.upd .head hO11 hB11
                 have HR11 := Lib.hid (HR10.out.only hO11 (by simp) (fun e => (HO11.out _ e).1 rfl))
                 clear hS hB11 hO11
                 have hS := hS11
                 clear hS11)
              | (refine st_from (v := .slice pu nu cu) (l := .int .i64 (cnt : Int)) (r := .slice p3 (nu - cnt) c3) rfl 26 _ _ (by rfl) (by rfl) (by rfl) HSL.out ?_))
            go_roundw
            case rel =>
              refine ⟨_, rr, ts ++ [t], rfl, p4, ts.length + 1, c4, hS, by simp, HR11.out, HO11.out, ?_, HPD.out⟩
              rw [HRR.out]
              exact HRD.out
            case measure =>
              have h1 := HLQ.out
              simp [slLen]; omega
end Go.Proofs.YtdjhjgockgmbkaaGreatDoor

/- The document's part, at any bytes. -/
namespace Go.Proofs.YtdjhjgockgmbkaaGreatDoor
open Go.RowKit

theorem chk_none {c h n : Nat} {l : List Nat} (e : chk c l h n = none) (hf : ¬ l.length - h < n) : c = 129 ∧ l.getD h 0 < 128 := by
  unfold chk at e
  rw [if_neg hf] at e
  split at e
  · assumption
  · cases e
theorem part_of (j : Nat) (hj32 : j ≤ 32) (ih : ∀ j', j = j' + 1 → PartOK j') : PartOK j := by
  intro v l w hn hv
  cases l with
  | nil => exact part_nil j v w hv
  | cons x r =>
    by_cases hx0 : x < 128
    · exact part_single j v x r w hn hv hx0
    have hx : 128 ≤ x := by omega
    by_cases hg : 192 ≤ x ∧ j = 0
    · exact part_deep j v x r w hn hv hg.1 hg.2
    cases hs : spl (x :: r) with
    | none =>
      by_cases h64 : x % 64 ≤ 55
      · by_cases hf : r.length < x % 64
        · exact part_short_nofit j v x r w hn hv hx hg hs h64 hf
        · have h1 := hs
          rw [spl_cons, if_neg hx0, if_pos h64] at h1
          obtain ⟨h2, h3⟩ := chk_none h1 (by simp only [List.length_cons]; omega)
          simp only [List.getD_cons_succ] at h3
          exact part_short_one j v x r w hn hv hx hg hs h2 (by subst h2; omega) h3
      · by_cases hf : r.length < x % 64 - 55
        · exact part_long_missing j v x r w hn hv hx hg hs (by omega) hf
        · by_cases hy : r.getD 0 0 = 0
          · exact part_long_nought j v x r w hn hv hx hg hs (by omega) (by omega) hy
          · exact part_long_no j v x r w hn hv hx hg hs (by omega) (by omega) hy
    | some hn0 =>
      obtain ⟨h, n0⟩ := hn0
      by_cases hx1 : x < 192
      · by_cases h64 : x % 64 ≤ 55
        · exact part_short_text j v x r w hn hv h n0 _ hx hx1 hs h64 rfl
        · exact part_long_text j v x r w hn hv h n0 _ hx hx1 hs (by omega) rfl
      · have hj : j = (j - 1) + 1 := by omega
        by_cases h64 : x % 64 ≤ 55
        · exact part_list_short j v x r w hn hv h n0 (j - 1) _ hx (by omega) hj hj32 (ih _ hj) hs h64 rfl
        · exact part_list_long j v x r w hn hv h n0 (j - 1) _ hx (by omega) hj hj32 (ih _ hj) hs (by omega) rfl
theorem part_any : ∀ j, j ≤ 32 → PartOK j := by
  intro j
  induction j with
  | zero => exact fun h => part_of 0 h (fun j' e => by omega)
  | succ j ih => exact fun h => part_of (j + 1) h (fun j' e => by
      obtain rfl : j = j' := by omega
      exact ih (by omega))
end Go.Proofs.YtdjhjgockgmbkaaGreatDoor

/- The document's Read at any bytes. -/
namespace Go.Proofs.YtdjhjgockgmbkaaGreatDoor
open Go.RowKit

set_option maxHeartbeats 2000000 in
set_option maxRecDepth 100000 in
theorem refread_long (v : Value) (l : List Nat) (w : World) (hm : l.length < 4611686018427387904) (hv : RdA [] w v l) (hl : 16777216 < l.length) : Calls Tryz.prog 34 #[v] w (ReadPost l w) := by
  obtain ⟨f0, f1, f2, hty, _⟩ := item_ty
  have hS := St.start w
  have hrd : rd l = .error 3 := by unfold rd; rw [if_pos hl]
  obtain ⟨p, n, c, rfl⟩ := slice_keep hv
  have hln := hv.len
  have hgt : (16777216 : Int) < (n : Int) := by omega
  have HR := Lib.hid hrd
  clear hrd hv hln
  go_enter Tryz.func34, Tryz.ntmps34
  go_wp2_with (first
    | (refine st_new (L := []) hS rfl 68 rfl item_zero ?_; clear hS; intro w0 b0 hS)
    | (refine st_store (c' := #[.bool false, .slice none 0 0, .slice none 0 0]) hS rfl 68 _ _ rfl rfl rfl (by repeat (first | exact Upd.head | apply Upd.tail)) item_size (by rfl) (by rfl) (one3 rfl rfl rfl) ?_; clear hS; intro w4 hS))
  exact post_cell_one 2 3 68 rfl rfl rfl rfl (hS.get .head) hty rfl item_size rfl (readpost_no HR.out rfl hS.frame)
set_option maxHeartbeats 2000000 in
set_option maxRecDepth 100000 in
theorem refread_err (v : Value) (l : List Nat) (ec : Nat) (w : World) (hv : RdA [] w v l) (hl : l.length ≤ 16777216) (hd : dec 32 l = .error ec) : Calls Tryz.prog 34 #[v] w (ReadPost l w) := by
  obtain ⟨f0, f1, f2, hty, _⟩ := item_ty
  have hS := St.start w
  obtain ⟨p, n, c, rfl⟩ := slice_keep hv
  have hln := hv.len
  have hrd : rd l = .error ec := by unfold rd; rw [if_neg (by omega), hd]
  have he := dec_error hd
  have e0 : ((ec : Int) == 0) = false := by rw [beq_eq_false_iff_ne]; omega
  have e1 : ((ec : Int) != 0) = true := by rw [bne_iff_ne]; omega
  have e2 : ¬ (ec : Int) = 0 := by omega
  have hp : ∀ w1 : World, Tch [] w w1 → Calls Tryz.prog 66 #[.slice p n c, .int .i64 32] w1 (fun e w' => ∃ d p1 n1 c1 p2 n2 c2, ∃ cnt : Nat, e = .returned (.tuple #[.agg #[.bool d, .slice p1 n1 c1, .slice p2 n2 c2], .int .i64 (cnt : Int), .int .i64 (ec : Int)]) ∧ Tch [] w1 w') := fun w1 hT => (part_any 32 (Nat.le_refl _) (.slice p n c) l w1 hl (hv.tch hT)).mono (fun e w' h => by
    obtain ⟨h1, d, p1, n1, c1, p2, n2, c2, cnt, en, h2, h3⟩ := h
    rw [hd] at h3
    obtain ⟨rfl, _⟩ := h3
    exact ⟨d, p1, n1, c1, p2, n2, c2, cnt, h2, h1⟩)
  have hgt : ¬ (16777216 : Int) < (n : Int) := by omega
  have hnl : n ≤ 16777216 := by omega
  have HR := Lib.hid hrd
  have HP := Lib.hid hp
  clear hrd hv hln hp hd
  go_enter Tryz.func34, Tryz.ntmps34
  go_wp2_with (first
    | (refine st_new (L := []) hS rfl 68 rfl item_zero ?_; clear hS; intro w0 b0 hS)
    | (go_at_call 66; with_reducible refine (HP.out w0 hS.frame).mono ?_; rintro e w1 ⟨d, p1, n1, c1, p2, n2, c2, cnt, rfl, hT1⟩; replace hS := hS.call hT1)
    | (refine st_new (L := [(b0, 68, #[.bool false, .slice none 0 0, .slice none 0 0])]) hS rfl 68 rfl item_zero ?_; clear hS; intro w2 b4 hS)
    | (refine st_store (c' := #[.bool d, .slice p1 n1 c1, .slice p2 n2 c2]) hS rfl 68 _ _ rfl rfl rfl (by repeat (first | exact Upd.head | apply Upd.tail)) item_size (by rfl) (by rfl) (one3 rfl rfl rfl) ?_; clear hS; intro w3 hS)
    | (refine st_store (c' := #[.bool false, .slice none 0 0, .slice none 0 0]) hS rfl 68 _ _ rfl rfl rfl (by repeat (first | exact Upd.head | apply Upd.tail)) item_size (by rfl) (by rfl) (one3 rfl rfl rfl) ?_; clear hS; intro w4 hS))
  exact post_cell_one 2 3 68 rfl rfl rfl rfl (hS.get (.tail .head)) hty rfl item_size rfl (readpost_no HR.out rfl hS.frame)
set_option maxHeartbeats 2000000 in
set_option maxRecDepth 100000 in
theorem refread_more (v : Value) (l r : List Nat) (t : It) (w : World) (hv : RdA [] w v l) (hl : l.length ≤ 16777216) (hd : dec 32 l = .ok (t, r)) (hr : r ≠ []) : Calls Tryz.prog 34 #[v] w (ReadPost l w) := by
  obtain ⟨f0, f1, f2, hty, _⟩ := item_ty
  have hS := St.start w
  obtain ⟨p, n, c, rfl⟩ := slice_keep hv
  have hln := hv.len
  have hrd : rd l = .error 4 := by unfold rd; rw [if_neg (by omega), hd]; simp only []; rw [if_neg hr]
  have hpos := List.length_pos_iff.2 hr
  have hp : ∀ w1 : World, Tch [] w w1 → Calls Tryz.prog 66 #[.slice p n c, .int .i64 32] w1 (fun e w' => ∃ d p1 n1 c1 p2 n2 c2, ∃ cnt : Nat, e = .returned (.tuple #[.agg #[.bool d, .slice p1 n1 c1, .slice p2 n2 c2], .int .i64 (cnt : Int), .int .i64 0]) ∧ Tch [] w1 w' ∧ cnt < n) := fun w1 hT => (part_any 32 (Nat.le_refl _) (.slice p n c) l w1 hl (hv.tch hT)).mono (fun e w' h => by
    obtain ⟨h1, d, p1, n1, c1, p2, n2, c2, cnt, en, h2, h3⟩ := h
    rw [hd] at h3
    obtain ⟨rfl, h4, _⟩ := h3
    exact ⟨d, p1, n1, c1, p2, n2, c2, cnt, h2, h1, by omega⟩)
  have hgt : ¬ (16777216 : Int) < (n : Int) := by omega
  have hnl : n ≤ 16777216 := by omega
  have HR := Lib.hid hrd
  have HP := Lib.hid hp
  clear hrd hv hln hp hd
  clear hpos
  go_enter Tryz.func34, Tryz.ntmps34
  go_wp2_with (first
    | (refine st_new (L := []) hS rfl 68 rfl item_zero ?_; clear hS; intro w0 b0 hS)
    | (go_at_call 66; with_reducible refine (HP.out w0 hS.frame).mono ?_; rintro e w1 ⟨d, p1, n1, c1, p2, n2, c2, cnt, rfl, hT1, hcn⟩; have e0 : ((cnt : Int) == (n : Int)) = false := by rw [beq_eq_false_iff_ne]; omega
       have e1 : ((cnt : Int) != (n : Int)) = true := by rw [bne_iff_ne]; omega
       have e2 : ¬ (cnt : Int) = (n : Int) := by omega
       have e3 : ¬ cnt = n := by omega
       replace hS := hS.call hT1)
    | (refine st_new (L := [(b0, 68, #[.bool false, .slice none 0 0, .slice none 0 0])]) hS rfl 68 rfl item_zero ?_; clear hS; intro w2 b4 hS)
    | (refine st_store (c' := #[.bool d, .slice p1 n1 c1, .slice p2 n2 c2]) hS rfl 68 _ _ rfl rfl rfl (by repeat (first | exact Upd.head | apply Upd.tail)) item_size (by rfl) (by rfl) (one3 rfl rfl rfl) ?_; clear hS; intro w3 hS)
    | (refine st_store (c' := #[.bool false, .slice none 0 0, .slice none 0 0]) hS rfl 68 _ _ rfl rfl rfl (by repeat (first | exact Upd.head | apply Upd.tail)) item_size (by rfl) (by rfl) (one3 rfl rfl rfl) ?_; clear hS; intro w4 hS))
  exact post_cell_one 2 3 68 rfl rfl rfl rfl (hS.get (.tail .head)) hty rfl item_size rfl (readpost_no HR.out rfl hS.frame)
set_option maxHeartbeats 2000000 in
set_option maxRecDepth 100000 in
theorem refread_ok (v : Value) (l : List Nat) (t : It) (w : World) (hv : RdA [] w v l) (hl : l.length ≤ 16777216) (hd : dec 32 l = .ok (t, [])) : Calls Tryz.prog 34 #[v] w (ReadPost l w) := by
  obtain ⟨f0, f1, f2, hty, _⟩ := item_ty
  have hS := St.start w
  obtain ⟨p, n, c, rfl⟩ := slice_keep hv
  have hln := hv.len
  have hrd : rd l = .ok t := by unfold rd; rw [if_neg (by omega), hd]; simp
  have hp : ∀ w1 : World, Tch [] w w1 → Calls Tryz.prog 66 #[.slice p n c, .int .i64 32] w1 (fun e w' => ∃ d p1 n1 c1 p2 n2 c2, e = .returned (.tuple #[.agg #[.bool d, .slice p1 n1 c1, .slice p2 n2 c2], .int .i64 (n : Int), .int .i64 0]) ∧ Tch [] w1 w' ∧ ItF w1 w' 33 (.bool d) (.slice p1 n1 c1) (.slice p2 n2 c2) t) := fun w1 hT => (part_any 32 (Nat.le_refl _) (.slice p n c) l w1 hl (hv.tch hT)).mono (fun e w' h => by
    obtain ⟨h1, d, p1, n1, c1, p2, n2, c2, cnt, en, h2, h3⟩ := h
    rw [hd] at h3
    obtain ⟨rfl, h4, _, h5⟩ := h3
    obtain rfl : cnt = n := by simp at h4; omega
    exact ⟨d, p1, n1, c1, p2, n2, c2, h2, h1, h5⟩)
  have hgt : ¬ (16777216 : Int) < (n : Int) := by omega
  have hnl : n ≤ 16777216 := by omega
  have HR := Lib.hid hrd
  have HP := Lib.hid hp
  clear hrd hv hln hp hd
  go_enter Tryz.func34, Tryz.ntmps34
  go_wp2_with (first
    | (refine st_new (L := []) hS rfl 68 rfl item_zero ?_; clear hS; intro w0 b0 hS)
    | (go_at_call 66; with_reducible refine (HP.out w0 hS.frame).mono ?_; rintro e w1 ⟨d, p1, n1, c1, p2, n2, c2, rfl, hT1, hitf⟩
       have HI := Lib.hid hitf
       have hB0 := (hS.call hT1).get .head
       have hge0 := (hS.own .head).resolve_right (by simp)
       have hlt0 := (hS.get .head).lt
       have hF := hS.frame
       clear hS hitf
       have hS := St.one hB0
       clear hB0)
    | (refine st_new (L := [(b0, 68, #[.bool false, .slice none 0 0, .slice none 0 0])]) hS rfl 68 rfl item_zero ?_; clear hS; intro w2 b4 hS)
    | (refine st_load (b := b4) hS rfl 68 _ rfl rfl (by repeat (first | exact At.head | apply At.tail)) hty rfl item_size (by rfl) ?_)
    | (refine st_store (c' := #[.bool d, .slice p1 n1 c1, .slice p2 n2 c2]) hS rfl 68 _ _ rfl rfl rfl (by repeat (first | exact Upd.head | apply Upd.tail)) item_size (by rfl) (by rfl) (one3 rfl rfl rfl) ?_; clear hS; intro w4 hS))
  refine post_cell_one 2 3 68 rfl rfl rfl rfl (hS.get (.tail .head)) hty rfl item_size rfl (readpost_yes HR.out ((hF.trans hT1).fresh hS.frame (fun x hx => by simp at hx; omega)) (show 33 ≤ 34 by omega) (fun X hX => ?_))
  exact ((HI.out (b0 :: X) (fun x hx => by
    rcases List.mem_cons.1 hx with rfl | hx
    · exact hlt0
    · exact Nat.lt_of_lt_of_le (hX x hx) hF.size)).tch (hS.frame.mono (by simp))).mono (fun y hy => .inl (List.mem_cons_of_mem _ hy))
theorem refread_any (v : Value) (l : List Nat) (w : World) (hm : l.length < 4611686018427387904) (hv : RdA [] w v l) : Calls Tryz.prog 34 #[v] w (ReadPost l w) := by
  by_cases hl : 16777216 < l.length
  · exact refread_long v l w hm hv hl
  · cases hd : dec 32 l with
    | error ec => exact refread_err v l ec w hv (by omega) hd
    | ok tr =>
      obtain ⟨t, r⟩ := tr
      by_cases hr : r = []
      · subst hr; exact refread_ok v l t w hv (by omega) hd
      · exact refread_more v l r t w hv (by omega) hd hr
end Go.Proofs.YtdjhjgockgmbkaaGreatDoor

/- Steps for the document's ReadBody: four items in memory. -/
namespace Go.Proofs.YtdjhjgockgmbkaaGreatDoor
open Go.RowKit
set_option linter.unusedVariables false
set_option maxRecDepth 100000

theorem fa_it0 (b o : Nat) (w : World) : (Instr.fieldAt 68 (.pointer (some ⟨b, o, none⟩)) 0).run Tryz.prog w = .ok (.pointer (some ⟨b, o, none⟩)) w := by kernel_rfl
theorem fa_it1 (b o : Nat) (w : World) : (Instr.fieldAt 68 (.pointer (some ⟨b, o, none⟩)) 1).run Tryz.prog w = .ok (.pointer (some ⟨b, o + 1, none⟩)) w := by kernel_rfl
section
variable {o : Oper} {a : Act} {w : World} {ops : Array Oper} {rest : List Oper} {C : World → Prop} {Q : Act → Prop}
theorem k_idxQ {b off j n c q : Nat} (hw : Region.wanted o (yielded ops a.tmps) = true) (x y : Operand) (ho : o.op = .indexAddr 66 x y) (hx : a.eval x = .slice (some ⟨b, off, none⟩) n c) (hy : a.eval y = .int .i64 (j : Int)) (hj : j < n) (hq : off + j * 3 = q)
    (h : KQ ops C Q rest (a.put o.dst (.pointer (some ⟨b, q, none⟩)))) : KQ ops C Q (o :: rest) a := by
  subst hq
  exact k_idx3 hw x y ho hx hy hj h
theorem x_idxQ {b off j n c q : Nat} (x y : Operand) (ho : o.op = .indexAddr 66 x y) (hx : a.eval x = .slice (some ⟨b, off, none⟩) n c) (hy : a.eval y = .int .i64 (j : Int)) (hj : j < n) (hq : off + j * 3 = q) : (execOp a.eval o).run Tryz.prog w = .ok (.value (.pointer (some ⟨b, q, none⟩))) w := by
  subst hq
  exact x_idxI x y ho hx hy hj
end
/-- An item at a place in memory. -/
structure It3 (X : List Nat) (w : World) (k b o : Nat) (x0 xb xl : Value) (t : It) : Prop where
  c0 : w.cell? ⟨b, o, none⟩ = some x0
  c1 : w.cell? ⟨b, o + 1, none⟩ = some xb
  c2 : w.cell? ⟨b, o + 2, none⟩ = some xl
  it : ItC X w k x0 xb xl t
  lt : b < w.heap.size
  off : b ∉ X
theorem It3.tch {X : List Nat} {w w' : World} {k b o : Nat} {x0 xb xl : Value} {t : It} (h : It3 X w k b o x0 xb xl t) (hT : Tch X w w') : It3 X w' k b o x0 xb xl t :=
  ⟨(hT.cell (p := ⟨b, o, none⟩) h.lt h.off).trans h.c0, (hT.cell (p := ⟨b, o + 1, none⟩) h.lt h.off).trans h.c1, (hT.cell (p := ⟨b, o + 2, none⟩) h.lt h.off).trans h.c2, h.it.tch hT, Nat.lt_of_lt_of_le h.lt hT.size, h.off⟩
theorem It3.wide {X Y : List Nat} {w : World} {k b o : Nat} {x0 xb xl : Value} {t : It} (h : It3 X w k b o x0 xb xl t) (hX : ∀ y ∈ Y, y ∈ X ∨ w.heap.size ≤ y) : It3 Y w k b o x0 xb xl t :=
  ⟨h.c0, h.c1, h.c2, h.it.mono hX, h.lt, fun hm => (hX b hm).elim h.off (fun q => by have := h.lt; omega)⟩
/-- Four items in a row. -/
structure It4 (X : List Nat) (w : World) (k b o : Nat) (a0 a1 a2 b0 b1 b2 c0 c1 c2 d0 d1 d2 : Value) (t0 t1 t2 t3 : It) : Prop where
  i0 : It3 X w k b o a0 a1 a2 t0
  i1 : It3 X w k b (o + 3) b0 b1 b2 t1
  i2 : It3 X w k b (o + 6) c0 c1 c2 t2
  i3 : It3 X w k b (o + 9) d0 d1 d2 t3
theorem It4.tch {X : List Nat} {w w' : World} {k b o : Nat} {a0 a1 a2 b0 b1 b2 c0 c1 c2 d0 d1 d2 : Value} {t0 t1 t2 t3 : It} (h : It4 X w k b o a0 a1 a2 b0 b1 b2 c0 c1 c2 d0 d1 d2 t0 t1 t2 t3) (hT : Tch X w w') : It4 X w' k b o a0 a1 a2 b0 b1 b2 c0 c1 c2 d0 d1 d2 t0 t1 t2 t3 := ⟨h.i0.tch hT, h.i1.tch hT, h.i2.tch hT, h.i3.tch hT⟩
theorem It4.wide {X Y : List Nat} {w : World} {k b o : Nat} {a0 a1 a2 b0 b1 b2 c0 c1 c2 d0 d1 d2 : Value} {t0 t1 t2 t3 : It} (h : It4 X w k b o a0 a1 a2 b0 b1 b2 c0 c1 c2 d0 d1 d2 t0 t1 t2 t3) (hX : ∀ y ∈ Y, y ∈ X ∨ w.heap.size ≤ y) : It4 Y w k b o a0 a1 a2 b0 b1 b2 c0 c1 c2 d0 d1 d2 t0 t1 t2 t3 := ⟨h.i0.wide hX, h.i1.wide hX, h.i2.wide hX, h.i3.wide hX⟩
theorem four_of {X : List Nat} {w : World} {k : Nat} {d : Bool} {vb : Value} {p2 : Option Addr} {n2 c2 : Nat} {t t0 t1 t2 t3 : It} (h : ItC X w (k + 1) (.bool d) vb (.slice p2 n2 c2) t) (ht : t = .lst [t0, t1, t2, t3]) :
    d = true ∧ n2 = 4 ∧ ∃ bb oo, p2 = some ⟨bb, oo, none⟩ ∧ ∃ a0 a1 a2 b0 b1 b2 e0 e1 e2 d0 d1 d2, It4 X w k bb oo a0 a1 a2 b0 b1 b2 e0 e1 e2 d0 d1 d2 t0 t1 t2 t3 := by
  subst ht
  unfold ItC at h
  obtain ⟨hd, p, c, he, -, hc⟩ := h
  have hd' : d = true := by cases hd; rfl
  injection he with e1 e2 e3
  subst e1
  obtain ⟨bb, oo, rfl, hlt, hX, hcs⟩ := hc (by simp)
  obtain ⟨a0, a1, a2, q0, q1, q2, q3⟩ := hcs 0 (by simp)
  obtain ⟨b0, b1, b2, r0, r1, r2, r3⟩ := hcs 1 (by simp)
  obtain ⟨e0, f1, f2, s0, s1, s2, s3⟩ := hcs 2 (by simp)
  obtain ⟨d0, d1, d2, u0, u1, u2, u3⟩ := hcs 3 (by simp)
  exact ⟨hd', e2, bb, oo, rfl, a0, a1, a2, b0, b1, b2, e0, f1, f2, d0, d1, d2, ⟨q0, q1, q2, q3, hlt, hX⟩, ⟨r0, r1, r2, r3, hlt, hX⟩, ⟨s0, s1, s2, s3, hlt, hX⟩, ⟨u0, u1, u2, u3, hlt, hX⟩⟩
theorem itc_lst {X : List Nat} {w : World} {k : Nat} {x0 xb xl : Value} {ts : List It} (h : ItC X w k x0 xb xl (.lst ts)) : x0 = .bool true := by
  cases k with
  | zero => exact h.elim
  | succ k => unfold ItC at h; exact h.1
theorem itc_str {X : List Nat} {w : World} {k : Nat} {x0 xb xl : Value} {l : List Nat} (h : ItC X w k x0 xb xl (.str l)) : x0 = .bool false ∧ ∃ p c, xb = .slice p l.length c ∧ RdA X w (.slice p l.length c) l := by
  cases k with
  | zero => exact h.elim
  | succ k =>
    unfold ItC at h
    obtain ⟨p, n, c, he⟩ := slice_keep h.2.1
    have hr := h.2.1
    rw [he] at hr
    have := hr.len
    subst this
    exact ⟨h.1, p, c, he, hr⟩
theorem itc_len {X : List Nat} {w : World} {k : Nat} {d : Bool} {vb : Value} {p : Option Addr} {n c : Nat} {ts : List It} (h : ItC X w k (.bool d) vb (.slice p n c) (.lst ts)) : d = true ∧ n = ts.length := by
  cases k with
  | zero => exact h.elim
  | succ k =>
    unfold ItC at h
    obtain ⟨hd, p', c', he, _⟩ := h
    injection he with e1 e2 e3
    exact ⟨by cases hd; rfl, e2⟩
theorem itc_d {X : List Nat} {w : World} {k : Nat} {d : Bool} {vb vl : Value} {l : List Nat} (h : ItC X w k (.bool d) vb vl (.str l)) : d = false := by
  cases k with
  | zero => exact h.elim
  | succ k => unfold ItC at h; have := h.1; cases this; rfl
theorem rintC {X : List Nat} {k : Nat} {x0 vb vl : Value} {it : It} {w : World} (hi : ItC X w k x0 vb vl it) : Calls Tryz.prog 35 #[.agg #[x0, vb, vl]] w (IntP (intOfN it) w) := by
  cases k with
  | zero => exact hi.elim
  | succ k => cases it with
    | str L => unfold ItC at hi; obtain ⟨rfl, hr, _⟩ := hi; exact rint_str _ _ _ _ (hr.mono (by simp))
    | lst l => unfold ItC at hi; obtain ⟨rfl, _⟩ := hi; exact rint_lst _ _ _ _
theorem rwordC {X : List Nat} {k : Nat} {x0 vb vl : Value} {it : It} {w : World} (hi : ItC X w k x0 vb vl it) : Calls Tryz.prog 36 #[.agg #[x0, vb, vl]] w (WordPost it w) := by
  cases k with
  | zero => exact hi.elim
  | succ k => cases it with
    | str L => unfold ItC at hi; obtain ⟨rfl, hr, _⟩ := hi; exact rword_any _ _ _ _ (hr.mono (by simp))
    | lst l => unfold ItC at hi; obtain ⟨rfl, _⟩ := hi; exact rword_lst _ _ _ _
/-- The state begun anew at this world. -/
theorem St.rebase {bs : List Nat} {w0 w : World} {L : List Ent} (h : St bs w0 w L) : St (L.map (·.1)) w w L :=
  ⟨Tch.refl _ _, fun e he => ⟨(h.blk e he).1, .inr (List.mem_map_of_mem he)⟩, h.apart⟩
def RRPost (L : List Nat) (w : World) (e : Ending) (w' : World) : Prop :=
  Tch [] w w' ∧ e = .returned (.tuple #[.agg (bdCells (bdRead L)), .bool (bdRead L).isSome])
end Go.Proofs.YtdjhjgockgmbkaaGreatDoor
