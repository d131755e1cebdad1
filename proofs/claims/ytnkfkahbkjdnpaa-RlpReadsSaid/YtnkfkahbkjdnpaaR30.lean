/- The document's part: lists. -/
import Derived.Test.YtnkfkahbkjdnpaaR29
namespace Go.Proofs.Ytnkfkahbkjdnpaa
open Go.RowKit

theorem st_from {P : Program} {ops : Array Oper} {rest : List Oper} {o : Oper} {a : Act} {w : World} {Q : Exit → Act → World → Prop} {v l r : Value} (hgd : o.guard = none) (ty : TypeId) (x lo : Operand) (ho : o.op = .slice ty x (some lo) none none) (hx : a.eval x = v) (hl : a.eval lo = l)
    (hr : ∀ w, (Instr.sliceAt ty v (some l) none none).run P w = .ok r w) (h : wpList P ops Q rest (a.put o.dst r) w) : wpList P ops Q (o :: rest) a w :=
  wpList_plain hgd fun K hK => by
    unfold Oper.wp execOp
    simp only [ho, hx, hl, Option.map_some, Option.map_none, Sem.run_bind, hr, Result.andThen_ok, Sem.run_pure]
    exact hK _ _ h
theorem short_any {x : Nat} {r : List Nat} {h n : Nat} (hs : spl (x :: r) = some (h, n)) (hx : 128 ≤ x) (h64 : x % 64 ≤ 55) : h = 1 ∧ n = x % 64 ∧ n ≤ r.length := by
  obtain ⟨h1, h2, h3, _⟩ := short_some hs hx h64
  exact ⟨h1, h2, h3⟩
set_option maxHeartbeats 6000000 in
set_option maxRecDepth 100000 in
theorem part_list_short (j : Nat) (v : Value) (x : Nat) (r : List Nat) (w : World) (hn : (x :: r).length ≤ 16777216) (hv : RdA [] w v (x :: r)) (h n0 j' : Nat) (body : List Nat) (hx : 128 ≤ x) (hx1 : 192 ≤ x) (hjj : j = j' + 1) (hj32 : j ≤ 32) (hih : PartOK j') (hs : spl (x :: r) = some (h, n0)) (h64 : x % 64 ≤ 55) (hbody : body = ((x :: r).drop h).take n0) : Calls Try.prog 25 #[v, .int .i64 (j : Int)] w (PartPost j (x :: r) w) := by
  obtain ⟨f0, f1, f2, hty, _⟩ := item_ty
  have hS := St.start w
  obtain ⟨p, n, c, rfl⟩ := slice_keep hv
  obtain ⟨p', c', hp, hcap, hb, h4⟩ := id hv
  have hxb := hb x List.mem_cons_self
  cases hp
  obtain ⟨b, o, rfl, hbw, _, h8⟩ := h4 (by simp)
  have hc0 := h8 0 (by simp)
  rw [Nat.add_zero] at hc0
  simp only [List.getD_cons_zero] at hc0
  obtain ⟨rfl, rfl, hfit⟩ := short_any hs hx h64
  have hg : ¬ (192 ≤ x ∧ j = 0) := by omega
  have hx2 : ¬ (x : Int) < 128 := by omega
  have hxx : (192 ≤ x ∧ 0 < j) ∨ x < 192 := by
    rcases Nat.lt_or_ge x 192 with h | h
    · exact .inr h
    · exact .inl ⟨h, by rcases Nat.eq_zero_or_pos j with h0 | h0; exact absurd ⟨h, h0⟩ hg; exact h0⟩
  obtain ⟨N, hN⟩ : ∃ N, N = x % 64 := ⟨_, rfl⟩
  have hand := and63 x hxb
  rw [← hN] at hand
  have hk4 : ∀ w' : World, Tch [] w w' → w'.cell? ⟨b, o, none⟩ = some (.int .u8 (x : Int)) := fun w' hT => (hT.cell (p := ⟨b, o, none⟩) hbw (by simp)).trans hc0
  have HK := Lib.hid hk4
  have hHE := And.intro hx1 (And.intro hx (And.intro hs hbody))
  have hbl : body.length ≤ 16777216 := by rw [hbody, List.length_take, List.length_drop]; simp at hn ⊢; omega
  have HE := Lib.hid hHE
  have HBL := Lib.hid hbl
  have HJ := Lib.hid hjj
  have HIH := Lib.hid hih
  have HLEN := Lib.hid hn
  have hx4 : (192 : Int) ≤ x := by omega
  have hj0 : ((j : Int) == 0) = false := by rw [beq_eq_false_iff_ne]; omega
  have hj1 : ¬ (j : Int) = 0 := by omega
  have hjm : (j : Int) - 1 = (j' : Int) := by omega
  have hjl : j' ≤ 31 := by omega
  have hX : ∀ q, (c ≠ 1 → q = some ⟨b, o + 1, none⟩) → RdA [] w (.slice q N (c - 1)) body := fun q hq => by
    by_cases hc1 : c = 1
    · have h0 : N = 0 := by have : r.length + 1 ≤ c := hcap; omega
      have hb0 : body = [] := by rw [hbody, ← hN, h0, List.take_zero]
      rw [hb0, h0]
      exact ⟨q, c - 1, rfl, Nat.zero_le _, by simp, fun h => absurd rfl h⟩
    · rw [hq hc1, hbody, ← hN]
      exact (hv.from_ne 1 (by simp)).take (by simp; omega)
  have HX := Lib.hid hX
  have hN55 : N ≤ 55 := by omega
  have hlt55 : ¬ (55 : Int) < (N : Int) := by omega
  have hfit2 : ¬ ((r.length + 1 : Nat) : Int) - 1 < (N : Int) := by omega
  have hfit3 : N ≤ r.length := by omega
  have hcap2 : r.length + 1 ≤ c := hcap
  have HN := Lib.hid hN
  have hlen3 : r.length + 1 ≤ 16777216 := hn
  clear h8 h4 hv hb hk4 hc0 hs hg hN hX hHE hbl hbody h64 hfit hih hjj hxx hx hx1
  simp only [List.length_cons] at *
  by_cases hcc : c = 1
  · subst hcc
    go_enter Try.func25, Try.ntmps25
    go_wp2_with (first
      | (refine st_new (L := []) hS rfl 25 rfl item_zero ?_; clear hS; intro w4 b4 hS; have hc4 := HK.out w4 hS.frame)
      | (refine st_new (L := [(b4, 25, #[.bool false, .slice none 0 0, .slice none 0 0])]) hS rfl 25 rfl item_zero ?_; clear hS; intro w5 b14 hS)
      | (refine st_store (c' := #[.bool true, .slice none 0 0, .slice none 0 0]) hS rfl 25 _ _ rfl rfl rfl (by repeat (first | exact Upd.head | apply Upd.tail)) item_size (by rfl) (by rfl) (one3 rfl rfl rfl) ?_; clear hS; intro w6 hS))
    have H6 := Lib.hid (pti_start (j := j') hS (HX.out (some ⟨b, o, none⟩) (fun h => absurd rfl h)))
    clear hS
    go_loopw [13] (fun uv wr => ∃ u q ts, u = uv ∧ PTI w j' b4 b14 body u q ts wr) (fun uv _ => slLen uv)
    case atStart =>
      refine ⟨_, body, [], ?_, H6.out⟩
      first
      | rfl
      | rw [Nat.add_sub_cancel_left]
    case round =>
      obtain ⟨u, q, ts, rfl, hI⟩ := hrel
      obtain ⟨pn, nn, cn, hS, hnn, hR, hown, hu, hql, _⟩ := id hI
      subst hnn
      obtain ⟨pu, nu, cu, rfl⟩ := slice_keep hu
      have hlq := hu.len
      have hcu := hu.cap
      have hblen := HBL.out
      have HII := Lib.hid hI
      have HR := Lib.hid hR
      have HOWN := Lib.hid hown
      have HU := Lib.hid hu
      have hge14 := (hS.own .head).resolve_right (by simp)
      have hge4 := (hS.own (.tail .head)).resolve_right (by simp)
      clear hI hR hown hu
      by_cases hq0 : q = []
      · subst hq0
        obtain rfl : nu = 0 := hlq
        go_wp2_with (first
          | (refine st_load hS rfl 25 _ rfl rfl (by repeat (first | exact At.head | apply At.tail)) hty rfl item_size (by rfl) ?_)
          | (refine arm_store (w' := wr.setRow b4 #[.bool true, .slice none 0 0, .slice pn ts.length cn]) (b := b4) (c := #[.bool true, .slice none 0 0, .slice pn ts.length cn]) rfl 25 _ _ rfl rfl rfl ((hS.get (.tail .head)).store item_size (by rfl) (by rfl) (one3 rfl rfl rfl)) ?_))
        have hS9 := hS.upd (.tail .head) (Only.setRow wr b4 #[.bool true, .slice none 0 0, .slice pn ts.length cn]) ((hS.get (.tail .head)).row _)
        refine post_cell_two 4 5 6 25 rfl rfl rfl rfl rfl (hS9.get (.tail .head)) hty rfl item_size rfl ?_
        rw [HJ.out]
        exact part_lst_end (h := 1) (n0 := x % 64) HE.out.1 HE.out.2.2.1 rfl HN.out (by first | omega | simp) HE.out.2.2.2 HLEN.out HII.out HR.out rfl HOWN.out (Only.setRow _ _ _) hge4 hS9.frame
      · have hpos := List.length_pos_iff.2 hq0
        have hnu : 0 < nu := by omega
        have hnu2 : nu ≤ 16777216 := by omega
        have HLQ := Lib.hid hlq
        have hcall := HIH.out (.slice pu nu cu) q wr (by omega) (HU.out.tch hS.frame)
        have HQ0 := Lib.hid hq0
        cases hdq : dec j' q with
        | error ec =>
          have hc2 := hcall.mono (R' := fun e w' => ∃ d p1 n1 c1 p2 n2 c2, ∃ cnt : Nat, e = .returned (.tuple #[.agg #[.bool d, .slice p1 n1 c1, .slice p2 n2 c2], .int .i64 (cnt : Int), .int .i64 (ec : Int)]) ∧ Tch [] wr w') (fun e w' h => by
            obtain ⟨h1, d, p1, n1, c1, p2, n2, c2, cnt, en, h2, h3⟩ := h
            rw [hdq] at h3
            obtain ⟨rfl, _⟩ := h3
            exact ⟨d, p1, n1, c1, p2, n2, c2, cnt, h2, h1⟩)
          have hec := dec_error hdq
          have hec0 : ((ec : Int) != 0) = true := by rw [bne_iff_ne]; omega
          have hec1 : ¬ (ec : Int) = 0 := by omega
          have HCC := Lib.hid hc2
          have HLE := Lib.hid (part_lst_err (h := 1) (n0 := x % 64) HE.out.1 HE.out.2.2.1 HE.out.2.2.2 (pti_err HII.out hq0 hdq))
          clear hcall hc2 hdq hlq
          go_wp2_with (first
            | (go_at_call 25; with_reducible refine HCC.out.mono ?_; rintro e w7 ⟨d, p1, n1, c1, p2, n2, c2, cnt, rfl, hT7⟩; replace hS := hS.call hT7)
            | (refine st_new (L := [(b14, 25, #[.bool true, .slice none 0 0, .slice pn ts.length cn]), (b4, 25, #[.bool false, .slice none 0 0, .slice none 0 0])]) hS rfl 25 rfl item_zero ?_; clear hS; intro w8 b15 hS)
            | (refine st_store (c' := #[.bool d, .slice p1 n1 c1, .slice p2 n2 c2]) hS rfl 25 _ _ rfl rfl rfl (by repeat (first | exact Upd.head | apply Upd.tail)) item_size (by rfl) (by rfl) (one3 rfl rfl rfl) ?_; clear hS; intro w9 hS)
            | (refine st_store (c' := #[.bool false, .slice none 0 0, .slice none 0 0]) hS rfl 25 _ _ rfl rfl rfl (by repeat (first | exact Upd.head | apply Upd.tail)) item_size (by rfl) (by rfl) (one3 rfl rfl rfl) ?_; clear hS; intro w10 hS))
          refine post_cell_two 4 5 6 25 rfl rfl rfl rfl rfl (hS.get (.tail (.tail .head))) hty rfl item_size rfl ?_
          rw [HJ.out]
          exact partpost_no HLE.out rfl hS.frame
        | ok tr =>
          obtain ⟨t, rr⟩ := tr
          have hlt : rr.length < q.length := by obtain ⟨_, _, _, _, h⟩ := dec_rest hdq; exact h
          have hc2 := hcall.mono (R' := fun e w' => ∃ d p1 n1 c1 p2 n2 c2, ∃ cnt : Nat, e = .returned (.tuple #[.agg #[.bool d, .slice p1 n1 c1, .slice p2 n2 c2], .int .i64 (cnt : Int), .int .i64 0]) ∧ Tch [] wr w' ∧ cnt + rr.length = q.length ∧ rr = q.drop cnt ∧ ItF wr w' (j' + 1) (.bool d) (.slice p1 n1 c1) (.slice p2 n2 c2) t) (fun e w' h => by
            obtain ⟨h1, d, p1, n1, c1, p2, n2, c2, cnt, en, h2, h3⟩ := h
            rw [hdq] at h3
            obtain ⟨rfl, h4, h5, h6⟩ := h3
            exact ⟨d, p1, n1, c1, p2, n2, c2, cnt, h2, h1, h4, h5, h6⟩)
          have HCC := Lib.hid hc2
          have HPD := Lib.hid (pti_dec HII.out hq0 hdq)
          have HBS : Hid (∀ y ∈ [b14, b4], y ∈ [b14, b4] ∧ (Value.slice pn ts.length cn).ownBlock ≠ some y) := Lib.hid (fun y hy => ⟨hy, fun e => by
            have h1 := HOWN.out y e
            simp only [List.mem_cons, List.not_mem_nil, or_false] at hy
            exact hy.elim h1.1 h1.2⟩)
          have HFR : Hid (∀ Z : List Nat, (∀ z ∈ Z, z < w.heap.size) → ∀ y ∈ (Value.slice pn ts.length cn).ownBlock.toList ++ ([b14, b4] ++ Z), y < wr.heap.size) := Lib.hid (fun Z hZ y hy => by
            rcases List.mem_append.1 hy with hy | hy
            · exact (HR.out.lt y (by simpa using hy)).2
            rcases List.mem_append.1 hy with hy | hy
            · simp only [List.mem_cons, List.not_mem_nil, or_false] at hy
              rcases hy with rfl | rfl
              · exact (hS.get .head).lt
              · exact (hS.get (.tail .head)).lt
            · exact Nat.lt_of_lt_of_le (hZ y hy) hS.frame.size)
          clear hcall hc2 hdq hlq
          go_wp2_with (first
            | (go_at_call 25
               with_reducible refine HCC.out.mono ?_
               rintro e w7 ⟨d, p1, n1, c1, p2, n2, c2, cnt, rfl, hT7, hcnt, hrr, hitf⟩
               have hcn : cnt ≤ nu := by have := HLQ.out; omega
               have hcn1 : 0 < cnt := by omega
               have hmn : nu - cnt = rr.length := by have := HLQ.out; omega
               have HMN := Lib.hid hmn
               clear hmn
               have hS7 := hS.call hT7
               have HF7 := Lib.hid hS7.frame
               have hne := hS7.apart2
               have HR7 := Lib.hid (HR.out.call hT7)
               have HIT := Lib.hid hitf
               have HRR := Lib.hid hrr
               obtain ⟨p3, c3, hsl, hc3, hrd⟩ := slice_from pu nu cu cnt hcn hcu
               have HSL := Lib.hid hsl
               have HRD := Lib.hid (hrd [] w q HU.out)
               clear hS hT7 hrr hitf hsl hrd
               have hS := St.two (hS7.get .head) (hS7.get (.tail .head)) hne
               clear hS7)
            | (refine st_new (L := [(b14, 25, #[.bool true, .slice none 0 0, .slice pn ts.length cn]), (b4, 25, #[.bool false, .slice none 0 0, .slice none 0 0])]) hS rfl 25 rfl item_zero ?_; clear hS; intro w8 b15 hS)
            | (refine st_store (c' := #[.bool d, .slice p1 n1 c1, .slice p2 n2 c2]) hS rfl 25 _ _ rfl rfl rfl (by repeat (first | exact Upd.head | apply Upd.tail)) item_size (by rfl) (by rfl) (one3 rfl rfl rfl) ?_; clear hS; intro w9 hS; have hcl := (hS.get (.tail .head)).cell (j := 2) rfl)
            | (refine st_load (b := b15) hS rfl 25 _ rfl rfl (by repeat (first | exact At.head | apply At.tail)) hty rfl item_size (by rfl) ?_)
            | (at_builtin
               go_must (
                 refine st_appendI (w0 := w) (w := w9) (X := [b14, b4]) (k := j' + 1) (v := .slice pn ts.length cn) (y0 := .bool d) (yb := .slice p1 n1 c1) (yl := .slice p2 n2 c2) (ts := ts) (t := t) (by rfl) _ _ (by rfl) (by rfl) (by rfl) (HR7.out.tch hS.frame HBS.out) (fun Z hZ => (HIT.out _ (HFR.out Z hZ)).tch (hS.frame.mono (fun y hy => .inl (List.mem_append_right _ (List.mem_append_left _ hy))))) (one3 rfl rfl rfl) (HF7.out.fresh hS.frame (fun y hy => by simp only [List.mem_cons, List.not_mem_nil, or_false] at hy; rcases hy with rfl | rfl; exact hge14; exact hge4)) (by omega) ?_
                 intro p4 c4 w10 hR10 hT10 hsz hkeep hown10
                 have hB14 : Blk w10 b14 25 #[.bool true, .slice none 0 0, .slice pn ts.length cn] := by unfold Blk; rw [hkeep b14 (hS.get (.tail .head)).lt (fun e => (HOWN.out _ e).1 rfl)]; exact hS.get (.tail .head)
                 have hB4 : Blk w10 b4 25 #[.bool false, .slice none 0 0, .slice none 0 0] := by unfold Blk; rw [hkeep b4 (hS.get (.tail (.tail .head))).lt (fun e => (HOWN.out _ e).2 rfl)]; exact hS.get (.tail (.tail .head))
                 have hown11 : ∀ g, (Value.slice p4 (ts.length + 1) c4).ownBlock = some g → g ≠ b14 ∧ g ≠ b4 := fun g hg => by
                   rcases hown10 with e | e
                   · rw [e] at hg; exact HOWN.out g hg
                   · have h1 := e g hg
                     have h2 := (hS.get (.tail .head)).lt
                     have h3 := (hS.get (.tail (.tail .head))).lt
                     omega
                 have HR10 := Lib.hid hR10
                 have HO11 := Lib.hid hown11
                 have hS10 := St.of_two hT10 hB14 hB4 hne hge14 hge4
                 clear hS hcl hR10 hT10 hsz hkeep hown10 hown11 hB14 hB4
                 have hS := hS10
                 clear hS10))
            | (refine arm_store1 (b := b14) (j := 2) (v := .slice p4 (ts.length + 1) c4) rfl 23 _ _ rfl rfl rfl rfl sli_size (hS.get .head) (by show 2 < 3; decide) ?_
               intro w11 hB11 hO11
               have hS11 := hS.upd .head hO11 hB11
               have HR11 := Lib.hid (HR10.out.only hO11 (by simp) (fun e => (HO11.out _ e).1 rfl))
               clear hS hB11 hO11
               have hS := hS11
               clear hS11)
            | (refine st_from (v := .slice pu nu cu) (l := .int .i64 (cnt : Int)) (r := .slice p3 (nu - cnt) c3) rfl 22 _ _ (by rfl) (by rfl) (by rfl) HSL.out ?_))
          go_roundw
          case rel =>
            refine ⟨_, rr, ts ++ [t], rfl, p4, ts.length + 1, c4, hS, by simp, HR11.out, HO11.out, ?_, HPD.out⟩
            rw [HRR.out]
            exact HRD.out
          case measure =>
            have h1 := HLQ.out
            simp [slLen]; omega
  · go_enter Try.func25, Try.ntmps25
    go_wp2_with (first
      | (refine st_new (L := []) hS rfl 25 rfl item_zero ?_; clear hS; intro w4 b4 hS; have hc4 := HK.out w4 hS.frame)
      | (refine st_new (L := [(b4, 25, #[.bool false, .slice none 0 0, .slice none 0 0])]) hS rfl 25 rfl item_zero ?_; clear hS; intro w5 b14 hS)
      | (refine st_store (c' := #[.bool true, .slice none 0 0, .slice none 0 0]) hS rfl 25 _ _ rfl rfl rfl (by repeat (first | exact Upd.head | apply Upd.tail)) item_size (by rfl) (by rfl) (one3 rfl rfl rfl) ?_; clear hS; intro w6 hS))
    have H6 := Lib.hid (pti_start (j := j') hS (HX.out (some ⟨b, o + 1, none⟩) (fun _ => rfl)))
    clear hS
    go_loopw [13] (fun uv wr => ∃ u q ts, u = uv ∧ PTI w j' b4 b14 body u q ts wr) (fun uv _ => slLen uv)
    case atStart =>
      refine ⟨_, body, [], ?_, H6.out⟩
      first
      | rfl
      | rw [Nat.add_sub_cancel_left]
    case round =>
      obtain ⟨u, q, ts, rfl, hI⟩ := hrel
      obtain ⟨pn, nn, cn, hS, hnn, hR, hown, hu, hql, _⟩ := id hI
      subst hnn
      obtain ⟨pu, nu, cu, rfl⟩ := slice_keep hu
      have hlq := hu.len
      have hcu := hu.cap
      have hblen := HBL.out
      have HII := Lib.hid hI
      have HR := Lib.hid hR
      have HOWN := Lib.hid hown
      have HU := Lib.hid hu
      have hge14 := (hS.own .head).resolve_right (by simp)
      have hge4 := (hS.own (.tail .head)).resolve_right (by simp)
      clear hI hR hown hu
      by_cases hq0 : q = []
      · subst hq0
        obtain rfl : nu = 0 := hlq
        go_wp2_with (first
          | (refine st_load hS rfl 25 _ rfl rfl (by repeat (first | exact At.head | apply At.tail)) hty rfl item_size (by rfl) ?_)
          | (refine arm_store (w' := wr.setRow b4 #[.bool true, .slice none 0 0, .slice pn ts.length cn]) (b := b4) (c := #[.bool true, .slice none 0 0, .slice pn ts.length cn]) rfl 25 _ _ rfl rfl rfl ((hS.get (.tail .head)).store item_size (by rfl) (by rfl) (one3 rfl rfl rfl)) ?_))
        have hS9 := hS.upd (.tail .head) (Only.setRow wr b4 #[.bool true, .slice none 0 0, .slice pn ts.length cn]) ((hS.get (.tail .head)).row _)
        refine post_cell_two 4 5 6 25 rfl rfl rfl rfl rfl (hS9.get (.tail .head)) hty rfl item_size rfl ?_
        rw [HJ.out]
        exact part_lst_end (h := 1) (n0 := x % 64) HE.out.1 HE.out.2.2.1 rfl HN.out (by first | omega | simp) HE.out.2.2.2 HLEN.out HII.out HR.out rfl HOWN.out (Only.setRow _ _ _) hge4 hS9.frame
      · have hpos := List.length_pos_iff.2 hq0
        have hnu : 0 < nu := by omega
        have hnu2 : nu ≤ 16777216 := by omega
        have HLQ := Lib.hid hlq
        have hcall := HIH.out (.slice pu nu cu) q wr (by omega) (HU.out.tch hS.frame)
        have HQ0 := Lib.hid hq0
        cases hdq : dec j' q with
        | error ec =>
          have hc2 := hcall.mono (R' := fun e w' => ∃ d p1 n1 c1 p2 n2 c2, ∃ cnt : Nat, e = .returned (.tuple #[.agg #[.bool d, .slice p1 n1 c1, .slice p2 n2 c2], .int .i64 (cnt : Int), .int .i64 (ec : Int)]) ∧ Tch [] wr w') (fun e w' h => by
            obtain ⟨h1, d, p1, n1, c1, p2, n2, c2, cnt, en, h2, h3⟩ := h
            rw [hdq] at h3
            obtain ⟨rfl, _⟩ := h3
            exact ⟨d, p1, n1, c1, p2, n2, c2, cnt, h2, h1⟩)
          have hec := dec_error hdq
          have hec0 : ((ec : Int) != 0) = true := by rw [bne_iff_ne]; omega
          have hec1 : ¬ (ec : Int) = 0 := by omega
          have HCC := Lib.hid hc2
          have HLE := Lib.hid (part_lst_err (h := 1) (n0 := x % 64) HE.out.1 HE.out.2.2.1 HE.out.2.2.2 (pti_err HII.out hq0 hdq))
          clear hcall hc2 hdq hlq
          go_wp2_with (first
            | (go_at_call 25; with_reducible refine HCC.out.mono ?_; rintro e w7 ⟨d, p1, n1, c1, p2, n2, c2, cnt, rfl, hT7⟩; replace hS := hS.call hT7)
            | (refine st_new (L := [(b14, 25, #[.bool true, .slice none 0 0, .slice pn ts.length cn]), (b4, 25, #[.bool false, .slice none 0 0, .slice none 0 0])]) hS rfl 25 rfl item_zero ?_; clear hS; intro w8 b15 hS)
            | (refine st_store (c' := #[.bool d, .slice p1 n1 c1, .slice p2 n2 c2]) hS rfl 25 _ _ rfl rfl rfl (by repeat (first | exact Upd.head | apply Upd.tail)) item_size (by rfl) (by rfl) (one3 rfl rfl rfl) ?_; clear hS; intro w9 hS)
            | (refine st_store (c' := #[.bool false, .slice none 0 0, .slice none 0 0]) hS rfl 25 _ _ rfl rfl rfl (by repeat (first | exact Upd.head | apply Upd.tail)) item_size (by rfl) (by rfl) (one3 rfl rfl rfl) ?_; clear hS; intro w10 hS))
          refine post_cell_two 4 5 6 25 rfl rfl rfl rfl rfl (hS.get (.tail (.tail .head))) hty rfl item_size rfl ?_
          rw [HJ.out]
          exact partpost_no HLE.out rfl hS.frame
        | ok tr =>
          obtain ⟨t, rr⟩ := tr
          have hlt : rr.length < q.length := by obtain ⟨_, _, _, _, h⟩ := dec_rest hdq; exact h
          have hc2 := hcall.mono (R' := fun e w' => ∃ d p1 n1 c1 p2 n2 c2, ∃ cnt : Nat, e = .returned (.tuple #[.agg #[.bool d, .slice p1 n1 c1, .slice p2 n2 c2], .int .i64 (cnt : Int), .int .i64 0]) ∧ Tch [] wr w' ∧ cnt + rr.length = q.length ∧ rr = q.drop cnt ∧ ItF wr w' (j' + 1) (.bool d) (.slice p1 n1 c1) (.slice p2 n2 c2) t) (fun e w' h => by
            obtain ⟨h1, d, p1, n1, c1, p2, n2, c2, cnt, en, h2, h3⟩ := h
            rw [hdq] at h3
            obtain ⟨rfl, h4, h5, h6⟩ := h3
            exact ⟨d, p1, n1, c1, p2, n2, c2, cnt, h2, h1, h4, h5, h6⟩)
          have HCC := Lib.hid hc2
          have HPD := Lib.hid (pti_dec HII.out hq0 hdq)
          have HBS : Hid (∀ y ∈ [b14, b4], y ∈ [b14, b4] ∧ (Value.slice pn ts.length cn).ownBlock ≠ some y) := Lib.hid (fun y hy => ⟨hy, fun e => by
            have h1 := HOWN.out y e
            simp only [List.mem_cons, List.not_mem_nil, or_false] at hy
            exact hy.elim h1.1 h1.2⟩)
          have HFR : Hid (∀ Z : List Nat, (∀ z ∈ Z, z < w.heap.size) → ∀ y ∈ (Value.slice pn ts.length cn).ownBlock.toList ++ ([b14, b4] ++ Z), y < wr.heap.size) := Lib.hid (fun Z hZ y hy => by
            rcases List.mem_append.1 hy with hy | hy
            · exact (HR.out.lt y (by simpa using hy)).2
            rcases List.mem_append.1 hy with hy | hy
            · simp only [List.mem_cons, List.not_mem_nil, or_false] at hy
              rcases hy with rfl | rfl
              · exact (hS.get .head).lt
              · exact (hS.get (.tail .head)).lt
            · exact Nat.lt_of_lt_of_le (hZ y hy) hS.frame.size)
          clear hcall hc2 hdq hlq
          go_wp2_with (first
            | (go_at_call 25
               with_reducible refine HCC.out.mono ?_
               rintro e w7 ⟨d, p1, n1, c1, p2, n2, c2, cnt, rfl, hT7, hcnt, hrr, hitf⟩
               have hcn : cnt ≤ nu := by have := HLQ.out; omega
               have hcn1 : 0 < cnt := by omega
               have hmn : nu - cnt = rr.length := by have := HLQ.out; omega
               have HMN := Lib.hid hmn
               clear hmn
               have hS7 := hS.call hT7
               have HF7 := Lib.hid hS7.frame
               have hne := hS7.apart2
               have HR7 := Lib.hid (HR.out.call hT7)
               have HIT := Lib.hid hitf
               have HRR := Lib.hid hrr
               obtain ⟨p3, c3, hsl, hc3, hrd⟩ := slice_from pu nu cu cnt hcn hcu
               have HSL := Lib.hid hsl
               have HRD := Lib.hid (hrd [] w q HU.out)
               clear hS hT7 hrr hitf hsl hrd
               have hS := St.two (hS7.get .head) (hS7.get (.tail .head)) hne
               clear hS7)
            | (refine st_new (L := [(b14, 25, #[.bool true, .slice none 0 0, .slice pn ts.length cn]), (b4, 25, #[.bool false, .slice none 0 0, .slice none 0 0])]) hS rfl 25 rfl item_zero ?_; clear hS; intro w8 b15 hS)
            | (refine st_store (c' := #[.bool d, .slice p1 n1 c1, .slice p2 n2 c2]) hS rfl 25 _ _ rfl rfl rfl (by repeat (first | exact Upd.head | apply Upd.tail)) item_size (by rfl) (by rfl) (one3 rfl rfl rfl) ?_; clear hS; intro w9 hS; have hcl := (hS.get (.tail .head)).cell (j := 2) rfl)
            | (refine st_load (b := b15) hS rfl 25 _ rfl rfl (by repeat (first | exact At.head | apply At.tail)) hty rfl item_size (by rfl) ?_)
            | (at_builtin
               go_must (
                 refine st_appendI (w0 := w) (w := w9) (X := [b14, b4]) (k := j' + 1) (v := .slice pn ts.length cn) (y0 := .bool d) (yb := .slice p1 n1 c1) (yl := .slice p2 n2 c2) (ts := ts) (t := t) (by rfl) _ _ (by rfl) (by rfl) (by rfl) (HR7.out.tch hS.frame HBS.out) (fun Z hZ => (HIT.out _ (HFR.out Z hZ)).tch (hS.frame.mono (fun y hy => .inl (List.mem_append_right _ (List.mem_append_left _ hy))))) (one3 rfl rfl rfl) (HF7.out.fresh hS.frame (fun y hy => by simp only [List.mem_cons, List.not_mem_nil, or_false] at hy; rcases hy with rfl | rfl; exact hge14; exact hge4)) (by omega) ?_
                 intro p4 c4 w10 hR10 hT10 hsz hkeep hown10
                 have hB14 : Blk w10 b14 25 #[.bool true, .slice none 0 0, .slice pn ts.length cn] := by unfold Blk; rw [hkeep b14 (hS.get (.tail .head)).lt (fun e => (HOWN.out _ e).1 rfl)]; exact hS.get (.tail .head)
                 have hB4 : Blk w10 b4 25 #[.bool false, .slice none 0 0, .slice none 0 0] := by unfold Blk; rw [hkeep b4 (hS.get (.tail (.tail .head))).lt (fun e => (HOWN.out _ e).2 rfl)]; exact hS.get (.tail (.tail .head))
                 have hown11 : ∀ g, (Value.slice p4 (ts.length + 1) c4).ownBlock = some g → g ≠ b14 ∧ g ≠ b4 := fun g hg => by
                   rcases hown10 with e | e
                   · rw [e] at hg; exact HOWN.out g hg
                   · have h1 := e g hg
                     have h2 := (hS.get (.tail .head)).lt
                     have h3 := (hS.get (.tail (.tail .head))).lt
                     omega
                 have HR10 := Lib.hid hR10
                 have HO11 := Lib.hid hown11
                 have hS10 := St.of_two hT10 hB14 hB4 hne hge14 hge4
                 clear hS hcl hR10 hT10 hsz hkeep hown10 hown11 hB14 hB4
                 have hS := hS10
                 clear hS10))
            | (refine arm_store1 (b := b14) (j := 2) (v := .slice p4 (ts.length + 1) c4) rfl 23 _ _ rfl rfl rfl rfl sli_size (hS.get .head) (by show 2 < 3; decide) ?_
               intro w11 hB11 hO11
               have hS11 := hS.upd .head hO11 hB11
               have HR11 := Lib.hid (HR10.out.only hO11 (by simp) (fun e => (HO11.out _ e).1 rfl))
               clear hS hB11 hO11
               have hS := hS11
               clear hS11)
            | (refine st_from (v := .slice pu nu cu) (l := .int .i64 (cnt : Int)) (r := .slice p3 (nu - cnt) c3) rfl 22 _ _ (by rfl) (by rfl) (by rfl) HSL.out ?_))
          go_roundw
          case rel =>
            refine ⟨_, rr, ts ++ [t], rfl, p4, ts.length + 1, c4, hS, by simp, HR11.out, HO11.out, ?_, HPD.out⟩
            rw [HRR.out]
            exact HRD.out
          case measure =>
            have h1 := HLQ.out
            simp [slLen]; omega
end Go.Proofs.Ytnkfkahbkjdnpaa
