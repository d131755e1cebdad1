/- TrieTwo: its list of seventeen items. -/
import Derived.Test.YtanmpcgackfpaaaGreatM01
import Derived.Test.YtanmpcgackfpaaaGreatM14
import Derived.Test.YtanmpcgackfpaaaGreatM30
import Derived.Deep.AppendLies
set_option linter.unusedVariables false
set_option linter.unusedSimpArgs false
namespace Go.Proofs.YtanmpcgackfpaaaGreat
section
open Go.RowKit Tr
theorem item_infosT : (Tryz.prog.info? 101).map (fun i => (i.zero, i.size, i.bytes)) = some (some (.agg #[.bool false, .slice none 0 0, .slice none 0 0]), 3, 56) := by kernel_rfl
def zs (n : Nat) : List Value := (List.replicate n [Value.bool false, .slice none 0 0, .slice none 0 0]).flatten
section
variable {ops : Array Oper} {rest : List Oper} {o : Oper} {a : Act} {w0 w : World} {Q : Exit → Act → World → Prop}
end
end
section
open Go.RowKit
set_option maxRecDepth 100000
theorem and255 (n : Nat) (hn : n < 4294967296) : bits BinOp.and IntKind.i64 (n : Int) 255 = ((n % 256 : Nat) : Int) := by
  have key : (BitVec.ofInt 64 (n : Int) &&& BitVec.ofInt 64 255).toNat = n % 256 := by
    rw [BitVec.toNat_and, BitVec.toNat_ofInt, BitVec.toNat_ofInt]
    have e1 : ((n : Int) % ((2 ^ 64 : Nat) : Int)).toNat = n := by omega
    have e2 : ((255 : Int) % ((2 ^ 64 : Nat) : Int)).toNat = 2 ^ 8 - 1 := by decide
    rw [e1, e2, Nat.and_two_pow_sub_one_eq_mod]
  show IntKind.i64.wrap ((BitVec.ofInt 64 (n : Int) &&& BitVec.ofInt 64 255).toNat : Nat) = _
  rw [key, IntKind.wrap_i64]
  omega
theorem u8_small (n : Nat) (h : n < 256) : IntKind.u8.wrap (n : Int) = (n : Int) := by rw [IntKind.wrap_u8]; omega
def HeadPost (n base : Nat) (w : World) (e : Ending) (w' : World) : Prop :=
  ∃ v, e = .returned v ∧ Tch [] w w' ∧ w'.ownsRow w.heap.size 5 1 v (hd base n).length (nb (hd base n))
set_option maxHeartbeats 1000000 in
set_option maxRecDepth 100000 in
theorem rhead_small (n base : Nat) (w : World) (hn : n ≤ 55) (hb : base ≤ 192) : Calls Tryz.prog 104 #[.int .i64 (n : Int), .int .i64 (base : Int)] w (HeadPost n base w) := by
  have h1 : (n : Int) < 56 := by omega
  have hw : IntKind.u8.wrap ((base : Int) + (n : Int)) = (base : Int) + (n : Int) := by rw [IntKind.wrap_u8]; omega
  have HH := hQz (show hd base n = [base + n] by unfold hd; rw [if_pos hn])
  go_enter Tryz.func104, Tryz.ntmps104
  go_wp2
  go_ret
  refine ⟨_, rfl, (Tch.refl _ _).alloc _, ?_⟩
  rw [HH.out]
  exact own_lit (w0 := w) [base + n] (Nat.le_refl _) (by simp) _ rfl
set_option maxHeartbeats 1000000 in
set_option maxRecDepth 100000 in
theorem rhead_great (n base : Nat) (w : World) (hn : 55 < n) (hn4 : n < 4294967296) (hb : base ≤ 192) : Calls Tryz.prog 104 #[.int .i64 (n : Int), .int .i64 (base : Int)] w (HeadPost n base w) := by
  have h1 : ¬ (n : Int) < 56 := by omega
  have HH := hQz (show hd base n = (base + 55 + lsz n) :: be n by unfold hd; rw [if_neg (by omega)])
  have hl4 := lsz_le hn4
  have HL := hQz hl4
  have HN := hQz hn4
  clear hl4 hn4
  go_enter Tryz.func104, Tryz.ntmps104
  go_wp2
  go_loopw [5, 6] (fun u i wr => ∃ (q : Nat) (B : List Nat), i = .int .i64 (q : Int) ∧ q ≤ n ∧ Tch [] w wr ∧ Hid (be q ++ B = be n) ∧ Hid (wr.ownsRow w.heap.size 5 1 u B.length (nb B))) (fun _ i _ => (intOf i).toNat)
  case atStart => exact ⟨n, [], rfl, Nat.le_refl _, Tch.refl _ _, hQz (List.append_nil _), hQz (own_nil _ _)⟩
  case round =>
    obtain ⟨q, B, rfl, hq, hT, HB, HO⟩ := hrel
    have HBL := hQz (show B.length ≤ 4 by
      have h2 := congrArg List.length HB.out
      rw [List.length_append] at h2
      have h3 := HL.out
      unfold lsz at h3
      omega)
    have HBT := hQz (show ∀ x ∈ B, x < 256 from fun x hx => be_lt n x (by rw [← HB.out]; exact List.mem_append_right _ hx))
    have HR := hQz (fun (w' : World) (h : Tch [] wr w') => (RdB.own HO.out HBT.out).tch h (by simp))
    by_cases hq0 : 0 < q
    · have e1 : (0 : Int) < (q : Int) := by omega
      have ha := and255 q (by have := HN.out; omega)
      have hw := u8_small (q % 256) (by omega)
      have HBE := hQz (show be (q / 256) ++ ([q % 256] ++ B) = be n by rw [← List.append_assoc, ← be_pos hq0]; exact HB.out)
      have hsz := hT.size
      go_wp2_with (at_builtin; go_must (refine qj3 (w0 := w) (l := [q % 256]) (m := B) (ty := 5) rfl _ _ rfl rfl rfl (own_lit [q % 256] hsz (by simp) _ rfl) (hT.alloc _) (HR.out _ ((Tch.refl _ _).alloc _)) (by have := HBL.out; simp; omega) ?_; intro v3 w3 hown3 hT3))
      go_roundw
      case rel => exact ⟨q / 256, [q % 256] ++ B, by go_num, by omega, hT3, HBE, hQz hown3⟩
      case measure => simp [intOf]; omega
    · obtain rfl : q = 0 := by omega
      have HBE := hQz (show B = be n by have := HB.out; rwa [be_zero, List.nil_append] at this)
      obtain ⟨pu, cu, hu, hcu, _⟩ := HR.out wr (Tch.refl _ _)
      obtain ⟨nu, hnu⟩ : ∃ nu, nu = B.length := ⟨_, rfl⟩
      have hnu4 : nu ≤ 4 := by have := HBL.out; omega
      rw [← hnu] at hu
      subst hu
      have hw : IntKind.u8.wrap ((base : Int) + 55 + (nu : Int)) = (base : Int) + 55 + (nu : Int) := by rw [IntKind.wrap_u8]; omega
      have HNU := hQz (show lsz n = nu by unfold lsz; rw [← HBE.out]; exact hnu.symm)
      have hsz := hT.size
      clear hnu hcu
      go_wp2_with (at_builtin; go_must (refine qj3 (w0 := w) (l := [base + 55 + nu]) (m := B) (ty := 5) rfl _ _ rfl rfl rfl (own_lit [base + 55 + nu] hsz (by simp) _ rfl) (hT.alloc _) (HR.out _ ((Tch.refl _ _).alloc _)) (by have := HBL.out; simp; omega) ?_; intro v3 w3 hown3 hT3))
      go_ret
      refine ⟨_, rfl, hT3, ?_⟩
      rw [HH.out, HNU.out, ← HBE.out]
      exact hown3
theorem rhead_any (n base : Nat) (w : World) (hn : n < 4294967296) (hb : base ≤ 192) : Calls Tryz.prog 104 #[.int .i64 (n : Int), .int .i64 (base : Int)] w (HeadPost n base w) :=
  (Nat.lt_or_ge 55 n).elim (fun h => rhead_great n base w h hn hb) (fun h => rhead_small n base w h hb)
end
section
open Go.RowKit
set_option maxRecDepth 100000
def Cl (w : World) (k : Nat) (p : Option Addr) (ts : List It) : Prop := ts ≠ [] → ∃ b o, p = some ⟨b, o, none⟩ ∧ b < w.heap.size ∧ ∀ i (h : i < ts.length), ∃ y0 yb yl, w.cell? ⟨b, o + i * 3, none⟩ = some y0 ∧ w.cell? ⟨b, o + i * 3 + 1, none⟩ = some yb ∧ w.cell? ⟨b, o + i * 3 + 2, none⟩ = some yl ∧ ItC [] w k y0 yb yl ts[i]
theorem ItC.cl {w : World} {k : Nat} {x0 xb xl : Value} {ts : List It} (h : ItC [] w (k + 1) x0 xb xl (.lst ts)) : x0 = .bool true ∧ ∃ p c, xl = .slice p ts.length c ∧ ts.length < 4611686018427387904 ∧ Cl w k p ts := by
  unfold ItC at h
  obtain ⟨h0, p, c, h1, h2, h3⟩ := h
  refine ⟨h0, p, c, h1, h2.2, fun hne => ?_⟩
  obtain ⟨b, o, h4, h5, _, h6⟩ := h3 hne
  exact ⟨b, o, h4, h5, h6⟩
theorem own_base {w : World} {B B' n : Nat} {v : Value} {xs : List Value} (h : w.ownsRow B' 5 1 v n xs) (hB : B ≤ B') : w.ownsRow B 5 1 v n xs := by
  refine ⟨h.1, ?_⟩
  rcases h.2 with h0 | ⟨g, cap, cur, hv, hg, rest⟩
  · exact .inl h0
  · exact .inr ⟨g, cap, cur, hv, by omega, rest⟩
theorem own_keep2 {w1 w2 : World} {B : Nat} {v : Value} {n : Nat} {l : List Value} (h : w1.ownsRow B 5 1 v n l) (hT : Tch [] w1 w2) : w2.ownsRow B 5 1 v n l := by
  refine ⟨h.1, ?_⟩
  rcases h.2 with h0 | ⟨g, cap, cur, hv, hg, hb, rest⟩
  · exact .inl h0
  · exact .inr ⟨g, cap, cur, hv, hg, by rw [hT.block g (Array.getElem?_eq_some_iff.1 hb).1 (by simp)]; exact hb, rest⟩
theorem own_shape {w : World} {B n : Nat} {v : Value} {xs : List Value} (h : w.ownsRow B 5 1 v n xs) : ∃ p c, v = .slice p n c := by
  obtain ⟨_, h2⟩ := h
  rcases h2 with ⟨rfl, rfl⟩ | ⟨g, cap, cur, rfl, _⟩
  · exact ⟨_, _, rfl⟩
  · exact ⟨_, _, rfl⟩
theorem at_of {w : World} {p : Option Addr} {n c : Nat} {l : List Nat} (h : RdA [] w (.slice p n c) l) (hl : l ≠ []) : ∃ b o, p = some ⟨b, o, none⟩ ∧ b < w.heap.size ∧ ∀ i, i < l.length → w.cell? ⟨b, o + i, none⟩ = some (.int .u8 ((l.getD i 0 : Nat) : Int)) := by
  obtain ⟨_, _, h1, _, _, h4⟩ := h
  cases h1
  obtain ⟨b, o, h5, h6, _, h7⟩ := h4 hl
  exact ⟨b, o, h5, h6, h7⟩
theorem encS_ge (l : List Nat) : l.length ≤ (encS l).length := by
  unfold encS; split
  · omega
  · rw [List.length_append]; omega
theorem enc_ge (l : List It) : (encs l).length ≤ (enc (.lst l)).length := by rw [qi5, List.length_append]; omega
theorem encs_take_le (l : List It) (m : Nat) : (encs (l.take m)).length ≤ (encs l).length := by
  have e : encs l = encs (l.take m) ++ encs (l.drop m) := by rw [← qj6, List.take_append_drop]
  rw [e, List.length_append]; omega
def RPk (it : It) (w : World) (e : Ending) (w' : World) : Prop :=
  Tch [] w w' ∧ ∃ v q, e = .returned (.tuple #[v, .bool q]) ∧ (q = true → w'.ownsRow w.heap.size 5 1 v (enc it).length (nb (enc it)) ∧ (enc it).length ≤ 16777221 ∧ ∀ x ∈ enc it, x < 256) ∧ (q = false → 16777216 < (enc it).length)
theorem rpk_no {it : It} {w w' : World} (hT : Tch [] w w') (h : 16777216 < (enc it).length) : RPk it w (.returned (.tuple #[.slice none 0 0, .bool false])) w' := ⟨hT, _, _, rfl, (fun h => by cases h), fun _ => h⟩
theorem rpk_yes {it : It} {w w' : World} {v : Value} {l : List Nat} (hT : Tch [] w w') (he : enc it = l) (ho : w'.ownsRow w.heap.size 5 1 v l.length (nb l)) (hl : l.length ≤ 16777221) (hb : ∀ x ∈ l, x < 256) : RPk it w (.returned (.tuple #[v, .bool true])) w' := ⟨hT, _, _, rfl, (fun _ => by rw [he]; exact ⟨ho, hl, hb⟩), (fun h => by cases h)⟩
def RPkOK (k : Nat) : Prop := ∀ (y0 yb yl : Value) (it : It) (w : World), ItC [] w k y0 yb yl it → Calls Tryz.prog 63 #[.agg #[y0, yb, yl]] w (RPk it w)
set_option maxHeartbeats 2000000 in
set_option maxRecDepth 100000 in
theorem rpk_str (yb yl : Value) (l : List Nat) (w : World) (hv : RdA [] w yb l) (hl : l.length < 4611686018427387904) : Calls Tryz.prog 63 #[.agg #[.bool false, yb, yl]] w (RPk (.str l) w) := by
  have hS := St.start w
  obtain ⟨p, n, c, rfl⟩ := qb3 hv
  have hlen := hv.len
  have hlt := hv.lt
  by_cases hbig : 16777216 < n
  · have e1 : (16777216 : Int) < (n : Int) := by omega
    have HE := hQz (show 16777216 < (enc (.str l)).length by rw [qf4]; have := encS_ge l; omega)
    clear hv hlen
    go_enter Tryz.func63, Tryz.ntmps63
    go_wp2_with (refine qi0 (L := []) hS rfl 101 _ rfl rfl ?_; clear hS; intro w2 b0 hS; have d0 := (hS.get .head).cell (j := 0) rfl; have d1 := (hS.get .head).cell (j := 1) rfl)
    go_ret2
    exact rpk_no hS.frame HE.out
  have e1 : ¬ (16777216 : Int) < (n : Int) := by omega
  cases hs : single l with
  | true =>
    obtain ⟨hx1, hx2⟩ := single_one hs
    obtain ⟨x, hx⟩ : ∃ x, x = l.getD 0 0 := ⟨_, rfl⟩
    rw [← hx] at hx1 hx2
    subst hx1
    obtain rfl : n = 1 := by simpa using hlen
    obtain ⟨b, o, rfl, hbw, hc⟩ := at_of hv (by simp)
    have hc0 := hc 0 (by simp)
    rw [Nat.add_zero] at hc0
    simp only [List.getD_cons_zero] at hc0
    have hk := hQz (fun (w' : World) (h : Tch [] w w') => (h.cell (p := ⟨b, o, none⟩) hbw (by simp)).trans hc0)
    have e2 : (x : Int) < 128 := by omega
    have HE := hQz (show enc (.str [x]) = [x] by rw [qf4]; unfold encS; rw [if_pos hs])
    clear hv hlen hc hc0 hx hs
    go_enter Tryz.func63, Tryz.ntmps63
    go_wp2_with (refine qi0 (L := []) hS rfl 101 _ rfl rfl ?_; clear hS; intro w2 b0 hS; have d0 := (hS.get .head).cell (j := 0) rfl; have d1 := (hS.get .head).cell (j := 1) rfl; have hc0 := hk.out _ hS.frame)
    go_ret2
    exact rpk_yes ((hS.frame).alloc _) HE.out (own_lit (w0 := w) [x] hS.frame.size (by simp) _ rfl) (by simp) (by intro y hy; simp at hy; omega)
  | false =>
    have hel : enc (.str l) = hd 128 n ++ l := by rw [qf4]; unfold encS; rw [if_neg (by rw [hs]; decide), hlen]
    have hh := fun (w1 : World) => rhead_any n 128 w1 (by omega) (by decide)
    have hne : n = 1 → ∃ b o x, p = some ⟨b, o, none⟩ ∧ b < w.heap.size ∧ w.cell? ⟨b, o, none⟩ = some (.int .u8 (x : Int)) ∧ ¬ (x : Int) < 128 := fun h1 => by
      obtain ⟨b, o, rfl, hbw, hc⟩ := at_of hv (by intro e; subst e; simp at hlen; omega)
      have hc0 := hc 0 (by omega)
      refine ⟨b, o, _, rfl, hbw, by rw [Nat.add_zero] at hc0; exact hc0, fun hx => ?_⟩
      match l, hlen, hs, hx with
      | [y], _, hs, hx => simp [single] at hs; simp at hx; omega
      | [], hl0, _, _ => simp at hl0; omega
      | _ :: _ :: _, hl0, _, _ => simp at hl0; omega
    have HE := hQz hel
    have HH := hQz hh
    have HV := hQz (fun (w' : World) (h : Tch [] w w') => (hv.tch h).rdB)
    have HLT := hQz (show ∀ x ∈ hd 128 n ++ l, x < 256 from fun x hx => (List.mem_append.1 hx).elim (hd_lt (by decide) (by omega) x) (hlt x))
    have HLN := hQz (show (hd 128 n ++ l).length ≤ 16777221 by rw [List.length_append, qe6, ← hlen]; have := hsz_le (n := n) (by omega); omega)
    have HAP := hQz (show (hd 128 n).length + l.length ≤ 100000000 by rw [qe6, ← hlen]; have := hsz_le (n := n) (by omega); omega)
    by_cases h1 : n = 1
    · obtain ⟨b, o, x, rfl, hbw, hc0, e2⟩ := hne h1
      have hk := hQz (fun (w' : World) (h : Tch [] w w') => (h.cell (p := ⟨b, o, none⟩) hbw (by simp)).trans hc0)
      subst h1
      clear hv hlen hel hh hne hc0 hlt hs
      go_enter Tryz.func63, Tryz.ntmps63
      go_wp2_with (first
        | (refine qi0 (L := []) hS rfl 101 _ rfl rfl ?_; clear hS; intro w2 b0 hS; have d0 := (hS.get .head).cell (j := 0) rfl; have d1 := (hS.get .head).cell (j := 1) rfl; have hc0 := hk.out _ hS.frame)
        | (go_at_call 104; go_must (refine (HH.out w2).mono ?_; rintro e w3 ⟨u, rfl, hT3, hown⟩))
        | (at_builtin; go_must (refine qj3 (w0 := w2) (l := hd 128 1) (m := l) (ty := 5) rfl _ _ rfl rfl rfl hown hT3 (HV.out _ (hS.frame.trans hT3)) HAP.out ?_; intro v4 w4 hown4 hT4)))
      go_ret2
      exact rpk_yes (hS.frame.trans hT4) HE.out (own_base hown4 hS.frame.size) HLN.out HLT.out
    · have e2 : ((n : Int) == 1) = false := by rw [beq_eq_false_iff_ne]; omega
      have e3 : ¬ (n : Int) = 1 := by omega
      clear hv hlen hel hh hne hlt hs
      go_enter Tryz.func63, Tryz.ntmps63
      go_wp2_with (first
        | (refine qi0 (L := []) hS rfl 101 _ rfl rfl ?_; clear hS; intro w2 b0 hS; have d0 := (hS.get .head).cell (j := 0) rfl; have d1 := (hS.get .head).cell (j := 1) rfl)
        | (go_at_call 104; go_must (refine (HH.out w2).mono ?_; rintro e w3 ⟨u, rfl, hT3, hown⟩))
        | (at_builtin; go_must (refine qj3 (w0 := w2) (l := hd 128 n) (m := l) (ty := 5) rfl _ _ rfl rfl rfl hown hT3 (HV.out _ (hS.frame.trans hT3)) HAP.out ?_; intro v4 w4 hown4 hT4)))
      go_ret2
      exact rpk_yes (hS.frame.trans hT4) HE.out (own_base hown4 hS.frame.size) HLN.out HLT.out
set_option maxHeartbeats 4000000 in
set_option maxRecDepth 100000 in
theorem rpk_lst (k : Nat) (ih : RPkOK k) (p : Option Addr) (n c : Nat) (yb : Value) (its : List It) (w : World) (hn : n = its.length) (hn6 : n < 4611686018427387904) (hcc : n ≤ c) (hcells : Cl w k p its) :
    Calls Tryz.prog 63 #[.agg #[.bool true, yb, .slice p n c]] w (RPk (.lst its) w) := by
  have hS := St.start w
  have HL := hQz hn
  have HC := hQz hcells
  have HI := hQz ih
  clear hn hcells ih
  go_enter Tryz.func63, Tryz.ntmps63
  go_wp2_with (refine qi0 (L := []) hS rfl 101 _ rfl rfl ?_; clear hS; intro w2 b0 hS; have d0 := (hS.get .head).cell (j := 0) rfl)
  clear d0
  have hF2 := hS.frame
  have HB0 := hQz (hS.get .head)
  clear hS
  go_loopw [5, 6] (fun u i wr => ∃ m : Nat, i = .int .i64 (m : Int) ∧ m ≤ n ∧ Tch [] w2 wr ∧ Hid (wr.ownsRow w2.heap.size 5 1 u (encs (its.take m)).length (nb (encs (its.take m)))) ∧ Hid ((encs (its.take m)).length ≤ 16777216 ∧ ∀ x ∈ encs (its.take m), x < 256)) (fun _ i _ => n - (intOf i).toNat)
  case atStart => exact ⟨0, rfl, Nat.zero_le _, Tch.refl _ _, hQz (by rw [List.take_zero]; exact own_nil _ _), hQz (by simp [encs])⟩
  case round =>
    obtain ⟨m, rfl, hm, hT, HO, HA⟩ := hrel
    have d2 := (hT.blk HB0.out (by simp)).cell (j := 2) rfl
    by_cases hlt : m < n
    · have e1 : (m : Int) < (n : Int) := by omega
      have hml : m < its.length := by have := HL.out; omega
      obtain ⟨b, o, rfl, hbw, hcs⟩ := HC.out (by intro e; subst e; simp at hml)
      obtain ⟨z0, zb, zl, g0, g1, g2, hz⟩ := hcs m hml
      obtain ⟨it, hit⟩ : ∃ it, it = its[m] := ⟨_, rfl⟩
      rw [← hit] at hz
      have hTw := hF2.trans hT
      have HTK := hQz (show encs (its.take (m + 1)) = encs (its.take m) ++ enc it by rw [encs_succ hml, hit])
      have HIN := hQz (show (enc it).length ≤ (encs its).length by rw [hit]; exact encs_item its m hml)
      have f0 := (hTw.cell (p := ⟨b, o + m * 3, none⟩) hbw (by simp)).trans g0
      have f1 := (hTw.cell (p := ⟨b, o + m * 3 + 1, none⟩) hbw (by simp)).trans g1
      have f2 := (hTw.cell (p := ⟨b, o + m * 3 + 2, none⟩) hbw (by simp)).trans g2
      have HK := hQz (HI.out z0 zb zl it wr (hz.tch hTw))
      clear hcs g0 g1 g2 hz hit
      obtain ⟨pu, cu, hu⟩ := own_shape HO.out
      obtain ⟨nu, hnu⟩ : ∃ nu, nu = (encs (its.take m)).length := ⟨_, rfl⟩
      rw [← hnu] at hu
      subst hu
      have hnu6 : nu ≤ 16777216 := by have := HA.out.1; omega
      have HNU := hQz hnu
      clear hnu
      go_upto_region 13 with (go_at_call 63; go_must (refine HK.out.mono ?_; rintro e w3 ⟨hT3, v3, q, rfl, hy, hno⟩))
      cases q with
      | false =>
        have HE := hQz (show 16777216 < (enc (.lst its)).length by have h1 := hno rfl; have h2 := HIN.out; have h3 := enc_ge its; omega)
        clear hy hno
        go_wp2
        go_ret2
        exact rpk_no (hTw.trans hT3) HE.out
      | true =>
        obtain ⟨hown, hle, hb⟩ := hy rfl
        obtain ⟨pv, cv, hv⟩ := own_shape hown
        obtain ⟨nv, hnv⟩ : ∃ nv, nv = (enc it).length := ⟨_, rfl⟩
        rw [← hnv] at hv hle
        subst hv
        have HNV := hQz hnv
        clear hy hno hnv
        by_cases hbig : 16777216 < nu + nv
        · have e2 : (16777216 : Int) < (nu : Int) + (nv : Int) := by omega
          have HE := hQz (show 16777216 < (enc (.lst its)).length by
            have h1 := encs_take_le its (m + 1)
            rw [HTK.out, List.length_append, ← HNU.out, ← HNV.out] at h1
            have h3 := enc_ge its
            omega)
          clear hown hb
          go_wp2
          go_ret2
          exact rpk_no (hTw.trans hT3) HE.out
        · have e2 : ¬ (16777216 : Int) < (nu : Int) + (nv : Int) := by omega
          have HO3 := hQz (own_keep2 HO.out hT3)
          have HV := hQz (RdB.own hown hb)
          have HAP := hQz (show (encs (its.take m)).length + (enc it).length ≤ 100000000 by rw [← HNU.out, ← HNV.out]; omega)
          have HAL := hQz (show (encs (its.take m) ++ enc it).length ≤ 16777216 by rw [List.length_append, ← HNU.out, ← HNV.out]; omega)
          have HBB := hQz hb
          clear hown hb
          go_wp2_with (at_builtin; go_must (refine qj3 (w0 := w2) (l := encs (its.take m)) (m := enc it) (ty := 5) rfl _ _ rfl rfl rfl HO3.out (hT.trans hT3) HV.out HAP.out ?_; intro v5 w5 hown5 hT5))
          go_roundw
          case rel =>
            refine ⟨m + 1, by go_num, hlt, hT5, hQz (by rw [HTK.out]; exact hown5), hQz ?_⟩
            rw [HTK.out]
            exact ⟨HAL.out, fun x hx => (List.mem_append.1 hx).elim (HA.out.2 x) (HBB.out x)⟩
          case measure => simp [intOf]; omega
    · obtain rfl : m = n := by omega
      have e1 : ¬ (m : Int) < (m : Int) := by omega
      have htk : its.take m = its := List.take_of_length_le (by have := HL.out; omega)
      rw [htk] at HO HA
      obtain ⟨pu, cu, hu⟩ := own_shape HO.out
      obtain ⟨nu, hnu⟩ : ∃ nu, nu = (encs its).length := ⟨_, rfl⟩
      rw [← hnu] at hu
      subst hu
      have hnu6 : nu ≤ 16777216 := by have := HA.out.1; omega
      have HH := hQz (fun (w1 : World) => rhead_any nu 192 w1 (by omega) (by decide))
      have h5 := hsz_le (n := nu) (by omega)
      have HE := hQz (show enc (.lst its) = hd 192 nu ++ encs its by rw [qi5, hnu])
      have HLT := hQz (show ∀ x ∈ hd 192 nu ++ encs its, x < 256 from fun x hx => (List.mem_append.1 hx).elim (hd_lt (by decide) (by omega) x) (HA.out.2 x))
      have HLN := hQz (show (hd 192 nu ++ encs its).length ≤ 16777221 by rw [List.length_append, qe6, ← hnu]; omega)
      have HAP := hQz (show (hd 192 nu).length + (encs its).length ≤ 100000000 by rw [qe6, ← hnu]; omega)
      have HV := hQz (fun (w' : World) (h : Tch [] wr w') => (RdB.own HO.out HA.out.2).tch h (by simp))
      have HNU := hQz hnu
      clear htk hnu h5
      go_wp2_with (first
        | (go_at_call 104; go_must (refine (HH.out wr).mono ?_; rintro e w3 ⟨u, rfl, hT3, hown⟩))
        | (at_builtin; go_must (refine qj3 (w0 := wr) (l := hd 192 nu) (m := encs its) (u := .slice pu nu cu) (ty := 5) rfl _ _ rfl rfl rfl hown hT3 (HV.out _ hT3) HAP.out ?_; intro v4 w4 hown4 hT4)))
      go_ret2
      exact rpk_yes ((hF2.trans hT).trans hT4) HE.out (own_base hown4 (hF2.trans hT).size) HLN.out HLT.out
theorem rpk_any : ∀ k, RPkOK k
  | 0 => fun _ _ _ _ _ h => h.elim
  | k + 1 => fun y0 yb yl it w hit => by
    cases it with
    | str l =>
      unfold ItC at hit
      obtain ⟨rfl, hv, hl⟩ := hit
      exact rpk_str yb yl l w hv hl
    | lst its =>
      obtain ⟨rfl, p, c, rfl, hl, hcl⟩ := hit.cl
      unfold ItC at hit
      obtain ⟨_, p', c', he, ⟨hcc, _⟩, _⟩ := hit
      cases he
      exact rpk_lst k (rpk_any k) p its.length c yb its w rfl hl hcc hcl
end
end Go.Proofs.YtanmpcgackfpaaaGreat
