/- SameItem at any two items. -/
import Derived.Test.YtacnechjofnnjaaR21
namespace Go.Proofs.Ytacnechjofnnjaa
open Go.RowKit

theorem strB_list (l : List Nat) : (strB l).toList = l.map UInt8.ofNat := by
  rw [ByteArray.toList_eq]; rfl
theorem ofNat_inj : ∀ {a b : List Nat}, (∀ x ∈ a, x < 256) → (∀ x ∈ b, x < 256) → a.map UInt8.ofNat = b.map UInt8.ofNat → a = b
  | [], [], _, _, _ => rfl
  | [], _ :: _, _, _, h => by simp at h
  | _ :: _, [], _, _, h => by simp at h
  | x :: r, y :: s, ha, hb, h => by
    simp only [List.map_cons, List.cons.injEq] at h
    have h1 := congrArg UInt8.toNat h.1
    have hx := ha x List.mem_cons_self
    have hy := hb y List.mem_cons_self
    simp [Nat.mod_eq_of_lt hx, Nat.mod_eq_of_lt hy] at h1
    rw [h1, ofNat_inj (fun z hz => ha z (List.mem_cons_of_mem _ hz)) (fun z hz => hb z (List.mem_cons_of_mem _ hz)) h.2]
theorem strB_eq {a b : List Nat} (ha : ∀ x ∈ a, x < 256) (hb : ∀ x ∈ b, x < 256) : ((strB a).toList == (strB b).toList) = (a == b) := by
  rw [strB_list, strB_list]
  by_cases h : a = b
  · subst h; simp
  · have h1 : ¬ a.map UInt8.ofNat = b.map UInt8.ofNat := fun e => h (ofNat_inj ha hb e)
    rw [beq_eq_false_iff_ne.2 h1, beq_eq_false_iff_ne.2 h]
def SameOK (k : Nat) : Prop := ∀ (x0 vb vl y0 yb yl : Value) (ta tb : It) (w : World), ItC [] w k x0 vb vl ta → ItC [] w k y0 yb yl tb →
  Calls Try.prog 11 #[.agg #[x0, vb, vl], .agg #[y0, yb, yl]] w fun e w' => e = .returned (.bool (eqI ta tb)) ∧ Tch [] w w'
set_option maxHeartbeats 800000 in
set_option maxRecDepth 100000 in
theorem same_kind_false (vb vl yb yl : Value) (ta tb : It) (w : World) (he : eqI ta tb = false) :
    Calls Try.prog 11 #[.agg #[.bool false, vb, vl], .agg #[.bool true, yb, yl]] w fun e w' => e = .returned (.bool (eqI ta tb)) ∧ Tch [] w w' := by
  have hS := St.start w
  rw [he]
  go_enter Try.func11, Try.ntmps11
  go_wp2_with (first
    | (refine st_box (L := []) hS rfl 25 _ rfl rfl ?_; clear hS; intro w0 b0 hS)
    | (refine st_box hS rfl 25 _ rfl rfl ?_; clear hS; intro w1 b1 hS
       have c0 := (hS.get .head).cell (j := 0) rfl
       have c1 := (hS.get (.tail .head)).cell (j := 0) rfl))
  go_ret
  exact ⟨rfl, hS.frame⟩
set_option maxHeartbeats 800000 in
set_option maxRecDepth 100000 in
theorem same_kind_true (vb vl yb yl : Value) (ta tb : It) (w : World) (he : eqI ta tb = false) :
    Calls Try.prog 11 #[.agg #[.bool true, vb, vl], .agg #[.bool false, yb, yl]] w fun e w' => e = .returned (.bool (eqI ta tb)) ∧ Tch [] w w' := by
  have hS := St.start w
  rw [he]
  go_enter Try.func11, Try.ntmps11
  go_wp2_with (first
    | (refine st_box (L := []) hS rfl 25 _ rfl rfl ?_; clear hS; intro w0 b0 hS)
    | (refine st_box hS rfl 25 _ rfl rfl ?_; clear hS; intro w1 b1 hS
       have c0 := (hS.get .head).cell (j := 0) rfl
       have c1 := (hS.get (.tail .head)).cell (j := 0) rfl))
  go_ret
  exact ⟨rfl, hS.frame⟩
set_option maxHeartbeats 800000 in
set_option maxRecDepth 100000 in
theorem same_str (vb vl yb yl : Value) (la lb : List Nat) (w : World) (ha : RdA [] w vb la) (hb : RdA [] w yb lb) :
    Calls Try.prog 11 #[.agg #[.bool false, vb, vl], .agg #[.bool false, yb, yl]] w fun e w' => e = .returned (.bool (la == lb)) ∧ Tch [] w w' := by
  have hS := St.start w
  obtain ⟨p1, n1, k1, rfl⟩ := slice_keep ha
  obtain ⟨p2, n2, k2, rfl⟩ := slice_keep hb
  have HE := Lib.hid (And.intro (strB_eq ha.lt hb.lt) (And.intro ha hb))
  clear ha hb
  go_enter Try.func11, Try.ntmps11
  go_wp2_with (first
    | (refine st_box (L := []) hS rfl 25 _ rfl rfl ?_; clear hS; intro w0 b0 hS)
    | (refine st_box hS rfl 25 _ rfl rfl ?_; clear hS; intro w1 b1 hS
       have c0 := (hS.get .head).cell (j := 0) rfl
       have c1 := (hS.get (.tail .head)).cell (j := 0) rfl
       have d0 := (hS.get .head).cell (j := 1) rfl
       have d1 := (hS.get (.tail .head)).cell (j := 1) rfl
       have q1 := conv_rd ((HE.out.2.1.tch hS.frame).rdB)
       have q2 := conv_rd ((HE.out.2.2.tch hS.frame).rdB)
       generalize hs1 : strB la = s1 at *
       generalize hs2 : strB lb = s2 at *))
  go_ret
  refine ⟨?_, hS.frame⟩
  rw [← HE.out.1]; rfl
theorem eqL_len {la lb : List It} (h : la.length ≠ lb.length) : eqI (.lst la) (.lst lb) = false := eqI_ne (fun e => h (by cases e; rfl))
theorem eqL_at {la lb : List It} {m : Nat} (h1 : m < la.length) (h2 : m < lb.length) (h : eqI la[m] lb[m] = false) : eqI (.lst la) (.lst lb) = false := eqI_ne (fun e => by
  cases e
  rw [eqI_self] at h; cases h)
theorem eqL_all {la lb : List It} (hl : la.length = lb.length) (h : ∀ q (h1 : q < la.length) (h2 : q < lb.length), la[q] = lb[q]) : eqI (.lst la) (.lst lb) = true := (eqI_iff _ _).2 (by rw [List.ext_getElem hl h])
set_option maxHeartbeats 800000 in
set_option maxRecDepth 100000 in
theorem same_len (p1 p2 : Option Addr) (k1 k2 : Nat) (vb yb : Value) (la lb : List It) (w : World) (h : la.length ≠ lb.length) (hm1 : la.length < 4611686018427387904) (hm2 : lb.length < 4611686018427387904) :
    Calls Try.prog 11 #[.agg #[.bool true, vb, .slice p1 la.length k1], .agg #[.bool true, yb, .slice p2 lb.length k2]] w fun e w' => e = .returned (.bool (eqI (.lst la) (.lst lb))) ∧ Tch [] w w' := by
  have hS := St.start w
  rw [eqL_len h]
  have hne : ((la.length : Int) != (lb.length : Int)) = true := by rw [bne_iff_ne]; omega
  generalize la.length = n1 at *
  generalize lb.length = n2 at *
  go_enter Try.func11, Try.ntmps11
  go_wp2_with (first
    | (refine st_box (L := []) hS rfl 25 _ rfl rfl ?_; clear hS; intro w0 b0 hS)
    | (refine st_box hS rfl 25 _ rfl rfl ?_; clear hS; intro w1 b1 hS
       have c0 := (hS.get .head).cell (j := 0) rfl
       have c1 := (hS.get (.tail .head)).cell (j := 0) rfl
       have d0 := (hS.get .head).cell (j := 2) rfl
       have d1 := (hS.get (.tail .head)).cell (j := 2) rfl))
  go_ret
  exact ⟨rfl, hS.frame⟩
/-- The cells of a list's items. -/
def Cl (w : World) (k : Nat) (p : Option Addr) (ts : List It) : Prop := ts ≠ [] → ∃ b o, p = some ⟨b, o, none⟩ ∧ b < w.heap.size ∧ ∀ i (h : i < ts.length), ∃ y0 yb yl, w.cell? ⟨b, o + i * 3, none⟩ = some y0 ∧ w.cell? ⟨b, o + i * 3 + 1, none⟩ = some yb ∧ w.cell? ⟨b, o + i * 3 + 2, none⟩ = some yl ∧ ItC [] w k y0 yb yl ts[i]
set_option maxHeartbeats 800000 in
set_option maxRecDepth 100000 in
theorem same_list (k : Nat) (ih : SameOK k) (p1 p2 : Option Addr) (k1 k2 n : Nat) (vb yb : Value) (la lb : List It) (w : World) (h1 : n = la.length) (h2 : n = lb.length) (hm : n < 4611686018427387904) (hc1 : Cl w k p1 la) (hc2 : Cl w k p2 lb) :
    Calls Try.prog 11 #[.agg #[.bool true, vb, .slice p1 n k1], .agg #[.bool true, yb, .slice p2 n k2]] w fun e w' => e = .returned (.bool (eqI (.lst la) (.lst lb))) ∧ Tch [] w w' := by
  have hS := St.start w
  have HL := Lib.hid (And.intro h1 h2)
  have HC := Lib.hid (And.intro hc1 hc2)
  have HI := Lib.hid ih
  clear h1 h2 hc1 hc2 ih
  go_enter Try.func11, Try.ntmps11
  go_wp2_with (first
    | (refine st_box (L := []) hS rfl 25 _ rfl rfl ?_; clear hS; intro w0 b0 hS)
    | (refine st_box hS rfl 25 _ rfl rfl ?_; clear hS; intro w1 b1 hS
       have c0 := (hS.get .head).cell (j := 0) rfl
       have c1 := (hS.get (.tail .head)).cell (j := 0) rfl
       have d0 := (hS.get .head).cell (j := 2) rfl
       have d1 := (hS.get (.tail .head)).cell (j := 2) rfl))
  clear c0 c1 d0 d1
  go_loopw [5] (fun i wr => ∃ m : Nat, m ≤ n ∧ i = .int .i64 (m : Int) ∧ St [] w wr [(b1, 25, #[.bool true, yb, .slice p2 n k2]), (b0, 25, #[.bool true, vb, .slice p1 n k1])] ∧ Hid (∀ q (h1 : q < la.length) (h2 : q < lb.length), q < m → la[q] = lb[q])) (fun i _ => n - (intOf i).toNat)
  case atStart => exact ⟨0, Nat.zero_le _, rfl, hS, Lib.hid (fun q _ _ h => absurd h (by omega))⟩
  case round =>
    clear hS
    obtain ⟨m, hmn, rfl, hS, HA⟩ := hrel
    have d0 := (hS.get .head).cell (j := 2) rfl
    have d1 := (hS.get (.tail .head)).cell (j := 2) rfl
    by_cases hlt : m < n
    · have hla : m < la.length := by have := HL.out.1; omega
      have hlb : m < lb.length := by have := HL.out.2; omega
      obtain ⟨ba, oa, rfl, hba, hca⟩ := HC.out.1 (by intro e; rw [e] at hla; simp at hla)
      obtain ⟨bb, ob, rfl, hbb, hcb⟩ := HC.out.2 (by intro e; rw [e] at hlb; simp at hlb)
      obtain ⟨x0, xb, xl, f0, f1, f2, hita⟩ := hca m hla
      obtain ⟨y0, yb', yl, g0, g1, g2, hitb⟩ := hcb m hlb
      have hT := hS.frame
      have f0' := (hT.cell (p := ⟨ba, oa + m * 3, none⟩) hba (by simp)).trans f0
      have f1' := (hT.cell (p := ⟨ba, oa + m * 3 + 1, none⟩) hba (by simp)).trans f1
      have f2' := (hT.cell (p := ⟨ba, oa + m * 3 + 2, none⟩) hba (by simp)).trans f2
      have g0' := (hT.cell (p := ⟨bb, ob + m * 3, none⟩) hbb (by simp)).trans g0
      have g1' := (hT.cell (p := ⟨bb, ob + m * 3 + 1, none⟩) hbb (by simp)).trans g1
      have g2' := (hT.cell (p := ⟨bb, ob + m * 3 + 2, none⟩) hbb (by simp)).trans g2
      have hcall := fun nq => HI.out x0 xb xl y0 yb' yl la[m] lb[m] (wr.drewN nq) (hita.tch (hT.drewN nq)) (hitb.tch (hT.drewN nq))
      have HK := Lib.hid hcall
      clear hcall hca hcb f0 f1 f2 g0 g1 g2 hita hitb
      cases hq : eqI la[m] lb[m] with
      | false =>
        rw [hq] at HK
        have HE := Lib.hid (eqL_at hla hlb hq)
        clear hq
        go_wp2
        refine wp_region_head (C := fun w' => ∃ k, w' = wr.drewN k) 10 (by kernel_rfl) (by kernel_rfl) ⟨1, rfl⟩ ?_
        simp only [List.take_succ_cons, List.take_zero, List.drop_succ_cons, List.drop_zero]
        repeat (quiet_step (fail))
        refine wpQuiet_nil ?_
        rintro w2 ⟨nq, rfl⟩
        go_wp2_with (go_at_call 11; refine (HK.out nq).mono ?_; rintro e w3 ⟨rfl, hT3⟩)
        go_ret
        rw [HE.out]
        exact ⟨rfl, hT.trans (((Tch.refl _ _).drewN nq).trans hT3)⟩
      | true =>
        rw [hq] at HK
        have HE := Lib.hid ((eqI_iff _ _).1 hq)
        clear hq
        go_wp2
        refine wp_region_head (C := fun w' => ∃ k, w' = wr.drewN k) 10 (by kernel_rfl) (by kernel_rfl) ⟨1, rfl⟩ ?_
        simp only [List.take_succ_cons, List.take_zero, List.drop_succ_cons, List.drop_zero]
        repeat (quiet_step (fail))
        refine wpQuiet_nil ?_
        rintro w2 ⟨nq, rfl⟩
        go_wp2_with (go_at_call 11; refine (HK.out nq).mono ?_; rintro e w3 ⟨rfl, hT3⟩)
        go_roundw
        case rel => exact ⟨m + 1, by omega, by go_num, (hS.drewN nq).call hT3, Lib.hid (fun q h1 h2 hq => by
          by_cases hqm : q = m
          · subst hqm; exact HE.out
          · exact HA.out q h1 h2 (by omega))⟩
        case measure => simp [intOf]; omega
    · obtain rfl : m = n := by omega
      have hT := hS.frame
      go_wp2
      go_ret
      rw [eqL_all (HL.out.1.symm.trans HL.out.2) (fun q h1 h2 => HA.out q h1 h2 (by have := HL.out.1; omega))]
      exact ⟨rfl, hT⟩
theorem ItC.cl {w : World} {k : Nat} {x0 xb xl : Value} {ts : List It} (h : ItC [] w (k + 1) x0 xb xl (.lst ts)) : x0 = .bool true ∧ ∃ p c, xl = .slice p ts.length c ∧ ts.length < 4611686018427387904 ∧ Cl w k p ts := by
  unfold ItC at h
  obtain ⟨h0, p, c, h1, h2, h3⟩ := h
  refine ⟨h0, p, c, h1, h2.2, fun hne => ?_⟩
  obtain ⟨b, o, h4, h5, _, h6⟩ := h3 hne
  exact ⟨b, o, h4, h5, h6⟩
theorem same_any : ∀ k, SameOK k
  | 0 => fun x0 vb vl y0 yb yl ta tb w h _ => h.elim
  | k + 1 => fun x0 vb vl y0 yb yl ta tb w ha hb => by
    cases ta with
    | str la =>
      cases tb with
      | str lb =>
        unfold ItC at ha hb
        obtain ⟨rfl, ha, _⟩ := ha
        obtain ⟨rfl, hb, _⟩ := hb
        have := same_str vb vl yb yl la lb w ha hb
        rw [show eqI (.str la) (.str lb) = (la == lb) by rw [eqI]]
        exact this
      | lst lb =>
        unfold ItC at ha
        obtain ⟨rfl, _⟩ := ha
        obtain ⟨rfl, _⟩ := hb.cl
        exact same_kind_false vb vl yb yl _ _ w (by rw [eqI])
    | lst la =>
      obtain ⟨rfl, p1, c1, rfl, hm1, hc1⟩ := ha.cl
      cases tb with
      | str lb =>
        unfold ItC at hb
        obtain ⟨rfl, _⟩ := hb
        exact same_kind_true vb _ yb yl _ _ w (by rw [eqI])
      | lst lb =>
        obtain ⟨rfl, p2, c2, rfl, hm2, hc2⟩ := hb.cl
        by_cases hl : la.length = lb.length
        · rw [← hl]
          exact same_list k (same_any k) p1 p2 c1 c2 la.length vb yb la lb w rfl hl hm1 hc1 hc2
        · exact same_len p1 p2 c1 c2 vb yb la lb w hl hm1 hm2
end Go.Proofs.Ytacnechjofnnjaa
