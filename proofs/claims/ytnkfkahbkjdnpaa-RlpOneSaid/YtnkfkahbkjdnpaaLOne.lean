/- The law RlpOne: for any bytes, any place and any other byte there: what both lists of bytes are read as is not one item. -/
import Derived.Test.YtnkfkahbkjdnpaaK0
namespace Go.Proofs.Ytnkfkahbkjdnpaa.One
open Go.RowKit

theorem wf_int {n : Int} (h : (Lit.int .i64 n).wf = true) : -9223372036854775808 ≤ n ∧ n ≤ 9223372036854775807 := by
  simp [Lit.wf, IntKind.min, IntKind.max, IntKind.bits, IntKind.signed] at h
  omega
theorem wf_u8 {n : Int} (h : (Lit.int .u8 n).wf = true) : 0 ≤ n ∧ n ≤ 255 := by
  simp [Lit.wf, IntKind.min, IntKind.max, IntKind.bits, IntKind.signed] at h
  omega
set_option maxHeartbeats 4000000 in
set_option maxRecDepth 100000 in
theorem short (p : Option Addr) (n c : Nat) (at_ by_ : Int) (w : World) (hm : n ≤ 140737488351232) (h : n < 1 ∨ 2000 < n ∨ at_ < 0 ∨ by_ = 0) (h1 : -9223372036854775808 ≤ at_ ∧ at_ ≤ 9223372036854775807) (h2 : 0 ≤ by_ ∧ by_ ≤ 255) :
    Calls Try.prog 5 #[.slice p n c, .int .i64 at_, .int .u8 by_] w fun e w' => e = .returned (.bool true) ∧ Tch [] w w' := by
  by_cases a1 : n < 1
  · have hd : (n : Int) < 1 := by omega
    clear h
    go_enter Try.func5, Try.ntmps5
    go_wp2_with (go_at_call 10; refine (alive_any _).mono ?_; rintro e w1 ⟨rfl, hT⟩)
    go_ret
    exact ⟨rfl, hT⟩
  by_cases a2 : 2000 < n
  · have hd : ¬ (n : Int) < 1 := by omega
    have hd2 : (2000 : Int) < (n : Int) := by omega
    clear h a1
    go_enter Try.func5, Try.ntmps5
    go_wp2_with (go_at_call 10; refine (alive_any _).mono ?_; rintro e w1 ⟨rfl, hT⟩)
    go_ret
    exact ⟨rfl, hT⟩
  have hd : ¬ (n : Int) < 1 := by omega
  have hd2 : ¬ (2000 : Int) < (n : Int) := by omega
  by_cases a3 : at_ < 0
  · clear h a1 a2
    go_enter Try.func5, Try.ntmps5
    go_wp2_with (go_at_call 10; refine (alive_any _).mono ?_; rintro e w1 ⟨rfl, hT⟩)
    go_ret
    exact ⟨rfl, hT⟩
  obtain rfl : by_ = 0 := by omega
  clear h a1 a2
  go_enter Try.func5, Try.ntmps5
  go_wp2_with (go_at_call 10; refine (alive_any _).mono ?_; rintro e w1 ⟨rfl, hT⟩)
  go_ret
  exact ⟨rfl, hT⟩
theorem set_ne {l : List Nat} {j x b : Nat} (hj : j < l.length) (hx : l.getD j 0 = x) (hb : b ≠ 0) : l ≠ l.set j (x ^^^ b) := by
  intro e
  have h1 := congrArg (fun q => q.getD j 0) e
  simp only [List.getD_eq_getElem?_getD, List.getElem?_set_self hj, Option.getD_some] at h1
  rw [List.getD_eq_getElem?_getD] at hx
  rw [hx] at h1
  have h2 : x ^^^ (x ^^^ b) = 0 := by rw [← h1]; exact Nat.xor_self x
  rw [← Nat.xor_assoc, Nat.xor_self, Nat.zero_xor] at h2
  exact hb h2
/-- A row of bytes with one of them another one. -/
theorem row_set {w : World} {B n j x : Nat} {v : Value} {l : List Nat} (h : w.ownsRow B 5 1 v n (nb l)) (hj : j < l.length) (hx : x < 256) (hl : ∀ y ∈ l, y < 256) : ∃ g cap cur, v = .slice (some ⟨g, 0, none⟩) n cap ∧ B ≤ g ∧ Blk w g 5 cur ∧ n ≤ cap ∧ cur[j]? = some (.int .u8 ((l.getD j 0 : Nat) : Int)) ∧ n = l.length ∧
    ∀ w', Blk w' g 5 (cur.setIfInBounds j (.int .u8 (x : Int))) → (w'.ownsRow B 5 1 v n (nb (l.set j x))) := by
  have h' := h
  obtain ⟨h1, h2⟩ := h
  rw [nb_length, Nat.mul_one] at h1
  rcases h2 with ⟨rfl, h0⟩ | ⟨g, cap, cur, rfl, hg, hb, hn, hm, hcs, htk⟩
  · omega
  · have hcell : cur[j]? = some (.int .u8 ((l.getD j 0 : Nat) : Int)) := by
      have e := congrArg (fun x => x[j]?) htk
      simp only [Nat.mul_one, List.getElem?_take, nb_get hj] at e
      rw [if_pos (by omega)] at e
      simpa using e
    refine ⟨g, cap, cur, rfl, hg, hb, hn, hcell, h1.symm, fun w' hw' => ⟨by rw [nb_length, List.length_set]; omega, .inr ⟨g, cap, _, rfl, hg, hw', hn, hm, by simpa using hcs, ?_⟩⟩⟩
    apply List.ext_getElem?
    intro i
    have e := congrArg (fun x => x[i]?) htk
    simp only [Nat.mul_one, List.getElem?_take] at e ⊢
    by_cases hi : i < n
    · rw [if_pos hi] at e ⊢
      rw [nb_get (by rw [List.length_set]; omega), Array.getElem?_toList, Array.getElem?_setIfInBounds]
      by_cases hij : j = i
      · subst hij
        rw [if_pos rfl, if_pos (by rw [Nat.mul_one] at hcs; omega)]
        simp [List.getElem?_set_self hj]
      · rw [if_neg hij]
        rw [Array.getElem?_toList, nb_get (by omega)] at e
        rw [e]
        simp [List.getElem?_set_ne hij]
    · rw [if_neg hi]
      rw [List.getElem?_eq_none]
      rw [nb_length, List.length_set]; omega
set_option maxHeartbeats 4000000 in
set_option maxRecDepth 100000 in
theorem long (v : Value) (L : List Nat) (at_ b : Nat) (w : World) (hv : RdA [] w v L) (h1 : 1 ≤ L.length) (h2 : L.length ≤ 2000) (h3 : at_ ≤ 9223372036854775807) (h4 : b ≠ 0) (h5 : b < 256) :
    Calls Try.prog 5 #[v, .int .i64 (at_ : Int), .int .u8 (b : Int)] w fun e w' => e = .returned (.bool true) ∧ Tch [] w w' := by
  obtain ⟨p, n, c, rfl⟩ := slice_keep hv
  obtain rfl : n = L.length := hv.len
  have HV := Lib.hid hv
  obtain ⟨n, hn⟩ : ∃ n, n = L.length := ⟨_, rfl⟩
  have hd : ¬ (n : Int) < 1 := by omega
  have hd2 : ¬ (2000 : Int) < (n : Int) := by omega
  have hd3 : ¬ (at_ : Int) < 0 := by omega
  have hd4 : ((b : Int) == 0) = false := by rw [beq_eq_false_iff_ne]; omega
  have hd5 : ¬ (b : Int) = 0 := by omega
  rw [← hn] at HV ⊢
  have HN := Lib.hid hn
  clear hn h1 h2 hv
  go_enter Try.func5, Try.ntmps5
  go_wp2_with (first
    | (go_at_call 10; refine (alive_any _).mono ?_; rintro e w1 ⟨rfl, hT1⟩)
    | (refine st_cloneB (v := .slice p n c) (l := L) rfl _ _ rfl rfl rfl (HV.out.tch hT1) (by have := HN.out; omega) ?_; intro v2 w2 hown hT2))
  have hnL := HN.out
  obtain ⟨j, hjj⟩ : ∃ j, j = at_ % n := ⟨_, rfl⟩
  have hjn : j < n := by rw [hjj]; exact Nat.mod_lt _ (by omega)
  have hj : j < L.length := by omega
  obtain ⟨x, hx⟩ : ∃ x, x = L.getD j 0 := ⟨_, rfl⟩
  have hxl : x < 256 := by
    rw [hx, List.getD_eq_getElem?_getD, List.getElem?_eq_getElem hj]
    exact HV.out.lt _ (List.getElem_mem hj)
  have hxb : x ^^^ b < 256 := Nat.xor_lt_two_pow (n := 8) hxl h5
  rw [← hnL] at hown
  obtain ⟨g, cap, cur, rfl, hg, hB, hncap, hcj, hne, hset⟩ := row_set (x := x ^^^ b) hown hj hxb HV.out.lt
  rw [← hx] at hcj
  have hcell := hB.cell hcj
  have hfree := hB.free j
  have htm : (at_ : Int).tmod (n : Int) = (j : Int) := by rw [hjj, Int.ofNat_tmod]
  have hn0 : ¬ n = 0 := by omega
  have hxor := u8_xor_nat x b hxl h5
  have HS := Lib.hid hset
  have HX := Lib.hid (And.intro hx (And.intro hcj hB))
  clear hset hx hcj hown hnL hB hj hjj hne
  refine wp_region_head (C := fun w' => ∃ k, w' = w2.drewN k) 15 (by kernel_rfl) (by kernel_rfl) ⟨1, rfl⟩ ?_
  simp only [List.take_succ_cons, List.take_zero, List.drop_succ_cons, List.drop_zero]
  repeat (quiet_step (fail))
  refine wpQuiet_nil ?_
  rintro w3 ⟨nq, rfl⟩
  obtain ⟨w3, hw3⟩ : ∃ w3, (w2.drewN nq).setCell ⟨g, j, none⟩ (.int .u8 ((x ^^^ b : Nat) : Int)) = w3 := ⟨_, rfl⟩
  have hT3 : Tch [] w w3 := by rw [← hw3]; exact ((hT1.trans hT2).drewN nq).only (Only.setCell _ ⟨g, j, none⟩ _) (.inl (Nat.le_trans hT1.size hg))
  have hv3 := HV.out.tch hT3
  have hnL := HN.out
  have hc3 : RdA [] w3 (.slice (some ⟨g, 0, none⟩) n cap) (L.set j (x ^^^ b)) := by
    have hl : (L.set j (x ^^^ b)).length = n := by rw [List.length_set, hnL]
    have h6 := HS.out w3 (by rw [← hw3]; exact (HX.out.2.2.drewN nq).set j _)
    refine (RdB.own h6 (fun y hy => ?_)).rdA (by simp)
    rcases List.mem_or_eq_of_mem_set hy with hy | rfl
    · exact HV.out.lt y hy
    · exact hxb
  have hr1 := read_any _ L w3 (by omega) hv3
  have hr2 := fun (w6 : World) (hT : Tch [] w3 w6) => read_any _ (L.set j (x ^^^ b)) w6 (by rw [List.length_set]; omega) (hc3.tch hT)
  have hlL := HV.out.lt
  have hll : ∀ y ∈ L.set j (x ^^^ b), y < 256 := hc3.lt
  have hneq : L ≠ L.set j (x ^^^ b) := set_ne (by omega) HX.out.1.symm h4
  have HR1 := Lib.hid hr1
  have HR2 := Lib.hid hr2
  have HQ := Lib.hid (And.intro hT3 (And.intro hlL (And.intro hll hneq)))
  clear hr1 hr2 hlL hll hneq hT3 hv3 hc3 HS hnL
  obtain ⟨f0, f1, f2, hty, _⟩ := item_ty
  go_upto_region 8 with (first
    | (go_at_call 15; refine HR1.out.mono ?_; clear HR1; rintro e w4 ⟨hT4, d1, p1, n1, c1, p2, n2, c2, rfl, hx4⟩; have hS := St.start w4)
    | (refine st_new (L := []) hS rfl 25 rfl item_zero ?_; clear hS; intro w5 b0 hS)
    | (refine st_store (c' := #[.bool d1, .slice p1 n1 c1, .slice p2 n2 c2]) (L := [(b0, 25, #[.bool false, .slice none 0 0, .slice none 0 0])]) hS rfl 25 _ _ rfl rfl rfl (by repeat (first | exact Upd.head | apply Upd.tail)) item_size (by rfl) (by rfl) (one3 rfl rfl rfl) ?_; clear hS; intro w6 hS)
    | (go_at_call 15; refine (HR2.out w6 (hT4.trans hS.frame)).mono ?_; clear HR2; rintro e w7 ⟨hT7, d2, p3, n3, c3, p4, n4, c4, rfl, hy7⟩
       have hS7 := hS.call hT7
       have hge0 := (hS.own .head).resolve_right (by simp)
       have hlt0 := (hS.get .head).lt
       have hF := hS7.frame
       clear hS
       have hS := St.one (hS7.get .head))
    | (refine st_new hS rfl 25 rfl item_zero ?_; clear hS; intro w8 b1 hS)
    | (refine st_store (c' := #[.bool d2, .slice p3 n3 c3, .slice p4 n4 c4]) hS rfl 25 _ _ rfl rfl rfl (by repeat (first | exact Upd.head | apply Upd.tail)) item_size (by rfl) (by rfl) (one3 rfl rfl rfl) ?_; clear hS; intro w9 hS))
  have hB1 := hS.get .head
  have hB0 := hS.get (.tail .head)
  have hix : ItC [] w9 34 (.bool d1) (.slice p1 n1 c1) (.slice p2 n2 c2) (rdItem L) := ((((hx4 [] (by simp)).mono (Y := [b0]) (fun y hy => by simp at hy; subst hy; exact .inr hge0)).tch (hF.mono (by simp))).tch hS.frame).mono (by simp)
  have hiy : ItC [] w9 34 (.bool d2) (.slice p3 n3 c3) (.slice p4 n4 c4) (rdItem (L.set j (x ^^^ b))) := ((hy7 [b0] (fun y hy => by simp at hy; subst hy; exact hlt0)).tch hS.frame).mono (by simp)
  have hsame0 := fun (w' : World) (hT : Tch [] w9 w') => (same_any 34 _ _ _ _ _ _ _ _ w' (hix.tch hT) (hiy.tch hT)).mono (R' := fun e w'' => e = .returned (.bool (eqI (rdItem L) (rdItem (L.set j (x ^^^ b))))) ∧ Tch [] w9 w'') (fun e w'' h => ⟨h.1, hT.trans h.2⟩)
  have hend : Tch [] w w9 := ((HQ.out.1.trans hT4).trans hF).fresh hS.frame (fun y hy => by simp at hy; subst hy; exact Nat.le_trans HQ.out.1.size (Nat.le_trans hT4.size hge0))
  have hno : ¬ (rdErr L = 0 ∧ rdErr (L.set j (x ^^^ b)) = 0 ∧ eqI (rdItem L) (rdItem (L.set j (x ^^^ b))) = true) := fun ⟨h1, h2, h3⟩ => HQ.out.2.2.2 ((rd_back HQ.out.2.1 h1).trans ((congrArg enc ((eqI_iff _ _).1 h3)).trans (rd_back HQ.out.2.2.1 h2).symm))
  clear hix hiy hx4 hy7 hS hF HQ hT4 hT7
  generalize rdErr L = e1 at *
  generalize rdErr (L.set j (x ^^^ b)) = e2 at *
  generalize eqI (rdItem L) (rdItem (L.set j (x ^^^ b))) = q at *
  have HE := Lib.hid hend
  clear hend
  have hthree : ((e1 : Int) != 0) = true ∨ (((e1 : Int) != 0) = false ∧ ((e2 : Int) != 0) = true) ∨ (((e1 : Int) != 0) = false ∧ ((e2 : Int) != 0) = false ∧ q = false) := by
    cases r1 : ((e1 : Int) != 0) <;> cases r2 : ((e2 : Int) != 0) <;> cases q
    all_goals first
      | (exact absurd ⟨by simpa [bne_eq_false_iff_eq] using r1, by simpa [bne_eq_false_iff_eq] using r2, rfl⟩ hno)
      | simp
  clear hno
  rcases hthree with r1 | ⟨r1, r2⟩ | ⟨r1, r2, rfl⟩
  all_goals first
    | (have hsame := hsame0
       clear hsame0
       refine k_seq (C := fun w' => Tch [] w9 w') (Tch.refl _ _) ?_
       repeat (first | (refine k_skip rfl rfl rfl rfl rfl ?_; try simp only [Act.put, List.setIfInBounds_toArray, List.set_cons_zero, List.set_cons_succ]) | (refine k_num rfl rfl rfl ?_; try simp only [Act.put, List.setIfInBounds_toArray, List.set_cons_zero, List.set_cons_succ]) | (refine k_neqs rfl _ _ _ rfl rfl rfl (by first | exact r1 | exact r2) ?_; try simp only [Act.put, List.setIfInBounds_toArray, List.set_cons_zero, List.set_cons_succ]) | (refine k_loadS rfl 25 _ rfl rfl (fun w h => h.blk hB0 (by simp)) hty item_size rfl ?_; try simp only [Act.put, List.setIfInBounds_toArray, List.set_cons_zero, List.set_cons_succ]) | (refine k_loadS rfl 25 _ rfl rfl (fun w h => h.blk hB1 (by simp)) hty item_size rfl ?_; try simp only [Act.put, List.setIfInBounds_toArray, List.set_cons_zero, List.set_cons_succ]) | (refine k_callC2 (by rfl) (by rfl) (by rfl) (by rfl) Try.call16 (by exact hsame) ?_; try simp only [Act.put, List.setIfInBounds_toArray, List.set_cons_zero, List.set_cons_succ]) | (refine k_not rfl _ _ rfl rfl ?_; try simp only [Act.put, List.setIfInBounds_toArray, List.set_cons_zero, List.set_cons_succ]) | (refine k_boolm rfl _ rfl rfl ?_; try simp only [Act.put, List.setIfInBounds_toArray, List.set_cons_zero, List.set_cons_succ]) | (refine k_boola rfl _ rfl rfl ?_; try simp only [Act.put, List.setIfInBounds_toArray, List.set_cons_zero, List.set_cons_succ]) | (refine k_intm rfl _ rfl rfl ?_; try simp only [Act.put, List.setIfInBounds_toArray, List.set_cons_zero, List.set_cons_succ]) | (refine k_inta rfl _ rfl rfl ?_; try simp only [Act.put, List.setIfInBounds_toArray, List.set_cons_zero, List.set_cons_succ]) | (refine k_pickT rfl _ _ _ rfl rfl rfl ?_; try simp only [Act.put, List.setIfInBounds_toArray, List.set_cons_zero, List.set_cons_succ]) | (refine k_pickF rfl _ _ _ rfl rfl rfl ?_; try simp only [Act.put, List.setIfInBounds_toArray, List.set_cons_zero, List.set_cons_succ]))
       refine k_end ?_
       rintro w' hT'
       go_wp2
       go_ret
       exact ⟨rfl, HE.out.trans hT'⟩)
theorem walk (v : Value) (L : List Nat) (at_ by_ : Int) (w : World) (hv : RdA [] w v L) (hm : L.length ≤ reachBytes) (ha : (Lit.int .i64 at_).wf = true) (hb : (Lit.int .u8 by_).wf = true) :
    Calls Try.prog 5 #[v, .int .i64 at_, .int .u8 by_] w fun e w' => e = .returned (.bool true) ∧ Tch [] w w' := by
  have h1 := wf_int ha
  have h2 := wf_u8 hb
  unfold reachBytes at hm
  by_cases h : L.length < 1 ∨ 2000 < L.length ∨ at_ < 0 ∨ by_ = 0
  · obtain ⟨p, n, c, rfl⟩ := slice_keep hv
    have hn := hv.len
    exact short p n c at_ by_ w (by omega) (by rw [hn]; exact h) h1 h2
  · obtain ⟨a, rfl⟩ := Int.eq_ofNat_of_zero_le (show 0 ≤ at_ by omega)
    obtain ⟨b, rfl⟩ := Int.eq_ofNat_of_zero_le (show 0 ≤ by_ by omega)
    exact long v L a b w hv (by omega) (by omega) (by omega) (by omega) (by omega)
end Go.Proofs.Ytnkfkahbkjdnpaa.One
