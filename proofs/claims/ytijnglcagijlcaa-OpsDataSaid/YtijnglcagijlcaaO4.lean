/- OpsData: a PUSH's bytes are no places to jump to. -/
import Derived.Test.YtijnglcagijlcaaO3
import Derived.Test.YtijnglcagijlcaaB2
namespace Go.Proofs.Ytijnglcagijlcaa
open Go.RowKit

theorem jmpF_in (l : List Nat) : ∀ (f k x : Nat), x ∈ jmpF l f k → k ≤ x ∧ x < l.length ∧ l.getD x 0 = 91
  | 0, k, x, h => by simp [jmpF] at h
  | f + 1, k, x, h => by
    unfold jmpF at h
    split at h
    · rename_i hk
      rcases List.mem_append.1 h with h | h
      · split at h
        · rename_i h91
          obtain rfl := List.mem_singleton.1 h
          exact ⟨Nat.le_refl _, hk, h91⟩
        · simp at h
      · have := jmpF_in l f _ x h
        exact ⟨by omega, this.2⟩
    · simp at h
theorem jmpF_up (l : List Nat) : ∀ (f k : Nat), (jmpF l f k).Pairwise (· < ·)
  | 0, k => List.Pairwise.nil
  | f + 1, k => by
    unfold jmpF
    split
    · refine List.pairwise_append.2 ⟨?_, jmpF_up l f _, ?_⟩
      · split
        · exact List.pairwise_singleton _ _
        · exact List.Pairwise.nil
      · intro x hx y hy
        have := (jmpF_in l f _ y hy).1
        split at hx
        · obtain rfl := List.mem_singleton.1 hx; omega
        · simp at hx
    · exact List.Pairwise.nil
/-- The code. -/
def dcode (n : Nat) (D : List Nat) : List Nat := (((95 + n) :: List.replicate n 91) ++ [91, 127]) ++ List.replicate 32 91 ++ D
theorem dcode_len (n : Nat) (D : List Nat) : (dcode n D).length = n + 35 + D.length := by simp [dcode]; omega
theorem dcode_lt (n : Nat) (D : List Nat) (h : n ≤ 32) (hD : ∀ x ∈ D, x < 256) : ∀ x ∈ dcode n D, x < 256 := by
  intro x hx
  simp only [dcode, List.mem_append, List.mem_cons, List.mem_replicate, List.not_mem_nil, or_false] at hx
  rcases hx with ((( rfl | h) | h) | h) | h
  · omega
  · omega
  · omega
  · omega
  · exact hD x h
theorem dcode_0 (n : Nat) (D : List Nat) : (dcode n D).getD 0 0 = 95 + n := by simp [dcode]
theorem dcode_n1 (n : Nat) (D : List Nat) : (dcode n D).getD (n + 1) 0 = 91 := by
  unfold dcode
  rw [List.append_assoc, List.append_assoc, List.getD_eq_getElem?_getD, List.getElem?_append_right (by simp)]
  simp
theorem dcode_n2 (n : Nat) (D : List Nat) : (dcode n D).getD (n + 2) 0 = 127 := by
  unfold dcode
  rw [List.append_assoc, List.append_assoc, List.getD_eq_getElem?_getD, List.getElem?_append_right (by simp)]
  simp [show n + 2 - (n + 1) = 1 by omega]
theorem dcode_jmp (n : Nat) (D : List Nat) (h1 : 1 ≤ n) (h2 : n ≤ 32) : jmp (dcode n D) = (n + 1) :: jmpF (dcode n D) (dcode n D).length (n + 35) := by
  have hl := dcode_len n D
  unfold jmp
  rw [jmpF_step (k := 0) (by omega), dcode_0, if_neg (by omega), List.nil_append]
  have e1 : fol (95 + n) = n := by unfold fol; rw [if_pos (by omega)]; omega
  rw [e1, show 0 + (1 + n) = n + 1 by omega, jmpF_step (k := n + 1) (by omega), dcode_n1, if_pos rfl]
  rw [show n + 1 + (1 + fol 91) = n + 2 from rfl, jmpF_step (k := n + 2) (by omega), dcode_n2, if_neg (by omega), List.nil_append]
  rw [show n + 2 + (1 + fol 127) = n + 35 by rw [show fol 127 = 32 from rfl]]
  rfl
theorem pw_getD {l : List Nat} (h : l.Pairwise (· < ·)) {i : Nat} (hi : 1 ≤ i) (h2 : i < l.length) : l.getD (i - 1) 0 < l.getD i 0 := by
  have := List.pairwise_iff_getElem.1 h (i - 1) i (by omega) h2 (by omega)
  simpa [h2, show i - 1 < l.length by omega] using this
/-- What is told of each place but the first. -/
theorem dcode_at (n : Nat) (D : List Nat) (h1 : 1 ≤ n) (h2 : n ≤ 32) (i : Nat) (hi : 1 ≤ i) (hl : i < (jmp (dcode n D)).length) :
    n + 35 ≤ (jmp (dcode n D)).getD i 0 ∧ (jmp (dcode n D)).getD i 0 < n + 35 + D.length ∧ (dcode n D).getD ((jmp (dcode n D)).getD i 0) 0 = 91 ∧ (jmp (dcode n D)).getD (i - 1) 0 < (jmp (dcode n D)).getD i 0 := by
  have hm : (jmp (dcode n D)).getD i 0 ∈ jmpF (dcode n D) (dcode n D).length (n + 35) := by
    have hl' := hl
    rw [dcode_jmp n D h1 h2] at hl' ⊢
    obtain ⟨j, rfl⟩ : ∃ j, i = j + 1 := ⟨i - 1, by omega⟩
    rw [List.getD_cons_succ]
    rw [List.length_cons] at hl'
    have : j < (jmpF (dcode n D) (dcode n D).length (n + 35)).length := by omega
    rw [List.getD_eq_getElem?_getD, List.getElem?_eq_getElem this]
    exact List.getElem_mem this
  obtain ⟨a, b, c⟩ := jmpF_in _ _ _ _ hm
  rw [dcode_len] at b
  exact ⟨a, b, c, pw_getD (jmpF_up _ _ _) hi hl⟩
theorem own_slice {w : World} {B n : Nat} {v : Value} {l : List Nat} (h : w.ownsRow B 5 1 v n (nb l)) : ∃ p c, v = .slice p l.length c ∧ l.length ≤ c := by
  obtain ⟨h1, h2⟩ := h
  rw [nb_length, Nat.mul_one] at h1
  subst h1
  rcases h2 with ⟨rfl, h0⟩ | ⟨g, cap, cur, rfl, _, _, hcap, _⟩
  · exact ⟨none, 0, by rw [h0], by rw [h0]; exact Nat.le_refl 0⟩
  · exact ⟨_, cap, rfl, hcap⟩
theorem own_slice' {w : World} {B n : Nat} {v : Value} {l : List Nat} (h : w.ownsRow B 5 1 v n (nb l)) : ∃ p c, v = .slice p n c ∧ n ≤ c := by
  have e : n = l.length := by have := h.1; rw [nb_length, Nat.mul_one] at this; exact this.symm
  subst e
  exact own_slice h
set_option maxHeartbeats 2000000 in
set_option maxRecDepth 100000 in
theorem data_main (N : Nat) (v : Value) (D : List Nat) (w : World) (h1 : 1 ≤ N) (h2 : N ≤ 32) (h3 : D.length ≤ 100) (hv : RdA [] w v D) :
    Calls Try.prog 6 #[.int .i64 (N : Int), v] w fun e w' => e = .returned (.bool true) ∧ Tch [] w w' := by
  obtain ⟨p, n0, c, rfl⟩ := slice_keep hv
  have hl := hv.len
  subst hl
  have d1 : ¬ (N : Int) < 1 := by omega
  have d2 : ¬ (32 : Int) < (N : Int) := by omega
  have d3 : ¬ (100 : Int) < (D.length : Int) := by omega
  have HV := Lib.hid (fun (w1 : World) (hT : Tch [] w w1) => (hv.tch hT).rdB)
  have HB := Lib.hid hv.lt
  clear hv
  go_enter Try.func6, Try.ntmps6
  go_upto_region 6 with (go_at_call 7; refine (alive_ops _).mono ?_; rintro e w1 ⟨rfl, hT1⟩)
  go_loopw [6, 7] (fun s i wr => ∃ k : Nat, i = .int .i64 (k : Int) ∧ k ≤ N ∧ wr.ownsRow w.heap.size 5 1 s (k + 1) (nb ((95 + N) :: List.replicate k 91)) ∧ Tch [] w wr) (fun _ i _ => N - (intOf i).toNat)
  case atStart =>
    refine ⟨0, rfl, Nat.zero_le _, ?_, hT1.alloc _⟩
    exact own_lit (w := w1) (w0 := w) [95 + N] hT1.size (by simp) _ (by simp [nb])
  case round =>
    obtain ⟨k, rfl, hk, hown, hT⟩ := hrel
    by_cases hlt : k < N
    · go_wp2_with (at_builtin; go_must (refine st_appB (w0 := w) (w := wr.alloc (.cells #[.int .u8 91] 5)) (v := u6) (u := .slice (some ⟨wr.heap.size, 0, none⟩) 1 1) (l := (95 + N) :: List.replicate k 91) (m := [91]) (ty := 5) rfl _ _ rfl rfl rfl (by simpa using hown.alloc _) (hT.alloc _) (RdB.lit wr _ [91] (by simp) #[.int .u8 91] rfl) (by simp; omega) ?_; intro v3 w3 hown3 hT3))
      go_roundw
      case rel =>
        refine ⟨k + 1, by go_num, hlt, ?_, hT3⟩
        have e : (95 + N) :: List.replicate k 91 ++ [91] = (95 + N) :: List.replicate (k + 1) 91 := by rw [List.replicate_succ']; rfl
        rw [e] at hown3
        simpa using hown3
      case measure => simp [intOf]; omega
    · obtain rfl : k = N := by omega
      go_upto_region 10 with (at_builtin; go_must (refine st_appB (w0 := w) (w := wr.alloc (.cells #[.int .u8 91, .int .u8 127] 5)) (v := u6) (u := .slice (some ⟨wr.heap.size, 0, none⟩) 2 2) (l := (95 + k) :: List.replicate k 91) (m := [91, 127]) (ty := 5) rfl _ _ rfl rfl rfl (by simpa using hown.alloc _) (hT.alloc _) (RdB.lit wr _ [91, 127] (by simp) #[.int .u8 91, .int .u8 127] rfl) (by simp; omega) ?_; intro v3 w3 hown3 hT3))
      have hT4 := hT3
      have hown4 : w3.ownsRow w.heap.size 5 1 v3 (k + 3) (nb (((95 + k) :: List.replicate k 91) ++ [91, 127])) := by simpa using hown3
      have HL4 := Lib.hid (show (((95 + k) :: List.replicate k 91) ++ [91, 127]).length = k + 3 by simp)
      have HD := Lib.hid (show dcode k D = (((95 + k) :: List.replicate k 91) ++ [91, 127]) ++ List.replicate 32 91 ++ D from rfl)
      generalize (((95 + k) :: List.replicate k 91) ++ [91, 127]) = L at hown4 HL4 HD
      clear hown3 hT3 hown hT hT1
      obtain ⟨p3, c3, rfl, hc3⟩ := own_slice' hown4
      go_upto_region 12 with (fail)
      go_loopw [6, 9] (fun s i wr => ∃ j : Nat, i = .int .i64 (j : Int) ∧ j ≤ 32 ∧ wr.ownsRow w.heap.size 5 1 s (k + 3 + j) (nb (L ++ List.replicate j 91)) ∧ Tch [] w wr) (fun _ i _ => 32 - (intOf i).toNat)
      case atStart => exact ⟨0, rfl, Nat.zero_le _, by simpa using hown4, hT4⟩
      case round =>
        obtain ⟨j, rfl, hj, hown, hT⟩ := hrel
        have hLL := HL4.out
        by_cases hlt : j < 32
        · have HL4' := HL4
          go_wp2_with (at_builtin; go_must (refine st_appB (w0 := w) (w := wr.alloc (.cells #[.int .u8 91] 5)) (v := u6) (u := .slice (some ⟨wr.heap.size, 0, none⟩) 1 1) (l := L ++ List.replicate j 91) (m := [91]) (ty := 5) rfl _ _ rfl rfl rfl (by rw [List.length_append, List.length_replicate, HL4.out]; exact hown.alloc _) (hT.alloc _) (RdB.lit wr _ [91] (by simp) #[.int .u8 91] rfl) (by rw [List.length_append, List.length_replicate, HL4.out]; simp; omega) ?_; intro v3 w3 hown3 hT3))
          go_roundw
          case rel =>
            refine ⟨j + 1, by go_num, hlt, ?_, hT3⟩
            have e : L ++ List.replicate j 91 ++ [91] = L ++ List.replicate (j + 1) 91 := by rw [List.append_assoc, ← List.replicate_succ']
            rw [e, List.length_append, List.length_replicate, HL4.out] at hown3
            exact hown3
          case measure => simp [intOf]; omega
        · obtain rfl : j = 32 := by omega
          clear hLL
          have HDL := Lib.hid (dcode_len k D)
          go_upto_region 17 with (first
            | (at_builtin; go_must (refine st_appB (w0 := w) (w := wr) (v := u6) (u := .slice p D.length c) (l := L ++ List.replicate 32 91) (m := D) (ty := 5) rfl _ _ rfl rfl rfl (by rw [List.length_append, List.length_replicate, HL4.out]; exact hown) hT (HV.out _ hT) (by rw [List.length_append, List.length_replicate, HL4.out]; omega) ?_; intro v5 w5 hown5 hT5; have hown6 : w5.ownsRow w.heap.size 5 1 v5 (dcode k D).length (nb (dcode k D)) := (HD.out ▸ hown5); clear hown5 hown))
            | (go_at_call 16; go_must (refine (jumps_any _ (dcode k D) _ (by rw [HDL.out]; omega) ((RdB.own hown6 (dcode_lt k D h2 HB.out)).rdA (by simp))).mono ?_; rintro e w7 ⟨v7, rfl, hT7, hv7⟩; have T7 := hT5.trans hT7)))
          have hR5 := RdB.own hown6 (dcode_lt k D h2 HB.out)
          have hn6 : w5.ownsRow w.heap.size 5 1 v5 (k + 35 + D.length) (nb (dcode k D)) := by rw [← HDL.out]; exact hown6
          clear hown6
          obtain ⟨p5, c5, rfl, hc5⟩ := own_slice' hn6
          clear hn6
          have HJ := Lib.hid (dcode_jmp k D h1 h2)
          have HAT := Lib.hid (dcode_at k D h1 h2)
          have hpos : 1 ≤ (jmp (dcode k D)).length := by rw [HJ.out]; simp
          have hJ0 : (jmp (dcode k D)).getD 0 0 = k + 1 := by rw [HJ.out]; rfl
          have hmax : (jmp (dcode k D)).length ≤ k + 35 + D.length := by
            have := jmp_len (l := dcode k D) (acc := jmp (dcode k D)) (k := (dcode k D).length) (by rw [jmpF_end (Nat.le_refl _), List.append_nil])
            rw [HDL.out] at this; exact this
          have HJ0 := Lib.hid hJ0
          clear hJ0 HJ
          generalize hJ : jmp (dcode k D) = J at hv7 hpos hmax HJ0 HAT
          generalize hC : dcode k D = C at hR5 HAT HDL
          clear hJ hC HD
          obtain ⟨p7, c7, rfl, hc7, h7⟩ := hv7
          have hne : J ≠ [] := by intro e; subst e; simp at hpos
          obtain ⟨b7, o7, rfl, hb7, hcell7⟩ := h7 hne
          clear h7
          have hCne : C ≠ [] := by intro e; have := HDL.out; rw [e, List.length_nil] at this; omega
          obtain ⟨q5, e5, hq, _, _, h5⟩ := hR5
          obtain ⟨b5, o5, hpp, hb5, hcell5⟩ := h5 hCne
          subst hpp
          obtain ⟨rfl, _, _⟩ : p5 = some ⟨b5, o5, none⟩ ∧ _ ∧ _ := by injection hq with e1 e2 e3; exact ⟨e1, e2, e3⟩
          clear hq h5
          have HC7 := Lib.hid (fun (w' : World) (h : Tch [] w7 w') (i : Nat) (hi : i < J.length) => (h.cell (p := ⟨b7, o7 + i, none⟩) hb7 (by simp)).trans (hcell7 i hi))
          have HC5 := Lib.hid (fun (w' : World) (h : Tch [] w5 w') (i : Nat) (hi : i < C.length) => (h.cell (p := ⟨b5, o5 + i, none⟩) hb5 (by simp)).trans (hcell5 i hi))
          have hc0 : w7.cell? ⟨b7, o7, none⟩ = some (.int .i64 ((k + 1 : Nat) : Int)) := by have := hcell7 0 (by omega); rw [HJ0.out] at this; exact this
          clear hcell7 hcell5
          have d4 : ¬ (J.length : Int) < 1 := by omega
          have d5 : ((k : Int) + 1 != (k : Int) + 1) = false := by simp
          have hJ1 : 0 < J.length := by omega
          go_upto_region 20 with (fail)
          have hCl : C.length = k + 35 + D.length := HDL.out
          have HCl := Lib.hid hCl
          have hC1 : k + 35 + D.length ≤ C.length := by omega
          clear hCl hc0 d4 d5 hJ1
          have TB := hT5.trans hT7
          go_loopw [11] (fun i wr => ∃ m : Nat, i = .int .i64 ((m : Int) + 1) ∧ m < J.length ∧ Tch [] w7 wr) (fun i _ => J.length - (intOf i).toNat)
          case atStart => exact ⟨0, rfl, by omega, Tch.refl _ _⟩
          case round =>
            obtain ⟨m, rfl, hm, hT⟩ := hrel
            by_cases hlt : m + 1 < J.length
            · obtain ⟨t1, t2, t3, t4⟩ := HAT.out (m + 1) (by omega) hlt
              rw [Nat.add_sub_cancel] at t4
              have g1 := HC7.out wr hT (m + 1) hlt
              have g0 := HC7.out wr hT m hm
              have g5 := HC5.out wr (hT7.trans hT) (J.getD (m + 1) 0) (by omega)
              rw [t3] at g5
              clear t3
              generalize J.getD (m + 1) 0 = x at g1 g5 t1 t2 t4
              generalize J.getD m 0 = y at g0 t4
              have q1 : (0 : Int) ≤ (m : Int) + 1 := by omega
              have q2 : (m : Int) + 1 < (J.length : Int) := by omega
              have q3 : ((m : Int) + 1).toNat = m + 1 := by omega
              have q4 : IntKind.i64.wrap ((m : Int) + 1 - 1) = (m : Int) := by rw [IntKind.wrap_i64]; omega
              have q7 : IntKind.i64.wrap (m : Int) = (m : Int) := by rw [IntKind.wrap_i64]; omega
              have q5 : IntKind.i64.wrap ((k : Int) + 3 + 32) = (k : Int) + 35 := by rw [IntKind.wrap_i64]; omega
              have q6 : x < C.length := by omega
              have q6i : (x : Int) < (C.length : Int) := by omega
              have d6 : ¬ (x : Int) < (k : Int) + 35 := by omega
              have d7 : ¬ (C.length : Int) ≤ (x : Int) := by omega
              have d8 : ¬ (x : Int) ≤ (y : Int) := by omega
              clear t1 t2 t4 HAT HC7 HC5 HJ0 HDL HCl hC1 hpos
              go_wp2
              refine wp_region_all (C := fun w' => ∃ k, w' = wr.drewN k) (by kernel_rfl) (by kernel_rfl) ⟨1, rfl⟩ ?_
              repeat (quiet_step (fail))
              refine wpQuiet_nil ?_
              rintro w2 ⟨nq, rfl⟩
              replace hT := hT.trans (Tch.refl [] wr |>.drewN nq)
              clear q4 q5 q7
              go_wp2
              go_roundw
              case rel => exact ⟨m + 1, by go_num, hlt, hT⟩
              case measure => simp [intOf]; omega
            · have d9 : ¬ (m : Int) + 1 < (J.length : Int) := by omega
              go_wp2
              go_ret
              exact ⟨rfl, TB.trans hT⟩
set_option maxHeartbeats 1000000 in
set_option maxRecDepth 100000 in
theorem opsData_walk (n : Int) (v : Value) (D : List Nat) (w : World) (hv : RdA [] w v D) :
    Calls Try.prog 6 #[.int .i64 n, v] w fun e w' => e = .returned (.bool true) ∧ Tch [] w w' := by
  by_cases h1 : n < 1
  · clear hv
    go_enter Try.func6, Try.ntmps6
    go_wp2_with (go_at_call 7; refine (alive_ops _).mono ?_; rintro e w1 ⟨rfl, hT1⟩)
    go_ret
    exact ⟨rfl, hT1⟩
  by_cases h2 : 32 < n
  · clear hv
    go_enter Try.func6, Try.ntmps6
    go_wp2_with (go_at_call 7; refine (alive_ops _).mono ?_; rintro e w1 ⟨rfl, hT1⟩)
    go_ret
    exact ⟨rfl, hT1⟩
  obtain ⟨N, rfl⟩ : ∃ N : Nat, n = N := ⟨n.toNat, by omega⟩
  by_cases h3 : D.length ≤ 100
  · exact data_main N v D w (by omega) (by omega) h3 hv
  obtain ⟨p, m, c, rfl⟩ := slice_keep hv
  have hl := hv.len
  have d1 : (100 : Int) < (m : Int) := by omega
  clear hv hl h3
  go_enter Try.func6, Try.ntmps6
  go_wp2_with (go_at_call 7; refine (alive_ops _).mono ?_; rintro e w1 ⟨rfl, hT1⟩)
  go_ret
  exact ⟨rfl, hT1⟩
end Go.Proofs.Ytijnglcagijlcaa
