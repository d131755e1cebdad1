/- The document's Pack. -/
import Derived.Test.YtfdihphhmhgejaaM42
import Derived.Test.YtfdihphhmhgejaaM12
set_option linter.unusedVariables false
set_option linter.unusedSimpArgs false
namespace Go.Proofs.Ytfdihphhmhgejaa
open Go.RowKit
set_option maxRecDepth 100000

set_option maxHeartbeats 2000000 in
set_option maxRecDepth 100000 in
theorem refPack_yes (k : Nat) (y0 yb yl : Value) (it : It) (w : World) (hit : ItC [] w k y0 yb yl it) (h : dep it ≤ 32 ∧ (enc it).length ≤ 16777216) :
    Calls Try.prog 8 #[.agg #[y0, yb, yl]] w fun e w' => ∃ v, e = .returned (.tuple #[v, .int .i64 0]) ∧ Tch [] w w' ∧ RdA [] w' v (enc it) := by
  have hS := St.start w
  have HD := Lib.hid (fun (w' : World) (h' : Tch [] w w') => (deep_any k y0 yb yl it 32 w' (hit.tch h') (by decide)).mono (R' := fun e w'' => e = .returned (.int .i64 ((dep it : Nat) : Int)) ∧ Tch [] w' w'') (fun e w'' h2 => ⟨by rw [h2.1, deep_lt h.1], h2.2⟩))
  have HP := Lib.hid (fun (w' : World) (h' : Tch [] w w') => rpk_any k y0 yb yl it w' (hit.tch h'))
  have e1 : ¬ (32 : Int) < ((dep it : Nat) : Int) := by omega
  have HG := Lib.hid h
  clear hit h
  go_enter Try.func8, Try.ntmps8
  go_upto_region 4 with (first
    | (refine st_box (L := []) hS rfl 27 _ rfl rfl ?_; clear hS; intro w2 b0 hS; have d0 := (hS.get .head).cell (j := 0) rfl; have d1 := (hS.get .head).cell (j := 1) rfl; have d2 := (hS.get .head).cell (j := 2) rfl)
    | (go_at_call 15; go_must (refine (HD.out _ hS.frame).mono ?_; rintro e w3 ⟨rfl, hT3⟩; replace hS := hS.call hT3; replace d0 := (hS.get .head).cell (j := 0) rfl; replace d1 := (hS.get .head).cell (j := 1) rfl; replace d2 := (hS.get .head).cell (j := 2) rfl))
    | (go_at_call 16; go_must (refine (HP.out _ hS.frame).mono ?_; rintro e w4 ⟨hT4, v, q, rfl, hy, hno⟩; replace hS := hS.call hT4)))
  cases q with
  | false => exact absurd (hno rfl) (by have := HG.out.2; omega)
  | true =>
    obtain ⟨hown, _, hb⟩ := hy rfl
    obtain ⟨pv, cv, rfl⟩ := own_shape hown
    have HR := Lib.hid ((RdB.own hown hb).rdA (X := []) (by simp))
    obtain ⟨nv, hnv⟩ : ∃ nv, nv = (enc it).length := ⟨_, rfl⟩
    rw [← hnv] at HR ⊢
    have e2 : ¬ (16777216 : Int) < (nv : Int) := by have := HG.out.2; omega
    clear hown hb hy hno hnv d0 d1 d2
    go_wp2
    go_ret2
    exact ⟨_, rfl, hS.frame, HR.out⟩
set_option maxHeartbeats 2000000 in
set_option maxRecDepth 100000 in
theorem refPack_no (k : Nat) (y0 yb yl : Value) (it : It) (w : World) (hit : ItC [] w k y0 yb yl it) (h : ¬ (dep it ≤ 32 ∧ (enc it).length ≤ 16777216)) :
    Calls Try.prog 8 #[.agg #[y0, yb, yl]] w fun e w' => e = .returned (.tuple #[.slice none 0 0, .int .i64 3]) ∧ Tch [] w w' := by
  have hS := St.start w
  have HP := Lib.hid (fun (w' : World) (h' : Tch [] w w') => rpk_any k y0 yb yl it w' (hit.tch h'))
  by_cases hd : dep it ≤ 32
  · have HD := Lib.hid (fun (w' : World) (h' : Tch [] w w') => (deep_any k y0 yb yl it 32 w' (hit.tch h') (by decide)).mono (R' := fun e w'' => e = .returned (.int .i64 ((dep it : Nat) : Int)) ∧ Tch [] w' w'') (fun e w'' h2 => ⟨by rw [h2.1, deep_lt hd], h2.2⟩))
    have e1 : ¬ (32 : Int) < ((dep it : Nat) : Int) := by omega
    have HG := Lib.hid (show 16777216 < (enc it).length by omega)
    clear hit h
    go_enter Try.func8, Try.ntmps8
    go_upto_region 4 with (first
      | (refine st_box (L := []) hS rfl 27 _ rfl rfl ?_; clear hS; intro w2 b0 hS; have d0 := (hS.get .head).cell (j := 0) rfl; have d1 := (hS.get .head).cell (j := 1) rfl; have d2 := (hS.get .head).cell (j := 2) rfl)
      | (go_at_call 15; go_must (refine (HD.out _ hS.frame).mono ?_; rintro e w3 ⟨rfl, hT3⟩; replace hS := hS.call hT3; replace d0 := (hS.get .head).cell (j := 0) rfl; replace d1 := (hS.get .head).cell (j := 1) rfl; replace d2 := (hS.get .head).cell (j := 2) rfl))
      | (go_at_call 16; go_must (refine (HP.out _ hS.frame).mono ?_; rintro e w4 ⟨hT4, v, q, rfl, hy, hno⟩; replace hS := hS.call hT4)))
    cases q with
    | false =>
      clear hy hno d0 d1 d2
      go_wp2
      go_ret2
      exact ⟨rfl, hS.frame⟩
    | true =>
      obtain ⟨hown, _, hb⟩ := hy rfl
      obtain ⟨pv, cv, rfl⟩ := own_shape hown
      obtain ⟨nv, hnv⟩ : ∃ nv, nv = (enc it).length := ⟨_, rfl⟩
      rw [← hnv]
      have e2 : (16777216 : Int) < (nv : Int) := by have := HG.out; omega
      clear hown hb hy hno hnv d0 d1 d2
      go_wp2
      go_ret2
      exact ⟨rfl, hS.frame⟩
  · have HD := Lib.hid (fun (w' : World) (h' : Tch [] w w') => (deep_any k y0 yb yl it 32 w' (hit.tch h') (by decide)).mono (R' := fun e w'' => e = .returned (.int .i64 33) ∧ Tch [] w' w'') (fun e w'' h2 => ⟨by rw [h2.1]; unfold deepN; rw [if_neg hd]; rfl, h2.2⟩))
    clear hit h
    go_enter Try.func8, Try.ntmps8
    go_wp2_with (first
      | (refine st_box (L := []) hS rfl 27 _ rfl rfl ?_; clear hS; intro w2 b0 hS; have d0 := (hS.get .head).cell (j := 0) rfl; have d1 := (hS.get .head).cell (j := 1) rfl; have d2 := (hS.get .head).cell (j := 2) rfl)
      | (go_at_call 15; go_must (refine (HD.out _ hS.frame).mono ?_; rintro e w3 ⟨rfl, hT3⟩; replace hS := hS.call hT3)))
    go_ret2
    exact ⟨rfl, hS.frame⟩
end Go.Proofs.Ytfdihphhmhgejaa

/- TrieTwo: the walk. -/
namespace Go.Proofs.Ytfdihphhmhgejaa
open Go.RowKit Tr
set_option maxRecDepth 100000

theorem or48 : ∀ a : Fin 16, bits BinOp.or IntKind.u8 48 (a.val : Int) = ((48 + a.val : Nat) : Int) := by decide +kernel
theorem or48' {n : Nat} (h : n < 16) : bits BinOp.or IntKind.u8 48 (n : Int) = ((48 + n : Nat) : Int) := or48 ⟨n, h⟩
theorem tand15 : ∀ a : Fin 256, bits BinOp.and IntKind.u8 (a.val : Int) 15 = ((a.val % 16 : Nat) : Int) := by decide +kernel
theorem tand15' {n : Nat} (h : n < 256) : bits BinOp.and IntKind.u8 (n : Int) 15 = ((n % 16 : Nat) : Int) := tand15 ⟨n, h⟩
theorem div16 (x : Nat) : (x : Int) / 16 = ((x / 16 : Nat) : Int) := by omega
set_option maxHeartbeats 4000000 in
/-- Where there is nothing to show. -/
theorem two_out (A B : Nat) (x y : List Nat) (vx vy : Value) (w : World) (hA : A < 256) (hB : B < 256) (hx : RdA [] w vx x) (hy : RdA [] w vy y) (hxl : x.length ≤ 4611686018427387904) (hyl : y.length ≤ 4611686018427387904) (h : A / 16 = B / 16 ∨ x.length < 1 ∨ y.length < 1 ∨ 20 < x.length ∨ 20 < y.length) :
    Calls Try.prog 3 #[.int .u8 (A : Int), .int .u8 (B : Int), vx, vy] w fun e w' => e = .returned (.bool true) ∧ Tch [] w w' := by
  obtain ⟨p1, c1, rfl⟩ := hx.rdB.shape'
  obtain ⟨p2, c2, rfl⟩ := hy.rdB.shape'
  have eA := div16 A
  have eB := div16 B
  clear hx hy
  obtain ⟨n, hn⟩ : ∃ n, n = x.length := ⟨_, rfl⟩
  obtain ⟨m, hm⟩ : ∃ m, m = y.length := ⟨_, rfl⟩
  rw [← hn] at h hxl ⊢
  rw [← hm] at h hyl ⊢
  clear hn hm
  obtain ⟨P, hP⟩ : ∃ P, P = A / 16 := ⟨_, rfl⟩
  obtain ⟨R, hR⟩ : ∃ R, R = B / 16 := ⟨_, rfl⟩
  rw [← hP] at h eA
  rw [← hR] at h eB
  have HH := Lib.hid (And.intro hP hR)
  clear hP hR
  by_cases h1 : P = R
  · have e1 : ((P : Int) == (R : Int)) = true := by rw [h1]; simp
    subst h1
    clear h
    go_enter Try.func3, Try.ntmps3
    go_wp2_with (go_at_call 5; refine (alive6_any _).mono ?_; rintro e w1 ⟨rfl, hT⟩)
    go_ret
    exact ⟨rfl, hT⟩
  · have e1 : ((P : Int) == (R : Int)) = false := beq_eq_false_iff_ne.2 (by omega)
    have f1 : ¬ (P : Int) = (R : Int) := by omega
    by_cases h2 : n < 1
    · have e2 : (n : Int) < 1 := by omega
      clear h
      go_enter Try.func3, Try.ntmps3
      go_wp2_with (go_at_call 5; refine (alive6_any _).mono ?_; rintro e w1 ⟨rfl, hT⟩)
      go_ret
      exact ⟨rfl, hT⟩
    · have e2 : ¬ (n : Int) < 1 := by omega
      by_cases h3 : m < 1
      · have e3 : (m : Int) < 1 := by omega
        clear h
        go_enter Try.func3, Try.ntmps3
        go_wp2_with (go_at_call 5; refine (alive6_any _).mono ?_; rintro e w1 ⟨rfl, hT⟩)
        go_ret
        exact ⟨rfl, hT⟩
      · have e3 : ¬ (m : Int) < 1 := by omega
        by_cases h4 : 20 < n
        · have e4 : (20 : Int) < (n : Int) := by omega
          clear h
          go_enter Try.func3, Try.ntmps3
          go_wp2_with (go_at_call 5; refine (alive6_any _).mono ?_; rintro e w1 ⟨rfl, hT⟩)
          go_ret
          exact ⟨rfl, hT⟩
        · have e4 : ¬ (20 : Int) < (n : Int) := by omega
          have e5 : (20 : Int) < (m : Int) := by omega
          clear h
          go_enter Try.func3, Try.ntmps3
          go_wp2_with (go_at_call 5; refine (alive6_any _).mono ?_; rintro e w1 ⟨rfl, hT⟩)
          go_ret
          exact ⟨rfl, hT⟩
end Go.Proofs.Ytfdihphhmhgejaa
