/- path.Pack: an odd path, no leaf. -/
import Derived.Test.YtanmpcgackfpaaaGreatM01
import Derived.Test.YtanmpcgackfpaaaGreatM23
set_option linter.unusedVariables false
set_option linter.unusedSimpArgs false
namespace Go.Proofs.YtanmpcgackfpaaaGreat
section
open Go.RowKit
set_option maxHeartbeats 4000000 in
set_option maxRecDepth 100000 in
theorem pack_odd_n_m_A (v : Value) (x : Nat) (q : List Nat) (w : World) (hm : (x :: q).length ≤ 100000) (hv : RdA [] w v (x :: q)) (hq : q.length % 2 = 0) (hq0 : q ≠ []) (hx15 : 15 < x) :
    Calls Tryz.prog 113 #[v, .bool false] w (PackNew w (packL (x :: q) false)) := by
  have hS := St.start w
  obtain ⟨p0, n, c', rfl⟩ := qb3 hv
  have hlen := hv.len
  have hcap := hv.cap
  have hb := hv.lt
  obtain ⟨b, o, rfl, hbw, _, hc⟩ := hv.at_ (by simp)
  have hx := hb x List.mem_cons_self
  have hc0 := hc 0 (by simp)
  rw [Nat.add_zero] at hc0
  simp only [List.getD_cons_zero] at hc0
  have HC0 := hQz (fun (w' : World) (hT : Tch [] w w') => (hT.cell (p := ⟨b, o, none⟩) hbw (by simp)).trans hc0)
  have hsl0 := qf6 (some ⟨b, o, none⟩) n c' 1 (by simp at hlen; omega) hcap
  obtain ⟨p3, c3, hsl, hc3, hrd⟩ := hsl0
  have hrd1 := hrd [] w _ hv
  simp only [List.drop_succ_cons, List.drop_zero] at hrd1
  have HSL := hQz hsl
  obtain ⟨m, hmn⟩ : ∃ m, m = n / 2 := ⟨_, rfl⟩
  have hql : 0 < q.length := List.length_pos_iff.2 hq0
  simp only [List.length_cons] at hlen hm
  have hm2 : (n : Int) / 2 = (m : Int) := by omega
  obtain ⟨M, hM⟩ : ∃ M, M = 1 + m := ⟨_, rfl⟩
  have hM2 : 1 + (m : Int) = (M : Int) := by omega
  have hpar : ((n : Int) % 2 != 0) = true := by rw [bne_iff_ne]; omega
  have hq2 : q.length = 2 * m := by omega
  have hm6 : M ≤ 100001 := by omega
  have hm5 : m ≤ 1000000 := by omega
  have hMge : 1 ≤ M := by omega
  have hM1 : ¬ M = 1 := by omega
  have q1 : (1 : Int) ≤ (M : Int) := by omega
  have q2 : (0 : Int) ≤ (M : Int) - 1 := by omega
  have q3 : (M : Int) - 1 = (m : Int) := by omega
  have hMm : M - 1 = m := by omega
  have hn0 : (0 : Int) < (n : Int) := by omega
  have hn1 : n ≠ 0 := by omega
  have hfl : fr (x :: q) false ++ (x :: q) = 1 :: x :: q := by rw [fr_odd _ (by simp only [List.length_cons]; omega)]; rfl
  have J1 := fun (w1 : World) (b7 b6 : Nat) (f : Nat → Nat) (hS : St [] w w1 [(b7, 223, #[.int .u8 ((1 : Nat) : Int), .int .u8 ((x : Nat) : Int)]), (b6, 5, bc M f)]) => qd3 hS hMge (by decide) hx
  have hxd : decide (x < 16) = false := by simp; omega
  rw [hxd] at J1
  have HJ1 := hQz J1
  have HE := hQz (qk5 hfl (by omega) (by decide) (fun h => by omega))
  clear J1 hv hfl hxd hlen hcap hmn hM hq hq0 hql hq2 hc0 hc hb hsl hrd hrd1
  go_enter Tryz.func113, Tryz.ntmps113
  go_upto_region 3 with (refine qf7 M hS rfl _ _ rfl (by rw [← hM2]; rfl) (by rw [← hM2]; rfl) (by omega) ?_; clear hS; intro w1 b6 hS)
  have hS3 := hS.new 223 #[.int .u8 0, .int .u8 0]
  clear hS
  generalize w1.heap.size = b7 at *
  generalize w1.alloc (.cells #[.int .u8 0, .int .u8 0] 223) = w3 at *
  have hS := hS3
  clear hS3
  have hx0 := HC0.out _ hS.frame
  have hcl := (hS.get .head).cell (j := 0) rfl
  go_wp2_with (first
    | (refine qa7 (b := b7) (j := 0) hS rfl 5 _ _ rfl (by rfl) rfl qb6 (by repeat (first | exact Upd.head | apply Upd.tail)) (by decide) ?_; clear hS; intro w4 hS; have hx0 := HC0.out _ hS.frame; have hcl := (hS.get .head).cell (j := 0) rfl)
    | (refine qa7 (b := b7) (j := 1) hS rfl 5 _ _ rfl (by rfl) rfl qb6 (by repeat (first | exact Upd.head | apply Upd.tail)) (by decide) ?_; clear hS; intro w4 hS; have hx0 := HC0.out _ hS.frame; have hcl := (hS.get .head).cell (j := 0) rfl)
    | (refine st_from (v := .slice (some ⟨b, o, none⟩) n c') (l := .int .i64 1) (r := .slice p3 (n - 1) c3) rfl 23 _ _ (by rfl) (by rfl) (by rfl) HSL.out ?_))
  have hcall := fun (w' : World) (hC : (fun w' => ∃ f, St [] w w' [(b7, 223, #[.int .u8 ((1 : Nat) : Int), .int .u8 ((x : Nat) : Int)]), (b6, 5, bc M f)]) w') => hC.elim fun f hS => (HJ1.out w' b7 b6 f hS).mono (R' := fun e w'' => e = .returned (.bool false) ∧ (fun w' => ∃ f, St [] w w' [(b7, 223, #[.int .u8 ((1 : Nat) : Int), .int .u8 ((x : Nat) : Int)]), (b6, 5, bc M f)]) w'') (fun e w'' h => ⟨h.1, h.2.imp fun _ h => h.1⟩)
  refine qb7 (C := fun w' => ∃ f, St [] w w' [(b7, 223, #[.int .u8 ((1 : Nat) : Int), .int .u8 ((x : Nat) : Int)]), (b6, 5, bc M f)]) (by kernel_rfl) (by kernel_rfl) ⟨_, hS.drew⟩ ?_
  (refine qb0 rfl _ rfl rfl ?_; try simp only [Act.put, ppA, ppB, ppC])
  (refine k_sl rfl rfl rfl rfl rfl rfl (slice_to b6 0 M M 1 hMge (Nat.le_refl _)) ?_; try simp only [Act.put, ppA, ppB, ppC])
  (refine k_sl rfl rfl rfl rfl rfl rfl (pair_slice b7) ?_; try simp only [Act.put, ppA, ppB, ppC])
  (refine qk3 rfl rfl rfl rfl Tryz.call135 hcall ?_; try simp only [Act.put, ppA, ppB, ppC])
  (refine k_not rfl _ _ rfl rfl ?_; try simp only [Act.put, ppA, ppB, ppC])
  (refine qc0 rfl _ rfl rfl ?_; try simp only [Act.put, ppA, ppB, ppC])
  (refine qa3 rfl rfl rfl rfl rfl ?_; try simp only [Act.put, ppA, ppB, ppC])
  (refine qa3 rfl rfl rfl rfl rfl ?_; try simp only [Act.put, ppA, ppB, ppC])
  (refine qa3 rfl rfl rfl rfl rfl ?_; try simp only [Act.put, ppA, ppB, ppC])
  (refine qa3 rfl rfl rfl rfl rfl ?_; try simp only [Act.put, ppA, ppB, ppC])
  (refine qa3 rfl rfl rfl rfl rfl ?_; try simp only [Act.put, ppA, ppB, ppC])
  (refine qd0 rfl _ _ _ rfl rfl rfl ?_; try simp only [Act.put, ppA, ppB, ppC])
  refine qc8 ?_
  rintro w5 ⟨f', hS5⟩
  go_wp2
  go_ret2
  exact qi8 HE.out hS5.frame
set_option maxHeartbeats 4000000 in
set_option maxRecDepth 100000 in
theorem pack_odd_n_m_B (v : Value) (x : Nat) (q : List Nat) (w : World) (hm : (x :: q).length ≤ 100000) (hv : RdA [] w v (x :: q)) (hq : q.length % 2 = 0) (hq0 : q ≠ []) (hx15 : x < 16) (ha : allN q = false) :
    Calls Tryz.prog 113 #[v, .bool false] w (PackNew w (packL (x :: q) false)) := by
  have hS := St.start w
  obtain ⟨p0, n, c', rfl⟩ := qb3 hv
  have hlen := hv.len
  have hcap := hv.cap
  have hb := hv.lt
  obtain ⟨b, o, rfl, hbw, _, hc⟩ := hv.at_ (by simp)
  have hx := hb x List.mem_cons_self
  have hc0 := hc 0 (by simp)
  rw [Nat.add_zero] at hc0
  simp only [List.getD_cons_zero] at hc0
  have HC0 := hQz (fun (w' : World) (hT : Tch [] w w') => (hT.cell (p := ⟨b, o, none⟩) hbw (by simp)).trans hc0)
  have hsl0 := qf6 (some ⟨b, o, none⟩) n c' 1 (by simp at hlen; omega) hcap
  obtain ⟨p3, c3, hsl, hc3, hrd⟩ := hsl0
  have hrd1 := hrd [] w _ hv
  simp only [List.drop_succ_cons, List.drop_zero] at hrd1
  have HSL := hQz hsl
  obtain ⟨m, hmn⟩ : ∃ m, m = n / 2 := ⟨_, rfl⟩
  have hql : 0 < q.length := List.length_pos_iff.2 hq0
  simp only [List.length_cons] at hlen hm
  have hm2 : (n : Int) / 2 = (m : Int) := by omega
  obtain ⟨M, hM⟩ : ∃ M, M = 1 + m := ⟨_, rfl⟩
  have hM2 : 1 + (m : Int) = (M : Int) := by omega
  have hpar : ((n : Int) % 2 != 0) = true := by rw [bne_iff_ne]; omega
  have hq2 : q.length = 2 * m := by omega
  have hm6 : M ≤ 100001 := by omega
  have hm5 : m ≤ 1000000 := by omega
  have hMge : 1 ≤ M := by omega
  have hM1 : ¬ M = 1 := by omega
  have q1 : (1 : Int) ≤ (M : Int) := by omega
  have q2 : (0 : Int) ≤ (M : Int) - 1 := by omega
  have q3 : (M : Int) - 1 = (m : Int) := by omega
  have hMm : M - 1 = m := by omega
  have hn0 : (0 : Int) < (n : Int) := by omega
  have hn1 : n ≠ 0 := by omega
  have hfl : fr (x :: q) false ++ (x :: q) = 1 :: x :: q := by rw [fr_odd _ (by simp only [List.length_cons]; omega)]; rfl
  have J1 := fun (w1 : World) (b7 b6 : Nat) (hS : St [] w w1 [(b7, 223, #[.int .u8 ((1 : Nat) : Int), .int .u8 ((x : Nat) : Int)]), (b6, 5, bc M fun _ => 0)]) => qd3 hS hMge (by decide) hx
  have J2 := fun (w1 : World) (b7 b6 : Nat) (f : Nat → Nat) (hS : St [] w w1 [(b7, 223, #[.int .u8 ((1 : Nat) : Int), .int .u8 ((x : Nat) : Int)]), (b6, 5, bc M f)]) => qg8 (pq := some ⟨b6, 1, none⟩) (cm := m) hS hM hq2 hm5 (fun _ => rfl) hrd1
  rw [ha] at J2
  have HJ2 := hQz J2
  have hxd : decide (x < 16) = true := by simp; omega
  rw [hxd] at J1
  have HJ1 := hQz J1
  have HE := hQz (qk5 hfl (by omega) (by decide) (fun h => by rw [ha] at h; cases h.2))
  clear J1 hv hfl hxd hlen hcap J2 ha hmn hM hq hq0 hql hq2 hc0 hc hb hsl hrd hrd1
  go_enter Tryz.func113, Tryz.ntmps113
  go_upto_region 3 with (refine qf7 M hS rfl _ _ rfl (by rw [← hM2]; rfl) (by rw [← hM2]; rfl) (by omega) ?_; clear hS; intro w1 b6 hS)
  have hS3 := hS.new 223 #[.int .u8 0, .int .u8 0]
  clear hS
  generalize w1.heap.size = b7 at *
  generalize w1.alloc (.cells #[.int .u8 0, .int .u8 0] 223) = w3 at *
  have hS := hS3
  clear hS3
  have hx0 := HC0.out _ hS.frame
  have hcl := (hS.get .head).cell (j := 0) rfl
  go_wp2_with (first
    | (refine qa7 (b := b7) (j := 0) hS rfl 5 _ _ rfl (by rfl) rfl qb6 (by repeat (first | exact Upd.head | apply Upd.tail)) (by decide) ?_; clear hS; intro w4 hS; have hx0 := HC0.out _ hS.frame; have hcl := (hS.get .head).cell (j := 0) rfl)
    | (refine qa7 (b := b7) (j := 1) hS rfl 5 _ _ rfl (by rfl) rfl qb6 (by repeat (first | exact Upd.head | apply Upd.tail)) (by decide) ?_; clear hS; intro w4 hS; have hx0 := HC0.out _ hS.frame; have hcl := (hS.get .head).cell (j := 0) rfl)
    | (refine st_from (v := .slice (some ⟨b, o, none⟩) n c') (l := .int .i64 1) (r := .slice p3 (n - 1) c3) rfl 23 _ _ (by rfl) (by rfl) (by rfl) HSL.out ?_))
  go_region_held3 (fun _ => True) (trivial)
    ((first
      | (go_at_call 135; have hu := HJ1.out _ _ _ hS.drew; (with_reducible refine hu.mono ?_); clear hu; rintro e w5 ⟨rfl, f', hS5, hf⟩)
      | (go_at_call 135; go_must (have hu := HJ2.out _ _ _ _ hS5; (with_reducible refine hu.mono ?_); clear hu; rintro e w6 ⟨rfl, f6, hS6, hf6⟩))))
  go_wp2
  go_ret2
  exact qi8 HE.out hS6.frame
set_option maxHeartbeats 4000000 in
set_option maxRecDepth 100000 in
theorem pack_odd_n_m_C (v : Value) (x : Nat) (q : List Nat) (w : World) (hm : (x :: q).length ≤ 100000) (hv : RdA [] w v (x :: q)) (hq : q.length % 2 = 0) (hq0 : q ≠ []) (hx15 : x < 16) (ha : allN q = true) :
    Calls Tryz.prog 113 #[v, .bool false] w (PackNew w (packL (x :: q) false)) := by
  have hS := St.start w
  obtain ⟨p0, n, c', rfl⟩ := qb3 hv
  have hlen := hv.len
  have hcap := hv.cap
  have hb := hv.lt
  obtain ⟨b, o, rfl, hbw, _, hc⟩ := hv.at_ (by simp)
  have hx := hb x List.mem_cons_self
  have hc0 := hc 0 (by simp)
  rw [Nat.add_zero] at hc0
  simp only [List.getD_cons_zero] at hc0
  have HC0 := hQz (fun (w' : World) (hT : Tch [] w w') => (hT.cell (p := ⟨b, o, none⟩) hbw (by simp)).trans hc0)
  have hsl0 := qf6 (some ⟨b, o, none⟩) n c' 1 (by simp at hlen; omega) hcap
  obtain ⟨p3, c3, hsl, hc3, hrd⟩ := hsl0
  have hrd1 := hrd [] w _ hv
  simp only [List.drop_succ_cons, List.drop_zero] at hrd1
  have HSL := hQz hsl
  obtain ⟨m, hmn⟩ : ∃ m, m = n / 2 := ⟨_, rfl⟩
  have hql : 0 < q.length := List.length_pos_iff.2 hq0
  simp only [List.length_cons] at hlen hm
  have hm2 : (n : Int) / 2 = (m : Int) := by omega
  obtain ⟨M, hM⟩ : ∃ M, M = 1 + m := ⟨_, rfl⟩
  have hM2 : 1 + (m : Int) = (M : Int) := by omega
  have hpar : ((n : Int) % 2 != 0) = true := by rw [bne_iff_ne]; omega
  have hq2 : q.length = 2 * m := by omega
  have hm6 : M ≤ 100001 := by omega
  have hm5 : m ≤ 1000000 := by omega
  have hMge : 1 ≤ M := by omega
  have hM1 : ¬ M = 1 := by omega
  have q1 : (1 : Int) ≤ (M : Int) := by omega
  have q2 : (0 : Int) ≤ (M : Int) - 1 := by omega
  have q3 : (M : Int) - 1 = (m : Int) := by omega
  have hMm : M - 1 = m := by omega
  have hn0 : (0 : Int) < (n : Int) := by omega
  have hn1 : n ≠ 0 := by omega
  have hfl : fr (x :: q) false ++ (x :: q) = 1 :: x :: q := by rw [fr_odd _ (by simp only [List.length_cons]; omega)]; rfl
  have J1 := fun (w1 : World) (b7 b6 : Nat) (hS : St [] w w1 [(b7, 223, #[.int .u8 ((1 : Nat) : Int), .int .u8 ((x : Nat) : Int)]), (b6, 5, bc M fun _ => 0)]) => qd3 hS hMge (by decide) hx
  have J2 := fun (w1 : World) (b7 b6 : Nat) (f : Nat → Nat) (hS : St [] w w1 [(b7, 223, #[.int .u8 ((1 : Nat) : Int), .int .u8 ((x : Nat) : Int)]), (b6, 5, bc M f)]) => qg8 (pq := some ⟨b6, 1, none⟩) (cm := m) hS hM hq2 hm5 (fun _ => rfl) hrd1
  rw [ha] at J2
  have HJ2 := hQz J2
  have hxd : decide (x < 16) = true := by simp; omega
  rw [hxd] at J1
  have HJ1 := hQz J1
  have HE := hQz (fun (w6 : World) (b7 b6 : Nat) (f5 f6 : Nat → Nat) => pack_end (w := w) (w6 := w6) (b7 := b7) (b6 := b6) (f5 := f5) (f6 := f6) (c := #[.int .u8 ((1 : Nat) : Int), .int .u8 ((x : Nat) : Int)]) hfl hq2 hM (by decide) hx15 ha)
  clear J1 hv hfl hxd hlen hcap J2 ha hmn hM hq hq0 hql hq2 hc0 hc hb hsl hrd hrd1
  go_enter Tryz.func113, Tryz.ntmps113
  go_upto_region 3 with (refine qf7 M hS rfl _ _ rfl (by rw [← hM2]; rfl) (by rw [← hM2]; rfl) (by omega) ?_; clear hS; intro w1 b6 hS)
  have hS3 := hS.new 223 #[.int .u8 0, .int .u8 0]
  clear hS
  generalize w1.heap.size = b7 at *
  generalize w1.alloc (.cells #[.int .u8 0, .int .u8 0] 223) = w3 at *
  have hS := hS3
  clear hS3
  have hx0 := HC0.out _ hS.frame
  have hcl := (hS.get .head).cell (j := 0) rfl
  go_wp2_with (first
    | (refine qa7 (b := b7) (j := 0) hS rfl 5 _ _ rfl (by rfl) rfl qb6 (by repeat (first | exact Upd.head | apply Upd.tail)) (by decide) ?_; clear hS; intro w4 hS; have hx0 := HC0.out _ hS.frame; have hcl := (hS.get .head).cell (j := 0) rfl)
    | (refine qa7 (b := b7) (j := 1) hS rfl 5 _ _ rfl (by rfl) rfl qb6 (by repeat (first | exact Upd.head | apply Upd.tail)) (by decide) ?_; clear hS; intro w4 hS; have hx0 := HC0.out _ hS.frame; have hcl := (hS.get .head).cell (j := 0) rfl)
    | (refine st_from (v := .slice (some ⟨b, o, none⟩) n c') (l := .int .i64 1) (r := .slice p3 (n - 1) c3) rfl 23 _ _ (by rfl) (by rfl) (by rfl) HSL.out ?_))
  go_region_held3 (fun _ => True) (trivial)
    ((first
      | (go_at_call 135; have hu := HJ1.out _ _ _ hS.drew; (with_reducible refine hu.mono ?_); clear hu; rintro e w5 ⟨rfl, f', hS5, hf⟩)
      | (go_at_call 135; go_must (have hu := HJ2.out _ _ _ _ hS5; (with_reducible refine hu.mono ?_); clear hu; rintro e w6 ⟨rfl, f6, hS6, hf6⟩))))
  go_wp2
  go_ret2
  exact HE.out _ _ _ _ _ (hf hx15) (hf6 (by trivial)) hS6
set_option maxHeartbeats 4000000 in
set_option maxRecDepth 100000 in
theorem pack_odd_n_z_A (v : Value) (x : Nat) (w : World) (hm : (x :: []).length ≤ 100000) (hv : RdA [] w v (x :: [])) (hx15 : 15 < x) :
    Calls Tryz.prog 113 #[v, .bool false] w (PackNew w (packL (x :: []) false)) := by
  have hS := St.start w
  obtain ⟨p0, n, c', rfl⟩ := qb3 hv
  have hlen := hv.len
  have hcap := hv.cap
  have hb := hv.lt
  obtain ⟨b, o, rfl, hbw, _, hc⟩ := hv.at_ (by simp)
  have hx := hb x List.mem_cons_self
  have hc0 := hc 0 (by simp)
  rw [Nat.add_zero] at hc0
  simp only [List.getD_cons_zero] at hc0
  have HC0 := hQz (fun (w' : World) (hT : Tch [] w w') => (hT.cell (p := ⟨b, o, none⟩) hbw (by simp)).trans hc0)
  obtain rfl : n = 1 := by simpa using hlen
  have hsl0 := qf6 (some ⟨b, o, none⟩) 1 c' 1 (Nat.le_refl _) hcap
  obtain ⟨p3, c3, hsl, hc3, hrd⟩ := hsl0
  have hrd1 := hrd [] w _ hv
  simp only [List.drop_succ_cons, List.drop_zero] at hrd1
  have HSL := hQz hsl
  have hfl : fr (x :: []) false ++ (x :: []) = 1 :: x :: ([] : List Nat) := by rw [fr_odd _ (by simp)]; rfl
  have J1 := fun (w1 : World) (b7 b6 : Nat) (f : Nat → Nat) (hS : St [] w w1 [(b7, 223, #[.int .u8 ((1 : Nat) : Int), .int .u8 ((x : Nat) : Int)]), (b6, 5, bc 1 f)]) => qd3 hS (Nat.le_refl 1) (by decide) hx
  have hxd : decide (x < 16) = false := by simp; omega
  rw [hxd] at J1
  have HJ1 := hQz J1
  have HE := hQz (qk5 hfl rfl (by decide) (fun h => by omega))
  clear J1 hv hfl hxd hlen hcap hc0 hc hb hsl hrd hrd1
  go_enter Tryz.func113, Tryz.ntmps113
  go_upto_region 3 with (refine qf7 1 hS rfl _ _ rfl (by rfl) (by rfl) (by omega) ?_; clear hS; intro w1 b6 hS)
  have hS3 := hS.new 223 #[.int .u8 0, .int .u8 0]
  clear hS
  generalize w1.heap.size = b7 at *
  generalize w1.alloc (.cells #[.int .u8 0, .int .u8 0] 223) = w3 at *
  have hS := hS3
  clear hS3
  have hx0 := HC0.out _ hS.frame
  have hcl := (hS.get .head).cell (j := 0) rfl
  go_wp2_with (first
    | (refine qa7 (b := b7) (j := 0) hS rfl 5 _ _ rfl (by rfl) rfl qb6 (by repeat (first | exact Upd.head | apply Upd.tail)) (by decide) ?_; clear hS; intro w4 hS; have hx0 := HC0.out _ hS.frame; have hcl := (hS.get .head).cell (j := 0) rfl)
    | (refine qa7 (b := b7) (j := 1) hS rfl 5 _ _ rfl (by rfl) rfl qb6 (by repeat (first | exact Upd.head | apply Upd.tail)) (by decide) ?_; clear hS; intro w4 hS; have hx0 := HC0.out _ hS.frame; have hcl := (hS.get .head).cell (j := 0) rfl)
    | (refine st_from (v := .slice (some ⟨b, o, none⟩) 1 c') (l := .int .i64 1) (r := .slice p3 (1 - 1) c3) rfl 23 _ _ (by rfl) (by rfl) (by rfl) HSL.out ?_))
  have hcall := fun (w' : World) (hC : (fun w' => ∃ f, St [] w w' [(b7, 223, #[.int .u8 ((1 : Nat) : Int), .int .u8 ((x : Nat) : Int)]), (b6, 5, bc 1 f)]) w') => hC.elim fun f hS => (HJ1.out w' b7 b6 f hS).mono (R' := fun e w'' => e = .returned (.bool false) ∧ (fun w' => ∃ f, St [] w w' [(b7, 223, #[.int .u8 ((1 : Nat) : Int), .int .u8 ((x : Nat) : Int)]), (b6, 5, bc 1 f)]) w'') (fun e w'' h => ⟨h.1, h.2.imp fun _ h => h.1⟩)
  refine qb7 (C := fun w' => ∃ f, St [] w w' [(b7, 223, #[.int .u8 ((1 : Nat) : Int), .int .u8 ((x : Nat) : Int)]), (b6, 5, bc 1 f)]) (by kernel_rfl) (by kernel_rfl) ⟨_, hS.drew⟩ ?_
  (refine qb0 rfl _ rfl rfl ?_; try simp only [Act.put, ppA, ppB, ppC])
  (refine k_sl rfl rfl rfl rfl rfl rfl (slice_to b6 0 1 1 1 (by decide) (Nat.le_refl _)) ?_; try simp only [Act.put, ppA, ppB, ppC])
  (refine k_sl rfl rfl rfl rfl rfl rfl (pair_slice b7) ?_; try simp only [Act.put, ppA, ppB, ppC])
  (refine qk3 rfl rfl rfl rfl Tryz.call135 hcall ?_; try simp only [Act.put, ppA, ppB, ppC])
  (refine k_not rfl _ _ rfl rfl ?_; try simp only [Act.put, ppA, ppB, ppC])
  (refine qc0 rfl _ rfl rfl ?_; try simp only [Act.put, ppA, ppB, ppC])
  (refine qa3 rfl rfl rfl rfl rfl ?_; try simp only [Act.put, ppA, ppB, ppC])
  (refine qa3 rfl rfl rfl rfl rfl ?_; try simp only [Act.put, ppA, ppB, ppC])
  (refine qa3 rfl rfl rfl rfl rfl ?_; try simp only [Act.put, ppA, ppB, ppC])
  (refine qa3 rfl rfl rfl rfl rfl ?_; try simp only [Act.put, ppA, ppB, ppC])
  (refine qa3 rfl rfl rfl rfl rfl ?_; try simp only [Act.put, ppA, ppB, ppC])
  (refine qd0 rfl _ _ _ rfl rfl rfl ?_; try simp only [Act.put, ppA, ppB, ppC])
  refine qc8 ?_
  rintro w5 ⟨f', hS5⟩
  go_wp2
  go_ret2
  exact qi8 HE.out hS5.frame
set_option maxHeartbeats 4000000 in
set_option maxRecDepth 100000 in
theorem pack_odd_n_z_C (v : Value) (x : Nat) (w : World) (hm : (x :: []).length ≤ 100000) (hv : RdA [] w v (x :: [])) (hx15 : x < 16) :
    Calls Tryz.prog 113 #[v, .bool false] w (PackNew w (packL (x :: []) false)) := by
  have hS := St.start w
  obtain ⟨p0, n, c', rfl⟩ := qb3 hv
  have hlen := hv.len
  have hcap := hv.cap
  have hb := hv.lt
  obtain ⟨b, o, rfl, hbw, _, hc⟩ := hv.at_ (by simp)
  have hx := hb x List.mem_cons_self
  have hc0 := hc 0 (by simp)
  rw [Nat.add_zero] at hc0
  simp only [List.getD_cons_zero] at hc0
  have HC0 := hQz (fun (w' : World) (hT : Tch [] w w') => (hT.cell (p := ⟨b, o, none⟩) hbw (by simp)).trans hc0)
  obtain rfl : n = 1 := by simpa using hlen
  have hsl0 := qf6 (some ⟨b, o, none⟩) 1 c' 1 (Nat.le_refl _) hcap
  obtain ⟨p3, c3, hsl, hc3, hrd⟩ := hsl0
  have hrd1 := hrd [] w _ hv
  simp only [List.drop_succ_cons, List.drop_zero] at hrd1
  have HSL := hQz hsl
  have hfl : fr (x :: []) false ++ (x :: []) = 1 :: x :: ([] : List Nat) := by rw [fr_odd _ (by simp)]; rfl
  have J1 := fun (w1 : World) (b7 b6 : Nat) (hS : St [] w w1 [(b7, 223, #[.int .u8 ((1 : Nat) : Int), .int .u8 ((x : Nat) : Int)]), (b6, 5, bc 1 fun _ => 0)]) => qd3 hS (Nat.le_refl 1) (by decide) hx
  have J2 := fun (w1 : World) (b7 b6 : Nat) (f : Nat → Nat) (hS : St [] w w1 [(b7, 223, #[.int .u8 ((1 : Nat) : Int), .int .u8 ((x : Nat) : Int)]), (b6, 5, bc 1 f)]) => qg8 (m := 0) (q := []) (pq := some ⟨b6, 0, none⟩) (cm := 0) hS rfl rfl (by decide) (fun h => absurd rfl h) hrd1
  have ha : allN ([] : List Nat) = true := rfl
  rw [ha] at J2
  have HJ2 := hQz J2
  have hxd : decide (x < 16) = true := by simp; omega
  rw [hxd] at J1
  have HJ1 := hQz J1
  have HE := hQz (fun (w6 : World) (b7 b6 : Nat) (f5 f6 : Nat → Nat) => pack_end (w := w) (w6 := w6) (b7 := b7) (b6 := b6) (f5 := f5) (f6 := f6) (c := #[.int .u8 ((1 : Nat) : Int), .int .u8 ((x : Nat) : Int)]) hfl (m := 0) rfl (M := 1) rfl (by decide) hx15 ha)
  clear J1 hv hfl hxd hlen hcap J2 ha hc0 hc hb hsl hrd hrd1
  go_enter Tryz.func113, Tryz.ntmps113
  go_upto_region 3 with (refine qf7 1 hS rfl _ _ rfl (by rfl) (by rfl) (by omega) ?_; clear hS; intro w1 b6 hS)
  have hS3 := hS.new 223 #[.int .u8 0, .int .u8 0]
  clear hS
  generalize w1.heap.size = b7 at *
  generalize w1.alloc (.cells #[.int .u8 0, .int .u8 0] 223) = w3 at *
  have hS := hS3
  clear hS3
  have hx0 := HC0.out _ hS.frame
  have hcl := (hS.get .head).cell (j := 0) rfl
  go_wp2_with (first
    | (refine qa7 (b := b7) (j := 0) hS rfl 5 _ _ rfl (by rfl) rfl qb6 (by repeat (first | exact Upd.head | apply Upd.tail)) (by decide) ?_; clear hS; intro w4 hS; have hx0 := HC0.out _ hS.frame; have hcl := (hS.get .head).cell (j := 0) rfl)
    | (refine qa7 (b := b7) (j := 1) hS rfl 5 _ _ rfl (by rfl) rfl qb6 (by repeat (first | exact Upd.head | apply Upd.tail)) (by decide) ?_; clear hS; intro w4 hS; have hx0 := HC0.out _ hS.frame; have hcl := (hS.get .head).cell (j := 0) rfl)
    | (refine st_from (v := .slice (some ⟨b, o, none⟩) 1 c') (l := .int .i64 1) (r := .slice p3 (1 - 1) c3) rfl 23 _ _ (by rfl) (by rfl) (by rfl) HSL.out ?_))
  go_region_held3 (fun _ => True) (trivial)
    ((first
      | (go_at_call 135; have hu := HJ1.out _ _ _ hS.drew; (with_reducible refine hu.mono ?_); clear hu; rintro e w5 ⟨rfl, f', hS5, hf⟩)
      | (go_at_call 135; go_must (have hu := HJ2.out _ _ _ _ hS5; (with_reducible refine hu.mono ?_); clear hu; rintro e w6 ⟨rfl, f6, hS6, hf6⟩))))
  go_wp2
  go_ret2
  exact HE.out _ _ _ _ _ (hf hx15) (hf6 (by trivial)) hS6
end
section
open Go.RowKit
set_option maxHeartbeats 4000000 in
set_option maxRecDepth 100000 in
theorem pack_odd_l_m_A (v : Value) (x : Nat) (q : List Nat) (w : World) (hm : (x :: q).length ≤ 100000) (hv : RdA [] w v (x :: q)) (hq : q.length % 2 = 0) (hq0 : q ≠ []) (hx15 : 15 < x) :
    Calls Tryz.prog 113 #[v, .bool true] w (PackNew w (packL (x :: q) true)) := by
  have hS := St.start w
  obtain ⟨p0, n, c', rfl⟩ := qb3 hv
  have hlen := hv.len
  have hcap := hv.cap
  have hb := hv.lt
  obtain ⟨b, o, rfl, hbw, _, hc⟩ := hv.at_ (by simp)
  have hx := hb x List.mem_cons_self
  have hc0 := hc 0 (by simp)
  rw [Nat.add_zero] at hc0
  simp only [List.getD_cons_zero] at hc0
  have HC0 := hQz (fun (w' : World) (hT : Tch [] w w') => (hT.cell (p := ⟨b, o, none⟩) hbw (by simp)).trans hc0)
  have hsl0 := qf6 (some ⟨b, o, none⟩) n c' 1 (by simp at hlen; omega) hcap
  obtain ⟨p3, c3, hsl, hc3, hrd⟩ := hsl0
  have hrd1 := hrd [] w _ hv
  simp only [List.drop_succ_cons, List.drop_zero] at hrd1
  have HSL := hQz hsl
  obtain ⟨m, hmn⟩ : ∃ m, m = n / 2 := ⟨_, rfl⟩
  have hql : 0 < q.length := List.length_pos_iff.2 hq0
  simp only [List.length_cons] at hlen hm
  have hm2 : (n : Int) / 2 = (m : Int) := by omega
  obtain ⟨M, hM⟩ : ∃ M, M = 1 + m := ⟨_, rfl⟩
  have hM2 : 1 + (m : Int) = (M : Int) := by omega
  have hpar : ((n : Int) % 2 != 0) = true := by rw [bne_iff_ne]; omega
  have hq2 : q.length = 2 * m := by omega
  have hm6 : M ≤ 100001 := by omega
  have hm5 : m ≤ 1000000 := by omega
  have hMge : 1 ≤ M := by omega
  have hM1 : ¬ M = 1 := by omega
  have q1 : (1 : Int) ≤ (M : Int) := by omega
  have q2 : (0 : Int) ≤ (M : Int) - 1 := by omega
  have q3 : (M : Int) - 1 = (m : Int) := by omega
  have hMm : M - 1 = m := by omega
  have hn0 : (0 : Int) < (n : Int) := by omega
  have hn1 : n ≠ 0 := by omega
  have hfl : fr (x :: q) true ++ (x :: q) = 3 :: x :: q := by rw [fr_odd _ (by simp only [List.length_cons]; omega)]; rfl
  have J1 := fun (w1 : World) (b7 b6 : Nat) (f : Nat → Nat) (hS : St [] w w1 [(b7, 223, #[.int .u8 ((3 : Nat) : Int), .int .u8 ((x : Nat) : Int)]), (b6, 5, bc M f)]) => qd3 hS hMge (by decide) hx
  have hxd : decide (x < 16) = false := by simp; omega
  rw [hxd] at J1
  have HJ1 := hQz J1
  have HE := hQz (qk5 hfl (by omega) (by decide) (fun h => by omega))
  clear J1 hv hfl hxd hlen hcap hmn hM hq hq0 hql hq2 hc0 hc hb hsl hrd hrd1
  go_enter Tryz.func113, Tryz.ntmps113
  go_upto_region 3 with (refine qf7 M hS rfl _ _ rfl (by rw [← hM2]; rfl) (by rw [← hM2]; rfl) (by omega) ?_; clear hS; intro w1 b6 hS)
  have hS3 := hS.new 223 #[.int .u8 0, .int .u8 0]
  clear hS
  generalize w1.heap.size = b7 at *
  generalize w1.alloc (.cells #[.int .u8 0, .int .u8 0] 223) = w3 at *
  have hS := hS3
  clear hS3
  have hx0 := HC0.out _ hS.frame
  have hcl := (hS.get .head).cell (j := 0) rfl
  go_wp2_with (first
    | (refine qa7 (b := b7) (j := 0) hS rfl 5 _ _ rfl (by rfl) rfl qb6 (by repeat (first | exact Upd.head | apply Upd.tail)) (by decide) ?_; clear hS; intro w4 hS; have hx0 := HC0.out _ hS.frame; have hcl := (hS.get .head).cell (j := 0) rfl)
    | (refine qa7 (b := b7) (j := 1) hS rfl 5 _ _ rfl (by rfl) rfl qb6 (by repeat (first | exact Upd.head | apply Upd.tail)) (by decide) ?_; clear hS; intro w4 hS; have hx0 := HC0.out _ hS.frame; have hcl := (hS.get .head).cell (j := 0) rfl)
    | (refine st_from (v := .slice (some ⟨b, o, none⟩) n c') (l := .int .i64 1) (r := .slice p3 (n - 1) c3) rfl 23 _ _ (by rfl) (by rfl) (by rfl) HSL.out ?_))
  have hcall := fun (w' : World) (hC : (fun w' => ∃ f, St [] w w' [(b7, 223, #[.int .u8 ((3 : Nat) : Int), .int .u8 ((x : Nat) : Int)]), (b6, 5, bc M f)]) w') => hC.elim fun f hS => (HJ1.out w' b7 b6 f hS).mono (R' := fun e w'' => e = .returned (.bool false) ∧ (fun w' => ∃ f, St [] w w' [(b7, 223, #[.int .u8 ((3 : Nat) : Int), .int .u8 ((x : Nat) : Int)]), (b6, 5, bc M f)]) w'') (fun e w'' h => ⟨h.1, h.2.imp fun _ h => h.1⟩)
  refine qb7 (C := fun w' => ∃ f, St [] w w' [(b7, 223, #[.int .u8 ((3 : Nat) : Int), .int .u8 ((x : Nat) : Int)]), (b6, 5, bc M f)]) (by kernel_rfl) (by kernel_rfl) ⟨_, hS.drew⟩ ?_
  (refine qb0 rfl _ rfl rfl ?_; try simp only [Act.put, ppA, ppB, ppC])
  (refine k_sl rfl rfl rfl rfl rfl rfl (slice_to b6 0 M M 1 hMge (Nat.le_refl _)) ?_; try simp only [Act.put, ppA, ppB, ppC])
  (refine k_sl rfl rfl rfl rfl rfl rfl (pair_slice b7) ?_; try simp only [Act.put, ppA, ppB, ppC])
  (refine qk3 rfl rfl rfl rfl Tryz.call135 hcall ?_; try simp only [Act.put, ppA, ppB, ppC])
  (refine k_not rfl _ _ rfl rfl ?_; try simp only [Act.put, ppA, ppB, ppC])
  (refine qc0 rfl _ rfl rfl ?_; try simp only [Act.put, ppA, ppB, ppC])
  (refine qa3 rfl rfl rfl rfl rfl ?_; try simp only [Act.put, ppA, ppB, ppC])
  (refine qa3 rfl rfl rfl rfl rfl ?_; try simp only [Act.put, ppA, ppB, ppC])
  (refine qa3 rfl rfl rfl rfl rfl ?_; try simp only [Act.put, ppA, ppB, ppC])
  (refine qa3 rfl rfl rfl rfl rfl ?_; try simp only [Act.put, ppA, ppB, ppC])
  (refine qa3 rfl rfl rfl rfl rfl ?_; try simp only [Act.put, ppA, ppB, ppC])
  (refine qd0 rfl _ _ _ rfl rfl rfl ?_; try simp only [Act.put, ppA, ppB, ppC])
  refine qc8 ?_
  rintro w5 ⟨f', hS5⟩
  go_wp2
  go_ret2
  exact qi8 HE.out hS5.frame
set_option maxHeartbeats 4000000 in
set_option maxRecDepth 100000 in
theorem pack_odd_l_m_B (v : Value) (x : Nat) (q : List Nat) (w : World) (hm : (x :: q).length ≤ 100000) (hv : RdA [] w v (x :: q)) (hq : q.length % 2 = 0) (hq0 : q ≠ []) (hx15 : x < 16) (ha : allN q = false) :
    Calls Tryz.prog 113 #[v, .bool true] w (PackNew w (packL (x :: q) true)) := by
  have hS := St.start w
  obtain ⟨p0, n, c', rfl⟩ := qb3 hv
  have hlen := hv.len
  have hcap := hv.cap
  have hb := hv.lt
  obtain ⟨b, o, rfl, hbw, _, hc⟩ := hv.at_ (by simp)
  have hx := hb x List.mem_cons_self
  have hc0 := hc 0 (by simp)
  rw [Nat.add_zero] at hc0
  simp only [List.getD_cons_zero] at hc0
  have HC0 := hQz (fun (w' : World) (hT : Tch [] w w') => (hT.cell (p := ⟨b, o, none⟩) hbw (by simp)).trans hc0)
  have hsl0 := qf6 (some ⟨b, o, none⟩) n c' 1 (by simp at hlen; omega) hcap
  obtain ⟨p3, c3, hsl, hc3, hrd⟩ := hsl0
  have hrd1 := hrd [] w _ hv
  simp only [List.drop_succ_cons, List.drop_zero] at hrd1
  have HSL := hQz hsl
  obtain ⟨m, hmn⟩ : ∃ m, m = n / 2 := ⟨_, rfl⟩
  have hql : 0 < q.length := List.length_pos_iff.2 hq0
  simp only [List.length_cons] at hlen hm
  have hm2 : (n : Int) / 2 = (m : Int) := by omega
  obtain ⟨M, hM⟩ : ∃ M, M = 1 + m := ⟨_, rfl⟩
  have hM2 : 1 + (m : Int) = (M : Int) := by omega
  have hpar : ((n : Int) % 2 != 0) = true := by rw [bne_iff_ne]; omega
  have hq2 : q.length = 2 * m := by omega
  have hm6 : M ≤ 100001 := by omega
  have hm5 : m ≤ 1000000 := by omega
  have hMge : 1 ≤ M := by omega
  have hM1 : ¬ M = 1 := by omega
  have q1 : (1 : Int) ≤ (M : Int) := by omega
  have q2 : (0 : Int) ≤ (M : Int) - 1 := by omega
  have q3 : (M : Int) - 1 = (m : Int) := by omega
  have hMm : M - 1 = m := by omega
  have hn0 : (0 : Int) < (n : Int) := by omega
  have hn1 : n ≠ 0 := by omega
  have hfl : fr (x :: q) true ++ (x :: q) = 3 :: x :: q := by rw [fr_odd _ (by simp only [List.length_cons]; omega)]; rfl
  have J1 := fun (w1 : World) (b7 b6 : Nat) (hS : St [] w w1 [(b7, 223, #[.int .u8 ((3 : Nat) : Int), .int .u8 ((x : Nat) : Int)]), (b6, 5, bc M fun _ => 0)]) => qd3 hS hMge (by decide) hx
  have J2 := fun (w1 : World) (b7 b6 : Nat) (f : Nat → Nat) (hS : St [] w w1 [(b7, 223, #[.int .u8 ((3 : Nat) : Int), .int .u8 ((x : Nat) : Int)]), (b6, 5, bc M f)]) => qg8 (pq := some ⟨b6, 1, none⟩) (cm := m) hS hM hq2 hm5 (fun _ => rfl) hrd1
  rw [ha] at J2
  have HJ2 := hQz J2
  have hxd : decide (x < 16) = true := by simp; omega
  rw [hxd] at J1
  have HJ1 := hQz J1
  have HE := hQz (qk5 hfl (by omega) (by decide) (fun h => by rw [ha] at h; cases h.2))
  clear J1 hv hfl hxd hlen hcap J2 ha hmn hM hq hq0 hql hq2 hc0 hc hb hsl hrd hrd1
  go_enter Tryz.func113, Tryz.ntmps113
  go_upto_region 3 with (refine qf7 M hS rfl _ _ rfl (by rw [← hM2]; rfl) (by rw [← hM2]; rfl) (by omega) ?_; clear hS; intro w1 b6 hS)
  have hS3 := hS.new 223 #[.int .u8 0, .int .u8 0]
  clear hS
  generalize w1.heap.size = b7 at *
  generalize w1.alloc (.cells #[.int .u8 0, .int .u8 0] 223) = w3 at *
  have hS := hS3
  clear hS3
  have hx0 := HC0.out _ hS.frame
  have hcl := (hS.get .head).cell (j := 0) rfl
  go_wp2_with (first
    | (refine qa7 (b := b7) (j := 0) hS rfl 5 _ _ rfl (by rfl) rfl qb6 (by repeat (first | exact Upd.head | apply Upd.tail)) (by decide) ?_; clear hS; intro w4 hS; have hx0 := HC0.out _ hS.frame; have hcl := (hS.get .head).cell (j := 0) rfl)
    | (refine qa7 (b := b7) (j := 1) hS rfl 5 _ _ rfl (by rfl) rfl qb6 (by repeat (first | exact Upd.head | apply Upd.tail)) (by decide) ?_; clear hS; intro w4 hS; have hx0 := HC0.out _ hS.frame; have hcl := (hS.get .head).cell (j := 0) rfl)
    | (refine st_from (v := .slice (some ⟨b, o, none⟩) n c') (l := .int .i64 1) (r := .slice p3 (n - 1) c3) rfl 23 _ _ (by rfl) (by rfl) (by rfl) HSL.out ?_))
  go_region_held3 (fun _ => True) (trivial)
    ((first
      | (go_at_call 135; have hu := HJ1.out _ _ _ hS.drew; (with_reducible refine hu.mono ?_); clear hu; rintro e w5 ⟨rfl, f', hS5, hf⟩)
      | (go_at_call 135; go_must (have hu := HJ2.out _ _ _ _ hS5; (with_reducible refine hu.mono ?_); clear hu; rintro e w6 ⟨rfl, f6, hS6, hf6⟩))))
  go_wp2
  go_ret2
  exact qi8 HE.out hS6.frame
set_option maxHeartbeats 4000000 in
set_option maxRecDepth 100000 in
theorem pack_odd_l_m_C (v : Value) (x : Nat) (q : List Nat) (w : World) (hm : (x :: q).length ≤ 100000) (hv : RdA [] w v (x :: q)) (hq : q.length % 2 = 0) (hq0 : q ≠ []) (hx15 : x < 16) (ha : allN q = true) :
    Calls Tryz.prog 113 #[v, .bool true] w (PackNew w (packL (x :: q) true)) := by
  have hS := St.start w
  obtain ⟨p0, n, c', rfl⟩ := qb3 hv
  have hlen := hv.len
  have hcap := hv.cap
  have hb := hv.lt
  obtain ⟨b, o, rfl, hbw, _, hc⟩ := hv.at_ (by simp)
  have hx := hb x List.mem_cons_self
  have hc0 := hc 0 (by simp)
  rw [Nat.add_zero] at hc0
  simp only [List.getD_cons_zero] at hc0
  have HC0 := hQz (fun (w' : World) (hT : Tch [] w w') => (hT.cell (p := ⟨b, o, none⟩) hbw (by simp)).trans hc0)
  have hsl0 := qf6 (some ⟨b, o, none⟩) n c' 1 (by simp at hlen; omega) hcap
  obtain ⟨p3, c3, hsl, hc3, hrd⟩ := hsl0
  have hrd1 := hrd [] w _ hv
  simp only [List.drop_succ_cons, List.drop_zero] at hrd1
  have HSL := hQz hsl
  obtain ⟨m, hmn⟩ : ∃ m, m = n / 2 := ⟨_, rfl⟩
  have hql : 0 < q.length := List.length_pos_iff.2 hq0
  simp only [List.length_cons] at hlen hm
  have hm2 : (n : Int) / 2 = (m : Int) := by omega
  obtain ⟨M, hM⟩ : ∃ M, M = 1 + m := ⟨_, rfl⟩
  have hM2 : 1 + (m : Int) = (M : Int) := by omega
  have hpar : ((n : Int) % 2 != 0) = true := by rw [bne_iff_ne]; omega
  have hq2 : q.length = 2 * m := by omega
  have hm6 : M ≤ 100001 := by omega
  have hm5 : m ≤ 1000000 := by omega
  have hMge : 1 ≤ M := by omega
  have hM1 : ¬ M = 1 := by omega
  have q1 : (1 : Int) ≤ (M : Int) := by omega
  have q2 : (0 : Int) ≤ (M : Int) - 1 := by omega
  have q3 : (M : Int) - 1 = (m : Int) := by omega
  have hMm : M - 1 = m := by omega
  have hn0 : (0 : Int) < (n : Int) := by omega
  have hn1 : n ≠ 0 := by omega
  have hfl : fr (x :: q) true ++ (x :: q) = 3 :: x :: q := by rw [fr_odd _ (by simp only [List.length_cons]; omega)]; rfl
  have J1 := fun (w1 : World) (b7 b6 : Nat) (hS : St [] w w1 [(b7, 223, #[.int .u8 ((3 : Nat) : Int), .int .u8 ((x : Nat) : Int)]), (b6, 5, bc M fun _ => 0)]) => qd3 hS hMge (by decide) hx
  have J2 := fun (w1 : World) (b7 b6 : Nat) (f : Nat → Nat) (hS : St [] w w1 [(b7, 223, #[.int .u8 ((3 : Nat) : Int), .int .u8 ((x : Nat) : Int)]), (b6, 5, bc M f)]) => qg8 (pq := some ⟨b6, 1, none⟩) (cm := m) hS hM hq2 hm5 (fun _ => rfl) hrd1
  rw [ha] at J2
  have HJ2 := hQz J2
  have hxd : decide (x < 16) = true := by simp; omega
  rw [hxd] at J1
  have HJ1 := hQz J1
  have HE := hQz (fun (w6 : World) (b7 b6 : Nat) (f5 f6 : Nat → Nat) => pack_end (w := w) (w6 := w6) (b7 := b7) (b6 := b6) (f5 := f5) (f6 := f6) (c := #[.int .u8 ((3 : Nat) : Int), .int .u8 ((x : Nat) : Int)]) hfl hq2 hM (by decide) hx15 ha)
  clear J1 hv hfl hxd hlen hcap J2 ha hmn hM hq hq0 hql hq2 hc0 hc hb hsl hrd hrd1
  go_enter Tryz.func113, Tryz.ntmps113
  go_upto_region 3 with (refine qf7 M hS rfl _ _ rfl (by rw [← hM2]; rfl) (by rw [← hM2]; rfl) (by omega) ?_; clear hS; intro w1 b6 hS)
  have hS3 := hS.new 223 #[.int .u8 0, .int .u8 0]
  clear hS
  generalize w1.heap.size = b7 at *
  generalize w1.alloc (.cells #[.int .u8 0, .int .u8 0] 223) = w3 at *
  have hS := hS3
  clear hS3
  have hx0 := HC0.out _ hS.frame
  have hcl := (hS.get .head).cell (j := 0) rfl
  go_wp2_with (first
    | (refine qa7 (b := b7) (j := 0) hS rfl 5 _ _ rfl (by rfl) rfl qb6 (by repeat (first | exact Upd.head | apply Upd.tail)) (by decide) ?_; clear hS; intro w4 hS; have hx0 := HC0.out _ hS.frame; have hcl := (hS.get .head).cell (j := 0) rfl)
    | (refine qa7 (b := b7) (j := 1) hS rfl 5 _ _ rfl (by rfl) rfl qb6 (by repeat (first | exact Upd.head | apply Upd.tail)) (by decide) ?_; clear hS; intro w4 hS; have hx0 := HC0.out _ hS.frame; have hcl := (hS.get .head).cell (j := 0) rfl)
    | (refine st_from (v := .slice (some ⟨b, o, none⟩) n c') (l := .int .i64 1) (r := .slice p3 (n - 1) c3) rfl 23 _ _ (by rfl) (by rfl) (by rfl) HSL.out ?_))
  go_region_held3 (fun _ => True) (trivial)
    ((first
      | (go_at_call 135; have hu := HJ1.out _ _ _ hS.drew; (with_reducible refine hu.mono ?_); clear hu; rintro e w5 ⟨rfl, f', hS5, hf⟩)
      | (go_at_call 135; go_must (have hu := HJ2.out _ _ _ _ hS5; (with_reducible refine hu.mono ?_); clear hu; rintro e w6 ⟨rfl, f6, hS6, hf6⟩))))
  go_wp2
  go_ret2
  exact HE.out _ _ _ _ _ (hf hx15) (hf6 (by trivial)) hS6
set_option maxHeartbeats 4000000 in
set_option maxRecDepth 100000 in
theorem pack_odd_l_z_A (v : Value) (x : Nat) (w : World) (hm : (x :: []).length ≤ 100000) (hv : RdA [] w v (x :: [])) (hx15 : 15 < x) :
    Calls Tryz.prog 113 #[v, .bool true] w (PackNew w (packL (x :: []) true)) := by
  have hS := St.start w
  obtain ⟨p0, n, c', rfl⟩ := qb3 hv
  have hlen := hv.len
  have hcap := hv.cap
  have hb := hv.lt
  obtain ⟨b, o, rfl, hbw, _, hc⟩ := hv.at_ (by simp)
  have hx := hb x List.mem_cons_self
  have hc0 := hc 0 (by simp)
  rw [Nat.add_zero] at hc0
  simp only [List.getD_cons_zero] at hc0
  have HC0 := hQz (fun (w' : World) (hT : Tch [] w w') => (hT.cell (p := ⟨b, o, none⟩) hbw (by simp)).trans hc0)
  obtain rfl : n = 1 := by simpa using hlen
  have hsl0 := qf6 (some ⟨b, o, none⟩) 1 c' 1 (Nat.le_refl _) hcap
  obtain ⟨p3, c3, hsl, hc3, hrd⟩ := hsl0
  have hrd1 := hrd [] w _ hv
  simp only [List.drop_succ_cons, List.drop_zero] at hrd1
  have HSL := hQz hsl
  have hfl : fr (x :: []) true ++ (x :: []) = 3 :: x :: ([] : List Nat) := by rw [fr_odd _ (by simp)]; rfl
  have J1 := fun (w1 : World) (b7 b6 : Nat) (f : Nat → Nat) (hS : St [] w w1 [(b7, 223, #[.int .u8 ((3 : Nat) : Int), .int .u8 ((x : Nat) : Int)]), (b6, 5, bc 1 f)]) => qd3 hS (Nat.le_refl 1) (by decide) hx
  have hxd : decide (x < 16) = false := by simp; omega
  rw [hxd] at J1
  have HJ1 := hQz J1
  have HE := hQz (qk5 hfl rfl (by decide) (fun h => by omega))
  clear J1 hv hfl hxd hlen hcap hc0 hc hb hsl hrd hrd1
  go_enter Tryz.func113, Tryz.ntmps113
  go_upto_region 3 with (refine qf7 1 hS rfl _ _ rfl (by rfl) (by rfl) (by omega) ?_; clear hS; intro w1 b6 hS)
  have hS3 := hS.new 223 #[.int .u8 0, .int .u8 0]
  clear hS
  generalize w1.heap.size = b7 at *
  generalize w1.alloc (.cells #[.int .u8 0, .int .u8 0] 223) = w3 at *
  have hS := hS3
  clear hS3
  have hx0 := HC0.out _ hS.frame
  have hcl := (hS.get .head).cell (j := 0) rfl
  go_wp2_with (first
    | (refine qa7 (b := b7) (j := 0) hS rfl 5 _ _ rfl (by rfl) rfl qb6 (by repeat (first | exact Upd.head | apply Upd.tail)) (by decide) ?_; clear hS; intro w4 hS; have hx0 := HC0.out _ hS.frame; have hcl := (hS.get .head).cell (j := 0) rfl)
    | (refine qa7 (b := b7) (j := 1) hS rfl 5 _ _ rfl (by rfl) rfl qb6 (by repeat (first | exact Upd.head | apply Upd.tail)) (by decide) ?_; clear hS; intro w4 hS; have hx0 := HC0.out _ hS.frame; have hcl := (hS.get .head).cell (j := 0) rfl)
    | (refine st_from (v := .slice (some ⟨b, o, none⟩) 1 c') (l := .int .i64 1) (r := .slice p3 (1 - 1) c3) rfl 23 _ _ (by rfl) (by rfl) (by rfl) HSL.out ?_))
  have hcall := fun (w' : World) (hC : (fun w' => ∃ f, St [] w w' [(b7, 223, #[.int .u8 ((3 : Nat) : Int), .int .u8 ((x : Nat) : Int)]), (b6, 5, bc 1 f)]) w') => hC.elim fun f hS => (HJ1.out w' b7 b6 f hS).mono (R' := fun e w'' => e = .returned (.bool false) ∧ (fun w' => ∃ f, St [] w w' [(b7, 223, #[.int .u8 ((3 : Nat) : Int), .int .u8 ((x : Nat) : Int)]), (b6, 5, bc 1 f)]) w'') (fun e w'' h => ⟨h.1, h.2.imp fun _ h => h.1⟩)
  refine qb7 (C := fun w' => ∃ f, St [] w w' [(b7, 223, #[.int .u8 ((3 : Nat) : Int), .int .u8 ((x : Nat) : Int)]), (b6, 5, bc 1 f)]) (by kernel_rfl) (by kernel_rfl) ⟨_, hS.drew⟩ ?_
  (refine qb0 rfl _ rfl rfl ?_; try simp only [Act.put, ppA, ppB, ppC])
  (refine k_sl rfl rfl rfl rfl rfl rfl (slice_to b6 0 1 1 1 (by decide) (Nat.le_refl _)) ?_; try simp only [Act.put, ppA, ppB, ppC])
  (refine k_sl rfl rfl rfl rfl rfl rfl (pair_slice b7) ?_; try simp only [Act.put, ppA, ppB, ppC])
  (refine qk3 rfl rfl rfl rfl Tryz.call135 hcall ?_; try simp only [Act.put, ppA, ppB, ppC])
  (refine k_not rfl _ _ rfl rfl ?_; try simp only [Act.put, ppA, ppB, ppC])
  (refine qc0 rfl _ rfl rfl ?_; try simp only [Act.put, ppA, ppB, ppC])
  (refine qa3 rfl rfl rfl rfl rfl ?_; try simp only [Act.put, ppA, ppB, ppC])
  (refine qa3 rfl rfl rfl rfl rfl ?_; try simp only [Act.put, ppA, ppB, ppC])
  (refine qa3 rfl rfl rfl rfl rfl ?_; try simp only [Act.put, ppA, ppB, ppC])
  (refine qa3 rfl rfl rfl rfl rfl ?_; try simp only [Act.put, ppA, ppB, ppC])
  (refine qa3 rfl rfl rfl rfl rfl ?_; try simp only [Act.put, ppA, ppB, ppC])
  (refine qd0 rfl _ _ _ rfl rfl rfl ?_; try simp only [Act.put, ppA, ppB, ppC])
  refine qc8 ?_
  rintro w5 ⟨f', hS5⟩
  go_wp2
  go_ret2
  exact qi8 HE.out hS5.frame
set_option maxHeartbeats 4000000 in
set_option maxRecDepth 100000 in
theorem pack_odd_l_z_C (v : Value) (x : Nat) (w : World) (hm : (x :: []).length ≤ 100000) (hv : RdA [] w v (x :: [])) (hx15 : x < 16) :
    Calls Tryz.prog 113 #[v, .bool true] w (PackNew w (packL (x :: []) true)) := by
  have hS := St.start w
  obtain ⟨p0, n, c', rfl⟩ := qb3 hv
  have hlen := hv.len
  have hcap := hv.cap
  have hb := hv.lt
  obtain ⟨b, o, rfl, hbw, _, hc⟩ := hv.at_ (by simp)
  have hx := hb x List.mem_cons_self
  have hc0 := hc 0 (by simp)
  rw [Nat.add_zero] at hc0
  simp only [List.getD_cons_zero] at hc0
  have HC0 := hQz (fun (w' : World) (hT : Tch [] w w') => (hT.cell (p := ⟨b, o, none⟩) hbw (by simp)).trans hc0)
  obtain rfl : n = 1 := by simpa using hlen
  have hsl0 := qf6 (some ⟨b, o, none⟩) 1 c' 1 (Nat.le_refl _) hcap
  obtain ⟨p3, c3, hsl, hc3, hrd⟩ := hsl0
  have hrd1 := hrd [] w _ hv
  simp only [List.drop_succ_cons, List.drop_zero] at hrd1
  have HSL := hQz hsl
  have hfl : fr (x :: []) true ++ (x :: []) = 3 :: x :: ([] : List Nat) := by rw [fr_odd _ (by simp)]; rfl
  have J1 := fun (w1 : World) (b7 b6 : Nat) (hS : St [] w w1 [(b7, 223, #[.int .u8 ((3 : Nat) : Int), .int .u8 ((x : Nat) : Int)]), (b6, 5, bc 1 fun _ => 0)]) => qd3 hS (Nat.le_refl 1) (by decide) hx
  have J2 := fun (w1 : World) (b7 b6 : Nat) (f : Nat → Nat) (hS : St [] w w1 [(b7, 223, #[.int .u8 ((3 : Nat) : Int), .int .u8 ((x : Nat) : Int)]), (b6, 5, bc 1 f)]) => qg8 (m := 0) (q := []) (pq := some ⟨b6, 0, none⟩) (cm := 0) hS rfl rfl (by decide) (fun h => absurd rfl h) hrd1
  have ha : allN ([] : List Nat) = true := rfl
  rw [ha] at J2
  have HJ2 := hQz J2
  have hxd : decide (x < 16) = true := by simp; omega
  rw [hxd] at J1
  have HJ1 := hQz J1
  have HE := hQz (fun (w6 : World) (b7 b6 : Nat) (f5 f6 : Nat → Nat) => pack_end (w := w) (w6 := w6) (b7 := b7) (b6 := b6) (f5 := f5) (f6 := f6) (c := #[.int .u8 ((3 : Nat) : Int), .int .u8 ((x : Nat) : Int)]) hfl (m := 0) rfl (M := 1) rfl (by decide) hx15 ha)
  clear J1 hv hfl hxd hlen hcap J2 ha hc0 hc hb hsl hrd hrd1
  go_enter Tryz.func113, Tryz.ntmps113
  go_upto_region 3 with (refine qf7 1 hS rfl _ _ rfl (by rfl) (by rfl) (by omega) ?_; clear hS; intro w1 b6 hS)
  have hS3 := hS.new 223 #[.int .u8 0, .int .u8 0]
  clear hS
  generalize w1.heap.size = b7 at *
  generalize w1.alloc (.cells #[.int .u8 0, .int .u8 0] 223) = w3 at *
  have hS := hS3
  clear hS3
  have hx0 := HC0.out _ hS.frame
  have hcl := (hS.get .head).cell (j := 0) rfl
  go_wp2_with (first
    | (refine qa7 (b := b7) (j := 0) hS rfl 5 _ _ rfl (by rfl) rfl qb6 (by repeat (first | exact Upd.head | apply Upd.tail)) (by decide) ?_; clear hS; intro w4 hS; have hx0 := HC0.out _ hS.frame; have hcl := (hS.get .head).cell (j := 0) rfl)
    | (refine qa7 (b := b7) (j := 1) hS rfl 5 _ _ rfl (by rfl) rfl qb6 (by repeat (first | exact Upd.head | apply Upd.tail)) (by decide) ?_; clear hS; intro w4 hS; have hx0 := HC0.out _ hS.frame; have hcl := (hS.get .head).cell (j := 0) rfl)
    | (refine st_from (v := .slice (some ⟨b, o, none⟩) 1 c') (l := .int .i64 1) (r := .slice p3 (1 - 1) c3) rfl 23 _ _ (by rfl) (by rfl) (by rfl) HSL.out ?_))
  go_region_held3 (fun _ => True) (trivial)
    ((first
      | (go_at_call 135; have hu := HJ1.out _ _ _ hS.drew; (with_reducible refine hu.mono ?_); clear hu; rintro e w5 ⟨rfl, f', hS5, hf⟩)
      | (go_at_call 135; go_must (have hu := HJ2.out _ _ _ _ hS5; (with_reducible refine hu.mono ?_); clear hu; rintro e w6 ⟨rfl, f6, hS6, hf6⟩))))
  go_wp2
  go_ret2
  exact HE.out _ _ _ _ _ (hf hx15) (hf6 (by trivial)) hS6
end
section
open Go.RowKit
theorem Pack_new (v : Value) (l : List Nat) (leaf : Bool) (w : World) (hm : l.length ≤ 100000) (hv : RdA [] w v l) :
    Calls Tryz.prog 113 #[v, .bool leaf] w (PackNew w (packL l leaf)) := by
  rcases Nat.mod_two_eq_zero_or_one l.length with hp | hp
  · by_cases h0 : l = []
    · subst h0
      cases leaf
      · exact pack_even_n_z_C v w hm hv
      · exact pack_even_l_z_C v w hm hv
    · cases leaf <;> cases ha : allN l
      · exact pack_even_n_m_B v l w hm hv hp h0 ha
      · exact pack_even_n_m_C v l w hm hv hp h0 ha
      · exact pack_even_l_m_B v l w hm hv hp h0 ha
      · exact pack_even_l_m_C v l w hm hv hp h0 ha
  · match l, hp with
    | x :: q, hp =>
      have hq : q.length % 2 = 0 := by simp only [List.length_cons] at hp; omega
      by_cases h0 : q = []
      · subst h0
        rcases Nat.lt_or_ge x 16 with hx | hx
        · cases leaf
          · exact pack_odd_n_z_C v x w hm hv hx
          · exact pack_odd_l_z_C v x w hm hv hx
        · cases leaf
          · exact pack_odd_n_z_A v x w hm hv hx
          · exact pack_odd_l_z_A v x w hm hv hx
      · rcases Nat.lt_or_ge x 16 with hx | hx
        · cases leaf <;> cases ha : allN q
          · exact pack_odd_n_m_B v x q w hm hv hq h0 hx ha
          · exact pack_odd_n_m_C v x q w hm hv hq h0 hx ha
          · exact pack_odd_l_m_B v x q w hm hv hq h0 hx ha
          · exact pack_odd_l_m_C v x q w hm hv hq h0 hx ha
        · cases leaf
          · exact pack_odd_n_m_A v x q w hm hv hq h0 hx
          · exact pack_odd_l_m_A v x q w hm hv hq h0 hx
theorem Pack_any (v : Value) (l : List Nat) (leaf : Bool) (w : World) (hm : l.length ≤ 100000) (hv : RdA [] w v l) :
    Calls Tryz.prog 113 #[v, .bool leaf] w (OptPost w (packL l leaf)) := (Pack_new v l leaf w hm hv).mono fun _ _ h => h.1
end
section
open Go.RowKit
def lcp : List Nat → List Nat → Nat
  | x :: a, y :: b => if x = y then lcp a b + 1 else 0
  | _, _ => 0
theorem lcp_stop : ∀ (n : Nat) (a b : List Nat), n ≤ a.length → n ≤ b.length → a.take n = b.take n → (n = a.length ∨ n = b.length ∨ a.getD n 0 ≠ b.getD n 0) → lcp a b = n
  | 0, [], _, _, _, _, _ => rfl
  | 0, _ :: _, [], _, _, _, _ => rfl
  | 0, x :: a, y :: b, _, _, _, h => by
    rcases h with h | h | h
    · simp at h
    · simp at h
    · show (if x = y then _ else _) = 0
      rw [if_neg (by simpa using h)]
  | n + 1, [], _, h, _, _, _ => by simp at h
  | n + 1, _ :: _, [], _, h, _, _ => by simp at h
  | n + 1, x :: a, y :: b, ha, hb, ht, h => by
    simp only [List.take_succ_cons, List.cons.injEq] at ht
    show (if x = y then _ else _) = n + 1
    rw [if_pos ht.1, lcp_stop n a b (by simpa using ha) (by simpa using hb) ht.2 (by simpa using h)]
theorem take_eq_snoc {a b : List Nat} {n : Nat} (ha : n < a.length) (hb : n < b.length) (h : a.take n = b.take n) (he : a.getD n 0 = b.getD n 0) : a.take (n + 1) = b.take (n + 1) := by
  rw [take_snoc ha, take_snoc hb, h, he]
set_option maxHeartbeats 4000000 in
set_option maxRecDepth 100000 in
theorem common_any (va vb : Value) (a b : List Nat) (w : World) (ha : a.length ≤ 1000000) (hb : b.length ≤ 1000000) (hva : RdA [] w va a) (hvb : RdA [] w vb b) :
    Calls Tryz.prog 78 #[va, vb] w fun e w' => e = .returned (.int .i64 (lcp a b : Int)) ∧ Tch [] w w' := by
  obtain ⟨pa, n, ca, rfl⟩ := qb3 hva
  obtain ⟨pb, m, cb, rfl⟩ := qb3 hvb
  have hla := hva.len
  have hlb := hvb.len
  have HAA := hQz (fun h => hva.at_ h)
  have HBB := hQz (fun h => hvb.at_ h)
  have HLL := hQz (And.intro hla hlb)
  have HSTOP := hQz (lcp_stop · a b)
  have hn6 : n ≤ 1000000 := by omega
  have hm6 : m ≤ 1000000 := by omega
  clear hva hvb hla hlb ha hb
  go_enter Tryz.func78, Tryz.ntmps78
  go_wp2
  go_loopw [5] (fun i wr => ∃ k : Nat, i = .int .i64 (k : Int) ∧ k ≤ n ∧ k ≤ m ∧ Tch [] w wr ∧ Hid (a.take k = b.take k)) (fun i _ => n - (intOf i).toNat)
  case atStart => exact ⟨0, rfl, Nat.zero_le _, Nat.zero_le _, Tch.refl _ _, hQz rfl⟩
  case round =>
    obtain ⟨k, rfl, hk, hk2, hT, HE⟩ := hrel
    by_cases hn : k < n
    · have d1 : (k : Int) < (n : Int) := by omega
      by_cases hm : k < m
      · have d2 : (k : Int) < (m : Int) := by omega
        obtain ⟨b1, o1, rfl, hbw1, _, hc1⟩ := HAA.out (by intro e; have := HLL.out.1; subst e; simp at this; omega)
        obtain ⟨b2, o2, rfl, hbw2, _, hc2⟩ := HBB.out (by intro e; have := HLL.out.2; subst e; simp at this; omega)
        have e1 := (hT.cell (p := ⟨b1, o1 + k, none⟩) hbw1 (by simp)).trans (hc1 k (by have := HLL.out.1; omega))
        have e2 := (hT.cell (p := ⟨b2, o2 + k, none⟩) hbw2 (by simp)).trans (hc2 k (by have := HLL.out.2; omega))
        have k0 : (0 : Int) ≤ (k : Int) := by omega
        obtain ⟨x, hx⟩ : ∃ x, x = a.getD k 0 := ⟨_, rfl⟩
        obtain ⟨y, hy⟩ : ∃ y, y = b.getD k 0 := ⟨_, rfl⟩
        rw [← hx] at e1
        rw [← hy] at e2
        have HXY := hQz (And.intro hx hy)
        clear hx hy hc1 hc2
        by_cases hxy : x = y
        · have d3 : ((x : Int) == (y : Int)) = true := by rw [beq_iff_eq]; omega
          have HXE := hQz hxy
          clear hxy
          go_wp2
          refine qb7 (C := fun w' => Tch [] wr w') (by kernel_rfl) (by kernel_rfl) ((Tch.refl _ _).drew) ?_
          refine qb8 rfl _ rfl rfl ?_; try simp only [Act.put, ppA, ppB, ppC]
          refine qb0 rfl _ rfl rfl ?_; try simp only [Act.put, ppA, ppB, ppC]
          refine qg2 rfl _ rfl rfl ?_; try simp only [Act.put, ppA, ppB, ppC]
          refine k_lss rfl _ _ _ rfl rfl rfl (by simp only [decide_eq_true_eq, decide_eq_false_iff_not]; omega) (t := true) ?_; try simp only [Act.put, ppA, ppB, ppC]
          refine qc0 rfl _ rfl rfl ?_; try simp only [Act.put, ppA, ppB, ppC]
          refine qb8 rfl _ rfl rfl ?_; try simp only [Act.put, ppA, ppB, ppC]
          refine qb0 rfl _ rfl rfl ?_; try simp only [Act.put, ppA, ppB, ppC]
          refine qg2 rfl _ rfl rfl ?_; try simp only [Act.put, ppA, ppB, ppC]
          refine k_lss rfl _ _ _ rfl rfl rfl (by simp only [decide_eq_true_eq, decide_eq_false_iff_not]; omega) (t := true) ?_; try simp only [Act.put, ppA, ppB, ppC]
          refine qd0 rfl _ _ _ rfl rfl rfl ?_; try simp only [Act.put, ppA, ppB, ppC]
          refine qc0 rfl _ rfl rfl ?_; try simp only [Act.put, ppA, ppB, ppC]
          refine qb0 rfl _ rfl rfl ?_; try simp only [Act.put, ppA, ppB, ppC]
          refine qb8 rfl _ rfl rfl ?_; try simp only [Act.put, ppA, ppB, ppC]
          refine k_idxSl rfl _ _ _ rfl rfl rfl qb5 qb6 hn ?_; try simp only [Act.put, ppA, ppB, ppC]
          refine qc2 rfl _ _ rfl rfl (fun w' h => (h.cell (p := ⟨b1, o1 + k, none⟩) (Nat.lt_of_lt_of_le hbw1 hT.size) (by simp)).trans e1) qg6 ?_; try simp only [Act.put, ppA, ppB, ppC]
          refine qb0 rfl _ rfl rfl ?_; try simp only [Act.put, ppA, ppB, ppC]
          refine qb8 rfl _ rfl rfl ?_; try simp only [Act.put, ppA, ppB, ppC]
          refine k_idxSl rfl _ _ _ rfl rfl rfl qb5 qb6 hm ?_; try simp only [Act.put, ppA, ppB, ppC]
          refine qc2 rfl _ _ rfl rfl (fun w' h => (h.cell (p := ⟨b2, o2 + k, none⟩) (Nat.lt_of_lt_of_le hbw2 hT.size) (by simp)).trans e2) qg6 ?_; try simp only [Act.put, ppA, ppB, ppC]
          refine k_u8 rfl _ _ _ rfl rfl rfl d3 ?_; try simp only [Act.put, ppA, ppB, ppC]
          refine qd0 rfl _ _ _ rfl rfl rfl ?_; try simp only [Act.put, ppA, ppB, ppC]
          refine qc8 ?_
          intro w2 hTr
          have hT2 := hT.trans hTr
          go_wp2
          go_roundw
          case rel => exact ⟨k + 1, by go_num, hn, hm, hT2, hQz (take_eq_snoc (by have := HLL.out.1; omega) (by have := HLL.out.2; omega) HE.out (by rw [← HXY.out.1, ← HXY.out.2]; exact HXE.out))⟩
          case measure => simp [intOf]; omega
        · have d3 : ((x : Int) == (y : Int)) = false := by rw [beq_eq_false_iff_ne]; omega
          have HXE := hQz hxy
          clear hxy
          go_wp2
          refine qb7 (C := fun w' => Tch [] wr w') (by kernel_rfl) (by kernel_rfl) ((Tch.refl _ _).drew) ?_
          refine qb8 rfl _ rfl rfl ?_; try simp only [Act.put, ppA, ppB, ppC]
          refine qb0 rfl _ rfl rfl ?_; try simp only [Act.put, ppA, ppB, ppC]
          refine qg2 rfl _ rfl rfl ?_; try simp only [Act.put, ppA, ppB, ppC]
          refine k_lss rfl _ _ _ rfl rfl rfl (by simp only [decide_eq_true_eq, decide_eq_false_iff_not]; omega) (t := true) ?_; try simp only [Act.put, ppA, ppB, ppC]
          refine qc0 rfl _ rfl rfl ?_; try simp only [Act.put, ppA, ppB, ppC]
          refine qb8 rfl _ rfl rfl ?_; try simp only [Act.put, ppA, ppB, ppC]
          refine qb0 rfl _ rfl rfl ?_; try simp only [Act.put, ppA, ppB, ppC]
          refine qg2 rfl _ rfl rfl ?_; try simp only [Act.put, ppA, ppB, ppC]
          refine k_lss rfl _ _ _ rfl rfl rfl (by simp only [decide_eq_true_eq, decide_eq_false_iff_not]; omega) (t := true) ?_; try simp only [Act.put, ppA, ppB, ppC]
          refine qd0 rfl _ _ _ rfl rfl rfl ?_; try simp only [Act.put, ppA, ppB, ppC]
          refine qc0 rfl _ rfl rfl ?_; try simp only [Act.put, ppA, ppB, ppC]
          refine qb0 rfl _ rfl rfl ?_; try simp only [Act.put, ppA, ppB, ppC]
          refine qb8 rfl _ rfl rfl ?_; try simp only [Act.put, ppA, ppB, ppC]
          refine k_idxSl rfl _ _ _ rfl rfl rfl qb5 qb6 hn ?_; try simp only [Act.put, ppA, ppB, ppC]
          refine qc2 rfl _ _ rfl rfl (fun w' h => (h.cell (p := ⟨b1, o1 + k, none⟩) (Nat.lt_of_lt_of_le hbw1 hT.size) (by simp)).trans e1) qg6 ?_; try simp only [Act.put, ppA, ppB, ppC]
          refine qb0 rfl _ rfl rfl ?_; try simp only [Act.put, ppA, ppB, ppC]
          refine qb8 rfl _ rfl rfl ?_; try simp only [Act.put, ppA, ppB, ppC]
          refine k_idxSl rfl _ _ _ rfl rfl rfl qb5 qb6 hm ?_; try simp only [Act.put, ppA, ppB, ppC]
          refine qc2 rfl _ _ rfl rfl (fun w' h => (h.cell (p := ⟨b2, o2 + k, none⟩) (Nat.lt_of_lt_of_le hbw2 hT.size) (by simp)).trans e2) qg6 ?_; try simp only [Act.put, ppA, ppB, ppC]
          refine k_u8 rfl _ _ _ rfl rfl rfl d3 ?_; try simp only [Act.put, ppA, ppB, ppC]
          refine qd0 rfl _ _ _ rfl rfl rfl ?_; try simp only [Act.put, ppA, ppB, ppC]
          refine qc8 ?_
          intro w2 hTr
          have hT2 := hT.trans hTr
          go_wp2
          go_ret
          rw [HSTOP.out k (by have := HLL.out.1; omega) (by have := HLL.out.2; omega) HE.out (.inr (.inr (by rw [← HXY.out.1, ← HXY.out.2]; exact HXE.out)))]
          exact ⟨rfl, hT2⟩
      · have d2 : ¬ (k : Int) < (m : Int) := by omega
        go_wp2
        refine qb7 (C := fun w' => Tch [] wr w') (by kernel_rfl) (by kernel_rfl) ((Tch.refl _ _).drew) ?_
        refine qb8 rfl _ rfl rfl ?_; try simp only [Act.put, ppA, ppB, ppC]
        refine qb0 rfl _ rfl rfl ?_; try simp only [Act.put, ppA, ppB, ppC]
        refine qg2 rfl _ rfl rfl ?_; try simp only [Act.put, ppA, ppB, ppC]
        refine k_lss rfl _ _ _ rfl rfl rfl (by simp only [decide_eq_true_eq, decide_eq_false_iff_not]; omega) (t := true) ?_; try simp only [Act.put, ppA, ppB, ppC]
        refine qc0 rfl _ rfl rfl ?_; try simp only [Act.put, ppA, ppB, ppC]
        refine qb8 rfl _ rfl rfl ?_; try simp only [Act.put, ppA, ppB, ppC]
        refine qb0 rfl _ rfl rfl ?_; try simp only [Act.put, ppA, ppB, ppC]
        refine qg2 rfl _ rfl rfl ?_; try simp only [Act.put, ppA, ppB, ppC]
        refine k_lss rfl _ _ _ rfl rfl rfl (by simp only [decide_eq_true_eq, decide_eq_false_iff_not]; omega) (t := false) ?_; try simp only [Act.put, ppA, ppB, ppC]
        refine qd0 rfl _ _ _ rfl rfl rfl ?_; try simp only [Act.put, ppA, ppB, ppC]
        refine qc0 rfl _ rfl rfl ?_; try simp only [Act.put, ppA, ppB, ppC]
        refine qa3 rfl rfl rfl rfl rfl ?_; try simp only [Act.put, ppA, ppB, ppC]
        refine qa3 rfl rfl rfl rfl rfl ?_; try simp only [Act.put, ppA, ppB, ppC]
        refine qa3 rfl rfl rfl rfl rfl ?_; try simp only [Act.put, ppA, ppB, ppC]
        refine qa3 rfl rfl rfl rfl rfl ?_; try simp only [Act.put, ppA, ppB, ppC]
        refine qa3 rfl rfl rfl rfl rfl ?_; try simp only [Act.put, ppA, ppB, ppC]
        refine qa3 rfl rfl rfl rfl rfl ?_; try simp only [Act.put, ppA, ppB, ppC]
        refine qa3 rfl rfl rfl rfl rfl ?_; try simp only [Act.put, ppA, ppB, ppC]
        refine qa3 rfl rfl rfl rfl rfl ?_; try simp only [Act.put, ppA, ppB, ppC]
        refine qa3 rfl rfl rfl rfl rfl ?_; try simp only [Act.put, ppA, ppB, ppC]
        refine qi6 rfl _ _ _ rfl rfl rfl ?_; try simp only [Act.put, ppA, ppB, ppC]
        refine qc8 ?_
        intro w2 hTr
        have hT2 := hT.trans hTr
        go_wp2
        go_ret
        rw [HSTOP.out k (by have := HLL.out.1; omega) (by have := HLL.out.2; omega) HE.out (.inr (.inl (by have := HLL.out.2; omega)))]
        exact ⟨rfl, hT2⟩
    · have d1 : ¬ (k : Int) < (n : Int) := by omega
      go_wp2
      refine qb7 (C := fun w' => Tch [] wr w') (by kernel_rfl) (by kernel_rfl) ((Tch.refl _ _).drew) ?_
      refine qb8 rfl _ rfl rfl ?_; try simp only [Act.put, ppA, ppB, ppC]
      refine qb0 rfl _ rfl rfl ?_; try simp only [Act.put, ppA, ppB, ppC]
      refine qg2 rfl _ rfl rfl ?_; try simp only [Act.put, ppA, ppB, ppC]
      refine k_lss rfl _ _ _ rfl rfl rfl (by simp only [decide_eq_true_eq, decide_eq_false_iff_not]; omega) (t := false) ?_; try simp only [Act.put, ppA, ppB, ppC]
      refine qc0 rfl _ rfl rfl ?_; try simp only [Act.put, ppA, ppB, ppC]
      refine qa3 rfl rfl rfl rfl rfl ?_; try simp only [Act.put, ppA, ppB, ppC]
      refine qa3 rfl rfl rfl rfl rfl ?_; try simp only [Act.put, ppA, ppB, ppC]
      refine qa3 rfl rfl rfl rfl rfl ?_; try simp only [Act.put, ppA, ppB, ppC]
      refine qa3 rfl rfl rfl rfl rfl ?_; try simp only [Act.put, ppA, ppB, ppC]
      refine qi6 rfl _ _ _ rfl rfl rfl ?_; try simp only [Act.put, ppA, ppB, ppC]
      refine qc0 rfl _ rfl rfl ?_; try simp only [Act.put, ppA, ppB, ppC]
      refine qa3 rfl rfl rfl rfl rfl ?_; try simp only [Act.put, ppA, ppB, ppC]
      refine qa3 rfl rfl rfl rfl rfl ?_; try simp only [Act.put, ppA, ppB, ppC]
      refine qa3 rfl rfl rfl rfl rfl ?_; try simp only [Act.put, ppA, ppB, ppC]
      refine qa3 rfl rfl rfl rfl rfl ?_; try simp only [Act.put, ppA, ppB, ppC]
      refine qa3 rfl rfl rfl rfl rfl ?_; try simp only [Act.put, ppA, ppB, ppC]
      refine qa3 rfl rfl rfl rfl rfl ?_; try simp only [Act.put, ppA, ppB, ppC]
      refine qa3 rfl rfl rfl rfl rfl ?_; try simp only [Act.put, ppA, ppB, ppC]
      refine qa3 rfl rfl rfl rfl rfl ?_; try simp only [Act.put, ppA, ppB, ppC]
      refine qa3 rfl rfl rfl rfl rfl ?_; try simp only [Act.put, ppA, ppB, ppC]
      refine qi6 rfl _ _ _ rfl rfl rfl ?_; try simp only [Act.put, ppA, ppB, ppC]
      refine qc8 ?_
      intro w2 hTr
      have hT2 := hT.trans hTr
      go_wp2
      go_ret
      rw [HSTOP.out k (by have := HLL.out.1; omega) (by have := HLL.out.2; omega) HE.out (.inl (by have := HLL.out.1; omega))]
      exact ⟨rfl, hT2⟩
set_option maxHeartbeats 4000000 in
set_option maxRecDepth 100000 in
theorem rcommon_any (va vb : Value) (a b : List Nat) (w : World) (ha : a.length ≤ 1000000) (hb : b.length ≤ 1000000) (hva : RdA [] w va a) (hvb : RdA [] w vb b) :
    Calls Tryz.prog 67 #[va, vb] w fun e w' => e = .returned (.int .i64 (lcp a b : Int)) ∧ Tch [] w w' := by
  obtain ⟨pa, n, ca, rfl⟩ := qb3 hva
  obtain ⟨pb, m, cb, rfl⟩ := qb3 hvb
  have hla := hva.len
  have hlb := hvb.len
  have HAA := hQz (fun h => hva.at_ h)
  have HBB := hQz (fun h => hvb.at_ h)
  have HLL := hQz (And.intro hla hlb)
  have HSTOP := hQz (lcp_stop · a b)
  have hn6 : n ≤ 1000000 := by omega
  have hm6 : m ≤ 1000000 := by omega
  clear hva hvb hla hlb ha hb
  go_enter Tryz.func67, Tryz.ntmps67
  go_wp2
  go_loopw [5] (fun i wr => ∃ k : Nat, i = .int .i64 (k : Int) ∧ k ≤ n ∧ k ≤ m ∧ Tch [] w wr ∧ Hid (a.take k = b.take k)) (fun i _ => n - (intOf i).toNat)
  case atStart => exact ⟨0, rfl, Nat.zero_le _, Nat.zero_le _, Tch.refl _ _, hQz rfl⟩
  case round =>
    obtain ⟨k, rfl, hk, hk2, hT, HE⟩ := hrel
    by_cases hn : k < n
    · have d1 : (k : Int) < (n : Int) := by omega
      by_cases hm : k < m
      · have d2 : (k : Int) < (m : Int) := by omega
        obtain ⟨b1, o1, rfl, hbw1, _, hc1⟩ := HAA.out (by intro e; have := HLL.out.1; subst e; simp at this; omega)
        obtain ⟨b2, o2, rfl, hbw2, _, hc2⟩ := HBB.out (by intro e; have := HLL.out.2; subst e; simp at this; omega)
        have e1 := (hT.cell (p := ⟨b1, o1 + k, none⟩) hbw1 (by simp)).trans (hc1 k (by have := HLL.out.1; omega))
        have e2 := (hT.cell (p := ⟨b2, o2 + k, none⟩) hbw2 (by simp)).trans (hc2 k (by have := HLL.out.2; omega))
        have k0 : (0 : Int) ≤ (k : Int) := by omega
        obtain ⟨x, hx⟩ : ∃ x, x = a.getD k 0 := ⟨_, rfl⟩
        obtain ⟨y, hy⟩ : ∃ y, y = b.getD k 0 := ⟨_, rfl⟩
        rw [← hx] at e1
        rw [← hy] at e2
        have HXY := hQz (And.intro hx hy)
        clear hx hy hc1 hc2
        by_cases hxy : x = y
        · have d3 : ((x : Int) == (y : Int)) = true := by rw [beq_iff_eq]; omega
          have HXE := hQz hxy
          clear hxy
          go_wp2
          refine qb7 (C := fun w' => Tch [] wr w') (by kernel_rfl) (by kernel_rfl) ((Tch.refl _ _).drew) ?_
          refine qb8 rfl _ rfl rfl ?_; try simp only [Act.put, ppA, ppB, ppC]
          refine qb0 rfl _ rfl rfl ?_; try simp only [Act.put, ppA, ppB, ppC]
          refine qg2 rfl _ rfl rfl ?_; try simp only [Act.put, ppA, ppB, ppC]
          refine k_lss rfl _ _ _ rfl rfl rfl (by simp only [decide_eq_true_eq, decide_eq_false_iff_not]; omega) (t := true) ?_; try simp only [Act.put, ppA, ppB, ppC]
          refine qc0 rfl _ rfl rfl ?_; try simp only [Act.put, ppA, ppB, ppC]
          refine qb8 rfl _ rfl rfl ?_; try simp only [Act.put, ppA, ppB, ppC]
          refine qb0 rfl _ rfl rfl ?_; try simp only [Act.put, ppA, ppB, ppC]
          refine qg2 rfl _ rfl rfl ?_; try simp only [Act.put, ppA, ppB, ppC]
          refine k_lss rfl _ _ _ rfl rfl rfl (by simp only [decide_eq_true_eq, decide_eq_false_iff_not]; omega) (t := true) ?_; try simp only [Act.put, ppA, ppB, ppC]
          refine qd0 rfl _ _ _ rfl rfl rfl ?_; try simp only [Act.put, ppA, ppB, ppC]
          refine qc0 rfl _ rfl rfl ?_; try simp only [Act.put, ppA, ppB, ppC]
          refine qb0 rfl _ rfl rfl ?_; try simp only [Act.put, ppA, ppB, ppC]
          refine qb8 rfl _ rfl rfl ?_; try simp only [Act.put, ppA, ppB, ppC]
          refine k_idxSl rfl _ _ _ rfl rfl rfl qb5 qb6 hn ?_; try simp only [Act.put, ppA, ppB, ppC]
          refine qc2 rfl _ _ rfl rfl (fun w' h => (h.cell (p := ⟨b1, o1 + k, none⟩) (Nat.lt_of_lt_of_le hbw1 hT.size) (by simp)).trans e1) qg6 ?_; try simp only [Act.put, ppA, ppB, ppC]
          refine qb0 rfl _ rfl rfl ?_; try simp only [Act.put, ppA, ppB, ppC]
          refine qb8 rfl _ rfl rfl ?_; try simp only [Act.put, ppA, ppB, ppC]
          refine k_idxSl rfl _ _ _ rfl rfl rfl qb5 qb6 hm ?_; try simp only [Act.put, ppA, ppB, ppC]
          refine qc2 rfl _ _ rfl rfl (fun w' h => (h.cell (p := ⟨b2, o2 + k, none⟩) (Nat.lt_of_lt_of_le hbw2 hT.size) (by simp)).trans e2) qg6 ?_; try simp only [Act.put, ppA, ppB, ppC]
          refine k_u8 rfl _ _ _ rfl rfl rfl d3 ?_; try simp only [Act.put, ppA, ppB, ppC]
          refine qd0 rfl _ _ _ rfl rfl rfl ?_; try simp only [Act.put, ppA, ppB, ppC]
          refine qc8 ?_
          intro w2 hTr
          have hT2 := hT.trans hTr
          go_wp2
          go_roundw
          case rel => exact ⟨k + 1, by go_num, hn, hm, hT2, hQz (take_eq_snoc (by have := HLL.out.1; omega) (by have := HLL.out.2; omega) HE.out (by rw [← HXY.out.1, ← HXY.out.2]; exact HXE.out))⟩
          case measure => simp [intOf]; omega
        · have d3 : ((x : Int) == (y : Int)) = false := by rw [beq_eq_false_iff_ne]; omega
          have HXE := hQz hxy
          clear hxy
          go_wp2
          refine qb7 (C := fun w' => Tch [] wr w') (by kernel_rfl) (by kernel_rfl) ((Tch.refl _ _).drew) ?_
          refine qb8 rfl _ rfl rfl ?_; try simp only [Act.put, ppA, ppB, ppC]
          refine qb0 rfl _ rfl rfl ?_; try simp only [Act.put, ppA, ppB, ppC]
          refine qg2 rfl _ rfl rfl ?_; try simp only [Act.put, ppA, ppB, ppC]
          refine k_lss rfl _ _ _ rfl rfl rfl (by simp only [decide_eq_true_eq, decide_eq_false_iff_not]; omega) (t := true) ?_; try simp only [Act.put, ppA, ppB, ppC]
          refine qc0 rfl _ rfl rfl ?_; try simp only [Act.put, ppA, ppB, ppC]
          refine qb8 rfl _ rfl rfl ?_; try simp only [Act.put, ppA, ppB, ppC]
          refine qb0 rfl _ rfl rfl ?_; try simp only [Act.put, ppA, ppB, ppC]
          refine qg2 rfl _ rfl rfl ?_; try simp only [Act.put, ppA, ppB, ppC]
          refine k_lss rfl _ _ _ rfl rfl rfl (by simp only [decide_eq_true_eq, decide_eq_false_iff_not]; omega) (t := true) ?_; try simp only [Act.put, ppA, ppB, ppC]
          refine qd0 rfl _ _ _ rfl rfl rfl ?_; try simp only [Act.put, ppA, ppB, ppC]
          refine qc0 rfl _ rfl rfl ?_; try simp only [Act.put, ppA, ppB, ppC]
          refine qb0 rfl _ rfl rfl ?_; try simp only [Act.put, ppA, ppB, ppC]
          refine qb8 rfl _ rfl rfl ?_; try simp only [Act.put, ppA, ppB, ppC]
          refine k_idxSl rfl _ _ _ rfl rfl rfl qb5 qb6 hn ?_; try simp only [Act.put, ppA, ppB, ppC]
          refine qc2 rfl _ _ rfl rfl (fun w' h => (h.cell (p := ⟨b1, o1 + k, none⟩) (Nat.lt_of_lt_of_le hbw1 hT.size) (by simp)).trans e1) qg6 ?_; try simp only [Act.put, ppA, ppB, ppC]
          refine qb0 rfl _ rfl rfl ?_; try simp only [Act.put, ppA, ppB, ppC]
          refine qb8 rfl _ rfl rfl ?_; try simp only [Act.put, ppA, ppB, ppC]
          refine k_idxSl rfl _ _ _ rfl rfl rfl qb5 qb6 hm ?_; try simp only [Act.put, ppA, ppB, ppC]
          refine qc2 rfl _ _ rfl rfl (fun w' h => (h.cell (p := ⟨b2, o2 + k, none⟩) (Nat.lt_of_lt_of_le hbw2 hT.size) (by simp)).trans e2) qg6 ?_; try simp only [Act.put, ppA, ppB, ppC]
          refine k_u8 rfl _ _ _ rfl rfl rfl d3 ?_; try simp only [Act.put, ppA, ppB, ppC]
          refine qd0 rfl _ _ _ rfl rfl rfl ?_; try simp only [Act.put, ppA, ppB, ppC]
          refine qc8 ?_
          intro w2 hTr
          have hT2 := hT.trans hTr
          go_wp2
          go_ret
          rw [HSTOP.out k (by have := HLL.out.1; omega) (by have := HLL.out.2; omega) HE.out (.inr (.inr (by rw [← HXY.out.1, ← HXY.out.2]; exact HXE.out)))]
          exact ⟨rfl, hT2⟩
      · have d2 : ¬ (k : Int) < (m : Int) := by omega
        go_wp2
        refine qb7 (C := fun w' => Tch [] wr w') (by kernel_rfl) (by kernel_rfl) ((Tch.refl _ _).drew) ?_
        refine qb8 rfl _ rfl rfl ?_; try simp only [Act.put, ppA, ppB, ppC]
        refine qb0 rfl _ rfl rfl ?_; try simp only [Act.put, ppA, ppB, ppC]
        refine qg2 rfl _ rfl rfl ?_; try simp only [Act.put, ppA, ppB, ppC]
        refine k_lss rfl _ _ _ rfl rfl rfl (by simp only [decide_eq_true_eq, decide_eq_false_iff_not]; omega) (t := true) ?_; try simp only [Act.put, ppA, ppB, ppC]
        refine qc0 rfl _ rfl rfl ?_; try simp only [Act.put, ppA, ppB, ppC]
        refine qb8 rfl _ rfl rfl ?_; try simp only [Act.put, ppA, ppB, ppC]
        refine qb0 rfl _ rfl rfl ?_; try simp only [Act.put, ppA, ppB, ppC]
        refine qg2 rfl _ rfl rfl ?_; try simp only [Act.put, ppA, ppB, ppC]
        refine k_lss rfl _ _ _ rfl rfl rfl (by simp only [decide_eq_true_eq, decide_eq_false_iff_not]; omega) (t := false) ?_; try simp only [Act.put, ppA, ppB, ppC]
        refine qd0 rfl _ _ _ rfl rfl rfl ?_; try simp only [Act.put, ppA, ppB, ppC]
        refine qc0 rfl _ rfl rfl ?_; try simp only [Act.put, ppA, ppB, ppC]
        refine qa3 rfl rfl rfl rfl rfl ?_; try simp only [Act.put, ppA, ppB, ppC]
        refine qa3 rfl rfl rfl rfl rfl ?_; try simp only [Act.put, ppA, ppB, ppC]
        refine qa3 rfl rfl rfl rfl rfl ?_; try simp only [Act.put, ppA, ppB, ppC]
        refine qa3 rfl rfl rfl rfl rfl ?_; try simp only [Act.put, ppA, ppB, ppC]
        refine qa3 rfl rfl rfl rfl rfl ?_; try simp only [Act.put, ppA, ppB, ppC]
        refine qa3 rfl rfl rfl rfl rfl ?_; try simp only [Act.put, ppA, ppB, ppC]
        refine qa3 rfl rfl rfl rfl rfl ?_; try simp only [Act.put, ppA, ppB, ppC]
        refine qa3 rfl rfl rfl rfl rfl ?_; try simp only [Act.put, ppA, ppB, ppC]
        refine qa3 rfl rfl rfl rfl rfl ?_; try simp only [Act.put, ppA, ppB, ppC]
        refine qi6 rfl _ _ _ rfl rfl rfl ?_; try simp only [Act.put, ppA, ppB, ppC]
        refine qc8 ?_
        intro w2 hTr
        have hT2 := hT.trans hTr
        go_wp2
        go_ret
        rw [HSTOP.out k (by have := HLL.out.1; omega) (by have := HLL.out.2; omega) HE.out (.inr (.inl (by have := HLL.out.2; omega)))]
        exact ⟨rfl, hT2⟩
    · have d1 : ¬ (k : Int) < (n : Int) := by omega
      go_wp2
      refine qb7 (C := fun w' => Tch [] wr w') (by kernel_rfl) (by kernel_rfl) ((Tch.refl _ _).drew) ?_
      refine qb8 rfl _ rfl rfl ?_; try simp only [Act.put, ppA, ppB, ppC]
      refine qb0 rfl _ rfl rfl ?_; try simp only [Act.put, ppA, ppB, ppC]
      refine qg2 rfl _ rfl rfl ?_; try simp only [Act.put, ppA, ppB, ppC]
      refine k_lss rfl _ _ _ rfl rfl rfl (by simp only [decide_eq_true_eq, decide_eq_false_iff_not]; omega) (t := false) ?_; try simp only [Act.put, ppA, ppB, ppC]
      refine qc0 rfl _ rfl rfl ?_; try simp only [Act.put, ppA, ppB, ppC]
      refine qa3 rfl rfl rfl rfl rfl ?_; try simp only [Act.put, ppA, ppB, ppC]
      refine qa3 rfl rfl rfl rfl rfl ?_; try simp only [Act.put, ppA, ppB, ppC]
      refine qa3 rfl rfl rfl rfl rfl ?_; try simp only [Act.put, ppA, ppB, ppC]
      refine qa3 rfl rfl rfl rfl rfl ?_; try simp only [Act.put, ppA, ppB, ppC]
      refine qi6 rfl _ _ _ rfl rfl rfl ?_; try simp only [Act.put, ppA, ppB, ppC]
      refine qc0 rfl _ rfl rfl ?_; try simp only [Act.put, ppA, ppB, ppC]
      refine qa3 rfl rfl rfl rfl rfl ?_; try simp only [Act.put, ppA, ppB, ppC]
      refine qa3 rfl rfl rfl rfl rfl ?_; try simp only [Act.put, ppA, ppB, ppC]
      refine qa3 rfl rfl rfl rfl rfl ?_; try simp only [Act.put, ppA, ppB, ppC]
      refine qa3 rfl rfl rfl rfl rfl ?_; try simp only [Act.put, ppA, ppB, ppC]
      refine qa3 rfl rfl rfl rfl rfl ?_; try simp only [Act.put, ppA, ppB, ppC]
      refine qa3 rfl rfl rfl rfl rfl ?_; try simp only [Act.put, ppA, ppB, ppC]
      refine qa3 rfl rfl rfl rfl rfl ?_; try simp only [Act.put, ppA, ppB, ppC]
      refine qa3 rfl rfl rfl rfl rfl ?_; try simp only [Act.put, ppA, ppB, ppC]
      refine qa3 rfl rfl rfl rfl rfl ?_; try simp only [Act.put, ppA, ppB, ppC]
      refine qi6 rfl _ _ _ rfl rfl rfl ?_; try simp only [Act.put, ppA, ppB, ppC]
      refine qc8 ?_
      intro w2 hTr
      have hT2 := hT.trans hTr
      go_wp2
      go_ret
      rw [HSTOP.out k (by have := HLL.out.1; omega) (by have := HLL.out.2; omega) HE.out (.inl (by have := HLL.out.1; omega))]
      exact ⟨rfl, hT2⟩
end
end Go.Proofs.YtanmpcgackfpaaaGreat
