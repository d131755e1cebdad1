/- path.Pack: an even path, a leaf. -/
import Derived.Test.YtgdojomaknbheaaP7
namespace Go.Proofs.Ytgdojomaknbheaa
open Go.RowKit

set_option maxHeartbeats 4000000 in
set_option maxRecDepth 100000 in
theorem pack_even_l_m_B (v : Value) (q : List Nat) (w : World) (hm : q.length ≤ 100000) (hv : RdA [] w v q) (hq : q.length % 2 = 0) (hq0 : q ≠ []) (ha : allN q = false) :
    Calls Try.prog 10 #[v, .bool true] w (OptPost w (packL q true)) := by
  have hS := St.start w
  obtain ⟨p0, n, c', rfl⟩ := slice_keep hv
  have hlen := hv.len
  have hcap := hv.cap
  obtain ⟨m, hmn⟩ : ∃ m, m = n / 2 := ⟨_, rfl⟩
  have hql : 0 < q.length := List.length_pos_iff.2 hq0
  have hm2 : (n : Int) / 2 = (m : Int) := by omega
  obtain ⟨M, hM⟩ : ∃ M, M = 1 + m := ⟨_, rfl⟩
  have hM2 : 1 + (m : Int) = (M : Int) := by omega
  have hpar : ((n : Int) % 2 != 0) = false := by rw [bne_eq_false_iff_eq]; omega
  have hq2 : q.length = 2 * m := by omega
  have hm6 : M ≤ 100001 := by omega
  have hm5 : m ≤ 1000000 := by omega
  have hMge : 1 ≤ M := by omega
  have hM1 : ¬ M = 1 := by omega
  have q1 : (1 : Int) ≤ (M : Int) := by omega
  have q2 : (0 : Int) ≤ (M : Int) - 1 := by omega
  have q3 : (M : Int) - 1 = (m : Int) := by omega
  have hMm : M - 1 = m := by omega
  have hfl : fr q true ++ q = 2 :: 0 :: q := by rw [fr_even _ hq]; rfl
  have J1 := fun (w1 : World) (b7 b6 : Nat) (hS : St [] w w1 [(b7, 37, #[.int .u8 ((2 : Nat) : Int), .int .u8 ((0 : Nat) : Int)]), (b6, 5, bc M fun _ => 0)]) => pack_front hS hMge (by decide) (by decide)
  have J2 := fun (w1 : World) (b7 b6 : Nat) (f : Nat → Nat) (hS : St [] w w1 [(b7, 37, #[.int .u8 ((2 : Nat) : Int), .int .u8 ((0 : Nat) : Int)]), (b6, 5, bc M f)]) => pack_back (pq := some ⟨b6, 1, none⟩) (cm := m) hS hM hq2 hm5 (fun _ => rfl) hv
  rw [ha] at J2
  have HJ2 := Lib.hid J2
  have hxd : decide (0 < 16) = true := rfl
  rw [hxd] at J1
  have HJ1 := Lib.hid J1
  have HE := Lib.hid (pack_none hfl (by omega) (by decide) (fun h => by rw [ha] at h; cases h.2))
  clear J1 hv hfl hxd hlen hcap J2 ha hmn hM hq hq0 hql hq2
  go_enter Try.func10, Try.ntmps10
  go_upto_region 3 with (refine st_makeB M hS rfl _ _ rfl (by rw [← hM2]; rfl) (by rw [← hM2]; rfl) (by omega) ?_; clear hS; intro w1 b6 hS)
  have hS3 := hS.new 37 #[.int .u8 0, .int .u8 0]
  clear hS
  generalize w1.heap.size = b7 at *
  generalize w1.alloc (.cells #[.int .u8 0, .int .u8 0] 37) = w3 at *
  have hS := hS3
  clear hS3
  go_wp2_with (first
    | (refine st_store1 (b := b7) (j := 0) hS rfl 5 _ _ rfl (by rfl) rfl u8_size (by repeat (first | exact Upd.head | apply Upd.tail)) (by decide) ?_; clear hS; intro w4 hS))
  go_region_held3 (fun _ => True) (trivial)
    ((first
      | (go_at_call 18; have hu := HJ1.out _ _ _ hS.drew; (with_reducible refine hu.mono ?_); clear hu; rintro e w5 ⟨rfl, f', hS5, hf⟩)
      | (go_at_call 18; go_must (have hu := HJ2.out _ _ _ _ hS5; (with_reducible refine hu.mono ?_); clear hu; rintro e w6 ⟨rfl, f6, hS6, hf6⟩))))
  go_wp2
  go_ret2
  exact optpost_no HE.out hS6.frame
set_option maxHeartbeats 4000000 in
set_option maxRecDepth 100000 in
theorem pack_even_l_m_C (v : Value) (q : List Nat) (w : World) (hm : q.length ≤ 100000) (hv : RdA [] w v q) (hq : q.length % 2 = 0) (hq0 : q ≠ []) (ha : allN q = true) :
    Calls Try.prog 10 #[v, .bool true] w (OptPost w (packL q true)) := by
  have hS := St.start w
  obtain ⟨p0, n, c', rfl⟩ := slice_keep hv
  have hlen := hv.len
  have hcap := hv.cap
  obtain ⟨m, hmn⟩ : ∃ m, m = n / 2 := ⟨_, rfl⟩
  have hql : 0 < q.length := List.length_pos_iff.2 hq0
  have hm2 : (n : Int) / 2 = (m : Int) := by omega
  obtain ⟨M, hM⟩ : ∃ M, M = 1 + m := ⟨_, rfl⟩
  have hM2 : 1 + (m : Int) = (M : Int) := by omega
  have hpar : ((n : Int) % 2 != 0) = false := by rw [bne_eq_false_iff_eq]; omega
  have hq2 : q.length = 2 * m := by omega
  have hm6 : M ≤ 100001 := by omega
  have hm5 : m ≤ 1000000 := by omega
  have hMge : 1 ≤ M := by omega
  have hM1 : ¬ M = 1 := by omega
  have q1 : (1 : Int) ≤ (M : Int) := by omega
  have q2 : (0 : Int) ≤ (M : Int) - 1 := by omega
  have q3 : (M : Int) - 1 = (m : Int) := by omega
  have hMm : M - 1 = m := by omega
  have hfl : fr q true ++ q = 2 :: 0 :: q := by rw [fr_even _ hq]; rfl
  have J1 := fun (w1 : World) (b7 b6 : Nat) (hS : St [] w w1 [(b7, 37, #[.int .u8 ((2 : Nat) : Int), .int .u8 ((0 : Nat) : Int)]), (b6, 5, bc M fun _ => 0)]) => pack_front hS hMge (by decide) (by decide)
  have J2 := fun (w1 : World) (b7 b6 : Nat) (f : Nat → Nat) (hS : St [] w w1 [(b7, 37, #[.int .u8 ((2 : Nat) : Int), .int .u8 ((0 : Nat) : Int)]), (b6, 5, bc M f)]) => pack_back (pq := some ⟨b6, 1, none⟩) (cm := m) hS hM hq2 hm5 (fun _ => rfl) hv
  rw [ha] at J2
  have HJ2 := Lib.hid J2
  have hxd : decide (0 < 16) = true := rfl
  rw [hxd] at J1
  have HJ1 := Lib.hid J1
  have HE := Lib.hid (fun (w6 : World) (b7 b6 : Nat) (f5 f6 : Nat → Nat) => pack_end (w := w) (w6 := w6) (b7 := b7) (b6 := b6) (f5 := f5) (f6 := f6) (c := #[.int .u8 ((2 : Nat) : Int), .int .u8 ((0 : Nat) : Int)]) hfl hq2 hM (by decide) (by decide) ha)
  clear J1 hv hfl hxd hlen hcap J2 ha hmn hM hq hq0 hql hq2
  go_enter Try.func10, Try.ntmps10
  go_upto_region 3 with (refine st_makeB M hS rfl _ _ rfl (by rw [← hM2]; rfl) (by rw [← hM2]; rfl) (by omega) ?_; clear hS; intro w1 b6 hS)
  have hS3 := hS.new 37 #[.int .u8 0, .int .u8 0]
  clear hS
  generalize w1.heap.size = b7 at *
  generalize w1.alloc (.cells #[.int .u8 0, .int .u8 0] 37) = w3 at *
  have hS := hS3
  clear hS3
  go_wp2_with (first
    | (refine st_store1 (b := b7) (j := 0) hS rfl 5 _ _ rfl (by rfl) rfl u8_size (by repeat (first | exact Upd.head | apply Upd.tail)) (by decide) ?_; clear hS; intro w4 hS))
  go_region_held3 (fun _ => True) (trivial)
    ((first
      | (go_at_call 18; have hu := HJ1.out _ _ _ hS.drew; (with_reducible refine hu.mono ?_); clear hu; rintro e w5 ⟨rfl, f', hS5, hf⟩)
      | (go_at_call 18; go_must (have hu := HJ2.out _ _ _ _ hS5; (with_reducible refine hu.mono ?_); clear hu; rintro e w6 ⟨rfl, f6, hS6, hf6⟩))))
  go_wp2
  go_ret2
  exact HE.out _ _ _ _ _ (hf (by decide)) (hf6 (by trivial)) hS6
set_option maxHeartbeats 4000000 in
set_option maxRecDepth 100000 in
theorem pack_even_l_z_C (v : Value) (w : World) (hm : ([] : List Nat).length ≤ 100000) (hv : RdA [] w v ([] : List Nat)) :
    Calls Try.prog 10 #[v, .bool true] w (OptPost w (packL ([] : List Nat) true)) := by
  have hS := St.start w
  obtain ⟨p0, n, c', rfl⟩ := slice_keep hv
  have hlen := hv.len
  have hcap := hv.cap
  obtain rfl : n = 0 := by simpa using hlen
  have hfl : fr ([] : List Nat) true ++ ([] : List Nat) = 2 :: 0 :: ([] : List Nat) := by rw [fr_even _ (by simp)]; rfl
  have J1 := fun (w1 : World) (b7 b6 : Nat) (hS : St [] w w1 [(b7, 37, #[.int .u8 ((2 : Nat) : Int), .int .u8 ((0 : Nat) : Int)]), (b6, 5, bc 1 fun _ => 0)]) => pack_front hS (Nat.le_refl 1) (by decide) (by decide)
  have J2 := fun (w1 : World) (b7 b6 : Nat) (f : Nat → Nat) (hS : St [] w w1 [(b7, 37, #[.int .u8 ((2 : Nat) : Int), .int .u8 ((0 : Nat) : Int)]), (b6, 5, bc 1 f)]) => pack_back (m := 0) (q := []) (pq := some ⟨b6, 0, none⟩) (cm := 0) hS rfl rfl (by decide) (fun h => absurd rfl h) hv
  have ha : allN ([] : List Nat) = true := rfl
  rw [ha] at J2
  have HJ2 := Lib.hid J2
  have hxd : decide (0 < 16) = true := rfl
  rw [hxd] at J1
  have HJ1 := Lib.hid J1
  have HE := Lib.hid (fun (w6 : World) (b7 b6 : Nat) (f5 f6 : Nat → Nat) => pack_end (w := w) (w6 := w6) (b7 := b7) (b6 := b6) (f5 := f5) (f6 := f6) (c := #[.int .u8 ((2 : Nat) : Int), .int .u8 ((0 : Nat) : Int)]) hfl (m := 0) rfl (M := 1) rfl (by decide) (by decide) ha)
  clear J1 hv hfl hxd hlen hcap J2 ha
  go_enter Try.func10, Try.ntmps10
  go_upto_region 3 with (refine st_makeB 1 hS rfl _ _ rfl (by rfl) (by rfl) (by omega) ?_; clear hS; intro w1 b6 hS)
  have hS3 := hS.new 37 #[.int .u8 0, .int .u8 0]
  clear hS
  generalize w1.heap.size = b7 at *
  generalize w1.alloc (.cells #[.int .u8 0, .int .u8 0] 37) = w3 at *
  have hS := hS3
  clear hS3
  go_wp2_with (first
    | (refine st_store1 (b := b7) (j := 0) hS rfl 5 _ _ rfl (by rfl) rfl u8_size (by repeat (first | exact Upd.head | apply Upd.tail)) (by decide) ?_; clear hS; intro w4 hS))
  go_region_held3 (fun _ => True) (trivial)
    ((first
      | (go_at_call 18; have hu := HJ1.out _ _ _ hS.drew; (with_reducible refine hu.mono ?_); clear hu; rintro e w5 ⟨rfl, f', hS5, hf⟩)
      | (go_at_call 18; go_must (have hu := HJ2.out _ _ _ _ hS5; (with_reducible refine hu.mono ?_); clear hu; rintro e w6 ⟨rfl, f6, hS6, hf6⟩))))
  go_wp2
  go_ret2
  exact HE.out _ _ _ _ _ (hf (by decide)) (hf6 (by trivial)) hS6
end Go.Proofs.Ytgdojomaknbheaa
