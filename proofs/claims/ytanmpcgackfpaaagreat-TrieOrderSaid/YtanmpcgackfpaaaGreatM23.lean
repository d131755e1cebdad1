/- The document's PackPath. -/
import Derived.Test.YtanmpcgackfpaaaGreatM01
import Derived.Test.YtanmpcgackfpaaaGreatM14
import Derived.Test.YtanmpcgackfpaaaGreatM22
set_option linter.unusedVariables false
set_option linter.unusedSimpArgs false
namespace Go.Proofs.YtanmpcgackfpaaaGreat
section
open Go.RowKit
def fr (l : List Nat) (leaf : Bool) : List Nat := if l.length % 2 = 1 then [bif leaf then 3 else 1] else [bif leaf then 2 else 0, 0]
def packL (l : List Nat) (leaf : Bool) : Option (List Nat) := joinL (fr l leaf ++ l)
theorem fr_odd {l : List Nat} (leaf : Bool) (h : l.length % 2 = 1) : fr l leaf = [bif leaf then 3 else 1] := by unfold fr; rw [if_pos h]
theorem fr_even {l : List Nat} (leaf : Bool) (h : l.length % 2 = 0) : fr l leaf = [bif leaf then 2 else 0, 0] := by unfold fr; rw [if_neg (by omega)]
theorem fr_lt (l : List Nat) (leaf : Bool) : ∀ x ∈ fr l leaf, x < 4 := by
  unfold fr; intro x hx
  cases leaf <;> (split at hx <;> simp at hx <;> omega)
end
section
open Go.RowKit
theorem RdA.ofBlkT {X : List Nat} {w : World} {b : Nat} {t : TypeId} {l : List Nat} (h : Blk w b t (bc l.length fun i => l.getD i 0)) (hl : ∀ x ∈ l, x < 256) (hb : b ∉ X) : RdA X w (.slice (some ⟨b, 0, none⟩) l.length l.length) l :=
  ⟨_, _, rfl, Nat.le_refl _, hl, fun _ => ⟨b, 0, rfl, h.lt, hb, fun i hi => by rw [Nat.zero_add]; exact h.cell (bc_get hi)⟩⟩
theorem wr_cons (f : Nat → Nat) (a : Nat) (l : List Nat) : wr (wr f 0 [a]) 1 l = wr f 0 (a :: l) := by
  funext i
  unfold wr
  cases i with
  | zero => simp
  | succ i =>
    simp only [List.length_cons, List.length_nil]
    by_cases h : i < l.length
    · rw [if_pos (by omega), if_pos (by omega)]; simp
    · rw [if_neg (by omega), if_neg (by omega), if_neg (by omega)]
theorem pair_size : (Tryz.prog.info? 223).map (·.size) = some 2 := by kernel_rfl
theorem qd3 {w w1 : World} {b7 b6 M c0 c1 : Nat} {f : Nat → Nat} (hS : St [] w w1 [(b7, 223, #[.int .u8 (c0 : Int), .int .u8 (c1 : Int)]), (b6, 5, bc M f)]) (hM : 1 ≤ M) (h0 : c0 < 16) (h1 : c1 < 256) :
    Calls Tryz.prog 135 #[.slice (some ⟨b6, 0, none⟩) 1 M, .slice (some ⟨b7, 0, none⟩) 2 2] w1 fun e w2 => e = .returned (.bool (decide (c1 < 16))) ∧ ∃ f', St [] w w2 [(b7, 223, #[.int .u8 (c0 : Int), .int .u8 (c1 : Int)]), (b6, 5, bc M f')] ∧ (c1 < 16 → f' = wr f 0 [16 * c0 + c1]) := by
  have hne := hS.apart2
  refine (join_any (some ⟨b6, 0, none⟩) 1 M b6 0 M _ [c0, c1] 5 f w1 (fun _ => rfl) (by simp) (by omega) (by simp) (RdA.ofBlkT (l := [c0, c1]) (t := 223) (hS.get .head) (by intro x hx; simp at hx; omega) (by simp; exact hne)) (hS.get (.tail .head))).mono ?_
  rintro e w2 ⟨rfl, hT, f', hB, hf⟩
  have e1 : allN ([c0, c1].take (2 * 1)) = decide (c1 < 16) := by
    show allN [c0, c1] = _
    rw [allN_cons, allN_cons]; simp [allN, h0]
  rw [e1] at hf ⊢
  exact ⟨rfl, f', hS.on1 (.tail .head) hT hB, fun h => hf (by simpa using h)⟩
theorem qg8 {w w1 : World} {b7 b6 M m cm : Nat} {pq : Option Addr} {v : Value} {c : Array Value} {f : Nat → Nat} {q : List Nat} (hS : St [] w w1 [(b7, 223, c), (b6, 5, bc M f)]) (hM : M = 1 + m) (hq : q.length = 2 * m) (hm : m ≤ 1000000) (hp : m ≠ 0 → pq = some ⟨b6, 1, none⟩) (hv : RdA [] w v q) :
    Calls Tryz.prog 135 #[.slice pq m cm, v] w1 fun e w2 => e = .returned (.bool (allN q)) ∧ ∃ f', St [] w w2 [(b7, 223, c), (b6, 5, bc M f')] ∧ (allN q = true → f' = wr f 1 (jn q)) := by
  refine (join_any pq m cm b6 1 M _ q 5 f w1 hp (by omega) (by omega) (by omega) (hv.fresh hS.frame ((hS.own (.tail .head)).resolve_right (by simp))) (hS.get (.tail .head))).mono ?_
  rintro e w2 ⟨rfl, hT, f', hB, hf⟩
  have e1 : q.take (2 * m) = q := List.take_of_length_le (by omega)
  rw [e1] at hf ⊢
  exact ⟨rfl, f', hS.on1 (.tail .head) hT hB, hf⟩
theorem RdA.at_ {X : List Nat} {w : World} {p : Option Addr} {n c : Nat} {l : List Nat} (h : RdA X w (.slice p n c) l) (hl : l ≠ []) : ∃ b o, p = some ⟨b, o, none⟩ ∧ b < w.heap.size ∧ b ∉ X ∧ ∀ i, i < l.length → w.cell? ⟨b, o + i, none⟩ = some (.int .u8 ((l.getD i 0 : Nat) : Int)) := by
  obtain ⟨_, _, h1, _, _, h4⟩ := h
  cases h1
  exact h4 hl
theorem packL_eq {l q : List Nat} {leaf : Bool} {c0 c1 : Nat} (hfl : fr l leaf ++ l = c0 :: c1 :: q) (hq : q.length % 2 = 0) (h0 : c0 < 16) : packL l leaf = if c1 < 16 ∧ allN q = true then some ((16 * c0 + c1) :: jn q) else none := by
  unfold packL joinL
  rw [hfl]
  have e : allN (c0 :: c1 :: q) = (decide (c1 < 16) && allN q) := by rw [allN_cons, allN_cons]; simp [h0]
  have e2 : (c0 :: c1 :: q).length % 2 = 0 := by simp only [List.length_cons]; omega
  by_cases h1 : c1 < 16
  · cases ha : allN q with
    | true => rw [if_pos ⟨e2, by rw [e, ha]; simp [h1]⟩, if_pos ⟨h1, rfl⟩]; rfl
    | false => rw [if_neg (fun h => by rw [e, ha] at h; simp at h), if_neg (fun h => by cases h.2)]
  · rw [if_neg (fun h => by rw [e] at h; simp at h; exact h1 h.2.1), if_neg (fun h => h1 h.1)]
def PackNew (w : World) (r : Option (List Nat)) (e : Ending) (w' : World) : Prop := OptPost w r e w' ∧ ∀ v b, e = .returned (.tuple #[v, b]) → ∀ X : List Nat, (∀ x ∈ X, x < w.heap.size) → RdA X w' v (r.getD [])
theorem qi8 {w w' : World} {r : Option (List Nat)} (hr : r = none) (hT : Tch [] w w') : PackNew w r (.returned (.tuple #[.slice none 0 0, .bool false])) w' := by
  subst hr
  refine ⟨optpost_no rfl hT, fun v b he X hX => ?_⟩
  cases he
  exact ⟨none, 0, rfl, Nat.le_refl _, by simp, fun h => absurd rfl h⟩
theorem pack_end {w w6 : World} {b7 b6 M c0 c1 m : Nat} {c : Array Value} {f5 f6 : Nat → Nat} {l q : List Nat} {leaf : Bool} (hfl : fr l leaf ++ l = c0 :: c1 :: q) (hq : q.length = 2 * m) (hM : M = 1 + m) (h0 : c0 < 16) (h1 : c1 < 16) (ha : allN q = true)
    (hf5 : f5 = wr (fun _ => 0) 0 [16 * c0 + c1]) (hf6 : f6 = wr f5 1 (jn q)) (hS : St [] w w6 [(b7, 223, c), (b6, 5, bc M f6)]) : PackNew w (packL l leaf) (.returned (.tuple #[.slice (some ⟨b6, 0, none⟩) M M, .bool true])) w6 := by
  subst hf5 hf6
  have hB := hS.get (.tail .head)
  rw [wr_cons] at hB
  have hO : w.heap.size ≤ b6 := (hS.own (.tail .head)).resolve_right (by simp)
  have e : packL l leaf = some ((16 * c0 + c1) :: jn q) := by rw [packL_eq hfl (by omega) h0, if_pos ⟨h1, ha⟩]
  have key : ∀ X : List Nat, b6 ∉ X → RdA X w6 (.slice (some ⟨b6, 0, none⟩) M M) ((16 * c0 + c1) :: jn q) := fun X hX => by
    refine RdA.ofBlk' hB (by simp only [List.length_cons, jn_length]; omega) (fun x hx => ?_) hX
    rcases List.mem_cons.1 hx with rfl | hx
    · omega
    · exact jn_lt q ha x hx
  refine ⟨optpost_yes e hS.frame (key [] (by simp)), fun v b he X hX => ?_⟩
  cases he
  rw [e]
  exact key X fun hm => absurd (hX _ hm) (by omega)
theorem qk5 {l q : List Nat} {leaf : Bool} {c0 c1 : Nat} (hfl : fr l leaf ++ l = c0 :: c1 :: q) (hq : q.length % 2 = 0) (h0 : c0 < 16) (h : ¬ (c1 < 16 ∧ allN q = true)) : packL l leaf = none := by
  rw [packL_eq hfl hq h0, if_neg h]
section
variable {o : Oper} {a : Act} {ops : Array Oper} {rest : List Oper} {C : World → Prop} {Q : Act → Prop}
end
theorem slice_to (b o n c k : Nat) (hk : k ≤ n) (hc : n ≤ c) (w : World) : (Instr.sliceAt 23 (.slice (some ⟨b, o, none⟩) n c) none (some (.int .i64 (k : Int))) none).run Tryz.prog w = .ok (.slice (some ⟨b, o, none⟩) k c) w := by
  have hel : Tryz.prog.elem 23 = 5 := by kernel_rfl
  have ht : Tryz.prog.underlying 23 = some (.slice (Tryz.prog.elem 23)) := by rw [hel]; exact qb5
  have e1 := run_sliceAt_slice (P := Tryz.prog) (w := w) 23 (.slice (some ⟨b, o, none⟩) n c) none (some (.int .i64 (k : Int))) none ht
  have e2 := run_slice_h (P := Tryz.prog) (w := w) 23 (some ⟨b, o, none⟩) n c ht .i64 (k : Int) (by omega) (by omega)
  rw [e1, e2, hel, sizeOf_u8]
  simp [Result.andThen, sliced, Addr.add]
theorem pair_slice (b : Nat) (w : World) : (Instr.sliceAt 223 (.pointer (some ⟨b, 0, none⟩)) none none none).run Tryz.prog w = .ok (.slice (some ⟨b, 0, none⟩) 2 2) w := by
  go_simp
end
section
open Go.RowKit
set_option maxHeartbeats 4000000 in
set_option maxRecDepth 100000 in
theorem pack_even_n_m_B (v : Value) (q : List Nat) (w : World) (hm : q.length ≤ 100000) (hv : RdA [] w v q) (hq : q.length % 2 = 0) (hq0 : q ≠ []) (ha : allN q = false) :
    Calls Tryz.prog 113 #[v, .bool false] w (PackNew w (packL q false)) := by
  have hS := St.start w
  obtain ⟨p0, n, c', rfl⟩ := qb3 hv
  have hlen := hv.len
  have hcap := hv.cap
  obtain ⟨m, hmn⟩ : ∃ m, m = n / 2 := ⟨_, rfl⟩
  have hql : 0 < q.length := List.length_pos_iff.2 hq0
  have hm2 : (n : Int) / 2 = (m : Int) := by omega
  obtain ⟨M, hM⟩ : ∃ M, M = 1 + m := ⟨_, rfl⟩
  have hM2 : 1 + (m : Int) = (M : Int) := by omega
  have hpar : ((n : Int) % 2 != 0) = false := by rw [bne_eq_false_iff_eq]; omega
  have hq2 : q.length = 2 * m := by omega
  have hm6 : M ≤ 100001 := by omega
  have hm5 : m ≤ 1000000 := by omega
  have hMge : 1 ≤ M := by omega
  have hM1 : ¬ M = 1 := by omega
  have q1 : (1 : Int) ≤ (M : Int) := by omega
  have q2 : (0 : Int) ≤ (M : Int) - 1 := by omega
  have q3 : (M : Int) - 1 = (m : Int) := by omega
  have hMm : M - 1 = m := by omega
  have hfl : fr q false ++ q = 0 :: 0 :: q := by rw [fr_even _ hq]; rfl
  have J1 := fun (w1 : World) (b7 b6 : Nat) (hS : St [] w w1 [(b7, 223, #[.int .u8 ((0 : Nat) : Int), .int .u8 ((0 : Nat) : Int)]), (b6, 5, bc M fun _ => 0)]) => qd3 hS hMge (by decide) (by decide)
  have J2 := fun (w1 : World) (b7 b6 : Nat) (f : Nat → Nat) (hS : St [] w w1 [(b7, 223, #[.int .u8 ((0 : Nat) : Int), .int .u8 ((0 : Nat) : Int)]), (b6, 5, bc M f)]) => qg8 (pq := some ⟨b6, 1, none⟩) (cm := m) hS hM hq2 hm5 (fun _ => rfl) hv
  rw [ha] at J2
  have HJ2 := hQz J2
  have hxd : decide (0 < 16) = true := rfl
  rw [hxd] at J1
  have HJ1 := hQz J1
  have HE := hQz (qk5 hfl (by omega) (by decide) (fun h => by rw [ha] at h; cases h.2))
  clear J1 hv hfl hxd hlen hcap J2 ha hmn hM hq hq0 hql hq2
  go_enter Tryz.func113, Tryz.ntmps113
  go_upto_region 3 with (refine qf7 M hS rfl _ _ rfl (by rw [← hM2]; rfl) (by rw [← hM2]; rfl) (by omega) ?_; clear hS; intro w1 b6 hS)
  have hS3 := hS.new 223 #[.int .u8 0, .int .u8 0]
  clear hS
  generalize w1.heap.size = b7 at *
  generalize w1.alloc (.cells #[.int .u8 0, .int .u8 0] 223) = w3 at *
  have hS := hS3
  clear hS3
  go_wp2
  go_region_held3 (fun _ => True) (trivial)
    ((first
      | (go_at_call 135; have hu := HJ1.out _ _ _ hS.drew; (with_reducible refine hu.mono ?_); clear hu; rintro e w5 ⟨rfl, f', hS5, hf⟩)
      | (go_at_call 135; go_must (have hu := HJ2.out _ _ _ _ hS5; (with_reducible refine hu.mono ?_); clear hu; rintro e w6 ⟨rfl, f6, hS6, hf6⟩))))
  go_wp2
  go_ret2
  exact qi8 HE.out hS6.frame
set_option maxHeartbeats 4000000 in
set_option maxRecDepth 100000 in
theorem pack_even_n_m_C (v : Value) (q : List Nat) (w : World) (hm : q.length ≤ 100000) (hv : RdA [] w v q) (hq : q.length % 2 = 0) (hq0 : q ≠ []) (ha : allN q = true) :
    Calls Tryz.prog 113 #[v, .bool false] w (PackNew w (packL q false)) := by
  have hS := St.start w
  obtain ⟨p0, n, c', rfl⟩ := qb3 hv
  have hlen := hv.len
  have hcap := hv.cap
  obtain ⟨m, hmn⟩ : ∃ m, m = n / 2 := ⟨_, rfl⟩
  have hql : 0 < q.length := List.length_pos_iff.2 hq0
  have hm2 : (n : Int) / 2 = (m : Int) := by omega
  obtain ⟨M, hM⟩ : ∃ M, M = 1 + m := ⟨_, rfl⟩
  have hM2 : 1 + (m : Int) = (M : Int) := by omega
  have hpar : ((n : Int) % 2 != 0) = false := by rw [bne_eq_false_iff_eq]; omega
  have hq2 : q.length = 2 * m := by omega
  have hm6 : M ≤ 100001 := by omega
  have hm5 : m ≤ 1000000 := by omega
  have hMge : 1 ≤ M := by omega
  have hM1 : ¬ M = 1 := by omega
  have q1 : (1 : Int) ≤ (M : Int) := by omega
  have q2 : (0 : Int) ≤ (M : Int) - 1 := by omega
  have q3 : (M : Int) - 1 = (m : Int) := by omega
  have hMm : M - 1 = m := by omega
  have hfl : fr q false ++ q = 0 :: 0 :: q := by rw [fr_even _ hq]; rfl
  have J1 := fun (w1 : World) (b7 b6 : Nat) (hS : St [] w w1 [(b7, 223, #[.int .u8 ((0 : Nat) : Int), .int .u8 ((0 : Nat) : Int)]), (b6, 5, bc M fun _ => 0)]) => qd3 hS hMge (by decide) (by decide)
  have J2 := fun (w1 : World) (b7 b6 : Nat) (f : Nat → Nat) (hS : St [] w w1 [(b7, 223, #[.int .u8 ((0 : Nat) : Int), .int .u8 ((0 : Nat) : Int)]), (b6, 5, bc M f)]) => qg8 (pq := some ⟨b6, 1, none⟩) (cm := m) hS hM hq2 hm5 (fun _ => rfl) hv
  rw [ha] at J2
  have HJ2 := hQz J2
  have hxd : decide (0 < 16) = true := rfl
  rw [hxd] at J1
  have HJ1 := hQz J1
  have HE := hQz (fun (w6 : World) (b7 b6 : Nat) (f5 f6 : Nat → Nat) => pack_end (w := w) (w6 := w6) (b7 := b7) (b6 := b6) (f5 := f5) (f6 := f6) (c := #[.int .u8 ((0 : Nat) : Int), .int .u8 ((0 : Nat) : Int)]) hfl hq2 hM (by decide) (by decide) ha)
  clear J1 hv hfl hxd hlen hcap J2 ha hmn hM hq hq0 hql hq2
  go_enter Tryz.func113, Tryz.ntmps113
  go_upto_region 3 with (refine qf7 M hS rfl _ _ rfl (by rw [← hM2]; rfl) (by rw [← hM2]; rfl) (by omega) ?_; clear hS; intro w1 b6 hS)
  have hS3 := hS.new 223 #[.int .u8 0, .int .u8 0]
  clear hS
  generalize w1.heap.size = b7 at *
  generalize w1.alloc (.cells #[.int .u8 0, .int .u8 0] 223) = w3 at *
  have hS := hS3
  clear hS3
  go_wp2
  go_region_held3 (fun _ => True) (trivial)
    ((first
      | (go_at_call 135; have hu := HJ1.out _ _ _ hS.drew; (with_reducible refine hu.mono ?_); clear hu; rintro e w5 ⟨rfl, f', hS5, hf⟩)
      | (go_at_call 135; go_must (have hu := HJ2.out _ _ _ _ hS5; (with_reducible refine hu.mono ?_); clear hu; rintro e w6 ⟨rfl, f6, hS6, hf6⟩))))
  go_wp2
  go_ret2
  exact HE.out _ _ _ _ _ (hf (by decide)) (hf6 (by trivial)) hS6
set_option maxHeartbeats 4000000 in
set_option maxRecDepth 100000 in
theorem pack_even_n_z_C (v : Value) (w : World) (hm : ([] : List Nat).length ≤ 100000) (hv : RdA [] w v ([] : List Nat)) :
    Calls Tryz.prog 113 #[v, .bool false] w (PackNew w (packL ([] : List Nat) false)) := by
  have hS := St.start w
  obtain ⟨p0, n, c', rfl⟩ := qb3 hv
  have hlen := hv.len
  have hcap := hv.cap
  obtain rfl : n = 0 := by simpa using hlen
  have hfl : fr ([] : List Nat) false ++ ([] : List Nat) = 0 :: 0 :: ([] : List Nat) := by rw [fr_even _ (by simp)]; rfl
  have J1 := fun (w1 : World) (b7 b6 : Nat) (hS : St [] w w1 [(b7, 223, #[.int .u8 ((0 : Nat) : Int), .int .u8 ((0 : Nat) : Int)]), (b6, 5, bc 1 fun _ => 0)]) => qd3 hS (Nat.le_refl 1) (by decide) (by decide)
  have J2 := fun (w1 : World) (b7 b6 : Nat) (f : Nat → Nat) (hS : St [] w w1 [(b7, 223, #[.int .u8 ((0 : Nat) : Int), .int .u8 ((0 : Nat) : Int)]), (b6, 5, bc 1 f)]) => qg8 (m := 0) (q := []) (pq := some ⟨b6, 0, none⟩) (cm := 0) hS rfl rfl (by decide) (fun h => absurd rfl h) hv
  have ha : allN ([] : List Nat) = true := rfl
  rw [ha] at J2
  have HJ2 := hQz J2
  have hxd : decide (0 < 16) = true := rfl
  rw [hxd] at J1
  have HJ1 := hQz J1
  have HE := hQz (fun (w6 : World) (b7 b6 : Nat) (f5 f6 : Nat → Nat) => pack_end (w := w) (w6 := w6) (b7 := b7) (b6 := b6) (f5 := f5) (f6 := f6) (c := #[.int .u8 ((0 : Nat) : Int), .int .u8 ((0 : Nat) : Int)]) hfl (m := 0) rfl (M := 1) rfl (by decide) (by decide) ha)
  clear J1 hv hfl hxd hlen hcap J2 ha
  go_enter Tryz.func113, Tryz.ntmps113
  go_upto_region 3 with (refine qf7 1 hS rfl _ _ rfl (by rfl) (by rfl) (by omega) ?_; clear hS; intro w1 b6 hS)
  have hS3 := hS.new 223 #[.int .u8 0, .int .u8 0]
  clear hS
  generalize w1.heap.size = b7 at *
  generalize w1.alloc (.cells #[.int .u8 0, .int .u8 0] 223) = w3 at *
  have hS := hS3
  clear hS3
  go_wp2
  go_region_held3 (fun _ => True) (trivial)
    ((first
      | (go_at_call 135; have hu := HJ1.out _ _ _ hS.drew; (with_reducible refine hu.mono ?_); clear hu; rintro e w5 ⟨rfl, f', hS5, hf⟩)
      | (go_at_call 135; go_must (have hu := HJ2.out _ _ _ _ hS5; (with_reducible refine hu.mono ?_); clear hu; rintro e w6 ⟨rfl, f6, hS6, hf6⟩))))
  go_wp2
  go_ret2
  exact HE.out _ _ _ _ _ (hf (by decide)) (hf6 (by trivial)) hS6
end
section
open Go.RowKit
set_option maxHeartbeats 4000000 in
set_option maxRecDepth 100000 in
theorem pack_even_l_m_B (v : Value) (q : List Nat) (w : World) (hm : q.length ≤ 100000) (hv : RdA [] w v q) (hq : q.length % 2 = 0) (hq0 : q ≠ []) (ha : allN q = false) :
    Calls Tryz.prog 113 #[v, .bool true] w (PackNew w (packL q true)) := by
  have hS := St.start w
  obtain ⟨p0, n, c', rfl⟩ := qb3 hv
  have hlen := hv.len
  have hcap := hv.cap
  obtain ⟨m, hmn⟩ : ∃ m, m = n / 2 := ⟨_, rfl⟩
  have hql : 0 < q.length := List.length_pos_iff.2 hq0
  have hm2 : (n : Int) / 2 = (m : Int) := by omega
  obtain ⟨M, hM⟩ : ∃ M, M = 1 + m := ⟨_, rfl⟩
  have hM2 : 1 + (m : Int) = (M : Int) := by omega
  have hpar : ((n : Int) % 2 != 0) = false := by rw [bne_eq_false_iff_eq]; omega
  have hq2 : q.length = 2 * m := by omega
  have hm6 : M ≤ 100001 := by omega
  have hm5 : m ≤ 1000000 := by omega
  have hMge : 1 ≤ M := by omega
  have hM1 : ¬ M = 1 := by omega
  have q1 : (1 : Int) ≤ (M : Int) := by omega
  have q2 : (0 : Int) ≤ (M : Int) - 1 := by omega
  have q3 : (M : Int) - 1 = (m : Int) := by omega
  have hMm : M - 1 = m := by omega
  have hfl : fr q true ++ q = 2 :: 0 :: q := by rw [fr_even _ hq]; rfl
  have J1 := fun (w1 : World) (b7 b6 : Nat) (hS : St [] w w1 [(b7, 223, #[.int .u8 ((2 : Nat) : Int), .int .u8 ((0 : Nat) : Int)]), (b6, 5, bc M fun _ => 0)]) => qd3 hS hMge (by decide) (by decide)
  have J2 := fun (w1 : World) (b7 b6 : Nat) (f : Nat → Nat) (hS : St [] w w1 [(b7, 223, #[.int .u8 ((2 : Nat) : Int), .int .u8 ((0 : Nat) : Int)]), (b6, 5, bc M f)]) => qg8 (pq := some ⟨b6, 1, none⟩) (cm := m) hS hM hq2 hm5 (fun _ => rfl) hv
  rw [ha] at J2
  have HJ2 := hQz J2
  have hxd : decide (0 < 16) = true := rfl
  rw [hxd] at J1
  have HJ1 := hQz J1
  have HE := hQz (qk5 hfl (by omega) (by decide) (fun h => by rw [ha] at h; cases h.2))
  clear J1 hv hfl hxd hlen hcap J2 ha hmn hM hq hq0 hql hq2
  go_enter Tryz.func113, Tryz.ntmps113
  go_upto_region 3 with (refine qf7 M hS rfl _ _ rfl (by rw [← hM2]; rfl) (by rw [← hM2]; rfl) (by omega) ?_; clear hS; intro w1 b6 hS)
  have hS3 := hS.new 223 #[.int .u8 0, .int .u8 0]
  clear hS
  generalize w1.heap.size = b7 at *
  generalize w1.alloc (.cells #[.int .u8 0, .int .u8 0] 223) = w3 at *
  have hS := hS3
  clear hS3
  go_wp2_with (first
    | (refine qa7 (b := b7) (j := 0) hS rfl 5 _ _ rfl (by rfl) rfl qb6 (by repeat (first | exact Upd.head | apply Upd.tail)) (by decide) ?_; clear hS; intro w4 hS))
  go_region_held3 (fun _ => True) (trivial)
    ((first
      | (go_at_call 135; have hu := HJ1.out _ _ _ hS.drew; (with_reducible refine hu.mono ?_); clear hu; rintro e w5 ⟨rfl, f', hS5, hf⟩)
      | (go_at_call 135; go_must (have hu := HJ2.out _ _ _ _ hS5; (with_reducible refine hu.mono ?_); clear hu; rintro e w6 ⟨rfl, f6, hS6, hf6⟩))))
  go_wp2
  go_ret2
  exact qi8 HE.out hS6.frame
set_option maxHeartbeats 4000000 in
set_option maxRecDepth 100000 in
theorem pack_even_l_m_C (v : Value) (q : List Nat) (w : World) (hm : q.length ≤ 100000) (hv : RdA [] w v q) (hq : q.length % 2 = 0) (hq0 : q ≠ []) (ha : allN q = true) :
    Calls Tryz.prog 113 #[v, .bool true] w (PackNew w (packL q true)) := by
  have hS := St.start w
  obtain ⟨p0, n, c', rfl⟩ := qb3 hv
  have hlen := hv.len
  have hcap := hv.cap
  obtain ⟨m, hmn⟩ : ∃ m, m = n / 2 := ⟨_, rfl⟩
  have hql : 0 < q.length := List.length_pos_iff.2 hq0
  have hm2 : (n : Int) / 2 = (m : Int) := by omega
  obtain ⟨M, hM⟩ : ∃ M, M = 1 + m := ⟨_, rfl⟩
  have hM2 : 1 + (m : Int) = (M : Int) := by omega
  have hpar : ((n : Int) % 2 != 0) = false := by rw [bne_eq_false_iff_eq]; omega
  have hq2 : q.length = 2 * m := by omega
  have hm6 : M ≤ 100001 := by omega
  have hm5 : m ≤ 1000000 := by omega
  have hMge : 1 ≤ M := by omega
  have hM1 : ¬ M = 1 := by omega
  have q1 : (1 : Int) ≤ (M : Int) := by omega
  have q2 : (0 : Int) ≤ (M : Int) - 1 := by omega
  have q3 : (M : Int) - 1 = (m : Int) := by omega
  have hMm : M - 1 = m := by omega
  have hfl : fr q true ++ q = 2 :: 0 :: q := by rw [fr_even _ hq]; rfl
  have J1 := fun (w1 : World) (b7 b6 : Nat) (hS : St [] w w1 [(b7, 223, #[.int .u8 ((2 : Nat) : Int), .int .u8 ((0 : Nat) : Int)]), (b6, 5, bc M fun _ => 0)]) => qd3 hS hMge (by decide) (by decide)
  have J2 := fun (w1 : World) (b7 b6 : Nat) (f : Nat → Nat) (hS : St [] w w1 [(b7, 223, #[.int .u8 ((2 : Nat) : Int), .int .u8 ((0 : Nat) : Int)]), (b6, 5, bc M f)]) => qg8 (pq := some ⟨b6, 1, none⟩) (cm := m) hS hM hq2 hm5 (fun _ => rfl) hv
  rw [ha] at J2
  have HJ2 := hQz J2
  have hxd : decide (0 < 16) = true := rfl
  rw [hxd] at J1
  have HJ1 := hQz J1
  have HE := hQz (fun (w6 : World) (b7 b6 : Nat) (f5 f6 : Nat → Nat) => pack_end (w := w) (w6 := w6) (b7 := b7) (b6 := b6) (f5 := f5) (f6 := f6) (c := #[.int .u8 ((2 : Nat) : Int), .int .u8 ((0 : Nat) : Int)]) hfl hq2 hM (by decide) (by decide) ha)
  clear J1 hv hfl hxd hlen hcap J2 ha hmn hM hq hq0 hql hq2
  go_enter Tryz.func113, Tryz.ntmps113
  go_upto_region 3 with (refine qf7 M hS rfl _ _ rfl (by rw [← hM2]; rfl) (by rw [← hM2]; rfl) (by omega) ?_; clear hS; intro w1 b6 hS)
  have hS3 := hS.new 223 #[.int .u8 0, .int .u8 0]
  clear hS
  generalize w1.heap.size = b7 at *
  generalize w1.alloc (.cells #[.int .u8 0, .int .u8 0] 223) = w3 at *
  have hS := hS3
  clear hS3
  go_wp2_with (first
    | (refine qa7 (b := b7) (j := 0) hS rfl 5 _ _ rfl (by rfl) rfl qb6 (by repeat (first | exact Upd.head | apply Upd.tail)) (by decide) ?_; clear hS; intro w4 hS))
  go_region_held3 (fun _ => True) (trivial)
    ((first
      | (go_at_call 135; have hu := HJ1.out _ _ _ hS.drew; (with_reducible refine hu.mono ?_); clear hu; rintro e w5 ⟨rfl, f', hS5, hf⟩)
      | (go_at_call 135; go_must (have hu := HJ2.out _ _ _ _ hS5; (with_reducible refine hu.mono ?_); clear hu; rintro e w6 ⟨rfl, f6, hS6, hf6⟩))))
  go_wp2
  go_ret2
  exact HE.out _ _ _ _ _ (hf (by decide)) (hf6 (by trivial)) hS6
set_option maxHeartbeats 4000000 in
set_option maxRecDepth 100000 in
theorem pack_even_l_z_C (v : Value) (w : World) (hm : ([] : List Nat).length ≤ 100000) (hv : RdA [] w v ([] : List Nat)) :
    Calls Tryz.prog 113 #[v, .bool true] w (PackNew w (packL ([] : List Nat) true)) := by
  have hS := St.start w
  obtain ⟨p0, n, c', rfl⟩ := qb3 hv
  have hlen := hv.len
  have hcap := hv.cap
  obtain rfl : n = 0 := by simpa using hlen
  have hfl : fr ([] : List Nat) true ++ ([] : List Nat) = 2 :: 0 :: ([] : List Nat) := by rw [fr_even _ (by simp)]; rfl
  have J1 := fun (w1 : World) (b7 b6 : Nat) (hS : St [] w w1 [(b7, 223, #[.int .u8 ((2 : Nat) : Int), .int .u8 ((0 : Nat) : Int)]), (b6, 5, bc 1 fun _ => 0)]) => qd3 hS (Nat.le_refl 1) (by decide) (by decide)
  have J2 := fun (w1 : World) (b7 b6 : Nat) (f : Nat → Nat) (hS : St [] w w1 [(b7, 223, #[.int .u8 ((2 : Nat) : Int), .int .u8 ((0 : Nat) : Int)]), (b6, 5, bc 1 f)]) => qg8 (m := 0) (q := []) (pq := some ⟨b6, 0, none⟩) (cm := 0) hS rfl rfl (by decide) (fun h => absurd rfl h) hv
  have ha : allN ([] : List Nat) = true := rfl
  rw [ha] at J2
  have HJ2 := hQz J2
  have hxd : decide (0 < 16) = true := rfl
  rw [hxd] at J1
  have HJ1 := hQz J1
  have HE := hQz (fun (w6 : World) (b7 b6 : Nat) (f5 f6 : Nat → Nat) => pack_end (w := w) (w6 := w6) (b7 := b7) (b6 := b6) (f5 := f5) (f6 := f6) (c := #[.int .u8 ((2 : Nat) : Int), .int .u8 ((0 : Nat) : Int)]) hfl (m := 0) rfl (M := 1) rfl (by decide) (by decide) ha)
  clear J1 hv hfl hxd hlen hcap J2 ha
  go_enter Tryz.func113, Tryz.ntmps113
  go_upto_region 3 with (refine qf7 1 hS rfl _ _ rfl (by rfl) (by rfl) (by omega) ?_; clear hS; intro w1 b6 hS)
  have hS3 := hS.new 223 #[.int .u8 0, .int .u8 0]
  clear hS
  generalize w1.heap.size = b7 at *
  generalize w1.alloc (.cells #[.int .u8 0, .int .u8 0] 223) = w3 at *
  have hS := hS3
  clear hS3
  go_wp2_with (first
    | (refine qa7 (b := b7) (j := 0) hS rfl 5 _ _ rfl (by rfl) rfl qb6 (by repeat (first | exact Upd.head | apply Upd.tail)) (by decide) ?_; clear hS; intro w4 hS))
  go_region_held3 (fun _ => True) (trivial)
    ((first
      | (go_at_call 135; have hu := HJ1.out _ _ _ hS.drew; (with_reducible refine hu.mono ?_); clear hu; rintro e w5 ⟨rfl, f', hS5, hf⟩)
      | (go_at_call 135; go_must (have hu := HJ2.out _ _ _ _ hS5; (with_reducible refine hu.mono ?_); clear hu; rintro e w6 ⟨rfl, f6, hS6, hf6⟩))))
  go_wp2
  go_ret2
  exact HE.out _ _ _ _ _ (hf (by decide)) (hf6 (by trivial)) hS6
end
end Go.Proofs.YtanmpcgackfpaaaGreat
