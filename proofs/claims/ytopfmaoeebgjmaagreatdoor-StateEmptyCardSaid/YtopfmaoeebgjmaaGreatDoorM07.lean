/- One round. -/
import Derived.Test.YtopfmaoeebgjmaaGreatDoorM01
import Derived.Test.YtopfmaoeebgjmaaGreatDoorM06
set_option linter.unusedVariables false
set_option linter.unusedSimpArgs false
namespace Go.Proofs.YtopfmaoeebgjmaaGreatDoor
open Go.RowKit
def upd (A : Nat → Nat) (j v : Nat) : Nat → Nat := fun i => if i = j then v else A i
theorem lay_upd {c : Array Value} {A : Nat → Nat} {j v : Nat} (h : j < 25) (hc : 25 ≤ c.size) : (lay c A).setIfInBounds j (.int .u64 (v : Int)) = lay c (upd A j v) := lay_set h hc
theorem filled (m B : Nat → Nat) (rn : Nat) : ∀ i, i < 25 → (upd (upd (upd (upd (upd (upd (upd (upd (upd (upd (upd (upd (upd (upd (upd (upd (upd (upd (upd (upd (upd (upd (upd (upd (upd (upd B 0 (m 0)) 1 (m 1)) 2 (m 2)) 3 (m 3)) 4 (m 4)) 0 ((m 0 ^^^ rn))) 5 (m 5)) 6 (m 6)) 7 (m 7)) 8 (m 8)) 9 (m 9)) 10 (m 10)) 11 (m 11)) 12 (m 12)) 13 (m 13)) 14 (m 14)) 15 (m 15)) 16 (m 16)) 17 (m 17)) 18 (m 18)) 19 (m 19)) 20 (m 20)) 21 (m 21)) 22 (m 22)) 23 (m 23)) 24 (m 24)) i = if i = 0 then m 0 ^^^ rn else m i := by
  intro i hi
  have h : i = 0 ∨ i = 1 ∨ i = 2 ∨ i = 3 ∨ i = 4 ∨ i = 5 ∨ i = 6 ∨ i = 7 ∨ i = 8 ∨ i = 9 ∨ i = 10 ∨ i = 11 ∨ i = 12 ∨ i = 13 ∨ i = 14 ∨ i = 15 ∨ i = 16 ∨ i = 17 ∨ i = 18 ∨ i = 19 ∨ i = 20 ∨ i = 21 ∨ i = 22 ∨ i = 23 ∨ i = 24 := by omega
  rcases h with rfl | rfl | rfl | rfl | rfl | rfl | rfl | rfl | rfl | rfl | rfl | rfl | rfl | rfl | rfl | rfl | rfl | rfl | rfl | rfl | rfl | rfl | rfl | rfl | rfl <;> rfl
theorem pi_at0 (T : Nat → Nat) : piN T 0 = T 0 := if_pos (by decide)
theorem chi_at0 (B : Nat → Nat) : chiN B 0 = B 0 ^^^ andnN (B 2) (B 1) := rfl
theorem pi_at1 (T : Nat → Nat) : piN T 1 = rolN (T 6) 44 := if_neg (by decide)
theorem chi_at1 (B : Nat → Nat) : chiN B 1 = B 1 ^^^ andnN (B 3) (B 2) := rfl
theorem pi_at2 (T : Nat → Nat) : piN T 2 = rolN (T 12) 43 := if_neg (by decide)
theorem chi_at2 (B : Nat → Nat) : chiN B 2 = B 2 ^^^ andnN (B 4) (B 3) := rfl
theorem pi_at3 (T : Nat → Nat) : piN T 3 = rolN (T 18) 21 := if_neg (by decide)
theorem chi_at3 (B : Nat → Nat) : chiN B 3 = B 3 ^^^ andnN (B 0) (B 4) := rfl
theorem pi_at4 (T : Nat → Nat) : piN T 4 = rolN (T 24) 14 := if_neg (by decide)
theorem chi_at4 (B : Nat → Nat) : chiN B 4 = B 4 ^^^ andnN (B 1) (B 0) := rfl
theorem pi_at5 (T : Nat → Nat) : piN T 5 = rolN (T 3) 28 := if_neg (by decide)
theorem chi_at5 (B : Nat → Nat) : chiN B 5 = B 5 ^^^ andnN (B 7) (B 6) := rfl
theorem pi_at6 (T : Nat → Nat) : piN T 6 = rolN (T 9) 20 := if_neg (by decide)
theorem chi_at6 (B : Nat → Nat) : chiN B 6 = B 6 ^^^ andnN (B 8) (B 7) := rfl
theorem pi_at7 (T : Nat → Nat) : piN T 7 = rolN (T 10) 3 := if_neg (by decide)
theorem chi_at7 (B : Nat → Nat) : chiN B 7 = B 7 ^^^ andnN (B 9) (B 8) := rfl
theorem pi_at8 (T : Nat → Nat) : piN T 8 = rolN (T 16) 45 := if_neg (by decide)
theorem chi_at8 (B : Nat → Nat) : chiN B 8 = B 8 ^^^ andnN (B 5) (B 9) := rfl
theorem pi_at9 (T : Nat → Nat) : piN T 9 = rolN (T 22) 61 := if_neg (by decide)
theorem chi_at9 (B : Nat → Nat) : chiN B 9 = B 9 ^^^ andnN (B 6) (B 5) := rfl
theorem pi_at10 (T : Nat → Nat) : piN T 10 = rolN (T 1) 1 := if_neg (by decide)
theorem chi_at10 (B : Nat → Nat) : chiN B 10 = B 10 ^^^ andnN (B 12) (B 11) := rfl
theorem pi_at11 (T : Nat → Nat) : piN T 11 = rolN (T 7) 6 := if_neg (by decide)
theorem chi_at11 (B : Nat → Nat) : chiN B 11 = B 11 ^^^ andnN (B 13) (B 12) := rfl
theorem pi_at12 (T : Nat → Nat) : piN T 12 = rolN (T 13) 25 := if_neg (by decide)
theorem chi_at12 (B : Nat → Nat) : chiN B 12 = B 12 ^^^ andnN (B 14) (B 13) := rfl
theorem pi_at13 (T : Nat → Nat) : piN T 13 = rolN (T 19) 8 := if_neg (by decide)
theorem chi_at13 (B : Nat → Nat) : chiN B 13 = B 13 ^^^ andnN (B 10) (B 14) := rfl
theorem pi_at14 (T : Nat → Nat) : piN T 14 = rolN (T 20) 18 := if_neg (by decide)
theorem chi_at14 (B : Nat → Nat) : chiN B 14 = B 14 ^^^ andnN (B 11) (B 10) := rfl
theorem pi_at15 (T : Nat → Nat) : piN T 15 = rolN (T 4) 27 := if_neg (by decide)
theorem chi_at15 (B : Nat → Nat) : chiN B 15 = B 15 ^^^ andnN (B 17) (B 16) := rfl
theorem pi_at16 (T : Nat → Nat) : piN T 16 = rolN (T 5) 36 := if_neg (by decide)
theorem chi_at16 (B : Nat → Nat) : chiN B 16 = B 16 ^^^ andnN (B 18) (B 17) := rfl
theorem pi_at17 (T : Nat → Nat) : piN T 17 = rolN (T 11) 10 := if_neg (by decide)
theorem chi_at17 (B : Nat → Nat) : chiN B 17 = B 17 ^^^ andnN (B 19) (B 18) := rfl
theorem pi_at18 (T : Nat → Nat) : piN T 18 = rolN (T 17) 15 := if_neg (by decide)
theorem chi_at18 (B : Nat → Nat) : chiN B 18 = B 18 ^^^ andnN (B 15) (B 19) := rfl
theorem pi_at19 (T : Nat → Nat) : piN T 19 = rolN (T 23) 56 := if_neg (by decide)
theorem chi_at19 (B : Nat → Nat) : chiN B 19 = B 19 ^^^ andnN (B 16) (B 15) := rfl
theorem pi_at20 (T : Nat → Nat) : piN T 20 = rolN (T 2) 62 := if_neg (by decide)
theorem chi_at20 (B : Nat → Nat) : chiN B 20 = B 20 ^^^ andnN (B 22) (B 21) := rfl
theorem pi_at21 (T : Nat → Nat) : piN T 21 = rolN (T 8) 55 := if_neg (by decide)
theorem chi_at21 (B : Nat → Nat) : chiN B 21 = B 21 ^^^ andnN (B 23) (B 22) := rfl
theorem pi_at22 (T : Nat → Nat) : piN T 22 = rolN (T 14) 39 := if_neg (by decide)
theorem chi_at22 (B : Nat → Nat) : chiN B 22 = B 22 ^^^ andnN (B 24) (B 23) := rfl
theorem pi_at23 (T : Nat → Nat) : piN T 23 = rolN (T 15) 41 := if_neg (by decide)
theorem chi_at23 (B : Nat → Nat) : chiN B 23 = B 23 ^^^ andnN (B 20) (B 24) := rfl
theorem pi_at24 (T : Nat → Nat) : piN T 24 = rolN (T 21) 2 := if_neg (by decide)
theorem chi_at24 (B : Nat → Nat) : chiN B 24 = B 24 ^^^ andnN (B 21) (B 20) := rfl
set_option maxHeartbeats 40000000 in
set_option maxRecDepth 100000 in
theorem round_any (bb ba : Nat) (tb ta : TypeId) (cb ca : Array Value) (A B : Nat → Nat) (rn : Nat) (w : World) (hbb : Blk w bb tb (lay cb B)) (hba : Blk w ba ta (lay ca A)) (hne : bb ≠ ba) (hca : 25 ≤ ca.size) (hcb : 25 ≤ cb.size) (hA : Lan A) (hr : rn < 18446744073709551616) :
    Calls Tryz.prog 138 #[.pointer (some ⟨bb, 0, none⟩), .pointer (some ⟨ba, 0, none⟩), .int .u64 (rn : Int)] w fun e w' => e = .returned (.tuple #[]) ∧ Tch [bb] w w' ∧ Blk w' bb tb (lay cb (roundN A rn)) := by
  obtain ⟨p, hp⟩ : ∃ p, p = colN A := ⟨_, rfl⟩
  obtain ⟨d, hd⟩ : ∃ d, d = dltN A := ⟨_, rfl⟩
  obtain ⟨t, ht⟩ : ∃ t, t = thetaN A := ⟨_, rfl⟩
  obtain ⟨r, hrr⟩ : ∃ r, r = piN (thetaN A) := ⟨_, rfl⟩
  obtain ⟨m, hm⟩ : ∃ m, m = mixN A := ⟨_, rfl⟩
  have p0 : A 0 ^^^ A 5 ^^^ A 10 ^^^ A 15 ^^^ A 20 = p 0 := by rw [hp]; rfl
  have p1 : A 1 ^^^ A 6 ^^^ A 11 ^^^ A 16 ^^^ A 21 = p 1 := by rw [hp]; rfl
  have p2 : A 2 ^^^ A 7 ^^^ A 12 ^^^ A 17 ^^^ A 22 = p 2 := by rw [hp]; rfl
  have p3 : A 3 ^^^ A 8 ^^^ A 13 ^^^ A 18 ^^^ A 23 = p 3 := by rw [hp]; rfl
  have p4 : A 4 ^^^ A 9 ^^^ A 14 ^^^ A 19 ^^^ A 24 = p 4 := by rw [hp]; rfl
  have d0 : p 4 ^^^ rolN (p 1) 1 = d 0 := by rw [hp, hd]; rfl
  have d1 : p 0 ^^^ rolN (p 2) 1 = d 1 := by rw [hp, hd]; rfl
  have d2 : p 1 ^^^ rolN (p 3) 1 = d 2 := by rw [hp, hd]; rfl
  have d3 : p 2 ^^^ rolN (p 4) 1 = d 3 := by rw [hp, hd]; rfl
  have d4 : p 3 ^^^ rolN (p 0) 1 = d 4 := by rw [hp, hd]; rfl
  have t0 : A 0 ^^^ d 0 = t 0 := by rw [hd, ht]; rfl
  have t1 : A 1 ^^^ d 1 = t 1 := by rw [hd, ht]; rfl
  have t2 : A 2 ^^^ d 2 = t 2 := by rw [hd, ht]; rfl
  have t3 : A 3 ^^^ d 3 = t 3 := by rw [hd, ht]; rfl
  have t4 : A 4 ^^^ d 4 = t 4 := by rw [hd, ht]; rfl
  have t5 : A 5 ^^^ d 0 = t 5 := by rw [hd, ht]; rfl
  have t6 : A 6 ^^^ d 1 = t 6 := by rw [hd, ht]; rfl
  have t7 : A 7 ^^^ d 2 = t 7 := by rw [hd, ht]; rfl
  have t8 : A 8 ^^^ d 3 = t 8 := by rw [hd, ht]; rfl
  have t9 : A 9 ^^^ d 4 = t 9 := by rw [hd, ht]; rfl
  have t10 : A 10 ^^^ d 0 = t 10 := by rw [hd, ht]; rfl
  have t11 : A 11 ^^^ d 1 = t 11 := by rw [hd, ht]; rfl
  have t12 : A 12 ^^^ d 2 = t 12 := by rw [hd, ht]; rfl
  have t13 : A 13 ^^^ d 3 = t 13 := by rw [hd, ht]; rfl
  have t14 : A 14 ^^^ d 4 = t 14 := by rw [hd, ht]; rfl
  have t15 : A 15 ^^^ d 0 = t 15 := by rw [hd, ht]; rfl
  have t16 : A 16 ^^^ d 1 = t 16 := by rw [hd, ht]; rfl
  have t17 : A 17 ^^^ d 2 = t 17 := by rw [hd, ht]; rfl
  have t18 : A 18 ^^^ d 3 = t 18 := by rw [hd, ht]; rfl
  have t19 : A 19 ^^^ d 4 = t 19 := by rw [hd, ht]; rfl
  have t20 : A 20 ^^^ d 0 = t 20 := by rw [hd, ht]; rfl
  have t21 : A 21 ^^^ d 1 = t 21 := by rw [hd, ht]; rfl
  have t22 : A 22 ^^^ d 2 = t 22 := by rw [hd, ht]; rfl
  have t23 : A 23 ^^^ d 3 = t 23 := by rw [hd, ht]; rfl
  have t24 : A 24 ^^^ d 4 = t 24 := by rw [hd, ht]; rfl
  have r0 : t 0 = r 0 := by rw [ht, hrr]; exact (pi_at0 _).symm
  have r1 : rolN (t 6) 44 = r 1 := by rw [ht, hrr]; exact (pi_at1 _).symm
  have r2 : rolN (t 12) 43 = r 2 := by rw [ht, hrr]; exact (pi_at2 _).symm
  have r3 : rolN (t 18) 21 = r 3 := by rw [ht, hrr]; exact (pi_at3 _).symm
  have r4 : rolN (t 24) 14 = r 4 := by rw [ht, hrr]; exact (pi_at4 _).symm
  have r5 : rolN (t 3) 28 = r 5 := by rw [ht, hrr]; exact (pi_at5 _).symm
  have r6 : rolN (t 9) 20 = r 6 := by rw [ht, hrr]; exact (pi_at6 _).symm
  have r7 : rolN (t 10) 3 = r 7 := by rw [ht, hrr]; exact (pi_at7 _).symm
  have r8 : rolN (t 16) 45 = r 8 := by rw [ht, hrr]; exact (pi_at8 _).symm
  have r9 : rolN (t 22) 61 = r 9 := by rw [ht, hrr]; exact (pi_at9 _).symm
  have r10 : rolN (t 1) 1 = r 10 := by rw [ht, hrr]; exact (pi_at10 _).symm
  have r11 : rolN (t 7) 6 = r 11 := by rw [ht, hrr]; exact (pi_at11 _).symm
  have r12 : rolN (t 13) 25 = r 12 := by rw [ht, hrr]; exact (pi_at12 _).symm
  have r13 : rolN (t 19) 8 = r 13 := by rw [ht, hrr]; exact (pi_at13 _).symm
  have r14 : rolN (t 20) 18 = r 14 := by rw [ht, hrr]; exact (pi_at14 _).symm
  have r15 : rolN (t 4) 27 = r 15 := by rw [ht, hrr]; exact (pi_at15 _).symm
  have r16 : rolN (t 5) 36 = r 16 := by rw [ht, hrr]; exact (pi_at16 _).symm
  have r17 : rolN (t 11) 10 = r 17 := by rw [ht, hrr]; exact (pi_at17 _).symm
  have r18 : rolN (t 17) 15 = r 18 := by rw [ht, hrr]; exact (pi_at18 _).symm
  have r19 : rolN (t 23) 56 = r 19 := by rw [ht, hrr]; exact (pi_at19 _).symm
  have r20 : rolN (t 2) 62 = r 20 := by rw [ht, hrr]; exact (pi_at20 _).symm
  have r21 : rolN (t 8) 55 = r 21 := by rw [ht, hrr]; exact (pi_at21 _).symm
  have r22 : rolN (t 14) 39 = r 22 := by rw [ht, hrr]; exact (pi_at22 _).symm
  have r23 : rolN (t 15) 41 = r 23 := by rw [ht, hrr]; exact (pi_at23 _).symm
  have r24 : rolN (t 21) 2 = r 24 := by rw [ht, hrr]; exact (pi_at24 _).symm
  have m0 : r 0 ^^^ andnN (r 2) (r 1) = m 0 := by rw [hrr, hm]; exact (chi_at0 _).symm
  have m1 : r 1 ^^^ andnN (r 3) (r 2) = m 1 := by rw [hrr, hm]; exact (chi_at1 _).symm
  have m2 : r 2 ^^^ andnN (r 4) (r 3) = m 2 := by rw [hrr, hm]; exact (chi_at2 _).symm
  have m3 : r 3 ^^^ andnN (r 0) (r 4) = m 3 := by rw [hrr, hm]; exact (chi_at3 _).symm
  have m4 : r 4 ^^^ andnN (r 1) (r 0) = m 4 := by rw [hrr, hm]; exact (chi_at4 _).symm
  have m5 : r 5 ^^^ andnN (r 7) (r 6) = m 5 := by rw [hrr, hm]; exact (chi_at5 _).symm
  have m6 : r 6 ^^^ andnN (r 8) (r 7) = m 6 := by rw [hrr, hm]; exact (chi_at6 _).symm
  have m7 : r 7 ^^^ andnN (r 9) (r 8) = m 7 := by rw [hrr, hm]; exact (chi_at7 _).symm
  have m8 : r 8 ^^^ andnN (r 5) (r 9) = m 8 := by rw [hrr, hm]; exact (chi_at8 _).symm
  have m9 : r 9 ^^^ andnN (r 6) (r 5) = m 9 := by rw [hrr, hm]; exact (chi_at9 _).symm
  have m10 : r 10 ^^^ andnN (r 12) (r 11) = m 10 := by rw [hrr, hm]; exact (chi_at10 _).symm
  have m11 : r 11 ^^^ andnN (r 13) (r 12) = m 11 := by rw [hrr, hm]; exact (chi_at11 _).symm
  have m12 : r 12 ^^^ andnN (r 14) (r 13) = m 12 := by rw [hrr, hm]; exact (chi_at12 _).symm
  have m13 : r 13 ^^^ andnN (r 10) (r 14) = m 13 := by rw [hrr, hm]; exact (chi_at13 _).symm
  have m14 : r 14 ^^^ andnN (r 11) (r 10) = m 14 := by rw [hrr, hm]; exact (chi_at14 _).symm
  have m15 : r 15 ^^^ andnN (r 17) (r 16) = m 15 := by rw [hrr, hm]; exact (chi_at15 _).symm
  have m16 : r 16 ^^^ andnN (r 18) (r 17) = m 16 := by rw [hrr, hm]; exact (chi_at16 _).symm
  have m17 : r 17 ^^^ andnN (r 19) (r 18) = m 17 := by rw [hrr, hm]; exact (chi_at17 _).symm
  have m18 : r 18 ^^^ andnN (r 15) (r 19) = m 18 := by rw [hrr, hm]; exact (chi_at18 _).symm
  have m19 : r 19 ^^^ andnN (r 16) (r 15) = m 19 := by rw [hrr, hm]; exact (chi_at19 _).symm
  have m20 : r 20 ^^^ andnN (r 22) (r 21) = m 20 := by rw [hrr, hm]; exact (chi_at20 _).symm
  have m21 : r 21 ^^^ andnN (r 23) (r 22) = m 21 := by rw [hrr, hm]; exact (chi_at21 _).symm
  have m22 : r 22 ^^^ andnN (r 24) (r 23) = m 22 := by rw [hrr, hm]; exact (chi_at22 _).symm
  have m23 : r 23 ^^^ andnN (r 20) (r 24) = m 23 := by rw [hrr, hm]; exact (chi_at23 _).symm
  have m24 : r 24 ^^^ andnN (r 21) (r 20) = m 24 := by rw [hrr, hm]; exact (chi_at24 _).symm
  have lp : ∀ i, p i < 18446744073709551616 := fun i => by rw [hp]; exact colN_lt hA i
  have ld : ∀ i, d i < 18446744073709551616 := fun i => by rw [hd]; exact dltN_lt hA i
  have lt : ∀ i, t i < 18446744073709551616 := fun i => by rw [ht]; exact theta_lan hA i
  have lr : ∀ i, r i < 18446744073709551616 := fun i => by rw [hrr]; exact pi_lan (theta_lan hA) i
  have lm : ∀ i, m i < 18446744073709551616 := fun i => by rw [hm]; exact mix_lan hA i
  have cr1 : ∀ w, Calls Tryz.prog 150 #[.int .u64 ((t 6 : Nat) : Int), .int .i64 44] w fun e w' => e = .returned (.int .u64 ((r 1 : Nat) : Int)) ∧ w = w' := fun w => by have := rotl_any (t 6) 44 (lt _) (by decide) (by decide) w; rwa [r1] at this
  have cr2 : ∀ w, Calls Tryz.prog 150 #[.int .u64 ((t 12 : Nat) : Int), .int .i64 43] w fun e w' => e = .returned (.int .u64 ((r 2 : Nat) : Int)) ∧ w = w' := fun w => by have := rotl_any (t 12) 43 (lt _) (by decide) (by decide) w; rwa [r2] at this
  have cr3 : ∀ w, Calls Tryz.prog 150 #[.int .u64 ((t 18 : Nat) : Int), .int .i64 21] w fun e w' => e = .returned (.int .u64 ((r 3 : Nat) : Int)) ∧ w = w' := fun w => by have := rotl_any (t 18) 21 (lt _) (by decide) (by decide) w; rwa [r3] at this
  have cr4 : ∀ w, Calls Tryz.prog 150 #[.int .u64 ((t 24 : Nat) : Int), .int .i64 14] w fun e w' => e = .returned (.int .u64 ((r 4 : Nat) : Int)) ∧ w = w' := fun w => by have := rotl_any (t 24) 14 (lt _) (by decide) (by decide) w; rwa [r4] at this
  have cr5 : ∀ w, Calls Tryz.prog 150 #[.int .u64 ((t 3 : Nat) : Int), .int .i64 28] w fun e w' => e = .returned (.int .u64 ((r 5 : Nat) : Int)) ∧ w = w' := fun w => by have := rotl_any (t 3) 28 (lt _) (by decide) (by decide) w; rwa [r5] at this
  have cr6 : ∀ w, Calls Tryz.prog 150 #[.int .u64 ((t 9 : Nat) : Int), .int .i64 20] w fun e w' => e = .returned (.int .u64 ((r 6 : Nat) : Int)) ∧ w = w' := fun w => by have := rotl_any (t 9) 20 (lt _) (by decide) (by decide) w; rwa [r6] at this
  have cr7 : ∀ w, Calls Tryz.prog 150 #[.int .u64 ((t 10 : Nat) : Int), .int .i64 3] w fun e w' => e = .returned (.int .u64 ((r 7 : Nat) : Int)) ∧ w = w' := fun w => by have := rotl_any (t 10) 3 (lt _) (by decide) (by decide) w; rwa [r7] at this
  have cr8 : ∀ w, Calls Tryz.prog 150 #[.int .u64 ((t 16 : Nat) : Int), .int .i64 45] w fun e w' => e = .returned (.int .u64 ((r 8 : Nat) : Int)) ∧ w = w' := fun w => by have := rotl_any (t 16) 45 (lt _) (by decide) (by decide) w; rwa [r8] at this
  have cr9 : ∀ w, Calls Tryz.prog 150 #[.int .u64 ((t 22 : Nat) : Int), .int .i64 61] w fun e w' => e = .returned (.int .u64 ((r 9 : Nat) : Int)) ∧ w = w' := fun w => by have := rotl_any (t 22) 61 (lt _) (by decide) (by decide) w; rwa [r9] at this
  have cr10 : ∀ w, Calls Tryz.prog 150 #[.int .u64 ((t 1 : Nat) : Int), .int .i64 1] w fun e w' => e = .returned (.int .u64 ((r 10 : Nat) : Int)) ∧ w = w' := fun w => by have := rotl_any (t 1) 1 (lt _) (by decide) (by decide) w; rwa [r10] at this
  have cr11 : ∀ w, Calls Tryz.prog 150 #[.int .u64 ((t 7 : Nat) : Int), .int .i64 6] w fun e w' => e = .returned (.int .u64 ((r 11 : Nat) : Int)) ∧ w = w' := fun w => by have := rotl_any (t 7) 6 (lt _) (by decide) (by decide) w; rwa [r11] at this
  have cr12 : ∀ w, Calls Tryz.prog 150 #[.int .u64 ((t 13 : Nat) : Int), .int .i64 25] w fun e w' => e = .returned (.int .u64 ((r 12 : Nat) : Int)) ∧ w = w' := fun w => by have := rotl_any (t 13) 25 (lt _) (by decide) (by decide) w; rwa [r12] at this
  have cr13 : ∀ w, Calls Tryz.prog 150 #[.int .u64 ((t 19 : Nat) : Int), .int .i64 8] w fun e w' => e = .returned (.int .u64 ((r 13 : Nat) : Int)) ∧ w = w' := fun w => by have := rotl_any (t 19) 8 (lt _) (by decide) (by decide) w; rwa [r13] at this
  have cr14 : ∀ w, Calls Tryz.prog 150 #[.int .u64 ((t 20 : Nat) : Int), .int .i64 18] w fun e w' => e = .returned (.int .u64 ((r 14 : Nat) : Int)) ∧ w = w' := fun w => by have := rotl_any (t 20) 18 (lt _) (by decide) (by decide) w; rwa [r14] at this
  have cr15 : ∀ w, Calls Tryz.prog 150 #[.int .u64 ((t 4 : Nat) : Int), .int .i64 27] w fun e w' => e = .returned (.int .u64 ((r 15 : Nat) : Int)) ∧ w = w' := fun w => by have := rotl_any (t 4) 27 (lt _) (by decide) (by decide) w; rwa [r15] at this
  have cr16 : ∀ w, Calls Tryz.prog 150 #[.int .u64 ((t 5 : Nat) : Int), .int .i64 36] w fun e w' => e = .returned (.int .u64 ((r 16 : Nat) : Int)) ∧ w = w' := fun w => by have := rotl_any (t 5) 36 (lt _) (by decide) (by decide) w; rwa [r16] at this
  have cr17 : ∀ w, Calls Tryz.prog 150 #[.int .u64 ((t 11 : Nat) : Int), .int .i64 10] w fun e w' => e = .returned (.int .u64 ((r 17 : Nat) : Int)) ∧ w = w' := fun w => by have := rotl_any (t 11) 10 (lt _) (by decide) (by decide) w; rwa [r17] at this
  have cr18 : ∀ w, Calls Tryz.prog 150 #[.int .u64 ((t 17 : Nat) : Int), .int .i64 15] w fun e w' => e = .returned (.int .u64 ((r 18 : Nat) : Int)) ∧ w = w' := fun w => by have := rotl_any (t 17) 15 (lt _) (by decide) (by decide) w; rwa [r18] at this
  have cr19 : ∀ w, Calls Tryz.prog 150 #[.int .u64 ((t 23 : Nat) : Int), .int .i64 56] w fun e w' => e = .returned (.int .u64 ((r 19 : Nat) : Int)) ∧ w = w' := fun w => by have := rotl_any (t 23) 56 (lt _) (by decide) (by decide) w; rwa [r19] at this
  have cr20 : ∀ w, Calls Tryz.prog 150 #[.int .u64 ((t 2 : Nat) : Int), .int .i64 62] w fun e w' => e = .returned (.int .u64 ((r 20 : Nat) : Int)) ∧ w = w' := fun w => by have := rotl_any (t 2) 62 (lt _) (by decide) (by decide) w; rwa [r20] at this
  have cr21 : ∀ w, Calls Tryz.prog 150 #[.int .u64 ((t 8 : Nat) : Int), .int .i64 55] w fun e w' => e = .returned (.int .u64 ((r 21 : Nat) : Int)) ∧ w = w' := fun w => by have := rotl_any (t 8) 55 (lt _) (by decide) (by decide) w; rwa [r21] at this
  have cr22 : ∀ w, Calls Tryz.prog 150 #[.int .u64 ((t 14 : Nat) : Int), .int .i64 39] w fun e w' => e = .returned (.int .u64 ((r 22 : Nat) : Int)) ∧ w = w' := fun w => by have := rotl_any (t 14) 39 (lt _) (by decide) (by decide) w; rwa [r22] at this
  have cr23 : ∀ w, Calls Tryz.prog 150 #[.int .u64 ((t 15 : Nat) : Int), .int .i64 41] w fun e w' => e = .returned (.int .u64 ((r 23 : Nat) : Int)) ∧ w = w' := fun w => by have := rotl_any (t 15) 41 (lt _) (by decide) (by decide) w; rwa [r23] at this
  have cr24 : ∀ w, Calls Tryz.prog 150 #[.int .u64 ((t 21 : Nat) : Int), .int .i64 2] w fun e w' => e = .returned (.int .u64 ((r 24 : Nat) : Int)) ∧ w = w' := fun w => by have := rotl_any (t 21) 2 (lt _) (by decide) (by decide) w; rwa [r24] at this
  have cp0 : ∀ w, Calls Tryz.prog 150 #[.int .u64 ((p 0 : Nat) : Int), .int .i64 1] w fun e w' => e = .returned (.int .u64 ((rolN (p 0) 1 : Nat) : Int)) ∧ w = w' := fun w => rotl_any (p 0) 1 (lp _) (by decide) (by decide) w
  have cp1 : ∀ w, Calls Tryz.prog 150 #[.int .u64 ((p 1 : Nat) : Int), .int .i64 1] w fun e w' => e = .returned (.int .u64 ((rolN (p 1) 1 : Nat) : Int)) ∧ w = w' := fun w => rotl_any (p 1) 1 (lp _) (by decide) (by decide) w
  have cp2 : ∀ w, Calls Tryz.prog 150 #[.int .u64 ((p 2 : Nat) : Int), .int .i64 1] w fun e w' => e = .returned (.int .u64 ((rolN (p 2) 1 : Nat) : Int)) ∧ w = w' := fun w => rotl_any (p 2) 1 (lp _) (by decide) (by decide) w
  have cp3 : ∀ w, Calls Tryz.prog 150 #[.int .u64 ((p 3 : Nat) : Int), .int .i64 1] w fun e w' => e = .returned (.int .u64 ((rolN (p 3) 1 : Nat) : Int)) ∧ w = w' := fun w => rotl_any (p 3) 1 (lp _) (by decide) (by decide) w
  have cp4 : ∀ w, Calls Tryz.prog 150 #[.int .u64 ((p 4 : Nat) : Int), .int .i64 1] w fun e w' => e = .returned (.int .u64 ((rolN (p 4) 1 : Nat) : Int)) ∧ w = w' := fun w => rotl_any (p 4) 1 (lp _) (by decide) (by decide) w
  have cm0 : ∀ w, Calls Tryz.prog 151 #[.int .u64 ((t 0 : Nat) : Int), .int .u64 ((r 1 : Nat) : Int), .int .u64 ((r 2 : Nat) : Int), .int .u64 ((r 3 : Nat) : Int), .int .u64 ((r 4 : Nat) : Int)] w fun e w' => e = .returned (.tuple #[.int .u64 ((m 0 : Nat) : Int), .int .u64 ((m 1 : Nat) : Int), .int .u64 ((m 2 : Nat) : Int), .int .u64 ((m 3 : Nat) : Int), .int .u64 ((m 4 : Nat) : Int)]) ∧ w = w' := fun w => by rw [r0]; have := mixrow_any (r 0) (r 1) (r 2) (r 3) (r 4) (lr _) (lr _) (lr _) (lr _) (lr _) w; rwa [m0, m1, m2, m3, m4] at this
  have cm1 : ∀ w, Calls Tryz.prog 151 #[.int .u64 ((r 5 : Nat) : Int), .int .u64 ((r 6 : Nat) : Int), .int .u64 ((r 7 : Nat) : Int), .int .u64 ((r 8 : Nat) : Int), .int .u64 ((r 9 : Nat) : Int)] w fun e w' => e = .returned (.tuple #[.int .u64 ((m 5 : Nat) : Int), .int .u64 ((m 6 : Nat) : Int), .int .u64 ((m 7 : Nat) : Int), .int .u64 ((m 8 : Nat) : Int), .int .u64 ((m 9 : Nat) : Int)]) ∧ w = w' := fun w => by have := mixrow_any (r 5) (r 6) (r 7) (r 8) (r 9) (lr _) (lr _) (lr _) (lr _) (lr _) w; rwa [m5, m6, m7, m8, m9] at this
  have cm2 : ∀ w, Calls Tryz.prog 151 #[.int .u64 ((r 10 : Nat) : Int), .int .u64 ((r 11 : Nat) : Int), .int .u64 ((r 12 : Nat) : Int), .int .u64 ((r 13 : Nat) : Int), .int .u64 ((r 14 : Nat) : Int)] w fun e w' => e = .returned (.tuple #[.int .u64 ((m 10 : Nat) : Int), .int .u64 ((m 11 : Nat) : Int), .int .u64 ((m 12 : Nat) : Int), .int .u64 ((m 13 : Nat) : Int), .int .u64 ((m 14 : Nat) : Int)]) ∧ w = w' := fun w => by have := mixrow_any (r 10) (r 11) (r 12) (r 13) (r 14) (lr _) (lr _) (lr _) (lr _) (lr _) w; rwa [m10, m11, m12, m13, m14] at this
  have cm3 : ∀ w, Calls Tryz.prog 151 #[.int .u64 ((r 15 : Nat) : Int), .int .u64 ((r 16 : Nat) : Int), .int .u64 ((r 17 : Nat) : Int), .int .u64 ((r 18 : Nat) : Int), .int .u64 ((r 19 : Nat) : Int)] w fun e w' => e = .returned (.tuple #[.int .u64 ((m 15 : Nat) : Int), .int .u64 ((m 16 : Nat) : Int), .int .u64 ((m 17 : Nat) : Int), .int .u64 ((m 18 : Nat) : Int), .int .u64 ((m 19 : Nat) : Int)]) ∧ w = w' := fun w => by have := mixrow_any (r 15) (r 16) (r 17) (r 18) (r 19) (lr _) (lr _) (lr _) (lr _) (lr _) w; rwa [m15, m16, m17, m18, m19] at this
  have cm4 : ∀ w, Calls Tryz.prog 151 #[.int .u64 ((r 20 : Nat) : Int), .int .u64 ((r 21 : Nat) : Int), .int .u64 ((r 22 : Nat) : Int), .int .u64 ((r 23 : Nat) : Int), .int .u64 ((r 24 : Nat) : Int)] w fun e w' => e = .returned (.tuple #[.int .u64 ((m 20 : Nat) : Int), .int .u64 ((m 21 : Nat) : Int), .int .u64 ((m 22 : Nat) : Int), .int .u64 ((m 23 : Nat) : Int), .int .u64 ((m 24 : Nat) : Int)]) ∧ w = w' := fun w => by have := mixrow_any (r 20) (r 21) (r 22) (r 23) (r 24) (lr _) (lr _) (lr _) (lr _) (lr _) w; rwa [m20, m21, m22, m23, m24] at this
  have xd0 : bits BinOp.xor IntKind.u64 ((p 4 : Nat) : Int) ((rolN (p 1) 1 : Nat) : Int) = ((d 0 : Nat) : Int) := by rw [u64_xor_nat _ _ (lp _) (rolN_lt (lp _)), d0]
  have xd1 : bits BinOp.xor IntKind.u64 ((p 0 : Nat) : Int) ((rolN (p 2) 1 : Nat) : Int) = ((d 1 : Nat) : Int) := by rw [u64_xor_nat _ _ (lp _) (rolN_lt (lp _)), d1]
  have xd2 : bits BinOp.xor IntKind.u64 ((p 1 : Nat) : Int) ((rolN (p 3) 1 : Nat) : Int) = ((d 2 : Nat) : Int) := by rw [u64_xor_nat _ _ (lp _) (rolN_lt (lp _)), d2]
  have xd3 : bits BinOp.xor IntKind.u64 ((p 2 : Nat) : Int) ((rolN (p 4) 1 : Nat) : Int) = ((d 3 : Nat) : Int) := by rw [u64_xor_nat _ _ (lp _) (rolN_lt (lp _)), d3]
  have xd4 : bits BinOp.xor IntKind.u64 ((p 3 : Nat) : Int) ((rolN (p 0) 1 : Nat) : Int) = ((d 4 : Nat) : Int) := by rw [u64_xor_nat _ _ (lp _) (rolN_lt (lp _)), d4]
  have HD := hQz (And.intro xd0 (And.intro xd1 (And.intro xd2 (And.intro xd3 xd4))))
  have HX := hQz (And.intro p0 (And.intro p1 (And.intro p2 (And.intro p3 (And.intro p4 (And.intro d0 (And.intro d1 (And.intro d2 (And.intro d3 (And.intro d4 (And.intro t0 (And.intro t1 (And.intro t2 (And.intro t3 (And.intro t4 (And.intro t5 (And.intro t6 (And.intro t7 (And.intro t8 (And.intro t9 (And.intro t10 (And.intro t11 (And.intro t12 (And.intro t13 (And.intro t14 (And.intro t15 (And.intro t16 (And.intro t17 (And.intro t18 (And.intro t19 (And.intro t20 (And.intro t21 (And.intro t22 (And.intro t23 t24))))))))))))))))))))))))))))))))))
  have HC := hQz (And.intro cr1 (And.intro cr2 (And.intro cr3 (And.intro cr4 (And.intro cr5 (And.intro cr6 (And.intro cr7 (And.intro cr8 (And.intro cr9 (And.intro cr10 (And.intro cr11 (And.intro cr12 (And.intro cr13 (And.intro cr14 (And.intro cr15 (And.intro cr16 (And.intro cr17 (And.intro cr18 (And.intro cr19 (And.intro cr20 (And.intro cr21 (And.intro cr22 (And.intro cr23 (And.intro cr24 (And.intro cp0 (And.intro cp1 (And.intro cp2 (And.intro cp3 (And.intro cp4 (And.intro cm0 (And.intro cm1 (And.intro cm2 (And.intro cm3 cm4)))))))))))))))))))))))))))))))))
  have HRN := hQz hr
  clear hr
  have HM := hQz (And.intro hm hp)
  have HB := hQz (And.intro hA (And.intro lp (And.intro ld (And.intro lt (And.intro lr lm)))))
  have HN := hQz (And.intro hca hcb)
  clear p0 p1 p2 p3 p4 d0 d1 d2 d3 d4 t0 t1 t2 t3 t4 t5 t6 t7 t8 t9 t10 t11 t12 t13 t14 t15 t16 t17 t18 t19 t20 t21 t22 t23 t24 r0 r1 r2 r3 r4 r5 r6 r7 r8 r9 r10 r11 r12 r13 r14 r15 r16 r17 r18 r19 r20 r21 r22 r23 r24 m0 m1 m2 m3 m4 m5 m6 m7 m8 m9 m10 m11 m12 m13 m14 m15 m16 m17 m18 m19 m20 m21 m22 m23 m24 cr1 cr2 cr3 cr4 cr5 cr6 cr7 cr8 cr9 cr10 cr11 cr12 cr13 cr14 cr15 cr16 cr17 cr18 cr19 cr20 cr21 cr22 cr23 cr24 cp0 cp1 cp2 cp3 cp4 cm0 cm1 cm2 cm3 cm4 xd0 xd1 xd2 xd3 xd4 lp ld lt lr lm hA hca hcb hp hd ht hrr hm
  have hS := St.two hbb hba hne
  have HBA := hQz hba
  clear hbb hba
  go_enter Tryz.func138, Tryz.ntmps138
  go_upto_region 0 with (fail)
  try simp only [Act.put, ppA, ppB, ppC]
  refine k_region (C := fun w' => St [bb, ba] w w' _) (by kernel_rfl) (by as_aux_lemma => kernel_rfl) hS.drew ?_
  refine k_ptr _ rfl _ rfl rfl ?_; try simp only [Act.put, ppA, ppB, ppC]
  refine k_nil _ rfl _ rfl rfl ?_; try simp only [Act.put, ppA, ppB, ppC]
  refine k_idx 0 rfl 171 _ _ rfl rfl rfl lanes_type u64_size (by decide) ?_; try simp only [Act.put, ppA, ppB, ppC]
  refine k_cell (j := 0) rfl 113 _ rfl rfl (by repeat (first | exact At.head | apply At.tail)) (lay_get (show 0 < 25 by decide) HN.out.1) u64_agg ?_; try simp only [Act.put, ppA, ppB, ppC]
  refine k_ptr _ rfl _ rfl rfl ?_; try simp only [Act.put, ppA, ppB, ppC]
  refine k_nil _ rfl _ rfl rfl ?_; try simp only [Act.put, ppA, ppB, ppC]
  refine k_idx 5 rfl 171 _ _ rfl rfl rfl lanes_type u64_size (by decide) ?_; try simp only [Act.put, ppA, ppB, ppC]
  refine k_cell (j := 5) rfl 113 _ rfl rfl (by repeat (first | exact At.head | apply At.tail)) (lay_get (show 5 < 25 by decide) HN.out.1) u64_agg ?_; try simp only [Act.put, ppA, ppB, ppC]
  refine k_xor rfl _ _ _ _ rfl rfl rfl rfl (HB.out.1 _) (HB.out.1 _) ?_; try simp only [Act.put, ppA, ppB, ppC]
  refine k_ptr _ rfl _ rfl rfl ?_; try simp only [Act.put, ppA, ppB, ppC]
  refine k_nil _ rfl _ rfl rfl ?_; try simp only [Act.put, ppA, ppB, ppC]
  refine k_idx 10 rfl 171 _ _ rfl rfl rfl lanes_type u64_size (by decide) ?_; try simp only [Act.put, ppA, ppB, ppC]
  refine k_cell (j := 10) rfl 113 _ rfl rfl (by repeat (first | exact At.head | apply At.tail)) (lay_get (show 10 < 25 by decide) HN.out.1) u64_agg ?_; try simp only [Act.put, ppA, ppB, ppC]
  refine k_xor rfl _ _ _ _ rfl rfl rfl rfl (x64 (HB.out.1 _) (HB.out.1 _)) (HB.out.1 _) ?_; try simp only [Act.put, ppA, ppB, ppC]
  refine k_ptr _ rfl _ rfl rfl ?_; try simp only [Act.put, ppA, ppB, ppC]
  refine k_nil _ rfl _ rfl rfl ?_; try simp only [Act.put, ppA, ppB, ppC]
  refine k_idx 15 rfl 171 _ _ rfl rfl rfl lanes_type u64_size (by decide) ?_; try simp only [Act.put, ppA, ppB, ppC]
  refine k_cell (j := 15) rfl 113 _ rfl rfl (by repeat (first | exact At.head | apply At.tail)) (lay_get (show 15 < 25 by decide) HN.out.1) u64_agg ?_; try simp only [Act.put, ppA, ppB, ppC]
  refine k_xor rfl _ _ _ _ rfl rfl rfl rfl (x64 (x64 (HB.out.1 _) (HB.out.1 _)) (HB.out.1 _)) (HB.out.1 _) ?_; try simp only [Act.put, ppA, ppB, ppC]
  refine k_ptr _ rfl _ rfl rfl ?_; try simp only [Act.put, ppA, ppB, ppC]
  refine k_nil _ rfl _ rfl rfl ?_; try simp only [Act.put, ppA, ppB, ppC]
  refine k_idx 20 rfl 171 _ _ rfl rfl rfl lanes_type u64_size (by decide) ?_; try simp only [Act.put, ppA, ppB, ppC]
  refine k_cell (j := 20) rfl 113 _ rfl rfl (by repeat (first | exact At.head | apply At.tail)) (lay_get (show 20 < 25 by decide) HN.out.1) u64_agg ?_; try simp only [Act.put, ppA, ppB, ppC]
  refine k_xor (s := p 0) rfl _ _ _ _ rfl rfl rfl HX.out.1 (x64 (x64 (x64 (HB.out.1 _) (HB.out.1 _)) (HB.out.1 _)) (HB.out.1 _)) (HB.out.1 _) ?_; try simp only [Act.put, ppA, ppB, ppC]
  refine k_inta rfl _ rfl rfl ?_; try simp only [Act.put, ppA, ppB, ppC]
  refine k_end ?_
  clear hS
  intro w1 hS
  go_upto_region 1 with (fail)
  try simp only [Act.put, ppA, ppB, ppC]
  refine k_region (C := fun w' => St [bb, ba] w w' _) (by kernel_rfl) (by as_aux_lemma => kernel_rfl) hS.drew ?_
  refine k_ptr _ rfl _ rfl rfl ?_; try simp only [Act.put, ppA, ppB, ppC]
  refine k_nil _ rfl _ rfl rfl ?_; try simp only [Act.put, ppA, ppB, ppC]
  refine k_idx 1 rfl 171 _ _ rfl rfl rfl lanes_type u64_size (by decide) ?_; try simp only [Act.put, ppA, ppB, ppC]
  refine k_cell (j := 1) rfl 113 _ rfl rfl (by repeat (first | exact At.head | apply At.tail)) (lay_get (show 1 < 25 by decide) HN.out.1) u64_agg ?_; try simp only [Act.put, ppA, ppB, ppC]
  refine k_ptr _ rfl _ rfl rfl ?_; try simp only [Act.put, ppA, ppB, ppC]
  refine k_nil _ rfl _ rfl rfl ?_; try simp only [Act.put, ppA, ppB, ppC]
  refine k_idx 6 rfl 171 _ _ rfl rfl rfl lanes_type u64_size (by decide) ?_; try simp only [Act.put, ppA, ppB, ppC]
  refine k_cell (j := 6) rfl 113 _ rfl rfl (by repeat (first | exact At.head | apply At.tail)) (lay_get (show 6 < 25 by decide) HN.out.1) u64_agg ?_; try simp only [Act.put, ppA, ppB, ppC]
  refine k_xor rfl _ _ _ _ rfl rfl rfl rfl (HB.out.1 _) (HB.out.1 _) ?_; try simp only [Act.put, ppA, ppB, ppC]
  refine k_ptr _ rfl _ rfl rfl ?_; try simp only [Act.put, ppA, ppB, ppC]
  refine k_nil _ rfl _ rfl rfl ?_; try simp only [Act.put, ppA, ppB, ppC]
  refine k_idx 11 rfl 171 _ _ rfl rfl rfl lanes_type u64_size (by decide) ?_; try simp only [Act.put, ppA, ppB, ppC]
  refine k_cell (j := 11) rfl 113 _ rfl rfl (by repeat (first | exact At.head | apply At.tail)) (lay_get (show 11 < 25 by decide) HN.out.1) u64_agg ?_; try simp only [Act.put, ppA, ppB, ppC]
  refine k_xor rfl _ _ _ _ rfl rfl rfl rfl (x64 (HB.out.1 _) (HB.out.1 _)) (HB.out.1 _) ?_; try simp only [Act.put, ppA, ppB, ppC]
  refine k_ptr _ rfl _ rfl rfl ?_; try simp only [Act.put, ppA, ppB, ppC]
  refine k_nil _ rfl _ rfl rfl ?_; try simp only [Act.put, ppA, ppB, ppC]
  refine k_idx 16 rfl 171 _ _ rfl rfl rfl lanes_type u64_size (by decide) ?_; try simp only [Act.put, ppA, ppB, ppC]
  refine k_cell (j := 16) rfl 113 _ rfl rfl (by repeat (first | exact At.head | apply At.tail)) (lay_get (show 16 < 25 by decide) HN.out.1) u64_agg ?_; try simp only [Act.put, ppA, ppB, ppC]
  refine k_xor rfl _ _ _ _ rfl rfl rfl rfl (x64 (x64 (HB.out.1 _) (HB.out.1 _)) (HB.out.1 _)) (HB.out.1 _) ?_; try simp only [Act.put, ppA, ppB, ppC]
  refine k_ptr _ rfl _ rfl rfl ?_; try simp only [Act.put, ppA, ppB, ppC]
  refine k_nil _ rfl _ rfl rfl ?_; try simp only [Act.put, ppA, ppB, ppC]
  refine k_idx 21 rfl 171 _ _ rfl rfl rfl lanes_type u64_size (by decide) ?_; try simp only [Act.put, ppA, ppB, ppC]
  refine k_cell (j := 21) rfl 113 _ rfl rfl (by repeat (first | exact At.head | apply At.tail)) (lay_get (show 21 < 25 by decide) HN.out.1) u64_agg ?_; try simp only [Act.put, ppA, ppB, ppC]
  refine k_xor (s := p 1) rfl _ _ _ _ rfl rfl rfl HX.out.2.1 (x64 (x64 (x64 (HB.out.1 _) (HB.out.1 _)) (HB.out.1 _)) (HB.out.1 _)) (HB.out.1 _) ?_; try simp only [Act.put, ppA, ppB, ppC]
  refine k_inta rfl _ rfl rfl ?_; try simp only [Act.put, ppA, ppB, ppC]
  refine k_end ?_
  clear hS
  intro w1 hS
  go_upto_region 2 with (fail)
  try simp only [Act.put, ppA, ppB, ppC]
  refine k_region (C := fun w' => St [bb, ba] w w' _) (by kernel_rfl) (by as_aux_lemma => kernel_rfl) hS.drew ?_
  refine k_ptr _ rfl _ rfl rfl ?_; try simp only [Act.put, ppA, ppB, ppC]
  refine k_nil _ rfl _ rfl rfl ?_; try simp only [Act.put, ppA, ppB, ppC]
  refine k_idx 2 rfl 171 _ _ rfl rfl rfl lanes_type u64_size (by decide) ?_; try simp only [Act.put, ppA, ppB, ppC]
  refine k_cell (j := 2) rfl 113 _ rfl rfl (by repeat (first | exact At.head | apply At.tail)) (lay_get (show 2 < 25 by decide) HN.out.1) u64_agg ?_; try simp only [Act.put, ppA, ppB, ppC]
  refine k_ptr _ rfl _ rfl rfl ?_; try simp only [Act.put, ppA, ppB, ppC]
  refine k_nil _ rfl _ rfl rfl ?_; try simp only [Act.put, ppA, ppB, ppC]
  refine k_idx 7 rfl 171 _ _ rfl rfl rfl lanes_type u64_size (by decide) ?_; try simp only [Act.put, ppA, ppB, ppC]
  refine k_cell (j := 7) rfl 113 _ rfl rfl (by repeat (first | exact At.head | apply At.tail)) (lay_get (show 7 < 25 by decide) HN.out.1) u64_agg ?_; try simp only [Act.put, ppA, ppB, ppC]
  refine k_xor rfl _ _ _ _ rfl rfl rfl rfl (HB.out.1 _) (HB.out.1 _) ?_; try simp only [Act.put, ppA, ppB, ppC]
  refine k_ptr _ rfl _ rfl rfl ?_; try simp only [Act.put, ppA, ppB, ppC]
  refine k_nil _ rfl _ rfl rfl ?_; try simp only [Act.put, ppA, ppB, ppC]
  refine k_idx 12 rfl 171 _ _ rfl rfl rfl lanes_type u64_size (by decide) ?_; try simp only [Act.put, ppA, ppB, ppC]
  refine k_cell (j := 12) rfl 113 _ rfl rfl (by repeat (first | exact At.head | apply At.tail)) (lay_get (show 12 < 25 by decide) HN.out.1) u64_agg ?_; try simp only [Act.put, ppA, ppB, ppC]
  refine k_xor rfl _ _ _ _ rfl rfl rfl rfl (x64 (HB.out.1 _) (HB.out.1 _)) (HB.out.1 _) ?_; try simp only [Act.put, ppA, ppB, ppC]
  refine k_ptr _ rfl _ rfl rfl ?_; try simp only [Act.put, ppA, ppB, ppC]
  refine k_nil _ rfl _ rfl rfl ?_; try simp only [Act.put, ppA, ppB, ppC]
  refine k_idx 17 rfl 171 _ _ rfl rfl rfl lanes_type u64_size (by decide) ?_; try simp only [Act.put, ppA, ppB, ppC]
  refine k_cell (j := 17) rfl 113 _ rfl rfl (by repeat (first | exact At.head | apply At.tail)) (lay_get (show 17 < 25 by decide) HN.out.1) u64_agg ?_; try simp only [Act.put, ppA, ppB, ppC]
  refine k_xor rfl _ _ _ _ rfl rfl rfl rfl (x64 (x64 (HB.out.1 _) (HB.out.1 _)) (HB.out.1 _)) (HB.out.1 _) ?_; try simp only [Act.put, ppA, ppB, ppC]
  refine k_ptr _ rfl _ rfl rfl ?_; try simp only [Act.put, ppA, ppB, ppC]
  refine k_nil _ rfl _ rfl rfl ?_; try simp only [Act.put, ppA, ppB, ppC]
  refine k_idx 22 rfl 171 _ _ rfl rfl rfl lanes_type u64_size (by decide) ?_; try simp only [Act.put, ppA, ppB, ppC]
  refine k_cell (j := 22) rfl 113 _ rfl rfl (by repeat (first | exact At.head | apply At.tail)) (lay_get (show 22 < 25 by decide) HN.out.1) u64_agg ?_; try simp only [Act.put, ppA, ppB, ppC]
  refine k_xor (s := p 2) rfl _ _ _ _ rfl rfl rfl HX.out.2.2.1 (x64 (x64 (x64 (HB.out.1 _) (HB.out.1 _)) (HB.out.1 _)) (HB.out.1 _)) (HB.out.1 _) ?_; try simp only [Act.put, ppA, ppB, ppC]
  refine k_inta rfl _ rfl rfl ?_; try simp only [Act.put, ppA, ppB, ppC]
  refine k_end ?_
  clear hS
  intro w1 hS
  go_upto_region 3 with (fail)
  try simp only [Act.put, ppA, ppB, ppC]
  refine k_region (C := fun w' => St [bb, ba] w w' _) (by kernel_rfl) (by as_aux_lemma => kernel_rfl) hS.drew ?_
  refine k_ptr _ rfl _ rfl rfl ?_; try simp only [Act.put, ppA, ppB, ppC]
  refine k_nil _ rfl _ rfl rfl ?_; try simp only [Act.put, ppA, ppB, ppC]
  refine k_idx 3 rfl 171 _ _ rfl rfl rfl lanes_type u64_size (by decide) ?_; try simp only [Act.put, ppA, ppB, ppC]
  refine k_cell (j := 3) rfl 113 _ rfl rfl (by repeat (first | exact At.head | apply At.tail)) (lay_get (show 3 < 25 by decide) HN.out.1) u64_agg ?_; try simp only [Act.put, ppA, ppB, ppC]
  refine k_ptr _ rfl _ rfl rfl ?_; try simp only [Act.put, ppA, ppB, ppC]
  refine k_nil _ rfl _ rfl rfl ?_; try simp only [Act.put, ppA, ppB, ppC]
  refine k_idx 8 rfl 171 _ _ rfl rfl rfl lanes_type u64_size (by decide) ?_; try simp only [Act.put, ppA, ppB, ppC]
  refine k_cell (j := 8) rfl 113 _ rfl rfl (by repeat (first | exact At.head | apply At.tail)) (lay_get (show 8 < 25 by decide) HN.out.1) u64_agg ?_; try simp only [Act.put, ppA, ppB, ppC]
  refine k_xor rfl _ _ _ _ rfl rfl rfl rfl (HB.out.1 _) (HB.out.1 _) ?_; try simp only [Act.put, ppA, ppB, ppC]
  refine k_ptr _ rfl _ rfl rfl ?_; try simp only [Act.put, ppA, ppB, ppC]
  refine k_nil _ rfl _ rfl rfl ?_; try simp only [Act.put, ppA, ppB, ppC]
  refine k_idx 13 rfl 171 _ _ rfl rfl rfl lanes_type u64_size (by decide) ?_; try simp only [Act.put, ppA, ppB, ppC]
  refine k_cell (j := 13) rfl 113 _ rfl rfl (by repeat (first | exact At.head | apply At.tail)) (lay_get (show 13 < 25 by decide) HN.out.1) u64_agg ?_; try simp only [Act.put, ppA, ppB, ppC]
  refine k_xor rfl _ _ _ _ rfl rfl rfl rfl (x64 (HB.out.1 _) (HB.out.1 _)) (HB.out.1 _) ?_; try simp only [Act.put, ppA, ppB, ppC]
  refine k_ptr _ rfl _ rfl rfl ?_; try simp only [Act.put, ppA, ppB, ppC]
  refine k_nil _ rfl _ rfl rfl ?_; try simp only [Act.put, ppA, ppB, ppC]
  refine k_idx 18 rfl 171 _ _ rfl rfl rfl lanes_type u64_size (by decide) ?_; try simp only [Act.put, ppA, ppB, ppC]
  refine k_cell (j := 18) rfl 113 _ rfl rfl (by repeat (first | exact At.head | apply At.tail)) (lay_get (show 18 < 25 by decide) HN.out.1) u64_agg ?_; try simp only [Act.put, ppA, ppB, ppC]
  refine k_xor rfl _ _ _ _ rfl rfl rfl rfl (x64 (x64 (HB.out.1 _) (HB.out.1 _)) (HB.out.1 _)) (HB.out.1 _) ?_; try simp only [Act.put, ppA, ppB, ppC]
  refine k_ptr _ rfl _ rfl rfl ?_; try simp only [Act.put, ppA, ppB, ppC]
  refine k_nil _ rfl _ rfl rfl ?_; try simp only [Act.put, ppA, ppB, ppC]
  refine k_idx 23 rfl 171 _ _ rfl rfl rfl lanes_type u64_size (by decide) ?_; try simp only [Act.put, ppA, ppB, ppC]
  refine k_cell (j := 23) rfl 113 _ rfl rfl (by repeat (first | exact At.head | apply At.tail)) (lay_get (show 23 < 25 by decide) HN.out.1) u64_agg ?_; try simp only [Act.put, ppA, ppB, ppC]
  refine k_xor (s := p 3) rfl _ _ _ _ rfl rfl rfl HX.out.2.2.2.1 (x64 (x64 (x64 (HB.out.1 _) (HB.out.1 _)) (HB.out.1 _)) (HB.out.1 _)) (HB.out.1 _) ?_; try simp only [Act.put, ppA, ppB, ppC]
  refine k_inta rfl _ rfl rfl ?_; try simp only [Act.put, ppA, ppB, ppC]
  refine k_end ?_
  clear hS
  intro w1 hS
  go_upto_region 4 with (fail)
  try simp only [Act.put, ppA, ppB, ppC]
  refine k_region (C := fun w' => St [bb, ba] w w' _) (by kernel_rfl) (by as_aux_lemma => kernel_rfl) hS.drew ?_
  refine k_ptr _ rfl _ rfl rfl ?_; try simp only [Act.put, ppA, ppB, ppC]
  refine k_nil _ rfl _ rfl rfl ?_; try simp only [Act.put, ppA, ppB, ppC]
  refine k_idx 4 rfl 171 _ _ rfl rfl rfl lanes_type u64_size (by decide) ?_; try simp only [Act.put, ppA, ppB, ppC]
  refine k_cell (j := 4) rfl 113 _ rfl rfl (by repeat (first | exact At.head | apply At.tail)) (lay_get (show 4 < 25 by decide) HN.out.1) u64_agg ?_; try simp only [Act.put, ppA, ppB, ppC]
  refine k_ptr _ rfl _ rfl rfl ?_; try simp only [Act.put, ppA, ppB, ppC]
  refine k_nil _ rfl _ rfl rfl ?_; try simp only [Act.put, ppA, ppB, ppC]
  refine k_idx 9 rfl 171 _ _ rfl rfl rfl lanes_type u64_size (by decide) ?_; try simp only [Act.put, ppA, ppB, ppC]
  refine k_cell (j := 9) rfl 113 _ rfl rfl (by repeat (first | exact At.head | apply At.tail)) (lay_get (show 9 < 25 by decide) HN.out.1) u64_agg ?_; try simp only [Act.put, ppA, ppB, ppC]
  refine k_xor rfl _ _ _ _ rfl rfl rfl rfl (HB.out.1 _) (HB.out.1 _) ?_; try simp only [Act.put, ppA, ppB, ppC]
  refine k_ptr _ rfl _ rfl rfl ?_; try simp only [Act.put, ppA, ppB, ppC]
  refine k_nil _ rfl _ rfl rfl ?_; try simp only [Act.put, ppA, ppB, ppC]
  refine k_idx 14 rfl 171 _ _ rfl rfl rfl lanes_type u64_size (by decide) ?_; try simp only [Act.put, ppA, ppB, ppC]
  refine k_cell (j := 14) rfl 113 _ rfl rfl (by repeat (first | exact At.head | apply At.tail)) (lay_get (show 14 < 25 by decide) HN.out.1) u64_agg ?_; try simp only [Act.put, ppA, ppB, ppC]
  refine k_xor rfl _ _ _ _ rfl rfl rfl rfl (x64 (HB.out.1 _) (HB.out.1 _)) (HB.out.1 _) ?_; try simp only [Act.put, ppA, ppB, ppC]
  refine k_ptr _ rfl _ rfl rfl ?_; try simp only [Act.put, ppA, ppB, ppC]
  refine k_nil _ rfl _ rfl rfl ?_; try simp only [Act.put, ppA, ppB, ppC]
  refine k_idx 19 rfl 171 _ _ rfl rfl rfl lanes_type u64_size (by decide) ?_; try simp only [Act.put, ppA, ppB, ppC]
  refine k_cell (j := 19) rfl 113 _ rfl rfl (by repeat (first | exact At.head | apply At.tail)) (lay_get (show 19 < 25 by decide) HN.out.1) u64_agg ?_; try simp only [Act.put, ppA, ppB, ppC]
  refine k_xor rfl _ _ _ _ rfl rfl rfl rfl (x64 (x64 (HB.out.1 _) (HB.out.1 _)) (HB.out.1 _)) (HB.out.1 _) ?_; try simp only [Act.put, ppA, ppB, ppC]
  refine k_ptr _ rfl _ rfl rfl ?_; try simp only [Act.put, ppA, ppB, ppC]
  refine k_nil _ rfl _ rfl rfl ?_; try simp only [Act.put, ppA, ppB, ppC]
  refine k_idx 24 rfl 171 _ _ rfl rfl rfl lanes_type u64_size (by decide) ?_; try simp only [Act.put, ppA, ppB, ppC]
  refine k_cell (j := 24) rfl 113 _ rfl rfl (by repeat (first | exact At.head | apply At.tail)) (lay_get (show 24 < 25 by decide) HN.out.1) u64_agg ?_; try simp only [Act.put, ppA, ppB, ppC]
  refine k_xor (s := p 4) rfl _ _ _ _ rfl rfl rfl HX.out.2.2.2.2.1 (x64 (x64 (x64 (HB.out.1 _) (HB.out.1 _)) (HB.out.1 _)) (HB.out.1 _)) (HB.out.1 _) ?_; try simp only [Act.put, ppA, ppB, ppC]
  refine k_inta rfl _ rfl rfl ?_; try simp only [Act.put, ppA, ppB, ppC]
  refine k_end ?_
  clear hS
  intro w1 hS
  go_upto_region 5 with (fail)
  try simp only [Act.put, ppA, ppB, ppC]
  refine k_plain (C := fun w' => St [bb, ba] w w' _) hS ?_
  refine k_intm rfl _ rfl rfl ?_; try simp only [Act.put, ppA, ppB, ppC]
  refine k_intm rfl _ rfl rfl ?_; try simp only [Act.put, ppA, ppB, ppC]
  refine k_c2 (v := .int .u64 ((rolN (p 1) 1 : Nat) : Int)) (v1 := .int .u64 ((p 1 : Nat) : Int)) (v2 := .int .i64 1) rfl rfl rfl rfl ⟨Tryz.call150, fun w => HC.out.2.2.2.2.2.2.2.2.2.2.2.2.2.2.2.2.2.2.2.2.2.2.2.2.2.1 w⟩ ?_; try simp only [Act.put, ppA, ppB, ppC]
  refine k_xor (s := d 0) rfl _ _ _ _ rfl rfl rfl HX.out.2.2.2.2.2.1 (HB.out.2.1 _) (rolN_lt (HB.out.2.1 _)) ?_; try simp only [Act.put, ppA, ppB, ppC]
  refine k_inta rfl _ rfl rfl ?_; try simp only [Act.put, ppA, ppB, ppC]
  refine k_end ?_
  clear hS
  intro w1 hS
  go_upto_region 6 with (fail)
  try simp only [Act.put, ppA, ppB, ppC]
  refine k_plain (C := fun w' => St [bb, ba] w w' _) hS ?_
  refine k_intm rfl _ rfl rfl ?_; try simp only [Act.put, ppA, ppB, ppC]
  refine k_intm rfl _ rfl rfl ?_; try simp only [Act.put, ppA, ppB, ppC]
  refine k_c2 (v := .int .u64 ((rolN (p 2) 1 : Nat) : Int)) (v1 := .int .u64 ((p 2 : Nat) : Int)) (v2 := .int .i64 1) rfl rfl rfl rfl ⟨Tryz.call150, fun w => HC.out.2.2.2.2.2.2.2.2.2.2.2.2.2.2.2.2.2.2.2.2.2.2.2.2.2.2.1 w⟩ ?_; try simp only [Act.put, ppA, ppB, ppC]
  refine k_xor (s := d 1) rfl _ _ _ _ rfl rfl rfl HX.out.2.2.2.2.2.2.1 (HB.out.2.1 _) (rolN_lt (HB.out.2.1 _)) ?_; try simp only [Act.put, ppA, ppB, ppC]
  refine k_inta rfl _ rfl rfl ?_; try simp only [Act.put, ppA, ppB, ppC]
  refine k_end ?_
  clear hS
  intro w1 hS
  go_upto_region 7 with (fail)
  try simp only [Act.put, ppA, ppB, ppC]
  refine k_plain (C := fun w' => St [bb, ba] w w' _) hS ?_
  refine k_intm rfl _ rfl rfl ?_; try simp only [Act.put, ppA, ppB, ppC]
  refine k_intm rfl _ rfl rfl ?_; try simp only [Act.put, ppA, ppB, ppC]
  refine k_c2 (v := .int .u64 ((rolN (p 3) 1 : Nat) : Int)) (v1 := .int .u64 ((p 3 : Nat) : Int)) (v2 := .int .i64 1) rfl rfl rfl rfl ⟨Tryz.call150, fun w => HC.out.2.2.2.2.2.2.2.2.2.2.2.2.2.2.2.2.2.2.2.2.2.2.2.2.2.2.2.1 w⟩ ?_; try simp only [Act.put, ppA, ppB, ppC]
  refine k_xor (s := d 2) rfl _ _ _ _ rfl rfl rfl HX.out.2.2.2.2.2.2.2.1 (HB.out.2.1 _) (rolN_lt (HB.out.2.1 _)) ?_; try simp only [Act.put, ppA, ppB, ppC]
  refine k_inta rfl _ rfl rfl ?_; try simp only [Act.put, ppA, ppB, ppC]
  refine k_end ?_
  clear hS
  intro w1 hS
  go_upto_region 8 with (fail)
  try simp only [Act.put, ppA, ppB, ppC]
  refine k_plain (C := fun w' => St [bb, ba] w w' _) hS ?_
  refine k_intm rfl _ rfl rfl ?_; try simp only [Act.put, ppA, ppB, ppC]
  refine k_intm rfl _ rfl rfl ?_; try simp only [Act.put, ppA, ppB, ppC]
  refine k_c2 (v := .int .u64 ((rolN (p 4) 1 : Nat) : Int)) (v1 := .int .u64 ((p 4 : Nat) : Int)) (v2 := .int .i64 1) rfl rfl rfl rfl ⟨Tryz.call150, fun w => HC.out.2.2.2.2.2.2.2.2.2.2.2.2.2.2.2.2.2.2.2.2.2.2.2.2.2.2.2.2.1 w⟩ ?_; try simp only [Act.put, ppA, ppB, ppC]
  refine k_xor (s := d 3) rfl _ _ _ _ rfl rfl rfl HX.out.2.2.2.2.2.2.2.2.1 (HB.out.2.1 _) (rolN_lt (HB.out.2.1 _)) ?_; try simp only [Act.put, ppA, ppB, ppC]
  refine k_inta rfl _ rfl rfl ?_; try simp only [Act.put, ppA, ppB, ppC]
  refine k_end ?_
  clear hS
  intro w1 hS
  go_upto_region 9 with (fail)
  try simp only [Act.put, ppA, ppB, ppC]
  refine k_plain (C := fun w' => St [bb, ba] w w' _) hS ?_
  refine k_intm rfl _ rfl rfl ?_; try simp only [Act.put, ppA, ppB, ppC]
  refine k_intm rfl _ rfl rfl ?_; try simp only [Act.put, ppA, ppB, ppC]
  refine k_c2 (v := .int .u64 ((rolN (p 0) 1 : Nat) : Int)) (v1 := .int .u64 ((p 0 : Nat) : Int)) (v2 := .int .i64 1) rfl rfl rfl rfl ⟨Tryz.call150, fun w => HC.out.2.2.2.2.2.2.2.2.2.2.2.2.2.2.2.2.2.2.2.2.2.2.2.2.1 w⟩ ?_; try simp only [Act.put, ppA, ppB, ppC]
  refine k_xor (s := d 4) rfl _ _ _ _ rfl rfl rfl HX.out.2.2.2.2.2.2.2.2.2.1 (HB.out.2.1 _) (rolN_lt (HB.out.2.1 _)) ?_; try simp only [Act.put, ppA, ppB, ppC]
  refine k_inta rfl _ rfl rfl ?_; try simp only [Act.put, ppA, ppB, ppC]
  refine k_end ?_
  clear hS
  intro w1 hS
  go_upto_region 10 with (fail)
  try simp only [Act.put, ppA, ppB, ppC]
  refine h_region (S := fun w' => Blk w' ba ta (lay ca A)) [(0, true), (1, true), (2, true), (3, true), (4, true), (5, true), (6, true), (7, true), (8, true), (9, true), (10, true), (11, true), (12, true), (13, true), (14, true), (15, true), (16, true), (18, true), (19, true), (20, true), (21, true), (22, true), (23, true), (25, true), (26, true), (27, true), (28, true), (29, true), (30, true), (32, true), (33, true), (34, true), (35, true), (36, true), (37, true), (46, true), (49, true), (52, true), (55, true), (58, true), (17, false), (24, false), (31, false), (38, false), (39, false), (40, true), (41, true), (42, true), (43, true), (44, true), (45, true), (47, true), (48, false), (50, true), (51, false), (53, true), (54, false), (56, true), (57, false), (59, true), (60, false)] (by kernel_rfl) (by as_aux_lemma => kernel_rfl) (by as_aux_lemma => kernel_rfl) (by as_aux_lemma => kernel_rfl) (hS.get (.tail .head)).drew (fun d _ _ _ _ h => by cases d <;> exact h) ?_
  replace hS := hS.drew
  intro ops hops
  simp only [List.map_cons, List.map_nil, brief] at hops
  refine h_val (.pointer (some ⟨bb, 0, none⟩)) _ (bAt hops rfl) rfl ?_; try simp only [Act.put, ppA, ppB, ppC]
  refine h_val (.pointer (some ⟨bb, 0, none⟩)) _ (bAt hops rfl) rfl ?_; try simp only [Act.put, ppA, ppB, ppC]
  refine h_val (.pointer (some ⟨bb, 0, none⟩)) _ (bAt hops rfl) rfl ?_; try simp only [Act.put, ppA, ppB, ppC]
  refine h_val (.pointer (some ⟨bb, 0, none⟩)) _ (bAt hops rfl) rfl ?_; try simp only [Act.put, ppA, ppB, ppC]
  refine h_val (.pointer (some ⟨bb, 0, none⟩)) _ (bAt hops rfl) rfl ?_; try simp only [Act.put, ppA, ppB, ppC]
  refine h_val (.pointer (some ⟨ba, 0, none⟩)) _ (bAt hops rfl) rfl ?_; try simp only [Act.put, ppA, ppB, ppC]
  refine h_nil ⟨ba, 0, none⟩ _ (bAt hops rfl) rfl ?_; try simp only [Act.put, ppA, ppB, ppC]
  refine h_idx (b := ba) 0 171 _ _ (bAt hops rfl) rfl rfl lanes_type u64_size (by decide) ?_; try simp only [Act.put, ppA, ppB, ppC]
  refine h_cell (b := ba) (j := 0) (.int .u64 ((A 0 : Nat) : Int)) 113 _ (bAt hops rfl) rfl u64_agg (fun w h => h.cell (lay_get (show 0 < 25 by decide) HN.out.1)) ?_; try simp only [Act.put, ppA, ppB, ppC]
  refine h_val (.int .u64 ((d 0 : Nat) : Int)) _ (bAt hops rfl) rfl ?_; try simp only [Act.put, ppA, ppB, ppC]
  refine h_xor (s := t 0) _ _ _ _ (bAt hops rfl) rfl rfl HX.out.2.2.2.2.2.2.2.2.2.2.1 (HB.out.1 _) (HB.out.2.2.1 _) ?_; try simp only [Act.put, ppA, ppB, ppC]
  refine h_val (.pointer (some ⟨ba, 0, none⟩)) _ (bAt hops rfl) rfl ?_; try simp only [Act.put, ppA, ppB, ppC]
  refine h_nil ⟨ba, 0, none⟩ _ (bAt hops rfl) rfl ?_; try simp only [Act.put, ppA, ppB, ppC]
  refine h_idx (b := ba) 6 171 _ _ (bAt hops rfl) rfl rfl lanes_type u64_size (by decide) ?_; try simp only [Act.put, ppA, ppB, ppC]
  refine h_cell (b := ba) (j := 6) (.int .u64 ((A 6 : Nat) : Int)) 113 _ (bAt hops rfl) rfl u64_agg (fun w h => h.cell (lay_get (show 6 < 25 by decide) HN.out.1)) ?_; try simp only [Act.put, ppA, ppB, ppC]
  refine h_val (.int .u64 ((d 1 : Nat) : Int)) _ (bAt hops rfl) rfl ?_; try simp only [Act.put, ppA, ppB, ppC]
  refine h_xor (s := t 6) _ _ _ _ (bAt hops rfl) rfl rfl HX.out.2.2.2.2.2.2.2.2.2.2.2.2.2.2.2.2.1 (HB.out.1 _) (HB.out.2.2.1 _) ?_; try simp only [Act.put, ppA, ppB, ppC]
  refine h_val (.pointer (some ⟨ba, 0, none⟩)) _ (bAt hops rfl) rfl ?_; try simp only [Act.put, ppA, ppB, ppC]
  refine h_nil ⟨ba, 0, none⟩ _ (bAt hops rfl) rfl ?_; try simp only [Act.put, ppA, ppB, ppC]
  refine h_idx (b := ba) 12 171 _ _ (bAt hops rfl) rfl rfl lanes_type u64_size (by decide) ?_; try simp only [Act.put, ppA, ppB, ppC]
  refine h_cell (b := ba) (j := 12) (.int .u64 ((A 12 : Nat) : Int)) 113 _ (bAt hops rfl) rfl u64_agg (fun w h => h.cell (lay_get (show 12 < 25 by decide) HN.out.1)) ?_; try simp only [Act.put, ppA, ppB, ppC]
  refine h_val (.int .u64 ((d 2 : Nat) : Int)) _ (bAt hops rfl) rfl ?_; try simp only [Act.put, ppA, ppB, ppC]
  refine h_xor (s := t 12) _ _ _ _ (bAt hops rfl) rfl rfl HX.out.2.2.2.2.2.2.2.2.2.2.2.2.2.2.2.2.2.2.2.2.2.2.1 (HB.out.1 _) (HB.out.2.2.1 _) ?_; try simp only [Act.put, ppA, ppB, ppC]
  refine h_val (.pointer (some ⟨ba, 0, none⟩)) _ (bAt hops rfl) rfl ?_; try simp only [Act.put, ppA, ppB, ppC]
  refine h_nil ⟨ba, 0, none⟩ _ (bAt hops rfl) rfl ?_; try simp only [Act.put, ppA, ppB, ppC]
  refine h_idx (b := ba) 18 171 _ _ (bAt hops rfl) rfl rfl lanes_type u64_size (by decide) ?_; try simp only [Act.put, ppA, ppB, ppC]
  refine h_cell (b := ba) (j := 18) (.int .u64 ((A 18 : Nat) : Int)) 113 _ (bAt hops rfl) rfl u64_agg (fun w h => h.cell (lay_get (show 18 < 25 by decide) HN.out.1)) ?_; try simp only [Act.put, ppA, ppB, ppC]
  refine h_val (.int .u64 ((d 3 : Nat) : Int)) _ (bAt hops rfl) rfl ?_; try simp only [Act.put, ppA, ppB, ppC]
  refine h_xor (s := t 18) _ _ _ _ (bAt hops rfl) rfl rfl HX.out.2.2.2.2.2.2.2.2.2.2.2.2.2.2.2.2.2.2.2.2.2.2.2.2.2.2.2.2.1 (HB.out.1 _) (HB.out.2.2.1 _) ?_; try simp only [Act.put, ppA, ppB, ppC]
  refine h_val (.pointer (some ⟨ba, 0, none⟩)) _ (bAt hops rfl) rfl ?_; try simp only [Act.put, ppA, ppB, ppC]
  refine h_nil ⟨ba, 0, none⟩ _ (bAt hops rfl) rfl ?_; try simp only [Act.put, ppA, ppB, ppC]
  refine h_idx (b := ba) 24 171 _ _ (bAt hops rfl) rfl rfl lanes_type u64_size (by decide) ?_; try simp only [Act.put, ppA, ppB, ppC]
  refine h_cell (b := ba) (j := 24) (.int .u64 ((A 24 : Nat) : Int)) 113 _ (bAt hops rfl) rfl u64_agg (fun w h => h.cell (lay_get (show 24 < 25 by decide) HN.out.1)) ?_; try simp only [Act.put, ppA, ppB, ppC]
  refine h_val (.int .u64 ((d 4 : Nat) : Int)) _ (bAt hops rfl) rfl ?_; try simp only [Act.put, ppA, ppB, ppC]
  refine h_xor (s := t 24) _ _ _ _ (bAt hops rfl) rfl rfl HX.out.2.2.2.2.2.2.2.2.2.2.2.2.2.2.2.2.2.2.2.2.2.2.2.2.2.2.2.2.2.2.2.2.2.2 (HB.out.1 _) (HB.out.2.2.1 _) ?_; try simp only [Act.put, ppA, ppB, ppC]
  refine h_nil ⟨bb, 0, none⟩ _ (bAt hops rfl) rfl ?_; try simp only [Act.put, ppA, ppB, ppC]
  refine h_nil ⟨bb, 0, none⟩ _ (bAt hops rfl) rfl ?_; try simp only [Act.put, ppA, ppB, ppC]
  refine h_nil ⟨bb, 0, none⟩ _ (bAt hops rfl) rfl ?_; try simp only [Act.put, ppA, ppB, ppC]
  refine h_nil ⟨bb, 0, none⟩ _ (bAt hops rfl) rfl ?_; try simp only [Act.put, ppA, ppB, ppC]
  refine h_nil ⟨bb, 0, none⟩ _ (bAt hops rfl) rfl ?_; try simp only [Act.put, ppA, ppB, ppC]
  refine h_c2 (v := .int .u64 ((r 1 : Nat) : Int)) (v1 := .int .u64 ((t 6 : Nat) : Int)) (v2 := .int .i64 44) (bAt hops rfl) rfl rfl ⟨Tryz.call150, fun w => HC.out.1 w⟩ (hS.get (.tail .head)) ?_; try simp only [Act.put, ppA, ppB, ppC]
  refine h_c2 (v := .int .u64 ((r 2 : Nat) : Int)) (v1 := .int .u64 ((t 12 : Nat) : Int)) (v2 := .int .i64 43) (bAt hops rfl) rfl rfl ⟨Tryz.call150, fun w => HC.out.2.1 w⟩ (hS.get (.tail .head)) ?_; try simp only [Act.put, ppA, ppB, ppC]
  refine h_c2 (v := .int .u64 ((r 3 : Nat) : Int)) (v1 := .int .u64 ((t 18 : Nat) : Int)) (v2 := .int .i64 21) (bAt hops rfl) rfl rfl ⟨Tryz.call150, fun w => HC.out.2.2.1 w⟩ (hS.get (.tail .head)) ?_; try simp only [Act.put, ppA, ppB, ppC]
  refine h_c2 (v := .int .u64 ((r 4 : Nat) : Int)) (v1 := .int .u64 ((t 24 : Nat) : Int)) (v2 := .int .i64 14) (bAt hops rfl) rfl rfl ⟨Tryz.call150, fun w => HC.out.2.2.2.1 w⟩ (hS.get (.tail .head)) ?_; try simp only [Act.put, ppA, ppB, ppC]
  refine h_c5 (v := .tuple #[.int .u64 ((m 0 : Nat) : Int), .int .u64 ((m 1 : Nat) : Int), .int .u64 ((m 2 : Nat) : Int), .int .u64 ((m 3 : Nat) : Int), .int .u64 ((m 4 : Nat) : Int)]) (v1 := .int .u64 ((t 0 : Nat) : Int)) (v2 := .int .u64 ((r 1 : Nat) : Int)) (v3 := .int .u64 ((r 2 : Nat) : Int)) (v4 := .int .u64 ((r 3 : Nat) : Int)) (v5 := .int .u64 ((r 4 : Nat) : Int)) (bAt hops rfl) rfl rfl rfl rfl rfl ⟨Tryz.call151, fun w => HC.out.2.2.2.2.2.2.2.2.2.2.2.2.2.2.2.2.2.2.2.2.2.2.2.2.2.2.2.2.2.1 w⟩ (hS.get (.tail .head)) ?_; try simp only [Act.put, ppA, ppB, ppC]
  refine h_val (.tuple #[.int .u64 ((m 0 : Nat) : Int), .int .u64 ((m 1 : Nat) : Int), .int .u64 ((m 2 : Nat) : Int), .int .u64 ((m 3 : Nat) : Int), .int .u64 ((m 4 : Nat) : Int)]) _ (bAt hops rfl) rfl ?_; try simp only [Act.put, ppA, ppB, ppC]
  refine h_ext (n := ((m 0 : Nat) : Int)) _ _ 0 (bAt hops rfl) rfl rfl ?_; try simp only [Act.put, ppA, ppB, ppC]
  refine h_ext (n := ((m 1 : Nat) : Int)) _ _ 1 (bAt hops rfl) rfl rfl ?_; try simp only [Act.put, ppA, ppB, ppC]
  refine h_ext (n := ((m 2 : Nat) : Int)) _ _ 2 (bAt hops rfl) rfl rfl ?_; try simp only [Act.put, ppA, ppB, ppC]
  refine h_ext (n := ((m 3 : Nat) : Int)) _ _ 3 (bAt hops rfl) rfl rfl ?_; try simp only [Act.put, ppA, ppB, ppC]
  refine h_ext (n := ((m 4 : Nat) : Int)) _ _ 4 (bAt hops rfl) rfl rfl ?_; try simp only [Act.put, ppA, ppB, ppC]
  refine h_idx (b := bb) 0 171 _ _ (bAt hops rfl) rfl rfl lanes_type u64_size (by decide) ?_; try simp only [Act.put, ppA, ppB, ppC]
  refine h_store (n := ((m 0 : Nat) : Int)) hS 113 _ _ (bAt hops rfl) rfl rfl u64_size (lay_upd (show 0 < 25 by decide) HN.out.2) (by repeat (first | exact Upd.head | apply Upd.tail)) (by rw [lay_size]; have := HN.out.2; omega) ?_; clear hS; intro w1 hS; refine ⟨hS.get (.tail .head), ?_⟩; try simp only [Act.put, ppA, ppB, ppC]
  refine h_idx (b := bb) 1 171 _ _ (bAt hops rfl) rfl rfl lanes_type u64_size (by decide) ?_; try simp only [Act.put, ppA, ppB, ppC]
  refine h_store (n := ((m 1 : Nat) : Int)) hS 113 _ _ (bAt hops rfl) rfl rfl u64_size (lay_upd (show 1 < 25 by decide) HN.out.2) (by repeat (first | exact Upd.head | apply Upd.tail)) (by rw [lay_size]; have := HN.out.2; omega) ?_; clear hS; intro w1 hS; refine ⟨hS.get (.tail .head), ?_⟩; try simp only [Act.put, ppA, ppB, ppC]
  refine h_idx (b := bb) 2 171 _ _ (bAt hops rfl) rfl rfl lanes_type u64_size (by decide) ?_; try simp only [Act.put, ppA, ppB, ppC]
  refine h_store (n := ((m 2 : Nat) : Int)) hS 113 _ _ (bAt hops rfl) rfl rfl u64_size (lay_upd (show 2 < 25 by decide) HN.out.2) (by repeat (first | exact Upd.head | apply Upd.tail)) (by rw [lay_size]; have := HN.out.2; omega) ?_; clear hS; intro w1 hS; refine ⟨hS.get (.tail .head), ?_⟩; try simp only [Act.put, ppA, ppB, ppC]
  refine h_idx (b := bb) 3 171 _ _ (bAt hops rfl) rfl rfl lanes_type u64_size (by decide) ?_; try simp only [Act.put, ppA, ppB, ppC]
  refine h_store (n := ((m 3 : Nat) : Int)) hS 113 _ _ (bAt hops rfl) rfl rfl u64_size (lay_upd (show 3 < 25 by decide) HN.out.2) (by repeat (first | exact Upd.head | apply Upd.tail)) (by rw [lay_size]; have := HN.out.2; omega) ?_; clear hS; intro w1 hS; refine ⟨hS.get (.tail .head), ?_⟩; try simp only [Act.put, ppA, ppB, ppC]
  refine h_idx (b := bb) 4 171 _ _ (bAt hops rfl) rfl rfl lanes_type u64_size (by decide) ?_; try simp only [Act.put, ppA, ppB, ppC]
  refine h_store (n := ((m 4 : Nat) : Int)) hS 113 _ _ (bAt hops rfl) rfl rfl u64_size (lay_upd (show 4 < 25 by decide) HN.out.2) (by repeat (first | exact Upd.head | apply Upd.tail)) (by rw [lay_size]; have := HN.out.2; omega) ?_; clear hS; intro w1 hS; refine ⟨hS.get (.tail .head), ?_⟩; try simp only [Act.put, ppA, ppB, ppC]
  refine h_end ?_
  clear hops ops
  go_upto_region 11 with (fail)
  try simp only [Act.put, ppA, ppB, ppC]
  refine k_head (C := fun w' => St [bb, ba] w w' _) 8 (by kernel_rfl) (by as_aux_lemma => kernel_rfl) hS.drew ?_
  simp only [List.take_succ_cons, List.take_zero, List.drop_succ_cons, List.drop_zero]
  refine k_ptr _ rfl _ rfl rfl ?_; try simp only [Act.put, ppA, ppB, ppC]
  refine k_nil _ rfl _ rfl rfl ?_; try simp only [Act.put, ppA, ppB, ppC]
  refine k_idx 0 rfl 171 _ _ rfl rfl rfl lanes_type u64_size (by decide) ?_; try simp only [Act.put, ppA, ppB, ppC]
  refine k_cell (v := .int .u64 ((m 0 : Nat) : Int)) (j := 0) rfl 113 _ rfl rfl (by repeat (first | exact At.head | apply At.tail)) (show (lay cb (upd (upd (upd (upd (upd B 0 (m 0)) 1 (m 1)) 2 (m 2)) 3 (m 3)) 4 (m 4)))[0]? = some (.int .u64 ((m 0 : Nat) : Int)) from lay_get (show 0 < 25 by decide) HN.out.2) u64_agg ?_; try simp only [Act.put, ppA, ppB, ppC]
  refine k_intm rfl _ rfl rfl ?_; try simp only [Act.put, ppA, ppB, ppC]
  refine k_xor (s := m 0 ^^^ rn) rfl _ _ _ _ rfl rfl rfl rfl (HB.out.2.2.2.2.2 _) HRN.out ?_; try simp only [Act.put, ppA, ppB, ppC]
  refine k_nil _ rfl _ rfl rfl ?_; try simp only [Act.put, ppA, ppB, ppC]
  refine k_idx 0 rfl 171 _ _ rfl rfl rfl lanes_type u64_size (by decide) ?_; try simp only [Act.put, ppA, ppB, ppC]
  refine k_end ?_
  clear hS
  intro w1 hS
  refine l_store (n := (((m 0 ^^^ rn) : Nat) : Int)) hS rfl 113 _ _ rfl rfl rfl u64_size (lay_upd (show 0 < 25 by decide) HN.out.2) (by repeat (first | exact Upd.head | apply Upd.tail)) (by rw [lay_size]; have := HN.out.2; omega) ?_; clear hS; intro w1 hS; try simp only [Act.put, ppA, ppB, ppC]
  refine l_end ?_
  go_upto_region 12 with (fail)
  try simp only [Act.put, ppA, ppB, ppC]
  refine h_region (S := fun w' => Blk w' ba ta (lay ca A)) [(0, true), (1, true), (2, true), (3, true), (4, true), (5, true), (6, true), (7, true), (8, true), (9, true), (10, true), (12, true), (13, true), (14, true), (15, true), (16, true), (17, true), (19, true), (20, true), (21, true), (22, true), (23, true), (24, true), (26, true), (27, true), (28, true), (29, true), (30, true), (31, true), (33, true), (34, true), (35, true), (36, true), (37, true), (38, true), (47, true), (50, true), (53, true), (56, true), (59, true), (11, false), (18, false), (25, false), (32, false), (39, false), (40, false), (41, true), (42, true), (43, true), (44, true), (45, true), (46, true), (48, true), (49, false), (51, true), (52, false), (54, true), (55, false), (57, true), (58, false), (60, true), (61, false)] (by kernel_rfl) (by as_aux_lemma => kernel_rfl) (by as_aux_lemma => kernel_rfl) (by as_aux_lemma => kernel_rfl) (hS.get (.tail .head)).drew (fun d _ _ _ _ h => by cases d <;> exact h) ?_
  replace hS := hS.drew
  intro ops hops
  simp only [List.map_cons, List.map_nil, brief] at hops
  refine h_val (.pointer (some ⟨bb, 0, none⟩)) _ (bAt hops rfl) rfl ?_; try simp only [Act.put, ppA, ppB, ppC]
  refine h_val (.pointer (some ⟨bb, 0, none⟩)) _ (bAt hops rfl) rfl ?_; try simp only [Act.put, ppA, ppB, ppC]
  refine h_val (.pointer (some ⟨bb, 0, none⟩)) _ (bAt hops rfl) rfl ?_; try simp only [Act.put, ppA, ppB, ppC]
  refine h_val (.pointer (some ⟨bb, 0, none⟩)) _ (bAt hops rfl) rfl ?_; try simp only [Act.put, ppA, ppB, ppC]
  refine h_val (.pointer (some ⟨bb, 0, none⟩)) _ (bAt hops rfl) rfl ?_; try simp only [Act.put, ppA, ppB, ppC]
  refine h_val (.pointer (some ⟨ba, 0, none⟩)) _ (bAt hops rfl) rfl ?_; try simp only [Act.put, ppA, ppB, ppC]
  refine h_nil ⟨ba, 0, none⟩ _ (bAt hops rfl) rfl ?_; try simp only [Act.put, ppA, ppB, ppC]
  refine h_idx (b := ba) 3 171 _ _ (bAt hops rfl) rfl rfl lanes_type u64_size (by decide) ?_; try simp only [Act.put, ppA, ppB, ppC]
  refine h_cell (b := ba) (j := 3) (.int .u64 ((A 3 : Nat) : Int)) 113 _ (bAt hops rfl) rfl u64_agg (fun w h => h.cell (lay_get (show 3 < 25 by decide) HN.out.1)) ?_; try simp only [Act.put, ppA, ppB, ppC]
  refine h_val (.int .u64 ((d 3 : Nat) : Int)) _ (bAt hops rfl) rfl ?_; try simp only [Act.put, ppA, ppB, ppC]
  refine h_xor (s := t 3) _ _ _ _ (bAt hops rfl) rfl rfl HX.out.2.2.2.2.2.2.2.2.2.2.2.2.2.1 (HB.out.1 _) (HB.out.2.2.1 _) ?_; try simp only [Act.put, ppA, ppB, ppC]
  refine h_val (.pointer (some ⟨ba, 0, none⟩)) _ (bAt hops rfl) rfl ?_; try simp only [Act.put, ppA, ppB, ppC]
  refine h_nil ⟨ba, 0, none⟩ _ (bAt hops rfl) rfl ?_; try simp only [Act.put, ppA, ppB, ppC]
  refine h_idx (b := ba) 9 171 _ _ (bAt hops rfl) rfl rfl lanes_type u64_size (by decide) ?_; try simp only [Act.put, ppA, ppB, ppC]
  refine h_cell (b := ba) (j := 9) (.int .u64 ((A 9 : Nat) : Int)) 113 _ (bAt hops rfl) rfl u64_agg (fun w h => h.cell (lay_get (show 9 < 25 by decide) HN.out.1)) ?_; try simp only [Act.put, ppA, ppB, ppC]
  refine h_val (.int .u64 ((d 4 : Nat) : Int)) _ (bAt hops rfl) rfl ?_; try simp only [Act.put, ppA, ppB, ppC]
  refine h_xor (s := t 9) _ _ _ _ (bAt hops rfl) rfl rfl HX.out.2.2.2.2.2.2.2.2.2.2.2.2.2.2.2.2.2.2.2.1 (HB.out.1 _) (HB.out.2.2.1 _) ?_; try simp only [Act.put, ppA, ppB, ppC]
  refine h_val (.pointer (some ⟨ba, 0, none⟩)) _ (bAt hops rfl) rfl ?_; try simp only [Act.put, ppA, ppB, ppC]
  refine h_nil ⟨ba, 0, none⟩ _ (bAt hops rfl) rfl ?_; try simp only [Act.put, ppA, ppB, ppC]
  refine h_idx (b := ba) 10 171 _ _ (bAt hops rfl) rfl rfl lanes_type u64_size (by decide) ?_; try simp only [Act.put, ppA, ppB, ppC]
  refine h_cell (b := ba) (j := 10) (.int .u64 ((A 10 : Nat) : Int)) 113 _ (bAt hops rfl) rfl u64_agg (fun w h => h.cell (lay_get (show 10 < 25 by decide) HN.out.1)) ?_; try simp only [Act.put, ppA, ppB, ppC]
  refine h_val (.int .u64 ((d 0 : Nat) : Int)) _ (bAt hops rfl) rfl ?_; try simp only [Act.put, ppA, ppB, ppC]
  refine h_xor (s := t 10) _ _ _ _ (bAt hops rfl) rfl rfl HX.out.2.2.2.2.2.2.2.2.2.2.2.2.2.2.2.2.2.2.2.2.1 (HB.out.1 _) (HB.out.2.2.1 _) ?_; try simp only [Act.put, ppA, ppB, ppC]
  refine h_val (.pointer (some ⟨ba, 0, none⟩)) _ (bAt hops rfl) rfl ?_; try simp only [Act.put, ppA, ppB, ppC]
  refine h_nil ⟨ba, 0, none⟩ _ (bAt hops rfl) rfl ?_; try simp only [Act.put, ppA, ppB, ppC]
  refine h_idx (b := ba) 16 171 _ _ (bAt hops rfl) rfl rfl lanes_type u64_size (by decide) ?_; try simp only [Act.put, ppA, ppB, ppC]
  refine h_cell (b := ba) (j := 16) (.int .u64 ((A 16 : Nat) : Int)) 113 _ (bAt hops rfl) rfl u64_agg (fun w h => h.cell (lay_get (show 16 < 25 by decide) HN.out.1)) ?_; try simp only [Act.put, ppA, ppB, ppC]
  refine h_val (.int .u64 ((d 1 : Nat) : Int)) _ (bAt hops rfl) rfl ?_; try simp only [Act.put, ppA, ppB, ppC]
  refine h_xor (s := t 16) _ _ _ _ (bAt hops rfl) rfl rfl HX.out.2.2.2.2.2.2.2.2.2.2.2.2.2.2.2.2.2.2.2.2.2.2.2.2.2.2.1 (HB.out.1 _) (HB.out.2.2.1 _) ?_; try simp only [Act.put, ppA, ppB, ppC]
  refine h_val (.pointer (some ⟨ba, 0, none⟩)) _ (bAt hops rfl) rfl ?_; try simp only [Act.put, ppA, ppB, ppC]
  refine h_nil ⟨ba, 0, none⟩ _ (bAt hops rfl) rfl ?_; try simp only [Act.put, ppA, ppB, ppC]
  refine h_idx (b := ba) 22 171 _ _ (bAt hops rfl) rfl rfl lanes_type u64_size (by decide) ?_; try simp only [Act.put, ppA, ppB, ppC]
  refine h_cell (b := ba) (j := 22) (.int .u64 ((A 22 : Nat) : Int)) 113 _ (bAt hops rfl) rfl u64_agg (fun w h => h.cell (lay_get (show 22 < 25 by decide) HN.out.1)) ?_; try simp only [Act.put, ppA, ppB, ppC]
  refine h_val (.int .u64 ((d 2 : Nat) : Int)) _ (bAt hops rfl) rfl ?_; try simp only [Act.put, ppA, ppB, ppC]
  refine h_xor (s := t 22) _ _ _ _ (bAt hops rfl) rfl rfl HX.out.2.2.2.2.2.2.2.2.2.2.2.2.2.2.2.2.2.2.2.2.2.2.2.2.2.2.2.2.2.2.2.2.1 (HB.out.1 _) (HB.out.2.2.1 _) ?_; try simp only [Act.put, ppA, ppB, ppC]
  refine h_nil ⟨bb, 0, none⟩ _ (bAt hops rfl) rfl ?_; try simp only [Act.put, ppA, ppB, ppC]
  refine h_nil ⟨bb, 0, none⟩ _ (bAt hops rfl) rfl ?_; try simp only [Act.put, ppA, ppB, ppC]
  refine h_nil ⟨bb, 0, none⟩ _ (bAt hops rfl) rfl ?_; try simp only [Act.put, ppA, ppB, ppC]
  refine h_nil ⟨bb, 0, none⟩ _ (bAt hops rfl) rfl ?_; try simp only [Act.put, ppA, ppB, ppC]
  refine h_nil ⟨bb, 0, none⟩ _ (bAt hops rfl) rfl ?_; try simp only [Act.put, ppA, ppB, ppC]
  refine h_c2 (v := .int .u64 ((r 5 : Nat) : Int)) (v1 := .int .u64 ((t 3 : Nat) : Int)) (v2 := .int .i64 28) (bAt hops rfl) rfl rfl ⟨Tryz.call150, fun w => HC.out.2.2.2.2.1 w⟩ (hS.get (.tail .head)) ?_; try simp only [Act.put, ppA, ppB, ppC]
  refine h_c2 (v := .int .u64 ((r 6 : Nat) : Int)) (v1 := .int .u64 ((t 9 : Nat) : Int)) (v2 := .int .i64 20) (bAt hops rfl) rfl rfl ⟨Tryz.call150, fun w => HC.out.2.2.2.2.2.1 w⟩ (hS.get (.tail .head)) ?_; try simp only [Act.put, ppA, ppB, ppC]
  refine h_c2 (v := .int .u64 ((r 7 : Nat) : Int)) (v1 := .int .u64 ((t 10 : Nat) : Int)) (v2 := .int .i64 3) (bAt hops rfl) rfl rfl ⟨Tryz.call150, fun w => HC.out.2.2.2.2.2.2.1 w⟩ (hS.get (.tail .head)) ?_; try simp only [Act.put, ppA, ppB, ppC]
  refine h_c2 (v := .int .u64 ((r 8 : Nat) : Int)) (v1 := .int .u64 ((t 16 : Nat) : Int)) (v2 := .int .i64 45) (bAt hops rfl) rfl rfl ⟨Tryz.call150, fun w => HC.out.2.2.2.2.2.2.2.1 w⟩ (hS.get (.tail .head)) ?_; try simp only [Act.put, ppA, ppB, ppC]
  refine h_c2 (v := .int .u64 ((r 9 : Nat) : Int)) (v1 := .int .u64 ((t 22 : Nat) : Int)) (v2 := .int .i64 61) (bAt hops rfl) rfl rfl ⟨Tryz.call150, fun w => HC.out.2.2.2.2.2.2.2.2.1 w⟩ (hS.get (.tail .head)) ?_; try simp only [Act.put, ppA, ppB, ppC]
  refine h_c5 (v := .tuple #[.int .u64 ((m 5 : Nat) : Int), .int .u64 ((m 6 : Nat) : Int), .int .u64 ((m 7 : Nat) : Int), .int .u64 ((m 8 : Nat) : Int), .int .u64 ((m 9 : Nat) : Int)]) (v1 := .int .u64 ((r 5 : Nat) : Int)) (v2 := .int .u64 ((r 6 : Nat) : Int)) (v3 := .int .u64 ((r 7 : Nat) : Int)) (v4 := .int .u64 ((r 8 : Nat) : Int)) (v5 := .int .u64 ((r 9 : Nat) : Int)) (bAt hops rfl) rfl rfl rfl rfl rfl ⟨Tryz.call151, fun w => HC.out.2.2.2.2.2.2.2.2.2.2.2.2.2.2.2.2.2.2.2.2.2.2.2.2.2.2.2.2.2.2.1 w⟩ (hS.get (.tail .head)) ?_; try simp only [Act.put, ppA, ppB, ppC]
  refine h_val (.tuple #[.int .u64 ((m 5 : Nat) : Int), .int .u64 ((m 6 : Nat) : Int), .int .u64 ((m 7 : Nat) : Int), .int .u64 ((m 8 : Nat) : Int), .int .u64 ((m 9 : Nat) : Int)]) _ (bAt hops rfl) rfl ?_; try simp only [Act.put, ppA, ppB, ppC]
  refine h_ext (n := ((m 5 : Nat) : Int)) _ _ 0 (bAt hops rfl) rfl rfl ?_; try simp only [Act.put, ppA, ppB, ppC]
  refine h_ext (n := ((m 6 : Nat) : Int)) _ _ 1 (bAt hops rfl) rfl rfl ?_; try simp only [Act.put, ppA, ppB, ppC]
  refine h_ext (n := ((m 7 : Nat) : Int)) _ _ 2 (bAt hops rfl) rfl rfl ?_; try simp only [Act.put, ppA, ppB, ppC]
  refine h_ext (n := ((m 8 : Nat) : Int)) _ _ 3 (bAt hops rfl) rfl rfl ?_; try simp only [Act.put, ppA, ppB, ppC]
  refine h_ext (n := ((m 9 : Nat) : Int)) _ _ 4 (bAt hops rfl) rfl rfl ?_; try simp only [Act.put, ppA, ppB, ppC]
  refine h_idx (b := bb) 5 171 _ _ (bAt hops rfl) rfl rfl lanes_type u64_size (by decide) ?_; try simp only [Act.put, ppA, ppB, ppC]
  refine h_store (n := ((m 5 : Nat) : Int)) hS 113 _ _ (bAt hops rfl) rfl rfl u64_size (lay_upd (show 5 < 25 by decide) HN.out.2) (by repeat (first | exact Upd.head | apply Upd.tail)) (by rw [lay_size]; have := HN.out.2; omega) ?_; clear hS; intro w1 hS; refine ⟨hS.get (.tail .head), ?_⟩; try simp only [Act.put, ppA, ppB, ppC]
  refine h_idx (b := bb) 6 171 _ _ (bAt hops rfl) rfl rfl lanes_type u64_size (by decide) ?_; try simp only [Act.put, ppA, ppB, ppC]
  refine h_store (n := ((m 6 : Nat) : Int)) hS 113 _ _ (bAt hops rfl) rfl rfl u64_size (lay_upd (show 6 < 25 by decide) HN.out.2) (by repeat (first | exact Upd.head | apply Upd.tail)) (by rw [lay_size]; have := HN.out.2; omega) ?_; clear hS; intro w1 hS; refine ⟨hS.get (.tail .head), ?_⟩; try simp only [Act.put, ppA, ppB, ppC]
  refine h_idx (b := bb) 7 171 _ _ (bAt hops rfl) rfl rfl lanes_type u64_size (by decide) ?_; try simp only [Act.put, ppA, ppB, ppC]
  refine h_store (n := ((m 7 : Nat) : Int)) hS 113 _ _ (bAt hops rfl) rfl rfl u64_size (lay_upd (show 7 < 25 by decide) HN.out.2) (by repeat (first | exact Upd.head | apply Upd.tail)) (by rw [lay_size]; have := HN.out.2; omega) ?_; clear hS; intro w1 hS; refine ⟨hS.get (.tail .head), ?_⟩; try simp only [Act.put, ppA, ppB, ppC]
  refine h_idx (b := bb) 8 171 _ _ (bAt hops rfl) rfl rfl lanes_type u64_size (by decide) ?_; try simp only [Act.put, ppA, ppB, ppC]
  refine h_store (n := ((m 8 : Nat) : Int)) hS 113 _ _ (bAt hops rfl) rfl rfl u64_size (lay_upd (show 8 < 25 by decide) HN.out.2) (by repeat (first | exact Upd.head | apply Upd.tail)) (by rw [lay_size]; have := HN.out.2; omega) ?_; clear hS; intro w1 hS; refine ⟨hS.get (.tail .head), ?_⟩; try simp only [Act.put, ppA, ppB, ppC]
  refine h_idx (b := bb) 9 171 _ _ (bAt hops rfl) rfl rfl lanes_type u64_size (by decide) ?_; try simp only [Act.put, ppA, ppB, ppC]
  refine h_store (n := ((m 9 : Nat) : Int)) hS 113 _ _ (bAt hops rfl) rfl rfl u64_size (lay_upd (show 9 < 25 by decide) HN.out.2) (by repeat (first | exact Upd.head | apply Upd.tail)) (by rw [lay_size]; have := HN.out.2; omega) ?_; clear hS; intro w1 hS; refine ⟨hS.get (.tail .head), ?_⟩; try simp only [Act.put, ppA, ppB, ppC]
  refine h_end ?_
  clear hops ops
  go_upto_region 13 with (fail)
  try simp only [Act.put, ppA, ppB, ppC]
  refine h_region (S := fun w' => Blk w' ba ta (lay ca A)) [(0, true), (1, true), (2, true), (3, true), (4, true), (5, true), (6, true), (7, true), (8, true), (9, true), (10, true), (12, true), (13, true), (14, true), (15, true), (16, true), (17, true), (19, true), (20, true), (21, true), (22, true), (23, true), (24, true), (26, true), (27, true), (28, true), (29, true), (30, true), (31, true), (33, true), (34, true), (35, true), (36, true), (37, true), (38, true), (47, true), (50, true), (53, true), (56, true), (59, true), (11, false), (18, false), (25, false), (32, false), (39, false), (40, false), (41, true), (42, true), (43, true), (44, true), (45, true), (46, true), (48, true), (49, false), (51, true), (52, false), (54, true), (55, false), (57, true), (58, false), (60, true), (61, false)] (by kernel_rfl) (by as_aux_lemma => kernel_rfl) (by as_aux_lemma => kernel_rfl) (by as_aux_lemma => kernel_rfl) (hS.get (.tail .head)).drew (fun d _ _ _ _ h => by cases d <;> exact h) ?_
  replace hS := hS.drew
  intro ops hops
  simp only [List.map_cons, List.map_nil, brief] at hops
  refine h_val (.pointer (some ⟨bb, 0, none⟩)) _ (bAt hops rfl) rfl ?_; try simp only [Act.put, ppA, ppB, ppC]
  refine h_val (.pointer (some ⟨bb, 0, none⟩)) _ (bAt hops rfl) rfl ?_; try simp only [Act.put, ppA, ppB, ppC]
  refine h_val (.pointer (some ⟨bb, 0, none⟩)) _ (bAt hops rfl) rfl ?_; try simp only [Act.put, ppA, ppB, ppC]
  refine h_val (.pointer (some ⟨bb, 0, none⟩)) _ (bAt hops rfl) rfl ?_; try simp only [Act.put, ppA, ppB, ppC]
  refine h_val (.pointer (some ⟨bb, 0, none⟩)) _ (bAt hops rfl) rfl ?_; try simp only [Act.put, ppA, ppB, ppC]
  refine h_val (.pointer (some ⟨ba, 0, none⟩)) _ (bAt hops rfl) rfl ?_; try simp only [Act.put, ppA, ppB, ppC]
  refine h_nil ⟨ba, 0, none⟩ _ (bAt hops rfl) rfl ?_; try simp only [Act.put, ppA, ppB, ppC]
  refine h_idx (b := ba) 1 171 _ _ (bAt hops rfl) rfl rfl lanes_type u64_size (by decide) ?_; try simp only [Act.put, ppA, ppB, ppC]
  refine h_cell (b := ba) (j := 1) (.int .u64 ((A 1 : Nat) : Int)) 113 _ (bAt hops rfl) rfl u64_agg (fun w h => h.cell (lay_get (show 1 < 25 by decide) HN.out.1)) ?_; try simp only [Act.put, ppA, ppB, ppC]
  refine h_val (.int .u64 ((d 1 : Nat) : Int)) _ (bAt hops rfl) rfl ?_; try simp only [Act.put, ppA, ppB, ppC]
  refine h_xor (s := t 1) _ _ _ _ (bAt hops rfl) rfl rfl HX.out.2.2.2.2.2.2.2.2.2.2.2.1 (HB.out.1 _) (HB.out.2.2.1 _) ?_; try simp only [Act.put, ppA, ppB, ppC]
  refine h_val (.pointer (some ⟨ba, 0, none⟩)) _ (bAt hops rfl) rfl ?_; try simp only [Act.put, ppA, ppB, ppC]
  refine h_nil ⟨ba, 0, none⟩ _ (bAt hops rfl) rfl ?_; try simp only [Act.put, ppA, ppB, ppC]
  refine h_idx (b := ba) 7 171 _ _ (bAt hops rfl) rfl rfl lanes_type u64_size (by decide) ?_; try simp only [Act.put, ppA, ppB, ppC]
  refine h_cell (b := ba) (j := 7) (.int .u64 ((A 7 : Nat) : Int)) 113 _ (bAt hops rfl) rfl u64_agg (fun w h => h.cell (lay_get (show 7 < 25 by decide) HN.out.1)) ?_; try simp only [Act.put, ppA, ppB, ppC]
  refine h_val (.int .u64 ((d 2 : Nat) : Int)) _ (bAt hops rfl) rfl ?_; try simp only [Act.put, ppA, ppB, ppC]
  refine h_xor (s := t 7) _ _ _ _ (bAt hops rfl) rfl rfl HX.out.2.2.2.2.2.2.2.2.2.2.2.2.2.2.2.2.2.1 (HB.out.1 _) (HB.out.2.2.1 _) ?_; try simp only [Act.put, ppA, ppB, ppC]
  refine h_val (.pointer (some ⟨ba, 0, none⟩)) _ (bAt hops rfl) rfl ?_; try simp only [Act.put, ppA, ppB, ppC]
  refine h_nil ⟨ba, 0, none⟩ _ (bAt hops rfl) rfl ?_; try simp only [Act.put, ppA, ppB, ppC]
  refine h_idx (b := ba) 13 171 _ _ (bAt hops rfl) rfl rfl lanes_type u64_size (by decide) ?_; try simp only [Act.put, ppA, ppB, ppC]
  refine h_cell (b := ba) (j := 13) (.int .u64 ((A 13 : Nat) : Int)) 113 _ (bAt hops rfl) rfl u64_agg (fun w h => h.cell (lay_get (show 13 < 25 by decide) HN.out.1)) ?_; try simp only [Act.put, ppA, ppB, ppC]
  refine h_val (.int .u64 ((d 3 : Nat) : Int)) _ (bAt hops rfl) rfl ?_; try simp only [Act.put, ppA, ppB, ppC]
  refine h_xor (s := t 13) _ _ _ _ (bAt hops rfl) rfl rfl HX.out.2.2.2.2.2.2.2.2.2.2.2.2.2.2.2.2.2.2.2.2.2.2.2.1 (HB.out.1 _) (HB.out.2.2.1 _) ?_; try simp only [Act.put, ppA, ppB, ppC]
  refine h_val (.pointer (some ⟨ba, 0, none⟩)) _ (bAt hops rfl) rfl ?_; try simp only [Act.put, ppA, ppB, ppC]
  refine h_nil ⟨ba, 0, none⟩ _ (bAt hops rfl) rfl ?_; try simp only [Act.put, ppA, ppB, ppC]
  refine h_idx (b := ba) 19 171 _ _ (bAt hops rfl) rfl rfl lanes_type u64_size (by decide) ?_; try simp only [Act.put, ppA, ppB, ppC]
  refine h_cell (b := ba) (j := 19) (.int .u64 ((A 19 : Nat) : Int)) 113 _ (bAt hops rfl) rfl u64_agg (fun w h => h.cell (lay_get (show 19 < 25 by decide) HN.out.1)) ?_; try simp only [Act.put, ppA, ppB, ppC]
  refine h_val (.int .u64 ((d 4 : Nat) : Int)) _ (bAt hops rfl) rfl ?_; try simp only [Act.put, ppA, ppB, ppC]
  refine h_xor (s := t 19) _ _ _ _ (bAt hops rfl) rfl rfl HX.out.2.2.2.2.2.2.2.2.2.2.2.2.2.2.2.2.2.2.2.2.2.2.2.2.2.2.2.2.2.1 (HB.out.1 _) (HB.out.2.2.1 _) ?_; try simp only [Act.put, ppA, ppB, ppC]
  refine h_val (.pointer (some ⟨ba, 0, none⟩)) _ (bAt hops rfl) rfl ?_; try simp only [Act.put, ppA, ppB, ppC]
  refine h_nil ⟨ba, 0, none⟩ _ (bAt hops rfl) rfl ?_; try simp only [Act.put, ppA, ppB, ppC]
  refine h_idx (b := ba) 20 171 _ _ (bAt hops rfl) rfl rfl lanes_type u64_size (by decide) ?_; try simp only [Act.put, ppA, ppB, ppC]
  refine h_cell (b := ba) (j := 20) (.int .u64 ((A 20 : Nat) : Int)) 113 _ (bAt hops rfl) rfl u64_agg (fun w h => h.cell (lay_get (show 20 < 25 by decide) HN.out.1)) ?_; try simp only [Act.put, ppA, ppB, ppC]
  refine h_val (.int .u64 ((d 0 : Nat) : Int)) _ (bAt hops rfl) rfl ?_; try simp only [Act.put, ppA, ppB, ppC]
  refine h_xor (s := t 20) _ _ _ _ (bAt hops rfl) rfl rfl HX.out.2.2.2.2.2.2.2.2.2.2.2.2.2.2.2.2.2.2.2.2.2.2.2.2.2.2.2.2.2.2.1 (HB.out.1 _) (HB.out.2.2.1 _) ?_; try simp only [Act.put, ppA, ppB, ppC]
  refine h_nil ⟨bb, 0, none⟩ _ (bAt hops rfl) rfl ?_; try simp only [Act.put, ppA, ppB, ppC]
  refine h_nil ⟨bb, 0, none⟩ _ (bAt hops rfl) rfl ?_; try simp only [Act.put, ppA, ppB, ppC]
  refine h_nil ⟨bb, 0, none⟩ _ (bAt hops rfl) rfl ?_; try simp only [Act.put, ppA, ppB, ppC]
  refine h_nil ⟨bb, 0, none⟩ _ (bAt hops rfl) rfl ?_; try simp only [Act.put, ppA, ppB, ppC]
  refine h_nil ⟨bb, 0, none⟩ _ (bAt hops rfl) rfl ?_; try simp only [Act.put, ppA, ppB, ppC]
  refine h_c2 (v := .int .u64 ((r 10 : Nat) : Int)) (v1 := .int .u64 ((t 1 : Nat) : Int)) (v2 := .int .i64 1) (bAt hops rfl) rfl rfl ⟨Tryz.call150, fun w => HC.out.2.2.2.2.2.2.2.2.2.1 w⟩ (hS.get (.tail .head)) ?_; try simp only [Act.put, ppA, ppB, ppC]
  refine h_c2 (v := .int .u64 ((r 11 : Nat) : Int)) (v1 := .int .u64 ((t 7 : Nat) : Int)) (v2 := .int .i64 6) (bAt hops rfl) rfl rfl ⟨Tryz.call150, fun w => HC.out.2.2.2.2.2.2.2.2.2.2.1 w⟩ (hS.get (.tail .head)) ?_; try simp only [Act.put, ppA, ppB, ppC]
  refine h_c2 (v := .int .u64 ((r 12 : Nat) : Int)) (v1 := .int .u64 ((t 13 : Nat) : Int)) (v2 := .int .i64 25) (bAt hops rfl) rfl rfl ⟨Tryz.call150, fun w => HC.out.2.2.2.2.2.2.2.2.2.2.2.1 w⟩ (hS.get (.tail .head)) ?_; try simp only [Act.put, ppA, ppB, ppC]
  refine h_c2 (v := .int .u64 ((r 13 : Nat) : Int)) (v1 := .int .u64 ((t 19 : Nat) : Int)) (v2 := .int .i64 8) (bAt hops rfl) rfl rfl ⟨Tryz.call150, fun w => HC.out.2.2.2.2.2.2.2.2.2.2.2.2.1 w⟩ (hS.get (.tail .head)) ?_; try simp only [Act.put, ppA, ppB, ppC]
  refine h_c2 (v := .int .u64 ((r 14 : Nat) : Int)) (v1 := .int .u64 ((t 20 : Nat) : Int)) (v2 := .int .i64 18) (bAt hops rfl) rfl rfl ⟨Tryz.call150, fun w => HC.out.2.2.2.2.2.2.2.2.2.2.2.2.2.1 w⟩ (hS.get (.tail .head)) ?_; try simp only [Act.put, ppA, ppB, ppC]
  refine h_c5 (v := .tuple #[.int .u64 ((m 10 : Nat) : Int), .int .u64 ((m 11 : Nat) : Int), .int .u64 ((m 12 : Nat) : Int), .int .u64 ((m 13 : Nat) : Int), .int .u64 ((m 14 : Nat) : Int)]) (v1 := .int .u64 ((r 10 : Nat) : Int)) (v2 := .int .u64 ((r 11 : Nat) : Int)) (v3 := .int .u64 ((r 12 : Nat) : Int)) (v4 := .int .u64 ((r 13 : Nat) : Int)) (v5 := .int .u64 ((r 14 : Nat) : Int)) (bAt hops rfl) rfl rfl rfl rfl rfl ⟨Tryz.call151, fun w => HC.out.2.2.2.2.2.2.2.2.2.2.2.2.2.2.2.2.2.2.2.2.2.2.2.2.2.2.2.2.2.2.2.1 w⟩ (hS.get (.tail .head)) ?_; try simp only [Act.put, ppA, ppB, ppC]
  refine h_val (.tuple #[.int .u64 ((m 10 : Nat) : Int), .int .u64 ((m 11 : Nat) : Int), .int .u64 ((m 12 : Nat) : Int), .int .u64 ((m 13 : Nat) : Int), .int .u64 ((m 14 : Nat) : Int)]) _ (bAt hops rfl) rfl ?_; try simp only [Act.put, ppA, ppB, ppC]
  refine h_ext (n := ((m 10 : Nat) : Int)) _ _ 0 (bAt hops rfl) rfl rfl ?_; try simp only [Act.put, ppA, ppB, ppC]
  refine h_ext (n := ((m 11 : Nat) : Int)) _ _ 1 (bAt hops rfl) rfl rfl ?_; try simp only [Act.put, ppA, ppB, ppC]
  refine h_ext (n := ((m 12 : Nat) : Int)) _ _ 2 (bAt hops rfl) rfl rfl ?_; try simp only [Act.put, ppA, ppB, ppC]
  refine h_ext (n := ((m 13 : Nat) : Int)) _ _ 3 (bAt hops rfl) rfl rfl ?_; try simp only [Act.put, ppA, ppB, ppC]
  refine h_ext (n := ((m 14 : Nat) : Int)) _ _ 4 (bAt hops rfl) rfl rfl ?_; try simp only [Act.put, ppA, ppB, ppC]
  refine h_idx (b := bb) 10 171 _ _ (bAt hops rfl) rfl rfl lanes_type u64_size (by decide) ?_; try simp only [Act.put, ppA, ppB, ppC]
  refine h_store (n := ((m 10 : Nat) : Int)) hS 113 _ _ (bAt hops rfl) rfl rfl u64_size (lay_upd (show 10 < 25 by decide) HN.out.2) (by repeat (first | exact Upd.head | apply Upd.tail)) (by rw [lay_size]; have := HN.out.2; omega) ?_; clear hS; intro w1 hS; refine ⟨hS.get (.tail .head), ?_⟩; try simp only [Act.put, ppA, ppB, ppC]
  refine h_idx (b := bb) 11 171 _ _ (bAt hops rfl) rfl rfl lanes_type u64_size (by decide) ?_; try simp only [Act.put, ppA, ppB, ppC]
  refine h_store (n := ((m 11 : Nat) : Int)) hS 113 _ _ (bAt hops rfl) rfl rfl u64_size (lay_upd (show 11 < 25 by decide) HN.out.2) (by repeat (first | exact Upd.head | apply Upd.tail)) (by rw [lay_size]; have := HN.out.2; omega) ?_; clear hS; intro w1 hS; refine ⟨hS.get (.tail .head), ?_⟩; try simp only [Act.put, ppA, ppB, ppC]
  refine h_idx (b := bb) 12 171 _ _ (bAt hops rfl) rfl rfl lanes_type u64_size (by decide) ?_; try simp only [Act.put, ppA, ppB, ppC]
  refine h_store (n := ((m 12 : Nat) : Int)) hS 113 _ _ (bAt hops rfl) rfl rfl u64_size (lay_upd (show 12 < 25 by decide) HN.out.2) (by repeat (first | exact Upd.head | apply Upd.tail)) (by rw [lay_size]; have := HN.out.2; omega) ?_; clear hS; intro w1 hS; refine ⟨hS.get (.tail .head), ?_⟩; try simp only [Act.put, ppA, ppB, ppC]
  refine h_idx (b := bb) 13 171 _ _ (bAt hops rfl) rfl rfl lanes_type u64_size (by decide) ?_; try simp only [Act.put, ppA, ppB, ppC]
  refine h_store (n := ((m 13 : Nat) : Int)) hS 113 _ _ (bAt hops rfl) rfl rfl u64_size (lay_upd (show 13 < 25 by decide) HN.out.2) (by repeat (first | exact Upd.head | apply Upd.tail)) (by rw [lay_size]; have := HN.out.2; omega) ?_; clear hS; intro w1 hS; refine ⟨hS.get (.tail .head), ?_⟩; try simp only [Act.put, ppA, ppB, ppC]
  refine h_idx (b := bb) 14 171 _ _ (bAt hops rfl) rfl rfl lanes_type u64_size (by decide) ?_; try simp only [Act.put, ppA, ppB, ppC]
  refine h_store (n := ((m 14 : Nat) : Int)) hS 113 _ _ (bAt hops rfl) rfl rfl u64_size (lay_upd (show 14 < 25 by decide) HN.out.2) (by repeat (first | exact Upd.head | apply Upd.tail)) (by rw [lay_size]; have := HN.out.2; omega) ?_; clear hS; intro w1 hS; refine ⟨hS.get (.tail .head), ?_⟩; try simp only [Act.put, ppA, ppB, ppC]
  refine h_end ?_
  clear hops ops
  go_upto_region 14 with (fail)
  try simp only [Act.put, ppA, ppB, ppC]
  refine h_region (S := fun w' => Blk w' ba ta (lay ca A)) [(0, true), (1, true), (2, true), (3, true), (4, true), (5, true), (6, true), (7, true), (8, true), (9, true), (10, true), (12, true), (13, true), (14, true), (15, true), (16, true), (17, true), (19, true), (20, true), (21, true), (22, true), (23, true), (24, true), (26, true), (27, true), (28, true), (29, true), (30, true), (31, true), (33, true), (34, true), (35, true), (36, true), (37, true), (38, true), (47, true), (50, true), (53, true), (56, true), (59, true), (11, false), (18, false), (25, false), (32, false), (39, false), (40, false), (41, true), (42, true), (43, true), (44, true), (45, true), (46, true), (48, true), (49, false), (51, true), (52, false), (54, true), (55, false), (57, true), (58, false), (60, true), (61, false)] (by kernel_rfl) (by as_aux_lemma => kernel_rfl) (by as_aux_lemma => kernel_rfl) (by as_aux_lemma => kernel_rfl) (hS.get (.tail .head)).drew (fun d _ _ _ _ h => by cases d <;> exact h) ?_
  replace hS := hS.drew
  intro ops hops
  simp only [List.map_cons, List.map_nil, brief] at hops
  refine h_val (.pointer (some ⟨bb, 0, none⟩)) _ (bAt hops rfl) rfl ?_; try simp only [Act.put, ppA, ppB, ppC]
  refine h_val (.pointer (some ⟨bb, 0, none⟩)) _ (bAt hops rfl) rfl ?_; try simp only [Act.put, ppA, ppB, ppC]
  refine h_val (.pointer (some ⟨bb, 0, none⟩)) _ (bAt hops rfl) rfl ?_; try simp only [Act.put, ppA, ppB, ppC]
  refine h_val (.pointer (some ⟨bb, 0, none⟩)) _ (bAt hops rfl) rfl ?_; try simp only [Act.put, ppA, ppB, ppC]
  refine h_val (.pointer (some ⟨bb, 0, none⟩)) _ (bAt hops rfl) rfl ?_; try simp only [Act.put, ppA, ppB, ppC]
  refine h_val (.pointer (some ⟨ba, 0, none⟩)) _ (bAt hops rfl) rfl ?_; try simp only [Act.put, ppA, ppB, ppC]
  refine h_nil ⟨ba, 0, none⟩ _ (bAt hops rfl) rfl ?_; try simp only [Act.put, ppA, ppB, ppC]
  refine h_idx (b := ba) 4 171 _ _ (bAt hops rfl) rfl rfl lanes_type u64_size (by decide) ?_; try simp only [Act.put, ppA, ppB, ppC]
  refine h_cell (b := ba) (j := 4) (.int .u64 ((A 4 : Nat) : Int)) 113 _ (bAt hops rfl) rfl u64_agg (fun w h => h.cell (lay_get (show 4 < 25 by decide) HN.out.1)) ?_; try simp only [Act.put, ppA, ppB, ppC]
  refine h_val (.int .u64 ((d 4 : Nat) : Int)) _ (bAt hops rfl) rfl ?_; try simp only [Act.put, ppA, ppB, ppC]
  refine h_xor (s := t 4) _ _ _ _ (bAt hops rfl) rfl rfl HX.out.2.2.2.2.2.2.2.2.2.2.2.2.2.2.1 (HB.out.1 _) (HB.out.2.2.1 _) ?_; try simp only [Act.put, ppA, ppB, ppC]
  refine h_val (.pointer (some ⟨ba, 0, none⟩)) _ (bAt hops rfl) rfl ?_; try simp only [Act.put, ppA, ppB, ppC]
  refine h_nil ⟨ba, 0, none⟩ _ (bAt hops rfl) rfl ?_; try simp only [Act.put, ppA, ppB, ppC]
  refine h_idx (b := ba) 5 171 _ _ (bAt hops rfl) rfl rfl lanes_type u64_size (by decide) ?_; try simp only [Act.put, ppA, ppB, ppC]
  refine h_cell (b := ba) (j := 5) (.int .u64 ((A 5 : Nat) : Int)) 113 _ (bAt hops rfl) rfl u64_agg (fun w h => h.cell (lay_get (show 5 < 25 by decide) HN.out.1)) ?_; try simp only [Act.put, ppA, ppB, ppC]
  refine h_val (.int .u64 ((d 0 : Nat) : Int)) _ (bAt hops rfl) rfl ?_; try simp only [Act.put, ppA, ppB, ppC]
  refine h_xor (s := t 5) _ _ _ _ (bAt hops rfl) rfl rfl HX.out.2.2.2.2.2.2.2.2.2.2.2.2.2.2.2.1 (HB.out.1 _) (HB.out.2.2.1 _) ?_; try simp only [Act.put, ppA, ppB, ppC]
  refine h_val (.pointer (some ⟨ba, 0, none⟩)) _ (bAt hops rfl) rfl ?_; try simp only [Act.put, ppA, ppB, ppC]
  refine h_nil ⟨ba, 0, none⟩ _ (bAt hops rfl) rfl ?_; try simp only [Act.put, ppA, ppB, ppC]
  refine h_idx (b := ba) 11 171 _ _ (bAt hops rfl) rfl rfl lanes_type u64_size (by decide) ?_; try simp only [Act.put, ppA, ppB, ppC]
  refine h_cell (b := ba) (j := 11) (.int .u64 ((A 11 : Nat) : Int)) 113 _ (bAt hops rfl) rfl u64_agg (fun w h => h.cell (lay_get (show 11 < 25 by decide) HN.out.1)) ?_; try simp only [Act.put, ppA, ppB, ppC]
  refine h_val (.int .u64 ((d 1 : Nat) : Int)) _ (bAt hops rfl) rfl ?_; try simp only [Act.put, ppA, ppB, ppC]
  refine h_xor (s := t 11) _ _ _ _ (bAt hops rfl) rfl rfl HX.out.2.2.2.2.2.2.2.2.2.2.2.2.2.2.2.2.2.2.2.2.2.1 (HB.out.1 _) (HB.out.2.2.1 _) ?_; try simp only [Act.put, ppA, ppB, ppC]
  refine h_val (.pointer (some ⟨ba, 0, none⟩)) _ (bAt hops rfl) rfl ?_; try simp only [Act.put, ppA, ppB, ppC]
  refine h_nil ⟨ba, 0, none⟩ _ (bAt hops rfl) rfl ?_; try simp only [Act.put, ppA, ppB, ppC]
  refine h_idx (b := ba) 17 171 _ _ (bAt hops rfl) rfl rfl lanes_type u64_size (by decide) ?_; try simp only [Act.put, ppA, ppB, ppC]
  refine h_cell (b := ba) (j := 17) (.int .u64 ((A 17 : Nat) : Int)) 113 _ (bAt hops rfl) rfl u64_agg (fun w h => h.cell (lay_get (show 17 < 25 by decide) HN.out.1)) ?_; try simp only [Act.put, ppA, ppB, ppC]
  refine h_val (.int .u64 ((d 2 : Nat) : Int)) _ (bAt hops rfl) rfl ?_; try simp only [Act.put, ppA, ppB, ppC]
  refine h_xor (s := t 17) _ _ _ _ (bAt hops rfl) rfl rfl HX.out.2.2.2.2.2.2.2.2.2.2.2.2.2.2.2.2.2.2.2.2.2.2.2.2.2.2.2.1 (HB.out.1 _) (HB.out.2.2.1 _) ?_; try simp only [Act.put, ppA, ppB, ppC]
  refine h_val (.pointer (some ⟨ba, 0, none⟩)) _ (bAt hops rfl) rfl ?_; try simp only [Act.put, ppA, ppB, ppC]
  refine h_nil ⟨ba, 0, none⟩ _ (bAt hops rfl) rfl ?_; try simp only [Act.put, ppA, ppB, ppC]
  refine h_idx (b := ba) 23 171 _ _ (bAt hops rfl) rfl rfl lanes_type u64_size (by decide) ?_; try simp only [Act.put, ppA, ppB, ppC]
  refine h_cell (b := ba) (j := 23) (.int .u64 ((A 23 : Nat) : Int)) 113 _ (bAt hops rfl) rfl u64_agg (fun w h => h.cell (lay_get (show 23 < 25 by decide) HN.out.1)) ?_; try simp only [Act.put, ppA, ppB, ppC]
  refine h_val (.int .u64 ((d 3 : Nat) : Int)) _ (bAt hops rfl) rfl ?_; try simp only [Act.put, ppA, ppB, ppC]
  refine h_xor (s := t 23) _ _ _ _ (bAt hops rfl) rfl rfl HX.out.2.2.2.2.2.2.2.2.2.2.2.2.2.2.2.2.2.2.2.2.2.2.2.2.2.2.2.2.2.2.2.2.2.1 (HB.out.1 _) (HB.out.2.2.1 _) ?_; try simp only [Act.put, ppA, ppB, ppC]
  refine h_nil ⟨bb, 0, none⟩ _ (bAt hops rfl) rfl ?_; try simp only [Act.put, ppA, ppB, ppC]
  refine h_nil ⟨bb, 0, none⟩ _ (bAt hops rfl) rfl ?_; try simp only [Act.put, ppA, ppB, ppC]
  refine h_nil ⟨bb, 0, none⟩ _ (bAt hops rfl) rfl ?_; try simp only [Act.put, ppA, ppB, ppC]
  refine h_nil ⟨bb, 0, none⟩ _ (bAt hops rfl) rfl ?_; try simp only [Act.put, ppA, ppB, ppC]
  refine h_nil ⟨bb, 0, none⟩ _ (bAt hops rfl) rfl ?_; try simp only [Act.put, ppA, ppB, ppC]
  refine h_c2 (v := .int .u64 ((r 15 : Nat) : Int)) (v1 := .int .u64 ((t 4 : Nat) : Int)) (v2 := .int .i64 27) (bAt hops rfl) rfl rfl ⟨Tryz.call150, fun w => HC.out.2.2.2.2.2.2.2.2.2.2.2.2.2.2.1 w⟩ (hS.get (.tail .head)) ?_; try simp only [Act.put, ppA, ppB, ppC]
  refine h_c2 (v := .int .u64 ((r 16 : Nat) : Int)) (v1 := .int .u64 ((t 5 : Nat) : Int)) (v2 := .int .i64 36) (bAt hops rfl) rfl rfl ⟨Tryz.call150, fun w => HC.out.2.2.2.2.2.2.2.2.2.2.2.2.2.2.2.1 w⟩ (hS.get (.tail .head)) ?_; try simp only [Act.put, ppA, ppB, ppC]
  refine h_c2 (v := .int .u64 ((r 17 : Nat) : Int)) (v1 := .int .u64 ((t 11 : Nat) : Int)) (v2 := .int .i64 10) (bAt hops rfl) rfl rfl ⟨Tryz.call150, fun w => HC.out.2.2.2.2.2.2.2.2.2.2.2.2.2.2.2.2.1 w⟩ (hS.get (.tail .head)) ?_; try simp only [Act.put, ppA, ppB, ppC]
  refine h_c2 (v := .int .u64 ((r 18 : Nat) : Int)) (v1 := .int .u64 ((t 17 : Nat) : Int)) (v2 := .int .i64 15) (bAt hops rfl) rfl rfl ⟨Tryz.call150, fun w => HC.out.2.2.2.2.2.2.2.2.2.2.2.2.2.2.2.2.2.1 w⟩ (hS.get (.tail .head)) ?_; try simp only [Act.put, ppA, ppB, ppC]
  refine h_c2 (v := .int .u64 ((r 19 : Nat) : Int)) (v1 := .int .u64 ((t 23 : Nat) : Int)) (v2 := .int .i64 56) (bAt hops rfl) rfl rfl ⟨Tryz.call150, fun w => HC.out.2.2.2.2.2.2.2.2.2.2.2.2.2.2.2.2.2.2.1 w⟩ (hS.get (.tail .head)) ?_; try simp only [Act.put, ppA, ppB, ppC]
  refine h_c5 (v := .tuple #[.int .u64 ((m 15 : Nat) : Int), .int .u64 ((m 16 : Nat) : Int), .int .u64 ((m 17 : Nat) : Int), .int .u64 ((m 18 : Nat) : Int), .int .u64 ((m 19 : Nat) : Int)]) (v1 := .int .u64 ((r 15 : Nat) : Int)) (v2 := .int .u64 ((r 16 : Nat) : Int)) (v3 := .int .u64 ((r 17 : Nat) : Int)) (v4 := .int .u64 ((r 18 : Nat) : Int)) (v5 := .int .u64 ((r 19 : Nat) : Int)) (bAt hops rfl) rfl rfl rfl rfl rfl ⟨Tryz.call151, fun w => HC.out.2.2.2.2.2.2.2.2.2.2.2.2.2.2.2.2.2.2.2.2.2.2.2.2.2.2.2.2.2.2.2.2.1 w⟩ (hS.get (.tail .head)) ?_; try simp only [Act.put, ppA, ppB, ppC]
  refine h_val (.tuple #[.int .u64 ((m 15 : Nat) : Int), .int .u64 ((m 16 : Nat) : Int), .int .u64 ((m 17 : Nat) : Int), .int .u64 ((m 18 : Nat) : Int), .int .u64 ((m 19 : Nat) : Int)]) _ (bAt hops rfl) rfl ?_; try simp only [Act.put, ppA, ppB, ppC]
  refine h_ext (n := ((m 15 : Nat) : Int)) _ _ 0 (bAt hops rfl) rfl rfl ?_; try simp only [Act.put, ppA, ppB, ppC]
  refine h_ext (n := ((m 16 : Nat) : Int)) _ _ 1 (bAt hops rfl) rfl rfl ?_; try simp only [Act.put, ppA, ppB, ppC]
  refine h_ext (n := ((m 17 : Nat) : Int)) _ _ 2 (bAt hops rfl) rfl rfl ?_; try simp only [Act.put, ppA, ppB, ppC]
  refine h_ext (n := ((m 18 : Nat) : Int)) _ _ 3 (bAt hops rfl) rfl rfl ?_; try simp only [Act.put, ppA, ppB, ppC]
  refine h_ext (n := ((m 19 : Nat) : Int)) _ _ 4 (bAt hops rfl) rfl rfl ?_; try simp only [Act.put, ppA, ppB, ppC]
  refine h_idx (b := bb) 15 171 _ _ (bAt hops rfl) rfl rfl lanes_type u64_size (by decide) ?_; try simp only [Act.put, ppA, ppB, ppC]
  refine h_store (n := ((m 15 : Nat) : Int)) hS 113 _ _ (bAt hops rfl) rfl rfl u64_size (lay_upd (show 15 < 25 by decide) HN.out.2) (by repeat (first | exact Upd.head | apply Upd.tail)) (by rw [lay_size]; have := HN.out.2; omega) ?_; clear hS; intro w1 hS; refine ⟨hS.get (.tail .head), ?_⟩; try simp only [Act.put, ppA, ppB, ppC]
  refine h_idx (b := bb) 16 171 _ _ (bAt hops rfl) rfl rfl lanes_type u64_size (by decide) ?_; try simp only [Act.put, ppA, ppB, ppC]
  refine h_store (n := ((m 16 : Nat) : Int)) hS 113 _ _ (bAt hops rfl) rfl rfl u64_size (lay_upd (show 16 < 25 by decide) HN.out.2) (by repeat (first | exact Upd.head | apply Upd.tail)) (by rw [lay_size]; have := HN.out.2; omega) ?_; clear hS; intro w1 hS; refine ⟨hS.get (.tail .head), ?_⟩; try simp only [Act.put, ppA, ppB, ppC]
  refine h_idx (b := bb) 17 171 _ _ (bAt hops rfl) rfl rfl lanes_type u64_size (by decide) ?_; try simp only [Act.put, ppA, ppB, ppC]
  refine h_store (n := ((m 17 : Nat) : Int)) hS 113 _ _ (bAt hops rfl) rfl rfl u64_size (lay_upd (show 17 < 25 by decide) HN.out.2) (by repeat (first | exact Upd.head | apply Upd.tail)) (by rw [lay_size]; have := HN.out.2; omega) ?_; clear hS; intro w1 hS; refine ⟨hS.get (.tail .head), ?_⟩; try simp only [Act.put, ppA, ppB, ppC]
  refine h_idx (b := bb) 18 171 _ _ (bAt hops rfl) rfl rfl lanes_type u64_size (by decide) ?_; try simp only [Act.put, ppA, ppB, ppC]
  refine h_store (n := ((m 18 : Nat) : Int)) hS 113 _ _ (bAt hops rfl) rfl rfl u64_size (lay_upd (show 18 < 25 by decide) HN.out.2) (by repeat (first | exact Upd.head | apply Upd.tail)) (by rw [lay_size]; have := HN.out.2; omega) ?_; clear hS; intro w1 hS; refine ⟨hS.get (.tail .head), ?_⟩; try simp only [Act.put, ppA, ppB, ppC]
  refine h_idx (b := bb) 19 171 _ _ (bAt hops rfl) rfl rfl lanes_type u64_size (by decide) ?_; try simp only [Act.put, ppA, ppB, ppC]
  refine h_store (n := ((m 19 : Nat) : Int)) hS 113 _ _ (bAt hops rfl) rfl rfl u64_size (lay_upd (show 19 < 25 by decide) HN.out.2) (by repeat (first | exact Upd.head | apply Upd.tail)) (by rw [lay_size]; have := HN.out.2; omega) ?_; clear hS; intro w1 hS; refine ⟨hS.get (.tail .head), ?_⟩; try simp only [Act.put, ppA, ppB, ppC]
  refine h_end ?_
  clear hops ops
  go_upto_region 15 with (fail)
  try simp only [Act.put, ppA, ppB, ppC]
  refine h_region (S := fun w' => Blk w' ba ta (lay ca A)) [(0, true), (1, true), (2, true), (3, true), (4, true), (5, true), (6, true), (7, true), (8, true), (9, true), (10, true), (12, true), (13, true), (14, true), (15, true), (16, true), (17, true), (19, true), (20, true), (21, true), (22, true), (23, true), (24, true), (26, true), (27, true), (28, true), (29, true), (30, true), (31, true), (33, true), (34, true), (35, true), (36, true), (37, true), (38, true), (47, true), (50, true), (53, true), (56, true), (59, true), (11, false), (18, false), (25, false), (32, false), (39, false), (40, false), (41, true), (42, true), (43, true), (44, true), (45, true), (46, true), (48, true), (49, false), (51, true), (52, false), (54, true), (55, false), (57, true), (58, false), (60, true), (61, false)] (by kernel_rfl) (by as_aux_lemma => kernel_rfl) (by as_aux_lemma => kernel_rfl) (by as_aux_lemma => kernel_rfl) (hS.get (.tail .head)).drew (fun d _ _ _ _ h => by cases d <;> exact h) ?_
  replace hS := hS.drew
  intro ops hops
  simp only [List.map_cons, List.map_nil, brief] at hops
  refine h_val (.pointer (some ⟨bb, 0, none⟩)) _ (bAt hops rfl) rfl ?_; try simp only [Act.put, ppA, ppB, ppC]
  refine h_val (.pointer (some ⟨bb, 0, none⟩)) _ (bAt hops rfl) rfl ?_; try simp only [Act.put, ppA, ppB, ppC]
  refine h_val (.pointer (some ⟨bb, 0, none⟩)) _ (bAt hops rfl) rfl ?_; try simp only [Act.put, ppA, ppB, ppC]
  refine h_val (.pointer (some ⟨bb, 0, none⟩)) _ (bAt hops rfl) rfl ?_; try simp only [Act.put, ppA, ppB, ppC]
  refine h_val (.pointer (some ⟨bb, 0, none⟩)) _ (bAt hops rfl) rfl ?_; try simp only [Act.put, ppA, ppB, ppC]
  refine h_val (.pointer (some ⟨ba, 0, none⟩)) _ (bAt hops rfl) rfl ?_; try simp only [Act.put, ppA, ppB, ppC]
  refine h_nil ⟨ba, 0, none⟩ _ (bAt hops rfl) rfl ?_; try simp only [Act.put, ppA, ppB, ppC]
  refine h_idx (b := ba) 2 171 _ _ (bAt hops rfl) rfl rfl lanes_type u64_size (by decide) ?_; try simp only [Act.put, ppA, ppB, ppC]
  refine h_cell (b := ba) (j := 2) (.int .u64 ((A 2 : Nat) : Int)) 113 _ (bAt hops rfl) rfl u64_agg (fun w h => h.cell (lay_get (show 2 < 25 by decide) HN.out.1)) ?_; try simp only [Act.put, ppA, ppB, ppC]
  refine h_val (.int .u64 ((d 2 : Nat) : Int)) _ (bAt hops rfl) rfl ?_; try simp only [Act.put, ppA, ppB, ppC]
  refine h_xor (s := t 2) _ _ _ _ (bAt hops rfl) rfl rfl HX.out.2.2.2.2.2.2.2.2.2.2.2.2.1 (HB.out.1 _) (HB.out.2.2.1 _) ?_; try simp only [Act.put, ppA, ppB, ppC]
  refine h_val (.pointer (some ⟨ba, 0, none⟩)) _ (bAt hops rfl) rfl ?_; try simp only [Act.put, ppA, ppB, ppC]
  refine h_nil ⟨ba, 0, none⟩ _ (bAt hops rfl) rfl ?_; try simp only [Act.put, ppA, ppB, ppC]
  refine h_idx (b := ba) 8 171 _ _ (bAt hops rfl) rfl rfl lanes_type u64_size (by decide) ?_; try simp only [Act.put, ppA, ppB, ppC]
  refine h_cell (b := ba) (j := 8) (.int .u64 ((A 8 : Nat) : Int)) 113 _ (bAt hops rfl) rfl u64_agg (fun w h => h.cell (lay_get (show 8 < 25 by decide) HN.out.1)) ?_; try simp only [Act.put, ppA, ppB, ppC]
  refine h_val (.int .u64 ((d 3 : Nat) : Int)) _ (bAt hops rfl) rfl ?_; try simp only [Act.put, ppA, ppB, ppC]
  refine h_xor (s := t 8) _ _ _ _ (bAt hops rfl) rfl rfl HX.out.2.2.2.2.2.2.2.2.2.2.2.2.2.2.2.2.2.2.1 (HB.out.1 _) (HB.out.2.2.1 _) ?_; try simp only [Act.put, ppA, ppB, ppC]
  refine h_val (.pointer (some ⟨ba, 0, none⟩)) _ (bAt hops rfl) rfl ?_; try simp only [Act.put, ppA, ppB, ppC]
  refine h_nil ⟨ba, 0, none⟩ _ (bAt hops rfl) rfl ?_; try simp only [Act.put, ppA, ppB, ppC]
  refine h_idx (b := ba) 14 171 _ _ (bAt hops rfl) rfl rfl lanes_type u64_size (by decide) ?_; try simp only [Act.put, ppA, ppB, ppC]
  refine h_cell (b := ba) (j := 14) (.int .u64 ((A 14 : Nat) : Int)) 113 _ (bAt hops rfl) rfl u64_agg (fun w h => h.cell (lay_get (show 14 < 25 by decide) HN.out.1)) ?_; try simp only [Act.put, ppA, ppB, ppC]
  refine h_val (.int .u64 ((d 4 : Nat) : Int)) _ (bAt hops rfl) rfl ?_; try simp only [Act.put, ppA, ppB, ppC]
  refine h_xor (s := t 14) _ _ _ _ (bAt hops rfl) rfl rfl HX.out.2.2.2.2.2.2.2.2.2.2.2.2.2.2.2.2.2.2.2.2.2.2.2.2.1 (HB.out.1 _) (HB.out.2.2.1 _) ?_; try simp only [Act.put, ppA, ppB, ppC]
  refine h_val (.pointer (some ⟨ba, 0, none⟩)) _ (bAt hops rfl) rfl ?_; try simp only [Act.put, ppA, ppB, ppC]
  refine h_nil ⟨ba, 0, none⟩ _ (bAt hops rfl) rfl ?_; try simp only [Act.put, ppA, ppB, ppC]
  refine h_idx (b := ba) 15 171 _ _ (bAt hops rfl) rfl rfl lanes_type u64_size (by decide) ?_; try simp only [Act.put, ppA, ppB, ppC]
  refine h_cell (b := ba) (j := 15) (.int .u64 ((A 15 : Nat) : Int)) 113 _ (bAt hops rfl) rfl u64_agg (fun w h => h.cell (lay_get (show 15 < 25 by decide) HN.out.1)) ?_; try simp only [Act.put, ppA, ppB, ppC]
  refine h_val (.int .u64 ((d 0 : Nat) : Int)) _ (bAt hops rfl) rfl ?_; try simp only [Act.put, ppA, ppB, ppC]
  refine h_xor (s := t 15) _ _ _ _ (bAt hops rfl) rfl rfl HX.out.2.2.2.2.2.2.2.2.2.2.2.2.2.2.2.2.2.2.2.2.2.2.2.2.2.1 (HB.out.1 _) (HB.out.2.2.1 _) ?_; try simp only [Act.put, ppA, ppB, ppC]
  refine h_val (.pointer (some ⟨ba, 0, none⟩)) _ (bAt hops rfl) rfl ?_; try simp only [Act.put, ppA, ppB, ppC]
  refine h_nil ⟨ba, 0, none⟩ _ (bAt hops rfl) rfl ?_; try simp only [Act.put, ppA, ppB, ppC]
  refine h_idx (b := ba) 21 171 _ _ (bAt hops rfl) rfl rfl lanes_type u64_size (by decide) ?_; try simp only [Act.put, ppA, ppB, ppC]
  refine h_cell (b := ba) (j := 21) (.int .u64 ((A 21 : Nat) : Int)) 113 _ (bAt hops rfl) rfl u64_agg (fun w h => h.cell (lay_get (show 21 < 25 by decide) HN.out.1)) ?_; try simp only [Act.put, ppA, ppB, ppC]
  refine h_val (.int .u64 ((d 1 : Nat) : Int)) _ (bAt hops rfl) rfl ?_; try simp only [Act.put, ppA, ppB, ppC]
  refine h_xor (s := t 21) _ _ _ _ (bAt hops rfl) rfl rfl HX.out.2.2.2.2.2.2.2.2.2.2.2.2.2.2.2.2.2.2.2.2.2.2.2.2.2.2.2.2.2.2.2.1 (HB.out.1 _) (HB.out.2.2.1 _) ?_; try simp only [Act.put, ppA, ppB, ppC]
  refine h_nil ⟨bb, 0, none⟩ _ (bAt hops rfl) rfl ?_; try simp only [Act.put, ppA, ppB, ppC]
  refine h_nil ⟨bb, 0, none⟩ _ (bAt hops rfl) rfl ?_; try simp only [Act.put, ppA, ppB, ppC]
  refine h_nil ⟨bb, 0, none⟩ _ (bAt hops rfl) rfl ?_; try simp only [Act.put, ppA, ppB, ppC]
  refine h_nil ⟨bb, 0, none⟩ _ (bAt hops rfl) rfl ?_; try simp only [Act.put, ppA, ppB, ppC]
  refine h_nil ⟨bb, 0, none⟩ _ (bAt hops rfl) rfl ?_; try simp only [Act.put, ppA, ppB, ppC]
  refine h_c2 (v := .int .u64 ((r 20 : Nat) : Int)) (v1 := .int .u64 ((t 2 : Nat) : Int)) (v2 := .int .i64 62) (bAt hops rfl) rfl rfl ⟨Tryz.call150, fun w => HC.out.2.2.2.2.2.2.2.2.2.2.2.2.2.2.2.2.2.2.2.1 w⟩ (hS.get (.tail .head)) ?_; try simp only [Act.put, ppA, ppB, ppC]
  refine h_c2 (v := .int .u64 ((r 21 : Nat) : Int)) (v1 := .int .u64 ((t 8 : Nat) : Int)) (v2 := .int .i64 55) (bAt hops rfl) rfl rfl ⟨Tryz.call150, fun w => HC.out.2.2.2.2.2.2.2.2.2.2.2.2.2.2.2.2.2.2.2.2.1 w⟩ (hS.get (.tail .head)) ?_; try simp only [Act.put, ppA, ppB, ppC]
  refine h_c2 (v := .int .u64 ((r 22 : Nat) : Int)) (v1 := .int .u64 ((t 14 : Nat) : Int)) (v2 := .int .i64 39) (bAt hops rfl) rfl rfl ⟨Tryz.call150, fun w => HC.out.2.2.2.2.2.2.2.2.2.2.2.2.2.2.2.2.2.2.2.2.2.1 w⟩ (hS.get (.tail .head)) ?_; try simp only [Act.put, ppA, ppB, ppC]
  refine h_c2 (v := .int .u64 ((r 23 : Nat) : Int)) (v1 := .int .u64 ((t 15 : Nat) : Int)) (v2 := .int .i64 41) (bAt hops rfl) rfl rfl ⟨Tryz.call150, fun w => HC.out.2.2.2.2.2.2.2.2.2.2.2.2.2.2.2.2.2.2.2.2.2.2.1 w⟩ (hS.get (.tail .head)) ?_; try simp only [Act.put, ppA, ppB, ppC]
  refine h_c2 (v := .int .u64 ((r 24 : Nat) : Int)) (v1 := .int .u64 ((t 21 : Nat) : Int)) (v2 := .int .i64 2) (bAt hops rfl) rfl rfl ⟨Tryz.call150, fun w => HC.out.2.2.2.2.2.2.2.2.2.2.2.2.2.2.2.2.2.2.2.2.2.2.2.1 w⟩ (hS.get (.tail .head)) ?_; try simp only [Act.put, ppA, ppB, ppC]
  refine h_c5 (v := .tuple #[.int .u64 ((m 20 : Nat) : Int), .int .u64 ((m 21 : Nat) : Int), .int .u64 ((m 22 : Nat) : Int), .int .u64 ((m 23 : Nat) : Int), .int .u64 ((m 24 : Nat) : Int)]) (v1 := .int .u64 ((r 20 : Nat) : Int)) (v2 := .int .u64 ((r 21 : Nat) : Int)) (v3 := .int .u64 ((r 22 : Nat) : Int)) (v4 := .int .u64 ((r 23 : Nat) : Int)) (v5 := .int .u64 ((r 24 : Nat) : Int)) (bAt hops rfl) rfl rfl rfl rfl rfl ⟨Tryz.call151, fun w => HC.out.2.2.2.2.2.2.2.2.2.2.2.2.2.2.2.2.2.2.2.2.2.2.2.2.2.2.2.2.2.2.2.2.2 w⟩ (hS.get (.tail .head)) ?_; try simp only [Act.put, ppA, ppB, ppC]
  refine h_val (.tuple #[.int .u64 ((m 20 : Nat) : Int), .int .u64 ((m 21 : Nat) : Int), .int .u64 ((m 22 : Nat) : Int), .int .u64 ((m 23 : Nat) : Int), .int .u64 ((m 24 : Nat) : Int)]) _ (bAt hops rfl) rfl ?_; try simp only [Act.put, ppA, ppB, ppC]
  refine h_ext (n := ((m 20 : Nat) : Int)) _ _ 0 (bAt hops rfl) rfl rfl ?_; try simp only [Act.put, ppA, ppB, ppC]
  refine h_ext (n := ((m 21 : Nat) : Int)) _ _ 1 (bAt hops rfl) rfl rfl ?_; try simp only [Act.put, ppA, ppB, ppC]
  refine h_ext (n := ((m 22 : Nat) : Int)) _ _ 2 (bAt hops rfl) rfl rfl ?_; try simp only [Act.put, ppA, ppB, ppC]
  refine h_ext (n := ((m 23 : Nat) : Int)) _ _ 3 (bAt hops rfl) rfl rfl ?_; try simp only [Act.put, ppA, ppB, ppC]
  refine h_ext (n := ((m 24 : Nat) : Int)) _ _ 4 (bAt hops rfl) rfl rfl ?_; try simp only [Act.put, ppA, ppB, ppC]
  refine h_idx (b := bb) 20 171 _ _ (bAt hops rfl) rfl rfl lanes_type u64_size (by decide) ?_; try simp only [Act.put, ppA, ppB, ppC]
  refine h_store (n := ((m 20 : Nat) : Int)) hS 113 _ _ (bAt hops rfl) rfl rfl u64_size (lay_upd (show 20 < 25 by decide) HN.out.2) (by repeat (first | exact Upd.head | apply Upd.tail)) (by rw [lay_size]; have := HN.out.2; omega) ?_; clear hS; intro w1 hS; refine ⟨hS.get (.tail .head), ?_⟩; try simp only [Act.put, ppA, ppB, ppC]
  refine h_idx (b := bb) 21 171 _ _ (bAt hops rfl) rfl rfl lanes_type u64_size (by decide) ?_; try simp only [Act.put, ppA, ppB, ppC]
  refine h_store (n := ((m 21 : Nat) : Int)) hS 113 _ _ (bAt hops rfl) rfl rfl u64_size (lay_upd (show 21 < 25 by decide) HN.out.2) (by repeat (first | exact Upd.head | apply Upd.tail)) (by rw [lay_size]; have := HN.out.2; omega) ?_; clear hS; intro w1 hS; refine ⟨hS.get (.tail .head), ?_⟩; try simp only [Act.put, ppA, ppB, ppC]
  refine h_idx (b := bb) 22 171 _ _ (bAt hops rfl) rfl rfl lanes_type u64_size (by decide) ?_; try simp only [Act.put, ppA, ppB, ppC]
  refine h_store (n := ((m 22 : Nat) : Int)) hS 113 _ _ (bAt hops rfl) rfl rfl u64_size (lay_upd (show 22 < 25 by decide) HN.out.2) (by repeat (first | exact Upd.head | apply Upd.tail)) (by rw [lay_size]; have := HN.out.2; omega) ?_; clear hS; intro w1 hS; refine ⟨hS.get (.tail .head), ?_⟩; try simp only [Act.put, ppA, ppB, ppC]
  refine h_idx (b := bb) 23 171 _ _ (bAt hops rfl) rfl rfl lanes_type u64_size (by decide) ?_; try simp only [Act.put, ppA, ppB, ppC]
  refine h_store (n := ((m 23 : Nat) : Int)) hS 113 _ _ (bAt hops rfl) rfl rfl u64_size (lay_upd (show 23 < 25 by decide) HN.out.2) (by repeat (first | exact Upd.head | apply Upd.tail)) (by rw [lay_size]; have := HN.out.2; omega) ?_; clear hS; intro w1 hS; refine ⟨hS.get (.tail .head), ?_⟩; try simp only [Act.put, ppA, ppB, ppC]
  refine h_idx (b := bb) 24 171 _ _ (bAt hops rfl) rfl rfl lanes_type u64_size (by decide) ?_; try simp only [Act.put, ppA, ppB, ppC]
  refine h_store (n := ((m 24 : Nat) : Int)) hS 113 _ _ (bAt hops rfl) rfl rfl u64_size (lay_upd (show 24 < 25 by decide) HN.out.2) (by repeat (first | exact Upd.head | apply Upd.tail)) (by rw [lay_size]; have := HN.out.2; omega) ?_; clear hS; intro w1 hS; refine ⟨hS.get (.tail .head), ?_⟩; try simp only [Act.put, ppA, ppB, ppC]
  refine h_end ?_
  clear hops ops
  go_wp2
  refine bodyPost_end (results_none rfl _ _ _) rfl ⟨rfl, hS.frame.less HBA.out (hS.get (.tail .head)), ?_⟩
  have hB := hS.get .head
  have e : lay cb (upd (upd (upd (upd (upd (upd (upd (upd (upd (upd (upd (upd (upd (upd (upd (upd (upd (upd (upd (upd (upd (upd (upd (upd (upd (upd B 0 (m 0)) 1 (m 1)) 2 (m 2)) 3 (m 3)) 4 (m 4)) 0 ((m 0 ^^^ rn))) 5 (m 5)) 6 (m 6)) 7 (m 7)) 8 (m 8)) 9 (m 9)) 10 (m 10)) 11 (m 11)) 12 (m 12)) 13 (m 13)) 14 (m 14)) 15 (m 15)) 16 (m 16)) 17 (m 17)) 18 (m 18)) 19 (m 19)) 20 (m 20)) 21 (m 21)) 22 (m 22)) 23 (m 23)) 24 (m 24)) = lay cb (roundN A rn) := lay_congr fun i hi => by
    rw [filled m B rn i hi, HM.out.1]
    rfl
  rwa [e] at hB
end Go.Proofs.YtopfmaoeebgjmaaGreatDoor
