/- Words and rows of limbs: load, word. -/
import Derived.Test.YtklpcppdjcedpaaN11
set_option linter.unusedVariables false
set_option linter.unusedSimpArgs false
namespace Go.Proofs.Ytklpcppdjcedpaa
open Go.RowKit

/-- A row of n limbs of 64 bits, the lowest first. -/
def dig (n x : Nat) : Array Value := ((List.range n).map fun i => Value.int .u64 ((x / 2 ^ (64 * i) % 2 ^ 64 : Nat) : Int)).toArray

theorem dig_size (n x : Nat) : (dig n x).size = n := by simp [dig]
theorem dig_get {n x i : Nat} (h : i < n) : (dig n x)[i]? = some (Value.int .u64 ((x / 2 ^ (64 * i) % 2 ^ 64 : Nat) : Int)) := by
  simp [dig, h]
theorem dig_set {n x k : Nat} {s : Nat} (h : k < n) (hx : x < 2 ^ (64 * k)) (hs : s < 2 ^ 64) :
    (dig n x).setIfInBounds k (.int .u64 (s : Int)) = dig n (x + s * 2 ^ (64 * k)) := by
  apply Array.ext_getElem?
  intro i
  rw [Array.getElem?_setIfInBounds]
  by_cases hi : i < n
  · rw [dig_get hi, dig_get hi]
    by_cases hk : k = i
    · subst hk
      simp only [if_true, dig_size, h]
      congr 3
      rw [Nat.add_mul_div_right _ _ (Nat.two_pow_pos _), Nat.div_eq_of_lt hx, Nat.zero_add, Nat.mod_eq_of_lt hs]
    · rw [if_neg hk]
      congr 3
      rcases Nat.lt_or_ge i k with hlt | hge
      · have e : 2 ^ (64 * k) = 2 ^ (64 * i) * (2 ^ 64 * 2 ^ (64 * (k - i - 1))) := by
          rw [← Nat.pow_add, ← Nat.pow_add]; congr 1; omega
        rw [e, show x + s * (2 ^ (64 * i) * (2 ^ 64 * 2 ^ (64 * (k - i - 1)))) = x + 2 ^ (64 * i) * (2 ^ 64 * (s * 2 ^ (64 * (k - i - 1)))) from by
          simp only [Nat.mul_left_comm, Nat.mul_comm], Nat.add_mul_div_left _ _ (Nat.two_pow_pos _), Nat.add_mul_mod_self_left]
      · have h1 : x + s * 2 ^ (64 * k) < 2 ^ (64 * i) := by
          have : 2 ^ (64 * k) * 2 ^ 64 ≤ 2 ^ (64 * i) := by rw [← Nat.pow_add]; exact Nat.pow_le_pow_right (by omega) (by omega)
          have h2 : s * 2 ^ (64 * k) ≤ (2 ^ 64 - 1) * 2 ^ (64 * k) := Nat.mul_le_mul_right _ (by omega)
          have h3 : (2 ^ 64 - 1) * 2 ^ (64 * k) = 2 ^ (64 * k) * 2 ^ 64 - 2 ^ (64 * k) := by
            rw [Nat.sub_mul, Nat.one_mul, Nat.mul_comm]
          omega
        have h4 : x < 2 ^ (64 * i) := by omega
        rw [Nat.div_eq_of_lt h1, Nat.div_eq_of_lt h4]
  · have e1 : (dig n x)[i]? = none := by rw [Array.getElem?_eq_none]; rw [dig_size]; omega
    have e2 : (dig n (x + s * 2 ^ (64 * k)))[i]? = none := by rw [Array.getElem?_eq_none]; rw [dig_size]; omega
    rw [e1, e2]
    have : k ≠ i := by omega
    rw [if_neg this]

theorem dig_mod (n x : Nat) : dig n (x % 2 ^ (64 * n)) = dig n x := by
  apply Array.ext_getElem?
  intro i
  by_cases hi : i < n
  · rw [dig_get hi, dig_get hi]
    congr 3
    apply Nat.eq_of_testBit_eq
    intro j
    rw [Nat.testBit_mod_two_pow, Nat.testBit_mod_two_pow, Nat.testBit_div_two_pow, Nat.testBit_div_two_pow, Nat.testBit_mod_two_pow]
    by_cases hj : j < 64
    · have : j + 64 * i < 64 * n := by omega
      simp [hj, this]
    · simp [hj]
  · rw [Array.getElem?_eq_none (by rw [dig_size]; omega), Array.getElem?_eq_none (by rw [dig_size]; omega)]
theorem dig_zero4 : dig 4 0 = #[.int .u64 0, .int .u64 0, .int .u64 0, .int .u64 0] := by simp [dig, List.range_succ]
theorem mod_step (x P B : Nat) : x % (P * B) = x % P + P * (x / P % B) := Nat.mod_mul
theorem mod_pow_step (x k : Nat) : x % 2 ^ (64 * (k + 1)) = x % 2 ^ (64 * k) + (x / 2 ^ (64 * k) % 2 ^ 64) * 2 ^ (64 * k) := by
  have e : 2 ^ (64 * (k + 1)) = 2 ^ (64 * k) * 2 ^ 64 := by rw [← Nat.pow_add]; congr 1
  rw [e, mod_step, Nat.mul_comm (2 ^ (64 * k))]
theorem dig_step {n z k : Nat} {s : Nat} (h : k < n) (hs : s = z / 2 ^ (64 * k) % 2 ^ 64) :
    (dig n (z % 2 ^ (64 * k))).setIfInBounds k (.int .u64 (s : Int)) = dig n (z % 2 ^ (64 * (k + 1))) := by
  rw [dig_set h (Nat.mod_lt _ (Nat.two_pow_pos _)) (by rw [hs]; exact Nat.mod_lt _ (by decide)), mod_pow_step, hs]
theorem byt_limb {x k j : Nat} (hk : k < 4) (hj : j < 8) : byt x (24 - 8 * k + j) = (x / 2 ^ (64 * k) % 2 ^ 64) / 2 ^ (8 * (7 - j)) % 256 := by
  apply Nat.eq_of_testBit_eq; intro i
  rw [byt_testBit, show 256 = 2 ^ 8 by rfl, Nat.testBit_mod_two_pow, Nat.testBit_div_two_pow, Nat.testBit_mod_two_pow, Nat.testBit_div_two_pow]
  by_cases hi : i < 8
  · have h1 : i + 8 * (7 - j) < 64 := by omega
    have h2 : 8 * (31 - (24 - 8 * k + j)) + i = i + 8 * (7 - j) + 64 * k := by omega
    simp [hi, h1, h2]
  · simp [hi]
theorem byt_mod_lo {x k i : Nat} (h : 31 - i < 8 * k) : byt (x % 2 ^ (64 * k)) i = byt x i := by
  apply Nat.eq_of_testBit_eq; intro j
  rw [byt_testBit, byt_testBit, Nat.testBit_mod_two_pow]
  by_cases hj : j < 8
  · have : 8 * (31 - i) + j < 64 * k := by omega
    simp [hj, this]
  · simp [hj]
theorem byt_mod_hi {x k i : Nat} (h : 8 * k ≤ 31 - i) : byt (x % 2 ^ (64 * k)) i = 0 := by
  apply Nat.eq_of_testBit_eq; intro j
  rw [byt_testBit, Nat.testBit_mod_two_pow, Nat.zero_testBit]
  by_cases hj : j < 8
  · have : ¬ 8 * (31 - i) + j < 64 * k := by omega
    simp [this]
  · simp [hj]
/-- Eight bytes are a limb. -/
theorem limb_of_bytes (y : Nat) (hy : y < 2 ^ 64) :
    y / 2 ^ 56 % 256 * 2 ^ 56 + y / 2 ^ 48 % 256 * 2 ^ 48 + y / 2 ^ 40 % 256 * 2 ^ 40 + y / 2 ^ 32 % 256 * 2 ^ 32 + y / 2 ^ 24 % 256 * 2 ^ 24 + y / 2 ^ 16 % 256 * 2 ^ 16 + y / 2 ^ 8 % 256 * 2 ^ 8 + y % 256 = y := by
  omega
theorem u64_size : (Try.prog.info? 94).map (·.size) = some 1 := by kernel_rfl
theorem dig_one (n x : Nat) : (dig n x).all (·.oneCell') = true := by
  rw [Array.all_eq_true_iff_forall_mem]
  intro v hv
  simp only [dig, List.mem_toArray, List.mem_map] at hv
  obtain ⟨i, _, rfl⟩ := hv
  rfl

theorem limbs_type : Try.prog.underlying 96 = some (.array 4 94) := by kernel_rfl
theorem limbs_size : (Try.prog.info? 96).map (·.size) = some 4 := by kernel_rfl
theorem load_limbs {w : World} {b x : Nat} {t : TypeId} (h : Blk w b t (dig 4 x)) : (Instr.loadAt 96 (.pointer (some ⟨b, 0, none⟩))).run Try.prog w = .ok (.agg (dig 4 x)) w :=
  h.load limbs_type rfl limbs_size (dig_size _ _)
theorem store_limbs {w : World} {b x y : Nat} {t : TypeId} (h : Blk w b t (dig 4 x)) : (Instr.storeAt 96 (.pointer (some ⟨b, 0, none⟩)) (.agg (dig 4 y))).run Try.prog w = .ok () (w.setRow b (dig 4 y)) :=
  h.store limbs_size (dig_size _ _) (dig_size _ _) (dig_one _ _)
theorem load_wf {w : World} {b : Nat} {f : Nat → Nat} {t : TypeId} (h : Blk w b t (bc 32 f)) : (Instr.loadAt 25 (.pointer (some ⟨b, 0, none⟩))).run Try.prog w = .ok (.agg (bc 32 f)) w :=
  h.load wordN_type rfl wordN_size (bc_size _ _)
theorem store_wf {w : World} {b : Nat} {f g : Nat → Nat} {t : TypeId} (h : Blk w b t (bc 32 f)) : (Instr.storeAt 25 (.pointer (some ⟨b, 0, none⟩)) (.agg (bc 32 g))).run Try.prog w = .ok () (w.setRow b (bc 32 g)) :=
  h.store wordN_size (bc_size _ _) (bc_size _ _) (bc_one _ _)

theorem three_blocks (w : World) (t1 t2 t3 : TypeId) (c1 c2 c3 : Array Value) :
    Below w.heap.size w (((w.alloc (.cells c1 t1)).alloc (.cells c2 t2)).alloc (.cells c3 t3)) ∧ Blk (((w.alloc (.cells c1 t1)).alloc (.cells c2 t2)).alloc (.cells c3 t3)) w.heap.size t1 c1 ∧
    Blk (((w.alloc (.cells c1 t1)).alloc (.cells c2 t2)).alloc (.cells c3 t3)) (w.heap.size + 1) t2 c2 ∧ Blk (((w.alloc (.cells c1 t1)).alloc (.cells c2 t2)).alloc (.cells c3 t3)) (w.heap.size + 1 + 1) t3 c3 :=
  ⟨(((Below.refl _ _).alloc (Nat.le_refl _) _).alloc (by simp) _).alloc (by simp; omega) _, ((Blk.new _ _ _).alloc _).alloc _, by simpa using ((Blk.new (w.alloc _) _ _).alloc _), by simpa using (Blk.new ((w.alloc _).alloc _) _ _)⟩
theorem wf_zero : bc 32 (byt 0) = #[.int .u8 0, .int .u8 0, .int .u8 0, .int .u8 0, .int .u8 0, .int .u8 0, .int .u8 0, .int .u8 0, .int .u8 0, .int .u8 0, .int .u8 0, .int .u8 0, .int .u8 0, .int .u8 0, .int .u8 0, .int .u8 0, .int .u8 0, .int .u8 0, .int .u8 0, .int .u8 0, .int .u8 0, .int .u8 0, .int .u8 0, .int .u8 0, .int .u8 0, .int .u8 0, .int .u8 0, .int .u8 0, .int .u8 0, .int .u8 0, .int .u8 0, .int .u8 0] := by
  simp [bc, byt, List.range_succ]

section
variable {P : Program} {ty n e b : Nat} {w : World}
theorem sizeOf_oneP (he : (P.info? e).map (·.size) = some 1) (w : World) : (sizeOf e).run P w = .ok 1 w := by
  cases hq : P.info? e with
  | none => simp [hq] at he
  | some i =>
    have hs : i.size = 1 := by simpa [hq] using he
    simp [sizeOf, typeInfo, hq, hs]
theorem slice_lo {lo : Int} (hu : P.underlying ty = some (.array n e)) (he : (P.info? e).map (·.size) = some 1) (h0 : 0 ≤ lo) (h1 : lo < n) (w : World) :
    (Instr.sliceAt ty (.pointer (some ⟨b, 0, none⟩)) (some (.int .i64 lo)) none none).run P w = .ok (.slice (some ⟨b, lo.toNat, none⟩) (n - lo.toNat) (n - lo.toNat)) w := by
  have hne : ¬ n = lo.toNat := by omega
  have hin : 0 ≤ lo ∧ lo ≤ (n : Int) := ⟨h0, by omega⟩
  have hadd : (⟨b, 0, none⟩ : Addr).add (lo.toNat * 1) = ⟨b, lo.toNat, none⟩ := by unfold Addr.add; split <;> simp_all
  simp only [Instr.sliceAt, Sem.run_bind, run_underlying hu w, Result.andThen_ok, Instr.sureAddr, Instr.sliceBounds, Instr.sliceBound, asIntOf, Sem.run_pure, sizeOf_oneP he w, hadd, Option.isSome_none, Bool.false_eq_true, if_false, hin, and_self, if_true, hne]
theorem slice_hi {hi : Int} (hu : P.underlying ty = some (.array n e)) (he : (P.info? e).map (·.size) = some 1) (h0 : 0 ≤ hi) (h1 : hi ≤ n) (hn : n ≠ 0) (w : World) :
    (Instr.sliceAt ty (.pointer (some ⟨b, 0, none⟩)) none (some (.int .i64 hi)) none).run P w = .ok (.slice (some ⟨b, 0, none⟩) hi.toNat n) w := by
  have hin : 0 ≤ hi ∧ hi ≤ (n : Int) := ⟨h0, h1⟩
  have hadd : (⟨b, 0, none⟩ : Addr).add (0 * 1) = ⟨b, 0, none⟩ := rfl
  simp only [Instr.sliceAt, Sem.run_bind, run_underlying hu w, Result.andThen_ok, Instr.sureAddr, Instr.sliceBounds, Instr.sliceBound, asIntOf, Sem.run_pure, sizeOf_oneP he w, hadd, Bool.false_eq_true, if_false, hin, and_self, if_true, hn, Nat.sub_zero]
theorem slice_both {lo hi : Int} (hu : P.underlying ty = some (.array n e)) (he : (P.info? e).map (·.size) = some 1) (h0 : 0 ≤ lo) (h1 : lo ≤ hi) (h2 : hi ≤ n) (h3 : lo < n) (w : World) :
    (Instr.sliceAt ty (.pointer (some ⟨b, 0, none⟩)) (some (.int .i64 lo)) (some (.int .i64 hi)) none).run P w = .ok (.slice (some ⟨b, lo.toNat, none⟩) (hi.toNat - lo.toNat) (n - lo.toNat)) w := by
  have hne : ¬ n = lo.toNat := by omega
  have hin : 0 ≤ hi ∧ hi ≤ (n : Int) := ⟨by omega, h2⟩
  have hin2 : 0 ≤ lo ∧ lo ≤ ((hi.toNat : Nat) : Int) := ⟨h0, by omega⟩
  have hadd : (⟨b, 0, none⟩ : Addr).add (lo.toNat * 1) = ⟨b, lo.toNat, none⟩ := by unfold Addr.add; split <;> simp_all
  simp only [Instr.sliceAt, Sem.run_bind, run_underlying hu w, Result.andThen_ok, Instr.sureAddr, Instr.sliceBounds, Instr.sliceBound, asIntOf, Sem.run_pure, sizeOf_oneP he w, hadd, Option.isSome_none, Bool.false_eq_true, if_false, hin, hin2, and_self, if_true, hne]
theorem slice_all (hu : P.underlying ty = some (.array n e)) (he : (P.info? e).map (·.size) = some 1) (hn : n ≠ 0) (w : World) :
    (Instr.sliceAt ty (.pointer (some ⟨b, 0, none⟩)) none none none).run P w = .ok (.slice (some ⟨b, 0, none⟩) n n) w := by
  have hadd : (⟨b, 0, none⟩ : Addr).add (0 * 1) = ⟨b, 0, none⟩ := rfl
  simp only [Instr.sliceAt, Sem.run_bind, run_underlying hu w, Result.andThen_ok, Instr.sureAddr, Instr.sliceBounds, Sem.run_pure, sizeOf_oneP he w, hadd, if_false, hn, Nat.sub_zero]
end
theorem u8_one : (Try.prog.info? 5).map (·.size) = some 1 := u8_size
theorem word_slice {b : Nat} {lo : Int} (h0 : 0 ≤ lo) (h1 : lo < 32) (w : World) :
    (Instr.sliceAt 25 (.pointer (some ⟨b, 0, none⟩)) (some (.int .i64 lo)) none none).run Try.prog w = .ok (.slice (some ⟨b, lo.toNat, none⟩) (32 - lo.toNat) (32 - lo.toNat)) w :=
  slice_lo wordN_type u8_size h0 h1 w
theorem joinBytes_word (x k b o n c xk : Nat) (t : TypeId) (w : World) (hxk : x / 2 ^ (64 * k) % 2 ^ 64 = xk) (hk : k < 4) (ho : o = 24 - 8 * k) (hn : 8 ≤ n) (hb : Blk w b t (wcells x)) :
    Calls Try.prog 58 #[.slice (some ⟨b, o, none⟩) n c] w fun e w' => e = .returned (.int .u64 (xk : Int)) ∧ ∃ m, w' = w.drewN m := by
  subst ho hxk
  refine (joinBytes_any (fun j => byt x (24 - 8 * k + j)) b _ n c w hn (fun j => byt_lt _ _) (fun j hj => hb.cell (bc_get (n := 32) (by omega)))).mono fun e w' ⟨he, hw⟩ => ⟨?_, hw⟩
  rw [he]
  refine ret_int (congrArg _ ?_)
  have hl := limb_of_bytes (x / 2 ^ (64 * k) % 2 ^ 64) (Nat.mod_lt _ (by decide))
  rw [byt_limb hk (by omega), byt_limb hk (by omega), byt_limb hk (by omega), byt_limb hk (by omega), byt_limb hk (by omega), byt_limb hk (by omega), byt_limb hk (by omega), byt_limb hk (by omega)]
  simpa using hl

set_option maxHeartbeats 1000000 in
set_option maxRecDepth 100000 in
theorem load_any (x : Nat) (w : World) :
    Calls Try.prog 44 #[.agg (wcells x)] w fun e w' => e = .returned (.agg (dig 4 x)) ∧ Below w.heap.size w w' := by
  go_enter Try.func44, Try.ntmps44
  go_wp2
  go_loopw [5] (fun i wr => ∃ k : Nat, k ≤ 4 ∧ i = .int .i64 k ∧ Below w.heap.size w wr ∧
      Blk wr w.heap.size 25 (wcells x) ∧ Blk wr (w.heap.size + 1) 96 (dig 4 0) ∧ Blk wr (w.heap.size + 1 + 1) 96 (dig 4 (x % 2 ^ (64 * k)))) (fun i _ => 4 - (intOf i).toNat)
  case atStart =>
    obtain ⟨g0, g1, g2, g3⟩ := three_blocks w 25 96 96 (wcells x) (dig 4 0) (dig 4 0)
    exact ⟨0, by omega, rfl, by rw [← dig_zero4]; exact g0, by rw [← dig_zero4]; exact g1, by rw [← dig_zero4]; exact g2, by rw [← dig_zero4, show x % 2 ^ (64 * 0) = 0 by simp [Nat.mod_one]]; exact g3⟩
  case round =>
    obtain ⟨k, hk, rfl, hb, h0, h1, h2⟩ := hrel
    by_cases hlt : k < 4
    · obtain ⟨xk, hxk⟩ : ∃ xk, x / 2 ^ (64 * k) % 2 ^ 64 = xk := ⟨_, rfl⟩
      have sd := @dig_step 4 x k _ hlt hxk.symm
      have SD := Lib.hid (And.intro hxk sd)
      clear sd hxk
      have hsl := fun wx => word_slice (b := w.heap.size) (lo := 24 - 8 * (k : Int)) (by omega) (by omega) wx
      rw [show (24 - 8 * (k : Int)).toNat = 24 - 8 * k by omega] at hsl
      go_wp2_with (first | (go_at_call 58; refine (joinBytes_word x k _ _ _ _ _ _ _ SD.out.1 hlt (by omega) (by omega) h0).mono ?_; rintro e w' ⟨rfl, m, rfl⟩) | (refine arm_store_int rfl 94 _ _ rfl rfl rfl u64_size (Blk.drewN h2 _) (by rw [dig_size]; omega) ?_; intro w1 hB1 hO1))
      go_roundw
      case rel =>
        refine ⟨k + 1, by omega, by go_num, (below_drewN hb _).trans (hO1.below (by omega)), hO1.blk (by omega) (h0.drewN _), hO1.blk (by omega) (h1.drewN _), ?_⟩
        rw [← SD.out.2]; exact hB1
      case measure => simp [intOf]; omega
    · clear h0
      go_wp2_with (first | (refine arm_load rfl 96 _ rfl rfl (load_limbs (by assumption)) ?_) | (refine arm_store rfl 96 _ _ rfl rfl rfl (store_limbs h1) ?_))
      obtain rfl : k = 4 := by omega
      have e : dig 4 (x % 2 ^ (64 * 4)) = dig 4 x := dig_mod 4 x
      rw [← e]
      exact post_cell 2 96 rfl rfl rfl (h1.row _) limbs_type rfl limbs_size (dig_size _ _) ⟨rfl, below_row hb (by omega) _⟩

/-! ### Limbs to words -/
theorem word_step {x k xk : Nat} (hk : k < 4) (hx : x / 2 ^ (64 * k) % 2 ^ 64 = xk) :
    set8 (wcells (x % 2 ^ (64 * k))) (24 - 8 * k) (fun j => xk / 2 ^ (8 * (7 - j)) % 256) = wcells (x % 2 ^ (64 * (k + 1))) := by
  rw [wcells, set8_bc (by omega)]
  refine bc_congr fun i hi => ?_
  by_cases h : 24 - 8 * k ≤ i ∧ i < 24 - 8 * k + 8
  · rw [if_pos h, ← hx, ← byt_limb hk (by omega), show 24 - 8 * k + (i - (24 - 8 * k)) = i by omega, byt_mod_lo (by omega)]
  · rw [if_neg h]
    by_cases h2 : 31 - i < 8 * k
    · rw [byt_mod_lo h2, byt_mod_lo (by omega)]
    · rw [byt_mod_hi (by omega), byt_mod_hi (by omega)]
theorem dig_word (x k : Nat) (h : 0 < k) : wcells (x % 2 ^ (64 * (3 + k))) = wcells x := bc_congr fun i hi => byt_mod_lo (by omega)

set_option maxHeartbeats 1000000 in
set_option maxRecDepth 100000 in
theorem word_any (x : Nat) (w : World) :
    Calls Try.prog 46 #[.agg (dig 4 x)] w fun e w' => e = .returned (.agg (wcells x)) ∧ Below w.heap.size w w' := by
  go_enter Try.func46, Try.ntmps46
  go_wp2
  go_loopw [5] (fun i wr => ∃ k : Nat, k ≤ 4 ∧ i = .int .i64 k ∧ Below w.heap.size w wr ∧
      Blk wr w.heap.size 96 (dig 4 x) ∧ Blk wr (w.heap.size + 1) 25 (wcells 0) ∧ Blk wr (w.heap.size + 1 + 1) 25 (wcells (x % 2 ^ (64 * k)))) (fun i _ => 4 - (intOf i).toNat)
  case atStart =>
    obtain ⟨g0, g1, g2, g3⟩ := three_blocks w 96 25 25 (dig 4 x) (wcells 0) (wcells 0)
    exact ⟨0, by omega, rfl, by rw [← wf_zero]; exact g0, by rw [← wf_zero]; exact g1, by rw [← wf_zero]; exact g2, by rw [← wf_zero, show x % 2 ^ (64 * 0) = 0 by simp [Nat.mod_one]]; exact g3⟩
  case round =>
    obtain ⟨k, hk, rfl, hb, h0, h1, h2⟩ := hrel
    by_cases hlt : k < 4
    · obtain ⟨xk, hxk⟩ : ∃ xk, x / 2 ^ (64 * k) % 2 ^ 64 = xk := ⟨_, rfl⟩
      have sd := word_step hlt hxk
      have g0 := h0.cell (dig_get hlt)
      rw [hxk] at g0
      have lx : xk < 18446744073709551616 := by rw [← hxk]; exact Nat.mod_lt _ (by decide)
      have SD := Lib.hid (And.intro hxk sd)
      clear sd hxk
      have hsl := fun wx => word_slice (b := w.heap.size + 1 + 1) (lo := 24 - 8 * (k : Int)) (by omega) (by omega) wx
      rw [show (24 - 8 * (k : Int)).toNat = 24 - 8 * k by omega] at hsl
      go_wp2
      have e1 : IntKind.i64.wrap (8 * (k : Int)) = 8 * (k : Int) := IntWalk.i64_in _ (by omega)
      have e2 : IntKind.i64.wrap (24 - 8 * (k : Int)) = 24 - 8 * (k : Int) := IntWalk.i64_in _ (by omega)
      go_region_held3 (fun w' => w'.cell? ⟨w.heap.size, k, none⟩ = some (.int .u64 xk)) (first | exact g0 | exact (World.cell?_of_block (w := wr.drew) (hO.block w.heap.size (by omega))).trans g0) (first | (go_at_call 60; refine (splitBytes_any xk lx _ _ _ _ _ _ _ (by omega) (by rw [bc_size]; omega) h2.drew).mono ?_; rintro e w' ⟨rfl, hB, hO⟩))
      go_wp2
      go_roundw
      case rel =>
        refine ⟨k + 1, by omega, by go_num, hb.drew.trans (hO.below (by omega)), hO.blk (by omega) h0.drew, hO.blk (by omega) h1.drew, ?_⟩
        rw [← SD.out.2]; exact hB
      case measure => simp [intOf]; omega
    · clear h0
      go_wp2_with (first | (refine arm_load rfl 25 _ rfl rfl (load_wf (by assumption)) ?_) | (refine arm_store rfl 25 _ _ rfl rfl rfl (store_wf h1) ?_))
      obtain rfl : k = 4 := by omega
      have e : wcells (x % 2 ^ (64 * 4)) = wcells x := dig_word x 1 (by omega)
      rw [← e]
      exact post_cell 2 25 rfl rfl rfl (h1.row _) wordN_type rfl wordN_size (bc_size _ _) ⟨rfl, below_row hb (by omega) _⟩

end Go.Proofs.Ytklpcppdjcedpaa
