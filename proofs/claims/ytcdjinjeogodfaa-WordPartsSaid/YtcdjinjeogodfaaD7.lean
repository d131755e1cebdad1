/- Limbs shifted into one more. -/
import Derived.Test.YtcdjinjeogodfaaPD
import Derived.Test.YtcdjinjeogodfaaJ3
import Derived.Test.YtcdjinjeogodfaaE2
import Derived.StillTailTactics
namespace Go.Proofs.Ytcdjinjeogodfaa
open Go.RowKit

/-- Limbs told one by one. -/
def df (n : Nat) (f : Nat → Nat) : Array Value := ((List.range n).map fun i => Value.int .u64 ((f i : Nat) : Int)).toArray
theorem df_size (n : Nat) (f : Nat → Nat) : (df n f).size = n := by simp [df]
theorem df_get {n i : Nat} {f : Nat → Nat} (h : i < n) : (df n f)[i]? = some (.int .u64 ((f i : Nat) : Int)) := by simp [df, h]
theorem df_one (n : Nat) (f : Nat → Nat) : (df n f).all (·.oneCell') = true := by
  rw [Array.all_eq_true_iff_forall_mem]
  intro v hv
  simp only [df, List.mem_toArray, List.mem_map] at hv
  obtain ⟨i, _, rfl⟩ := hv
  rfl
theorem df_congr {n : Nat} {f g : Nat → Nat} (h : ∀ i, i < n → f i = g i) : df n f = df n g := by
  unfold df
  congr 1
  apply List.map_congr_left
  intro i hi
  rw [h i (by simpa using hi)]
theorem df_set {n k v : Nat} {f : Nat → Nat} (h : k < n) : (df n f).setIfInBounds k (.int .u64 (v : Int)) = df n (fun i => if i = k then v else f i) := by
  apply Array.ext_getElem?
  intro i
  rw [Array.getElem?_setIfInBounds]
  by_cases hi : i < n
  · rw [df_get (f := fun i => if i = k then v else f i) hi]
    by_cases hk : k = i
    · subst hk; rw [if_pos rfl, if_pos (by rw [df_size]; exact h)]; simp
    · rw [if_neg hk, df_get hi, if_neg (fun e => hk e.symm)]
  · have h1 : (df n f)[i]? = none := Array.getElem?_eq_none (by rw [df_size]; omega)
    have h2 : (df n (fun i => if i = k then v else f i))[i]? = none := Array.getElem?_eq_none (by rw [df_size]; omega)
    rw [h1, h2, if_neg (by omega)]
/-- What the array holds behind k rounds of leftInto. -/
def leftF (U s k i : Nat) : Nat := if i < k then lm (U * 2 ^ s) i else if i = k then (if k = 0 then 0 else lm U (k - 1) / 2 ^ (64 - s)) else 0
theorem leftF_step {U s k : Nat} (hs : s < 64) (hk : k < 8) :
    ((df 9 (leftF U s k)).setIfInBounds k (.int .u64 ((leftF U s k k ||| lm U k * 2 ^ s % 18446744073709551616 : Nat) : Int))).setIfInBounds (k + 1) (.int .u64 ((lm U k / 2 ^ (64 - s) : Nat) : Int)) = df 9 (leftF U s (k + 1)) := by
  have hl : leftF U s k k ||| lm U k * 2 ^ s % 18446744073709551616 = lm (U * 2 ^ s) k := by
    unfold leftF
    rw [if_neg (by omega), if_pos rfl]
    by_cases h0 : k = 0
    · rw [if_pos h0, Nat.zero_or]
      exact left_limb_first (x := U) (n := s) (s := 0) (p := s) (m := k) (i := k) (by omega) (by omega) h0 rfl
    · rw [if_neg h0, Nat.or_comm]
      exact left_limb (x := U) (n := s) (s := 0) (p := s) (m := k) (i := k) (l := k - 1) (by omega) hs (by omega) (by omega) rfl rfl
  rw [hl, df_set (by omega), df_set (by omega)]
  refine df_congr fun i hi => ?_
  unfold leftF
  by_cases h1 : i = k + 1
  · rw [if_pos h1, if_neg (by omega), if_pos h1, if_neg (by omega), Nat.add_sub_cancel]
  · rw [if_neg h1]
    by_cases h2 : i = k
    · rw [if_pos h2, if_pos (by omega), h2]
    · rw [if_neg h2]
      by_cases h3 : i < k
      · rw [if_pos h3, if_pos (by omega)]
      · rw [if_neg h3, if_neg h2, if_neg (by omega), if_neg h1]
theorem leftF_start (U s : Nat) : df 9 (leftF U s 0) = dig 9 0 := by
  refine df_congr fun i hi => ?_
  unfold leftF
  rw [if_neg (by omega)]
  split <;> simp
theorem leftF_end {U s : Nat} (hU : U < 2 ^ (64 * 8)) (hs : s < 64) : df 9 (leftF U s 8) = dig 9 (U * 2 ^ s) := by
  refine df_congr fun i hi => ?_
  unfold leftF
  by_cases h : i < 8
  · rw [if_pos h]
  · obtain rfl : i = 8 := by omega
    rw [if_neg h, if_pos rfl, if_neg (by omega)]
    have h8 : U / 2 ^ (64 * 8) % 2 ^ 64 = 0 := by rw [Nat.div_eq_of_lt hU]
    have := left_limb (x := U) (n := s) (s := 0) (p := s) (m := 8) (i := 8) (l := 8 - 1) (by omega) hs (by omega) (by omega) h8 rfl
    rw [Nat.zero_mul, Nat.zero_mod, Nat.zero_or] at this
    exact this
theorem nine_type : Try.prog.underlying 80 = some (.array 9 40) := by kernel_rfl
theorem nine_size : (Try.prog.info? 80).map (·.size) = some 9 := by kernel_rfl
theorem dig_zero9 : dig 9 0 = #[.int .u64 0, .int .u64 0, .int .u64 0, .int .u64 0, .int .u64 0, .int .u64 0, .int .u64 0, .int .u64 0, .int .u64 0] := by simp [dig, List.range_succ]
theorem nine_zero : (Try.prog.info? 80).bind (·.zero) = some (.agg (dig 9 0)) := by rw [dig_zero9]; kernel_rfl
theorem u64_agg (w : World) : (isAgg 40).run Try.prog w = .ok false w := by
  have hu : Try.prog.underlying 40 = some (.int .u64) := by kernel_rfl
  simp [isAgg, run_underlying hu]
theorem run_index_wide {U k : Nat} (hk : k < 8) (w : World) : (Instr.index 53 (.agg (dig 8 U)) (.int .i64 (k : Int))).run Try.prog w = .ok (.int .u64 ((lm U k : Nat) : Int)) w := by
  have hin : 0 ≤ (k : Int) ∧ (k : Int) < (8 : Nat) := by omega
  have hu : Try.prog.underlying 40 = some (.int .u64) := by kernel_rfl
  have hp : (part 40 (dig 8 U) (k * 1)).run Try.prog w = .ok (.int .u64 ((lm U k : Nat) : Int)) w := by
    have hg := dig_get (n := 8) (x := U) hk
    simp [part, isAgg, run_underlying hu, hg]
  simp only [Instr.index, asIntOf, Sem.run_bind, run_underlying wide_type, Result.andThen_ok, Sem.run_pure, hin, and_self, if_true, sizeOf_one u64_size, Int.toNat_natCast, hp]
theorem left_or {o l s : Nat} (ho : o < 18446744073709551616) : bits BinOp.or IntKind.u64 (o : Int) (IntKind.u64.wrap ((l : Int) * 2 ^ s)) = ((o ||| l * 2 ^ s % 18446744073709551616 : Nat) : Int) := by
  have q2 : IntKind.u64.wrap ((l : Int) * 2 ^ s) = ((l * 2 ^ s % 18446744073709551616 : Nat) : Int) := by rw [IntKind.wrap_u64, Int.natCast_emod, Int.natCast_mul, Int.natCast_pow]; rfl
  rw [q2, u64_or_nat _ _ ho (Nat.mod_lt _ (by decide))]
theorem leftF_lt (U s k : Nat) : leftF U s k k < 18446744073709551616 := by
  unfold leftF
  rw [if_neg (by omega), if_pos rfl]
  split
  · decide
  · exact Nat.lt_of_le_of_lt (Nat.div_le_self _ _) (lm_lt _ _)
set_option maxHeartbeats 4000000 in
set_option maxRecDepth 100000 in
theorem leftInto_any (U s : Nat) (w : World) (hU : U < 2 ^ (64 * 8)) (hs : s < 64) :
    Calls Try.prog 105 #[.agg (dig 8 U), .int .u64 (s : Int)] w fun e w' => e = .returned (.agg (dig 9 (U * 2 ^ s))) ∧ Below w.heap.size w w' := by
  have HU := Lib.hid hU
  clear hU
  have hS := St.start w
  go_enter Try.func105, Try.ntmps105
  go_wp2_with (first | (have _t := b4; clear _t; refine st_new hS rfl 80 rfl nine_zero ?_; clear hS; intro w1 b5 hS) | (have _t := b2; clear _t; refine st_new hS rfl 80 rfl nine_zero ?_; clear hS; intro w1 b4 hS) | (refine st_box hS rfl _ _ rfl rfl ?_; clear hS; intro w1 b2 hS) | (refine st_load hS rfl 53 _ rfl rfl (by repeat (first | exact At.head | apply At.tail)) wide_type rfl wide_size (dig_size _ _) ?_))
  obtain ⟨z, hz⟩ : ∃ z, z = 64 - s := ⟨_, rfl⟩
  have tz : 64 - (s : Int) = (z : Int) := by omega
  have hz2 : z ≤ 64 := by omega
  go_loopw [9] (fun i wr => ∃ k : Nat, k ≤ 8 ∧ i = .int .i64 k ∧ St w wr [(b5, 80, df 9 (leftF U s k)), (b4, 80, dig 9 0), (b2, 53, dig 8 U)]) (fun i _ => 8 - (intOf i).toNat)
  case atStart => exact ⟨0, by omega, rfl, by rw [leftF_start]; exact hS⟩
  case round =>
    clear hS
    obtain ⟨k, hk, rfl, hS⟩ := hrel
    by_cases hlt : k < 8
    · have hd : decide ((k : Int) < 8) = true := by simp; omega
      have hix := fun wx => run_index_wide (U := U) hlt wx
      have g := df_get (n := 9) (f := leftF U s k) (show k < 9 by omega)
      have hst := leftF_step (U := U) hs hlt
      have hol := leftF_lt U s k
      have hll := lm_lt U k
      obtain ⟨p1, hp1⟩ : ∃ p1, p1 = k + 1 := ⟨_, rfl⟩
      have tp : (k : Int) + 1 = (p1 : Int) := by omega
      rw [← hp1, ← hz] at hst
      simp only [lm] at hix hst hll
      generalize leftF U s k k = o at *
      generalize U / 2 ^ (64 * k) % 2 ^ 64 = l at *
      have hor := left_or (l := l) (s := s) hol
      rw [← hor, Int.natCast_ediv, Int.natCast_pow] at hst
      have hp9 : p1 < 9 := by omega
      have g0 := (hS.get .head).cell g
      have g1 := (hS.get .head).cell (df_get (n := 9) (f := leftF U s k) hp9)
      have f0 := (hS.get .head).free k
      have f1 := (hS.get .head).free p1
      have hne : k ≠ p1 := by omega
      have hne2 : p1 ≠ k := by omega
      generalize leftF U s k p1 = o1 at *
      have HS0 := Lib.hid (And.intro hst hp1)
      have HSS := Lib.hid hS
      clear g hst hor hp1 hS
      have HZ := Lib.hid hz
      clear hz
      go_wp2
      go_roundw
      case rel =>
        have hS := HSS.out
        have h1 := hS.upd .head (Only.setCell wr ⟨b5, k, none⟩ (.int .u64 (bits BinOp.or IntKind.u64 (o : Int) (IntKind.u64.wrap ((l : Int) * 2 ^ s))))) ((hS.get .head).set k _)
        have h2 := h1.upd .head (Only.setCell _ ⟨b5, p1, none⟩ (.int .u64 ((l : Int) / 2 ^ z))) ((h1.get .head).set p1 _)
        rw [show (2 : Int) ^ z = ((2 : Nat) : Int) ^ z from rfl, HS0.out.1] at h2
        exact ⟨p1, by omega, rfl, h2⟩
      case measure => have := HS0.out.2; simp [intOf]; omega
    · obtain rfl : k = 8 := by omega
      rw [leftF_end HU.out hs] at hS
      go_wp2_with (first | (refine st_load hS rfl 80 _ rfl rfl (by repeat (first | exact At.head | apply At.tail)) nine_type rfl nine_size (dig_size _ _) ?_) | (refine st_store hS rfl 80 _ _ rfl rfl rfl (by repeat (first | exact Upd.head | apply Upd.tail)) nine_size (dig_size _ _) (dig_size _ _) (dig_one _ _) ?_; clear hS; intro w1 hS))
      exact st_post hS 4 80 rfl rfl rfl (by repeat (first | exact At.head | apply At.tail)) nine_type rfl nine_size (dig_size _ _) (fun hb => ⟨rfl, hb⟩)
end Go.Proofs.Ytcdjinjeogodfaa
