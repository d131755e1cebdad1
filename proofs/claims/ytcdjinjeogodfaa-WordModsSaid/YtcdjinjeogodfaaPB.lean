/- The plain mathematics of a division bit by bit, over rows of digits. -/
import Derived.Test.YtcdjinjeogodfaaPA
import Derived.StillTailTactics
import Derived.Test.YtcdjinjeogodfaaS3
import Derived.Test.YtcdjinjeogodfaaS9
import Derived.Test.YtcdjinjeogodfaaR5
import Derived.Test.YtcdjinjeogodfaaM1
/-! The plain mathematics of a division bit by bit, over rows of digits. -/
namespace Go.Proofs.Ytcdjinjeogodfaa
open Go.RowKit

/-- The carry of 2 x + c behind k digits. -/
def cd (x c k : Nat) : Nat := (2 * (x % 2 ^ (16 * k)) + c) / 2 ^ (16 * k)
theorem cd_zero (x c : Nat) : cd x c 0 = c := by simp [cd, Nat.mod_one]
theorem cd_le {x c : Nat} (k : Nat) (hc : c ≤ 1) : cd x c k ≤ 1 := by
  unfold cd
  have hP := Nat.two_pow_pos (16 * k)
  have l1 := Nat.mod_lt x hP
  have : (2 * (x % 2 ^ (16 * k)) + c) / 2 ^ (16 * k) < 2 := by rw [Nat.div_lt_iff_lt_mul hP]; omega
  omega
theorem cd_step (x c k : Nat) : cd x c (k + 1) = (2 * dg x k + cd x c k) / 65536 := by
  unfold cd
  rw [mod_split, show 2 ^ (16 * (k + 1)) = 2 ^ (16 * k) * 65536 by rw [show 16 * (k + 1) = 16 * k + 16 by omega, Nat.pow_add], ← Nat.div_div_eq_div_mul]
  have hP := Nat.two_pow_pos (16 * k)
  generalize 2 ^ (16 * k) = P at *
  rw [show 2 * (x % P + P * dg x k) + c = 2 * (x % P) + c + P * (2 * dg x k) by rw [Nat.mul_add, Nat.mul_left_comm]; omega, Nat.add_mul_div_left _ _ hP, Nat.add_comm]
theorem dg_dbl (x c k : Nat) : dg (2 * x + c) k = (2 * dg x k + cd x c k) % 65536 := by
  unfold cd dg
  have hP := Nat.two_pow_pos (16 * k)
  generalize 2 ^ (16 * k) = P at *
  have h1 := Nat.mod_add_div x P
  have h3 : (2 * x + c) / P = (2 * (x % P) + c) / P + 2 * (x / P) := by
    conv => lhs; rw [← h1]
    rw [show 2 * (x % P + P * (x / P)) + c = 2 * (x % P) + c + P * (2 * (x / P)) by rw [Nat.mul_add, Nat.mul_left_comm]; omega, Nat.add_mul_div_left _ _ hP]
  rw [h3]
  omega
/-- One bit more of a quotient and its rest. -/
def bt (u i : Nat) : Nat := u / 2 ^ i % 2
theorem bt_le (u i : Nat) : bt u i ≤ 1 := by unfold bt; omega
theorem top_bit (u i : Nat) : u / 2 ^ i = 2 * (u / 2 ^ (i + 1)) + bt u i := by
  unfold bt
  rw [Nat.pow_succ, ← Nat.div_div_eq_div_mul]
  omega
theorem dg_bit (u i : Nat) : dg u (i / 16) / 2 ^ (i % 16) % 2 = bt u i := by
  unfold dg bt
  have e : 2 ^ i = 2 ^ (16 * (i / 16)) * 2 ^ (i % 16) := by rw [← Nat.pow_add]; congr 1; omega
  rw [e, ← Nat.div_div_eq_div_mul]
  generalize u / 2 ^ (16 * (i / 16)) = y
  have hr : i % 16 < 16 := Nat.mod_lt _ (by decide)
  generalize i % 16 = r at *
  have e4 : 2 * 2 ^ (15 - r) = 2 ^ (16 - r) := by rw [← Nat.pow_succ', show (15 - r).succ = 16 - r by omega]
  have e5 : 65536 = 2 ^ r * (2 * 2 ^ (15 - r)) := by rw [e4, ← Nat.pow_add, show r + (16 - r) = 16 by omega]
  rw [e5, Nat.mod_mul_right_div_self, Nat.mod_mul_right_mod]
/-- Division's step. -/
theorem div_step {p v c : Nat} (hv : 0 < v) (hc : c ≤ 1) :
    (2 * (p % v) + c < v → (2 * p + c) / v = 2 * (p / v) ∧ (2 * p + c) % v = 2 * (p % v) + c) ∧
    (v ≤ 2 * (p % v) + c → (2 * p + c) / v = 2 * (p / v) + 1 ∧ (2 * p + c) % v = 2 * (p % v) + c - v) := by
  have h := Nat.mod_add_div p v
  have hl := Nat.mod_lt p hv
  have e : 2 * p + c = 2 * (p % v) + c + v * (2 * (p / v)) := by
    conv => lhs; rw [← h]
    rw [Nat.mul_add, Nat.mul_left_comm]; omega
  refine ⟨fun h1 => ?_, fun h1 => ?_⟩
  · rw [e, Nat.add_mul_div_left _ _ hv, Nat.add_mul_mod_self_left, Nat.div_eq_of_lt h1, Nat.mod_eq_of_lt h1]; omega
  · have e2 : (2 * (p % v) + c) / v = 1 := by rw [Nat.div_eq_iff hv]; omega
    have e3 : (2 * (p % v) + c) % v = 2 * (p % v) + c - v := by
      rw [Nat.mod_eq_sub_mod h1, Nat.mod_eq_of_lt (by omega)]
    rw [e, Nat.add_mul_div_left _ _ hv, Nat.add_mul_mod_self_left, e2, e3]; omega
/-- The digit of a multiple of 2 ^ (i + 1), with its bit i put. -/
theorem dg_or (q i : Nat) : dg (q * 2 ^ (i + 1)) (i / 16) ||| 2 ^ (i % 16) = dg (q * 2 ^ (i + 1)) (i / 16) + 2 ^ (i % 16) ∧ dg (q * 2 ^ (i + 1)) (i / 16) + 2 ^ (i % 16) < 65536 := by
  have hr : i % 16 < 16 := Nat.mod_lt _ (by decide)
  have e : dg (q * 2 ^ (i + 1)) (i / 16) = 2 ^ (i % 16 + 1) * (q % 2 ^ (15 - i % 16)) := by
    unfold dg
    have e1 : 2 ^ (i + 1) = 2 ^ (i % 16 + 1) * 2 ^ (16 * (i / 16)) := by rw [← Nat.pow_add]; congr 1; omega
    rw [e1, ← Nat.mul_assoc, Nat.mul_div_cancel _ (Nat.two_pow_pos _)]
    generalize i % 16 = r at *
    rw [show 65536 = 2 ^ (r + 1) * 2 ^ (15 - r) by rw [← Nat.pow_add, show r + 1 + (15 - r) = 16 by omega], Nat.mul_comm q, Nat.mul_mod_mul_left]
  rw [e]
  generalize i % 16 = r at *
  have hm := Nat.mod_lt q (Nat.two_pow_pos (15 - r))
  generalize q % 2 ^ (15 - r) = m at *
  refine ⟨?_, ?_⟩
  · have h2 : 2 ^ r < 2 ^ (r + 1) := Nat.pow_lt_pow_right (by decide) (by omega)
    rw [Nat.two_pow_add_eq_or_of_lt h2]
  · have h3 : 2 ^ (r + 1) * (m + 1) ≤ 2 ^ (r + 1) * 2 ^ (15 - r) := Nat.mul_le_mul_left _ hm
    rw [← Nat.pow_add, show r + 1 + (15 - r) = 16 by omega, Nat.mul_add, Nat.mul_one, Nat.pow_succ] at h3
    rw [Nat.pow_succ]
    have := Nat.two_pow_pos r
    omega
theorem rf_step {n k v : Nat} {f g : Nat → Nat} (hk : k < n) (hv : v = g k) : (rf n fun i => if i < k then g i else f i).setIfInBounds k (.int .i64 (v : Int)) = rf n fun i => if i < k + 1 then g i else f i := by
  rw [rf_set hk]
  refine rf_congr fun i _ => ?_
  by_cases h : i = k
  · subst h; rw [if_pos rfl, if_pos (by omega), hv]
  · rw [if_neg h]
    by_cases h2 : i < k
    · rw [if_pos h2, if_pos (by omega)]
    · rw [if_neg h2, if_neg (by omega)]
theorem rf_all {n : Nat} {f g : Nat → Nat} : (rf n fun i => if i < n then g i else f i) = rf n g := rf_congr fun i hi => if_pos hi
theorem rf_none {n : Nat} {f g : Nat → Nat} : (rf n fun i => if i < 0 then g i else f i) = rf n f := rf_congr fun i _ => if_neg (by omega)
/-- A quotient's digit that a bit is put to. -/
theorem put_bit {n q i : Nat} (hi : i / 16 < n) : (rowd n (q * 2 ^ (i + 1))).setIfInBounds (i / 16) (.int .i64 (((dg (q * 2 ^ (i + 1)) (i / 16) ||| 2 ^ (i % 16) : Nat) : Nat) : Int)) = rowd n ((2 * q + 1) * 2 ^ i) := by
  obtain ⟨h1, h2⟩ := dg_or q i
  rw [h1, row_put hi h2]
  have h := gput_spec (q * 2 ^ (i + 1)) (i / 16) (dg (q * 2 ^ (i + 1)) (i / 16) + 2 ^ (i % 16))
  rw [Nat.add_mul, ← Nat.pow_add, show i % 16 + 16 * (i / 16) = i by omega] at h
  have e : (2 * q + 1) * 2 ^ i = q * 2 ^ (i + 1) + 2 ^ i := by
    rw [Nat.add_mul, Nat.one_mul, Nat.pow_succ, Nat.mul_comm 2 q, Nat.mul_assoc, Nat.mul_comm 2]
  rw [e]
  congr 1
  omega
theorem two_up (q i : Nat) : 2 * q * 2 ^ i = q * 2 ^ (i + 1) := by rw [Nat.pow_succ, Nat.mul_comm 2 q, Nat.mul_assoc, Nat.mul_comm 2]
end Go.Proofs.Ytcdjinjeogodfaa

/-! The document's long division, bit by bit. -/
namespace Go.Proofs.Ytcdjinjeogodfaa
open Go.RowKit

theorem St.skip {w0 w : World} {e f : Ent} {L : List Ent} (h : St w0 w (e :: f :: L)) : St w0 w (e :: L) := ⟨h.below, fun x hx => h.blk x (by rcases List.mem_cons.1 hx with rfl | hx; exact List.mem_cons_self; exact List.mem_cons_of_mem _ (List.mem_cons_of_mem _ hx)), by
  have h1 := List.pairwise_cons.1 h.apart
  have h2 := List.pairwise_cons.1 h1.2
  exact List.pairwise_cons.2 ⟨fun x hx => h1.1 x (List.mem_cons_of_mem _ hx), h2.2⟩⟩
theorem bit_and {v r c : Nat} (h : v / 2 ^ r % 2 = c) : bits BinOp.and IntKind.i64 ((v : Int) / 2 ^ r) 1 = (c : Int) := by
  have e1 : (v : Int) / 2 ^ r = ((v / 2 ^ r : Nat) : Int) := by rw [Int.natCast_ediv, Int.natCast_pow]; rfl
  rw [e1, int_and1, ← h]
  omega
theorem or_pow {v e : Nat} (he : e < 16) (hv : v < 65536) : bits BinOp.or IntKind.i64 (v : Int) (wrap64 (2 ^ e)) = ((v ||| 2 ^ e : Nat) : Int) := by
  have hp : 2 ^ e < 65536 := Nat.lt_of_le_of_lt (Nat.pow_le_pow_right (by decide) (show e ≤ 15 by omega)) (by decide)
  have hw : wrap64 ((2 : Int) ^ e) = ((2 ^ e : Nat) : Int) := by
    rw [show (2 : Int) ^ e = ((2 ^ e : Nat) : Int) by rw [Int.natCast_pow]; rfl]
    generalize 2 ^ e = z at hp ⊢
    unfold wrap64
    omega
  rw [hw, int_or_nat _ _ (by omega) (by omega)]
theorem lt_pow17 {V R c m : Nat} (hm : m = 17) (hV : V < M256) (hR : R < V) (hc : c ≤ 1) : 2 * R + c < 2 ^ (16 * m) ∧ V < 2 ^ (16 * 16) := by
  have hM : M256 = 2 ^ (16 * 16) := rfl
  have key : ∀ a b : Nat, a = b + 16 → 2 ^ a = 2 ^ b * 65536 := fun a b h => by subst h; exact Nat.pow_add 2 b 16
  have h17 := key (16 * m) (16 * 16) (by omega)
  rw [hM] at hV
  rw [h17]
  generalize 2 ^ (16 * 16) = P at *
  omega
set_option maxHeartbeats 4000000 in
set_option maxRecDepth 100000 in
theorem divide_rows (na b1 b2 c1 c2 U V : Nat) (w : World) (hn0 : 16 ≤ na) (hn : na ≤ 32) (h1 : Row w b1 na U) (h2 : Row w b2 16 V) (hU : U < 2 ^ (16 * na)) (hV : V < M256) (hV0 : 0 < V) :
    Calls Try.prog 79 #[.slice (some ⟨b1, 0, none⟩) na c1, .slice (some ⟨b2, 0, none⟩) 16 c2] w fun e w' => ∃ bq br, e = .returned (.tuple #[.slice (some ⟨bq, 0, none⟩) na na, .slice (some ⟨br, 0, none⟩) 17 17]) ∧ St w w' [(br, 3, rowd 17 (U % V)), (bq, 3, rowd na (U / V))] := by
  have HX := Lib.hid (And.intro h1 (And.intro h2 (And.intro hU (And.intro hV hV0))))
  clear h1 h2 hU hV hV0
  have hS := St.start w
  go_enter Try.func79, Try.ntmps79
  go_wp2_with (first | (have _t := bq; clear _t; refine st_make 17 hS rfl _ _ rfl rfl rfl (by omega) ?_; clear hS; intro w1 br hS) | (refine st_make na hS rfl _ _ rfl rfl rfl (by omega) ?_; clear hS; intro w1 bq hS))
  go_loopw [7, 8] (fun r i wr => ∃ k br : Nat, k ≤ 16 * na ∧ i = .int .i64 ((k : Int) - 1) ∧ r = .slice (some ⟨br, 0, none⟩) 17 17 ∧ St w wr [(br, 3, rowd 17 (U / 2 ^ k % V)), (bq, 3, rowd na (U / 2 ^ k / V * 2 ^ k))]) (fun _ i _ => (intOf i + 1).toNat)
  case atStart =>
    refine ⟨16 * na, br, by omega, by congr 1, rfl, ?_⟩
    rw [Nat.div_eq_of_lt HX.out.2.2.1, Nat.zero_div, Nat.zero_mul, Nat.zero_mod]
    exact hS
  case round =>
    clear hS
    obtain ⟨k, br, hk, rfl, rfl, hS⟩ := hrel
    rcases Nat.eq_zero_or_pos k with h0 | h0
    · subst h0
      rw [Nat.pow_zero, Nat.div_one, Nat.mul_one] at hS
      go_wp2
      go_ret2
      exact ⟨bq, br, rfl, hS⟩
    · obtain ⟨i, rfl⟩ : ∃ i, k = i + 1 := ⟨k - 1, by omega⟩
      have e0 : ((i + 1 : Nat) : Int) - 1 = (i : Int) := by omega
      rw [e0]
      clear e0
      have hdn : i / 16 < na := by omega
      have ga : b1 < w.heap.size ∧ w.cell? ⟨b1, i / 16, none⟩ = _ := ⟨HX.out.1.1, HX.out.1.at_ hdn⟩
      have hlv := dg_lt U (i / 16)
      have hbt := bit_and (r := i % 16) (dg_bit U i)
      have hc0 := bt_le U i
      have htop := top_bit U i
      have hds := div_step (p := U / 2 ^ (i + 1)) (v := V) HX.out.2.2.2.2 hc0
      rw [← htop] at hds
      have hRl := Nat.mod_lt (U / 2 ^ (i + 1)) HX.out.2.2.2.2
      have hpb := put_bit (n := na) (q := U / 2 ^ (i + 1) / V) (i := i) hdn
      have htu := two_up (U / 2 ^ (i + 1) / V) i
      have gq := rf_get (n := na) (f := dg (U / 2 ^ (i + 1) / V * 2 ^ (i + 1))) hdn
      have hlq := dg_lt (U / 2 ^ (i + 1) / V * 2 ^ (i + 1)) (i / 16)
      have hor := dg_or (U / 2 ^ (i + 1) / V) i
      generalize dg U (i / 16) = v at *
      generalize bt U i = c0 at *
      generalize dg (U / 2 ^ (i + 1) / V * 2 ^ (i + 1)) (i / 16) = vq at *
      generalize U / 2 ^ (i + 1) / V * 2 ^ (i + 1) = Q at *
      generalize U / 2 ^ (i + 1) % V = R at *
      generalize U / 2 ^ (i + 1) / V = q0 at *
      obtain ⟨d, hd⟩ : ∃ d, d = i / 16 := ⟨_, rfl⟩
      obtain ⟨e, he⟩ : ∃ e, e = i % 16 := ⟨_, rfl⟩
      rw [← hd] at ga gq hpb hdn
      rw [← he] at hbt hpb hor
      have he16 : e < 16 := by omega
      have t1 : (i : Int) / 16 = (d : Int) := by omega
      have t2 : (i : Int) % 16 = (e : Int) := by omega
      have hi512 : i < 512 := by omega
      have hdn3 : (d : Int) < (na : Int) := by omega
      have G := Lib.hid (And.intro ga (And.intro hbt (And.intro hds (And.intro hRl (And.intro hpb (And.intro htu (And.intro gq hor)))))))
      have HC := Lib.hid htop
      clear ga hbt hds hRl hpb htu gq hor htop hd he
      go_wp2_with (first | (refine st_old hS rfl 3 _ rfl rfl (G.out.1) int3_agg ?_))
      obtain ⟨wo, hwo⟩ : ∃ wo : World, wo = wr := ⟨_, rfl⟩
      go_loopw [9, 10] (fun c t wr => ∃ j : Nat, j ≤ 17 ∧ t = .int .i64 j ∧ c = .int .i64 ((cd R c0 j : Nat) : Int) ∧ St w wr [(br, 3, rf 17 fun s => if s < j then dg (2 * R + c0) s else dg R s), (bq, 3, rowd na Q)]) (fun _ t _ => 17 - (intOf t).toNat)
      case atStart => exact ⟨0, by omega, rfl, by rw [cd_zero, G.out.2.1], by rw [rf_none]; exact hS⟩
      case round =>
        clear hS
        obtain ⟨j, hj, rfl, rfl, hS⟩ := hrel
        by_cases hlt : j < 17
        · have hdj : decide ((j : Int) < 17) = true := by simp; omega
          have hj3 : (j : Int) < 17 := by omega
          have g := rf_get (n := 17) (f := fun s => if s < j then dg (2 * R + c0) s else dg R s) hlt
          rw [if_neg (Nat.lt_irrefl j)] at g
          have hcl := cd_le (x := R) (c := c0) j hc0
          have hcs := cd_step R c0 j
          have hdd := dg_dbl R c0 j
          have hl := dg_lt R j
          have hst := rf_step (n := 17) (k := j) (v := dg (2 * R + c0) j) (f := dg R) (g := dg (2 * R + c0)) hlt rfl
          generalize dg R j = p at *
          generalize cd R c0 j = cc at *
          have hand : bits BinOp.and IntKind.i64 (2 * (p : Int) + (cc : Int)) 65535 = ((dg (2 * R + c0) j : Nat) : Int) := by rw [int_and65535, hdd]; omega
          have hshr : (2 * (p : Int) + (cc : Int)) / 65536 = ((cd R c0 (j + 1) : Nat) : Int) := by rw [hcs]; omega
          have K := Lib.hid (And.intro g (And.intro hst (And.intro hand hshr)))
          clear g hst hand hshr hcs hdd
          go_wp2_with (first | (refine st_cell hS rfl 3 _ rfl rfl (by repeat (first | exact At.head | apply At.tail)) (K.out.1) int3_agg ?_) | (refine st_store1 (j := j) hS rfl 3 _ _ rfl rfl rfl int_size (by repeat (first | exact Upd.head | apply Upd.tail)) (by rw [rf_size]; omega) ?_; clear hS; intro w1 hS))
          rw [K.out.2.2.1, K.out.2.1] at hS
          go_roundw
          case rel => exact ⟨j + 1, by omega, by go_num, by rw [K.out.2.2.2], hS⟩
          case measure => simp [intOf]; omega
        · obtain rfl : j = 17 := by omega
          rw [rf_all] at hS
          have hpw := lt_pow17 (m := 17) rfl HX.out.2.2.2.1 G.out.2.2.2.1 hc0
          by_cases hcmp : 2 * R + c0 < V
          · have hds := G.out.2.2.1.1 hcmp
            have hcm : cmpN (2 * R + c0) V = -1 := cmp_lt hcmp
            have CC := Lib.hid (And.intro hds (And.intro hcm hpw))
            clear hds hcm hpw hcmp
            go_wp2_with (first | (go_at_call 94; refine (cmp_any 17 16 br b2 17 c2 (2 * R + c0) V _ (by omega) (by omega) (by omega) (hS.get .head).row_ (HX.out.2.1.below hS.below HX.out.2.1.1) CC.out.2.2.1 CC.out.2.2.2).mono ?_; rintro e w1 ⟨rfl, rfl⟩; rw [CC.out.2.1]))
            go_roundw
            case rel => exact ⟨i, br, by omega, by go_num, rfl, by rw [CC.out.1.1, CC.out.1.2, G.out.2.2.2.2.2.1]; exact hS⟩
            case measure => simp [intOf]
          · have hge : V ≤ 2 * R + c0 := by omega
            have hds := G.out.2.2.1.2 hge
            obtain ⟨s, hs⟩ : ∃ s, s = cmpN (2 * R + c0) V := ⟨_, rfl⟩
            have hs0 : 0 ≤ s := by rw [hs]; unfold cmpN; rw [if_neg hcmp]; split <;> decide
            have hs1 : decide (0 ≤ s) = true := by simpa using hs0
            have hz : (2 * R + c0 - V + V) % 2 ^ (16 * 17) = (2 * R + c0) % 2 ^ (16 * 17) := by rw [Nat.sub_add_cancel hge]
            have CC := Lib.hid (And.intro hds (And.intro hs (And.intro hpw hz)))
            clear hds hs hpw hcmp hge hz hs0
            go_wp2_with (first | (go_at_call 94; refine (cmp_any 17 16 br b2 17 c2 (2 * R + c0) V _ (by omega) (by omega) (by omega) (hS.get .head).row_ (HX.out.2.1.below hS.below HX.out.2.1.1) CC.out.2.2.1.1 CC.out.2.2.1.2).mono ?_; rintro e w1 ⟨rfl, rfl⟩; rw [← CC.out.2.1]) | (go_at_call 73; refine (sub_rows 17 16 br b2 17 c2 (2 * R + c0) V (2 * R + c0 - V) _ (by omega) (by omega) (hS.get .head).row_ (HX.out.2.1.below hS.below HX.out.2.1.1) CC.out.2.2.1.2 CC.out.2.2.2).mono ?_; rintro e w1 ⟨bn, rfl, hle, hB, hb⟩; replace hS := hS.callNew hb hB hle; clear hb hB hle) | refine st_cell hS rfl 3 _ rfl rfl (by repeat (first | exact At.head | apply At.tail)) (G.out.2.2.2.2.2.2.1) int3_agg ?_ | refine st_store1 (j := d) hS rfl 3 _ _ rfl rfl rfl int_size (by repeat (first | exact Upd.head | apply Upd.tail)) (by rw [rf_size]; omega) ?_; clear hS; intro w1 hS)
            rw [or_pow he16 hlq, G.out.2.2.2.2.1] at hS
            replace hS := hS.skip
            go_roundw
            case rel => exact ⟨i, bn, by omega, by go_num, rfl, by rw [CC.out.1.1, CC.out.1.2]; exact hS⟩
            case measure => simp [intOf]
end Go.Proofs.Ytcdjinjeogodfaa

/-! The document's quotients and remainders of words. -/
namespace Go.Proofs.Ytcdjinjeogodfaa
open Go.RowKit

theorem St.join2 {w0 w w' : World} {L : List Ent} {e f : Ent} (h : St w0 w L) (h2 : St w w' [e, f]) : St w0 w' (e :: f :: L) :=
  let h' := h.call h2.below
  ⟨h'.below, fun x hx => by
    rcases List.mem_cons.1 hx with rfl | hx
    · exact ⟨(h2.blk _ List.mem_cons_self).1, Nat.le_trans h.below.size (h2.blk _ List.mem_cons_self).2⟩
    · rcases List.mem_cons.1 hx with rfl | hx
      · exact ⟨(h2.blk _ (List.mem_cons_of_mem _ List.mem_cons_self)).1, Nat.le_trans h.below.size (h2.blk _ (List.mem_cons_of_mem _ List.mem_cons_self)).2⟩
      · exact h'.blk x hx,
   List.pairwise_cons.2 ⟨fun x hx => by
      rcases List.mem_cons.1 hx with rfl | hx
      · exact (List.pairwise_cons.1 h2.apart).1 _ List.mem_cons_self
      · exact Nat.ne_of_gt (Nat.lt_of_lt_of_le (h.blk x hx).1.lt (h2.blk _ List.mem_cons_self).2),
     List.pairwise_cons.2 ⟨fun x hx => Nat.ne_of_gt (Nat.lt_of_lt_of_le (h.blk x hx).1.lt (h2.blk _ (List.mem_cons_of_mem _ List.mem_cons_self)).2), h.apart⟩⟩⟩
theorem st_eqd {o : Oper} {a : Act} {x y : Nat} {d : Bool} {ops : Array Oper} {rest : List Oper} {w : World} {Q : Exit → Act → World → Prop} (hw : Region.wanted o (yielded ops a.tmps) = true) (xo yo : Operand) (yt : TypeId) (ho : o.op = .binOp .eql 23 xo yo yt)
    (hxe : a.eval xo = .agg (wcells x)) (hye : a.eval yo = .agg (wcells y)) (hx : x < M256) (hy : y < M256) (hxy : decide (x = y) = d) (h : wpList Try.prog ops Q rest (a.put o.dst (.bool d)) w) : wpList Try.prog ops Q (o :: rest) a w := by
  unfold wpList
  rw [if_pos hw]
  refine .inl ?_
  unfold Oper.wp
  rw [ex_eql xo yo yt ho hxe hye hx hy w, hxy]
  exact h
theorem rneg_call (x : Nat) (hx : x < M256) (w : World) : Calls Try.prog 21 #[.agg #[.int .u8 0, .int .u8 0, .int .u8 0, .int .u8 0, .int .u8 0, .int .u8 0, .int .u8 0, .int .u8 0, .int .u8 0, .int .u8 0, .int .u8 0, .int .u8 0, .int .u8 0, .int .u8 0, .int .u8 0, .int .u8 0, .int .u8 0, .int .u8 0, .int .u8 0, .int .u8 0, .int .u8 0, .int .u8 0, .int .u8 0, .int .u8 0, .int .u8 0, .int .u8 0, .int .u8 0, .int .u8 0, .int .u8 0, .int .u8 0, .int .u8 0, .int .u8 0], .agg (wcells x)] w fun e w' => e = .returned (.agg (wcells (wsub 0 x))) ∧ Below w.heap.size w w' := by
  rw [word_lit_eq]; exact rSub_any 0 x M256_pos hx w
theorem rneg_is (x : Nat) (d : Bool) (hd : decide (2 ^ 255 ≤ x) = d) (hx : x < M256) (w : World) : Calls Try.prog 84 #[.agg (wcells x)] w fun e w' => e = .returned (.bool d) ∧ Below w.heap.size w w' := by
  rw [← hd]; exact rNeg_any x hx w
set_option maxHeartbeats 8000000 in
set_option maxRecDepth 100000 in
theorem rDiv_any (x y : Nat) (hx : x < M256) (hy : y < M256) (w : World) :
    Calls Try.prog 25 #[.agg (wcells x), .agg (wcells y)] w fun e w' => e = .returned (.agg (wcells (x / y))) ∧ Below w.heap.size w w' := by
  by_cases hy0 : y = 0
  · have HZ := Lib.hid (And.intro hy (decide_eq_true hy0))
    subst hy0
    rw [Nat.div_zero]
    clear hx hy
    have hS := St.start w
    go_enter Try.func25, Try.ntmps25
    go_wp2_with (first | (have _t := b3; clear _t; refine st_new hS rfl 23 rfl word_zero ?_; clear hS; intro w1 b4 hS) | (have _t := b2; clear _t; refine st_box hS rfl _ _ rfl rfl ?_; clear hS; intro w1 b3 hS) | (refine st_box hS rfl _ _ rfl rfl ?_; clear hS; intro w1 b2 hS) | (refine st_load hS rfl 23 _ rfl rfl (by repeat (first | exact At.head | apply At.tail)) word_type rfl word_size (wf_size _) ?_) | (refine st_store hS rfl 23 _ _ rfl rfl rfl (by repeat (first | exact Upd.head | apply Upd.tail)) word_size (wf_size _) (wf_size _) (wf_one _) ?_; clear hS; intro w1 hS) | (refine st_eqd rfl _ _ _ rfl rfl word_lit_eq HZ.out.1 M256_pos HZ.out.2 ?_))
    exact st_post hS 4 23 rfl rfl rfl (by repeat (first | exact At.head | apply At.tail)) word_type rfl word_size (wf_size _) (fun hb => ⟨rfl, hb⟩)
  · have HZ := Lib.hid (And.intro hy (decide_eq_false hy0))
    have HX := Lib.hid (And.intro hx (And.intro hy (Nat.pos_of_ne_zero hy0)))
    clear hx hy hy0
    have hS := St.start w
    go_enter Try.func25, Try.ntmps25
    go_wp2_with (first | (have _t := b3; clear _t; refine st_new hS rfl 23 rfl word_zero ?_; clear hS; intro w1 b4 hS) | (have _t := b2; clear _t; refine st_box hS rfl _ _ rfl rfl ?_; clear hS; intro w1 b3 hS) | (refine st_box hS rfl _ _ rfl rfl ?_; clear hS; intro w1 b2 hS) | (refine st_load hS rfl 23 _ rfl rfl (by repeat (first | exact At.head | apply At.tail)) word_type rfl word_size (wf_size _) ?_) | (refine st_store hS rfl 23 _ _ rfl rfl rfl (by repeat (first | exact Upd.head | apply Upd.tail)) word_size (wf_size _) (wf_size _) (wf_one _) ?_; clear hS; intro w1 hS) | (refine st_eqd rfl _ _ _ rfl rfl word_lit_eq HZ.out.1 M256_pos HZ.out.2 ?_))
    refine wp_region_held_drew (S := fun w' => St w w' _) (by kernel_rfl) hS.drew fun _ => ?_
    replace hS := hS.drew
    simp only [List.size_toArray, List.length_cons, List.length_nil, Nat.reduceAdd, Array.replicate_succ, Array.replicate_zero, List.push_toArray, List.nil_append, List.cons_append]
    refine wpAnyH_take (i := 0) rfl (by kernel_rfl) (by kernel_rfl) (by kernel_rfl) (fun _ _ _ h => h) (y_load rfl 23 _ rfl rfl (by repeat (first | exact At.head | apply At.tail)) word_type rfl word_size (wf_size _)) hS ?_; simp only [Act.put, List.getElem_toArray, List.getElem_cons_succ, List.getElem_cons_zero, List.setIfInBounds_toArray, List.set_cons_zero, List.set_cons_succ]
    refine wpAnyH_take (i := 2) rfl (by kernel_rfl) (by kernel_rfl) (by kernel_rfl) (fun _ _ _ h => h) (y_load rfl 23 _ rfl rfl (by repeat (first | exact At.head | apply At.tail)) word_type rfl word_size (wf_size _)) hS ?_; simp only [Act.put, List.getElem_toArray, List.getElem_cons_succ, List.getElem_cons_zero, List.setIfInBounds_toArray, List.set_cons_zero, List.set_cons_succ]
    refine wpAnyH_all (rs := [1]) (by kernel_rfl) (by simp) ?_
    intro i hi
    obtain rfl : i = 1 := by simpa using hi
    refine o_callR rfl rfl (by kernel_rfl) (limbs_any x _) ?_
    rintro e w1 ⟨bA, rfl, hle, hB, hb⟩
    replace hS := hS.callNew hb hB hle
    clear hb hB hle
    refine ⟨_, rfl, hS.drop, ?_⟩
    simp only [Act.put, List.getElem_toArray, List.getElem_cons_succ, List.getElem_cons_zero, List.setIfInBounds_toArray, List.set_cons_zero, List.set_cons_succ]
    refine wpAnyH_all (rs := [3]) (by kernel_rfl) (by simp) ?_
    intro i hi
    obtain rfl : i = 3 := by simpa using hi
    refine o_callR rfl rfl (by kernel_rfl) (limbs_any y _) ?_
    rintro e w1 ⟨bB, rfl, hle, hB, hb⟩
    replace hS := hS.callNew hb hB hle
    clear hb hB hle
    refine ⟨_, rfl, hS.drop.drop, ?_⟩
    simp only [Act.put, List.getElem_toArray, List.getElem_cons_succ, List.getElem_cons_zero, List.setIfInBounds_toArray, List.set_cons_zero, List.set_cons_succ]
    refine wpAnyH_all (rs := [4]) (by kernel_rfl) (by simp) ?_
    intro i hi
    obtain rfl : i = 4 := by simpa using hi
    refine o_callR rfl rfl (by kernel_rfl) (divide_rows 16 bA bB 16 16 x y _ (by omega) (by omega) (hS.get (.tail .head)).row_ (hS.get .head).row_ HX.out.1 HX.out.2.1 HX.out.2.2) ?_
    rintro e w1 ⟨bq, br, rfl, hD⟩
    replace hS := hS.join2 hD
    clear hD
    refine ⟨_, rfl, hS.drop.drop.drop.drop, ?_⟩
    simp only [Act.put, List.getElem_toArray, List.getElem_cons_succ, List.getElem_cons_zero, List.setIfInBounds_toArray, List.set_cons_zero, List.set_cons_succ]
    refine wpAnyH_take (i := 5) rfl (by kernel_rfl) (by kernel_rfl) (by kernel_rfl) (fun _ _ _ h => h) (y_move rfl _ (.inl rfl) rfl) hS.drop.drop.drop.drop ?_; simp only [Act.put, List.getElem_toArray, List.getElem_cons_succ, List.getElem_cons_zero, List.setIfInBounds_toArray, List.set_cons_zero, List.set_cons_succ]
    refine wpAnyH_take (i := 6) rfl (by kernel_rfl) (by kernel_rfl) (by kernel_rfl) (fun _ _ _ h => h) (y_extract rfl _ 0 rfl rfl rfl) hS.drop.drop.drop.drop ?_; simp only [Act.put, List.getElem_toArray, List.getElem_cons_succ, List.getElem_cons_zero, List.setIfInBounds_toArray, List.set_cons_zero, List.set_cons_succ]
    refine wpAnyH_take (i := 7) rfl (by kernel_rfl) (by kernel_rfl) (by kernel_rfl) (fun _ _ _ h => h) (y_extract rfl _ 1 rfl rfl rfl) hS.drop.drop.drop.drop ?_; simp only [Act.put, List.getElem_toArray, List.getElem_cons_succ, List.getElem_cons_zero, List.setIfInBounds_toArray, List.set_cons_zero, List.set_cons_succ]
    refine wpAnyH_take (i := 8) rfl (by kernel_rfl) (by kernel_rfl) (by kernel_rfl) (fun _ _ _ h => h) (y_move rfl _ (.inr rfl) rfl) hS.drop.drop.drop.drop ?_; simp only [Act.put, List.getElem_toArray, List.getElem_cons_succ, List.getElem_cons_zero, List.setIfInBounds_toArray, List.set_cons_zero, List.set_cons_succ]
    refine wpAnyH_take (i := 9) rfl (by kernel_rfl) (by kernel_rfl) (by kernel_rfl) (fun _ _ _ h => h) (y_move rfl _ (.inr rfl) rfl) hS.drop.drop.drop.drop ?_; simp only [Act.put, List.getElem_toArray, List.getElem_cons_succ, List.getElem_cons_zero, List.setIfInBounds_toArray, List.set_cons_zero, List.set_cons_succ]
    refine wpAnyH_done (by kernel_rfl) ?_ _
    go_wp2_with (first | (refine st_store hS rfl 23 _ _ rfl rfl rfl (by repeat (first | exact Upd.head | apply Upd.tail)) word_size (wf_size _) (wf_size _) (wf_one _) ?_; clear hS; intro w1 hS) | (go_at_call 69; refine (rword_any 16 16 bq (x / y) _ (by omega) (by omega) (hS.get (.tail .head)).row_).mono ?_; rintro e w1 ⟨rfl, hb⟩; replace hS := hS.call hb; clear hb))
    exact st_post hS 4 23 rfl rfl rfl (by repeat (first | exact At.head | apply At.tail)) word_type rfl word_size (wf_size _) (fun hb => ⟨rfl, hb⟩)
set_option maxHeartbeats 8000000 in
set_option maxRecDepth 100000 in
theorem rMod_any (x y : Nat) (hx : x < M256) (hy : y < M256) (w : World) :
    Calls Try.prog 27 #[.agg (wcells x), .agg (wcells y)] w fun e w' => e = .returned (.agg (wcells (wrest x y))) ∧ Below w.heap.size w w' := by
  by_cases hy0 : y = 0
  · have HZ := Lib.hid (And.intro hy (decide_eq_true hy0))
    subst hy0
    rw [show wrest x 0 = 0 from if_pos rfl]
    clear hx hy
    have hS := St.start w
    go_enter Try.func27, Try.ntmps27
    go_wp2_with (first | (have _t := b3; clear _t; refine st_new hS rfl 23 rfl word_zero ?_; clear hS; intro w1 b4 hS) | (have _t := b2; clear _t; refine st_box hS rfl _ _ rfl rfl ?_; clear hS; intro w1 b3 hS) | (refine st_box hS rfl _ _ rfl rfl ?_; clear hS; intro w1 b2 hS) | (refine st_load hS rfl 23 _ rfl rfl (by repeat (first | exact At.head | apply At.tail)) word_type rfl word_size (wf_size _) ?_) | (refine st_store hS rfl 23 _ _ rfl rfl rfl (by repeat (first | exact Upd.head | apply Upd.tail)) word_size (wf_size _) (wf_size _) (wf_one _) ?_; clear hS; intro w1 hS) | (refine st_eqd rfl _ _ _ rfl rfl word_lit_eq HZ.out.1 M256_pos HZ.out.2 ?_))
    exact st_post hS 4 23 rfl rfl rfl (by repeat (first | exact At.head | apply At.tail)) word_type rfl word_size (wf_size _) (fun hb => ⟨rfl, hb⟩)
  · have HZ := Lib.hid (And.intro hy (decide_eq_false hy0))
    have HX := Lib.hid (And.intro hx (And.intro hy (Nat.pos_of_ne_zero hy0)))
    clear hx hy hy0
    have hS := St.start w
    go_enter Try.func27, Try.ntmps27
    go_wp2_with (first | (have _t := b3; clear _t; refine st_new hS rfl 23 rfl word_zero ?_; clear hS; intro w1 b4 hS) | (have _t := b2; clear _t; refine st_box hS rfl _ _ rfl rfl ?_; clear hS; intro w1 b3 hS) | (refine st_box hS rfl _ _ rfl rfl ?_; clear hS; intro w1 b2 hS) | (refine st_load hS rfl 23 _ rfl rfl (by repeat (first | exact At.head | apply At.tail)) word_type rfl word_size (wf_size _) ?_) | (refine st_store hS rfl 23 _ _ rfl rfl rfl (by repeat (first | exact Upd.head | apply Upd.tail)) word_size (wf_size _) (wf_size _) (wf_one _) ?_; clear hS; intro w1 hS) | (refine st_eqd rfl _ _ _ rfl rfl word_lit_eq HZ.out.1 M256_pos HZ.out.2 ?_))
    refine wp_region_held_drew (S := fun w' => St w w' _) (by kernel_rfl) hS.drew fun _ => ?_
    replace hS := hS.drew
    simp only [List.size_toArray, List.length_cons, List.length_nil, Nat.reduceAdd, Array.replicate_succ, Array.replicate_zero, List.push_toArray, List.nil_append, List.cons_append]
    refine wpAnyH_take (i := 0) rfl (by kernel_rfl) (by kernel_rfl) (by kernel_rfl) (fun _ _ _ h => h) (y_load rfl 23 _ rfl rfl (by repeat (first | exact At.head | apply At.tail)) word_type rfl word_size (wf_size _)) hS ?_; simp only [Act.put, List.getElem_toArray, List.getElem_cons_succ, List.getElem_cons_zero, List.setIfInBounds_toArray, List.set_cons_zero, List.set_cons_succ]
    refine wpAnyH_take (i := 2) rfl (by kernel_rfl) (by kernel_rfl) (by kernel_rfl) (fun _ _ _ h => h) (y_load rfl 23 _ rfl rfl (by repeat (first | exact At.head | apply At.tail)) word_type rfl word_size (wf_size _)) hS ?_; simp only [Act.put, List.getElem_toArray, List.getElem_cons_succ, List.getElem_cons_zero, List.setIfInBounds_toArray, List.set_cons_zero, List.set_cons_succ]
    refine wpAnyH_all (rs := [1]) (by kernel_rfl) (by simp) ?_
    intro i hi
    obtain rfl : i = 1 := by simpa using hi
    refine o_callR rfl rfl (by kernel_rfl) (limbs_any x _) ?_
    rintro e w1 ⟨bA, rfl, hle, hB, hb⟩
    replace hS := hS.callNew hb hB hle
    clear hb hB hle
    refine ⟨_, rfl, hS.drop, ?_⟩
    simp only [Act.put, List.getElem_toArray, List.getElem_cons_succ, List.getElem_cons_zero, List.setIfInBounds_toArray, List.set_cons_zero, List.set_cons_succ]
    refine wpAnyH_all (rs := [3]) (by kernel_rfl) (by simp) ?_
    intro i hi
    obtain rfl : i = 3 := by simpa using hi
    refine o_callR rfl rfl (by kernel_rfl) (limbs_any y _) ?_
    rintro e w1 ⟨bB, rfl, hle, hB, hb⟩
    replace hS := hS.callNew hb hB hle
    clear hb hB hle
    refine ⟨_, rfl, hS.drop.drop, ?_⟩
    simp only [Act.put, List.getElem_toArray, List.getElem_cons_succ, List.getElem_cons_zero, List.setIfInBounds_toArray, List.set_cons_zero, List.set_cons_succ]
    refine wpAnyH_all (rs := [4]) (by kernel_rfl) (by simp) ?_
    intro i hi
    obtain rfl : i = 4 := by simpa using hi
    refine o_callR rfl rfl (by kernel_rfl) (divide_rows 16 bA bB 16 16 x y _ (by omega) (by omega) (hS.get (.tail .head)).row_ (hS.get .head).row_ HX.out.1 HX.out.2.1 HX.out.2.2) ?_
    rintro e w1 ⟨bq, br, rfl, hD⟩
    replace hS := hS.join2 hD
    clear hD
    refine ⟨_, rfl, hS.drop.drop.drop.drop, ?_⟩
    simp only [Act.put, List.getElem_toArray, List.getElem_cons_succ, List.getElem_cons_zero, List.setIfInBounds_toArray, List.set_cons_zero, List.set_cons_succ]
    refine wpAnyH_take (i := 5) rfl (by kernel_rfl) (by kernel_rfl) (by kernel_rfl) (fun _ _ _ h => h) (y_move rfl _ (.inl rfl) rfl) hS.drop.drop.drop.drop ?_; simp only [Act.put, List.getElem_toArray, List.getElem_cons_succ, List.getElem_cons_zero, List.setIfInBounds_toArray, List.set_cons_zero, List.set_cons_succ]
    refine wpAnyH_take (i := 6) rfl (by kernel_rfl) (by kernel_rfl) (by kernel_rfl) (fun _ _ _ h => h) (y_extract rfl _ 0 rfl rfl rfl) hS.drop.drop.drop.drop ?_; simp only [Act.put, List.getElem_toArray, List.getElem_cons_succ, List.getElem_cons_zero, List.setIfInBounds_toArray, List.set_cons_zero, List.set_cons_succ]
    refine wpAnyH_take (i := 7) rfl (by kernel_rfl) (by kernel_rfl) (by kernel_rfl) (fun _ _ _ h => h) (y_extract rfl _ 1 rfl rfl rfl) hS.drop.drop.drop.drop ?_; simp only [Act.put, List.getElem_toArray, List.getElem_cons_succ, List.getElem_cons_zero, List.setIfInBounds_toArray, List.set_cons_zero, List.set_cons_succ]
    refine wpAnyH_take (i := 8) rfl (by kernel_rfl) (by kernel_rfl) (by kernel_rfl) (fun _ _ _ h => h) (y_move rfl _ (.inr rfl) rfl) hS.drop.drop.drop.drop ?_; simp only [Act.put, List.getElem_toArray, List.getElem_cons_succ, List.getElem_cons_zero, List.setIfInBounds_toArray, List.set_cons_zero, List.set_cons_succ]
    refine wpAnyH_take (i := 9) rfl (by kernel_rfl) (by kernel_rfl) (by kernel_rfl) (fun _ _ _ h => h) (y_move rfl _ (.inr rfl) rfl) hS.drop.drop.drop.drop ?_; simp only [Act.put, List.getElem_toArray, List.getElem_cons_succ, List.getElem_cons_zero, List.setIfInBounds_toArray, List.set_cons_zero, List.set_cons_succ]
    refine wpAnyH_done (by kernel_rfl) ?_ _
    go_wp2_with (first | (refine st_store hS rfl 23 _ _ rfl rfl rfl (by repeat (first | exact Upd.head | apply Upd.tail)) word_size (wf_size _) (wf_size _) (wf_one _) ?_; clear hS; intro w1 hS) | (go_at_call 69; have hrow := (hS.get .head).row_; rw [show x % y = wrest x y from (if_neg (Nat.ne_of_gt HX.out.2.2)).symm] at hrow; refine (rword_any 17 17 br (wrest x y) _ (by omega) (by omega) hrow).mono ?_; rintro e w1 ⟨rfl, hb⟩; replace hS := hS.call hb; clear hb))
    exact st_post hS 4 23 rfl rfl rfl (by repeat (first | exact At.head | apply At.tail)) word_type rfl word_size (wf_size _) (fun hb => ⟨rfl, hb⟩)
set_option maxHeartbeats 1000000 in
set_option maxRecDepth 100000 in
theorem rabs_any (x : Nat) (hx : x < M256) (w : World) :
    Calls Try.prog 83 #[.agg (wcells x)] w fun e w' => e = .returned (.agg (wcells (magN x))) ∧ Below w.heap.size w w' := by
  have HX := Lib.hid hx
  clear hx
  by_cases h : 2 ^ 255 ≤ x
  · rw [magN_neg h]
    have HD := Lib.hid (show decide (2 ^ 255 ≤ x) = true from decide_eq_true h)
    clear h
    have hS := St.start w
    go_enter Try.func83, Try.ntmps83
    go_wp2_with (first | (refine st_new hS rfl 23 rfl word_zero ?_; clear hS; intro w1 b1 hS) | (refine st_box hS rfl _ _ rfl rfl ?_; clear hS; intro w1 b1 hS) | (refine st_load hS rfl 23 _ rfl rfl (by repeat (first | exact At.head | apply At.tail)) word_type rfl word_size (wf_size _) ?_) | (refine st_store hS rfl 23 _ _ rfl rfl rfl (by repeat (first | exact Upd.head | apply Upd.tail)) word_size (wf_size _) (wf_size _) (wf_one _) ?_; clear hS; intro w1 hS) | (go_at_call 84; with_reducible refine (rneg_is x true HD.out HX.out _).mono ?_; rintro e w1 ⟨rfl, hb⟩; replace hS := hS.call hb; clear hb) | (go_at_call 21; with_reducible refine (rneg_call x HX.out _).mono ?_; rintro e w1 ⟨rfl, hb⟩; replace hS := hS.call hb; clear hb))
    exact st_post hS 2 23 rfl rfl rfl (by repeat (first | exact At.head | apply At.tail)) word_type rfl word_size (wf_size _) (fun hb => ⟨rfl, hb⟩)
  · rw [magN_pos h]
    have HD := Lib.hid (show decide (2 ^ 255 ≤ x) = false from decide_eq_false h)
    clear h
    have hS := St.start w
    go_enter Try.func83, Try.ntmps83
    go_wp2_with (first | (refine st_new hS rfl 23 rfl word_zero ?_; clear hS; intro w1 b1 hS) | (refine st_box hS rfl _ _ rfl rfl ?_; clear hS; intro w1 b1 hS) | (refine st_load hS rfl 23 _ rfl rfl (by repeat (first | exact At.head | apply At.tail)) word_type rfl word_size (wf_size _) ?_) | (refine st_store hS rfl 23 _ _ rfl rfl rfl (by repeat (first | exact Upd.head | apply Upd.tail)) word_size (wf_size _) (wf_size _) (wf_one _) ?_; clear hS; intro w1 hS) | (go_at_call 84; with_reducible refine (rneg_is x false HD.out HX.out _).mono ?_; rintro e w1 ⟨rfl, hb⟩; replace hS := hS.call hb; clear hb) | (go_at_call 21; with_reducible refine (rneg_call x HX.out _).mono ?_; rintro e w1 ⟨rfl, hb⟩; replace hS := hS.call hb; clear hb))
    exact st_post hS 2 23 rfl rfl rfl (by repeat (first | exact At.head | apply At.tail)) word_type rfl word_size (wf_size _) (fun hb => ⟨rfl, hb⟩)
end Go.Proofs.Ytcdjinjeogodfaa

/-! The document's quotients and remainders of words with signs. -/
namespace Go.Proofs.Ytcdjinjeogodfaa
open Go.RowKit

set_option maxHeartbeats 1000000 in
set_option maxRecDepth 100000 in
theorem rsdiv_case (x y q : Nat) (dx dy : Bool) (hdx : decide (2 ^ 255 ≤ x) = dx) (hdy : decide (2 ^ 255 ≤ y) = dy) (hq : q = magN x / magN y) (hx : x < M256) (hy : y < M256) (w : World) :
    Calls Try.prog 29 #[.agg (wcells x), .agg (wcells y)] w fun e w' => e = .returned (.agg (wcells (pickN (dx != dy) q))) ∧ Below w.heap.size w w' := by
  have HX := Lib.hid (And.intro hx (And.intro hy (show q < M256 by rw [hq]; exact div_lt (magN_lt hx))))
  have HD := Lib.hid (And.intro hdx hdy)
  have hq' : ∀ w : World, Calls Try.prog 25 #[.agg (wcells (magN x)), .agg (wcells (magN y))] w fun e w' => e = .returned (.agg (wcells q)) ∧ Below w.heap.size w w' := by
    intro w; rw [hq]; exact rDiv_any (magN x) (magN y) (magN_lt hx) (magN_lt hy) _
  clear hx hy hq hdx hdy
  have hS := St.start w
  go_enter Try.func29, Try.ntmps29
  go_wp2_with (first | (have _t := b3; clear _t; refine st_new hS rfl 23 rfl word_zero ?_; clear hS; intro w1 b4 hS) | (have _t := b2; clear _t; refine st_box hS rfl _ _ rfl rfl ?_; clear hS; intro w1 b3 hS) | (refine st_box hS rfl _ _ rfl rfl ?_; clear hS; intro w1 b2 hS))
  try simp only [Act.put, List.setIfInBounds_toArray, List.set_cons_zero, List.set_cons_succ]
  go_cut [5] (fun s5 wx => ∃ c5 : Nat, s5 = .pointer (some ⟨c5, 0, none⟩) ∧ St w wx [(c5, 23, wcells q), (b4, 23, wcells 0), (b3, 23, wcells y), (b2, 23, wcells x)])
  case first =>
    refine wp_region_held_drew (S := fun w' => St w w' _) (by kernel_rfl) hS.drew fun _ => ?_
    replace hS := hS.drew
    simp only [List.size_toArray, List.length_cons, List.length_nil, Nat.reduceAdd, Array.replicate_succ, Array.replicate_zero, List.push_toArray, List.nil_append, List.cons_append]
    refine wpAnyH_take (i := 0) rfl (by kernel_rfl) (by kernel_rfl) (by kernel_rfl) (fun _ _ _ h => h) (y_load rfl 23 _ rfl rfl (by repeat (first | exact At.head | apply At.tail)) word_type rfl word_size (wf_size _)) hS ?_; simp only [Act.put, List.getElem_toArray, List.getElem_cons_succ, List.getElem_cons_zero, List.setIfInBounds_toArray, List.set_cons_zero, List.set_cons_succ]
    refine wpAnyH_take (i := 2) rfl (by kernel_rfl) (by kernel_rfl) (by kernel_rfl) (fun _ _ _ h => h) (y_load rfl 23 _ rfl rfl (by repeat (first | exact At.head | apply At.tail)) word_type rfl word_size (wf_size _)) hS ?_; simp only [Act.put, List.getElem_toArray, List.getElem_cons_succ, List.getElem_cons_zero, List.setIfInBounds_toArray, List.set_cons_zero, List.set_cons_succ]
    refine wpAnyH_all (rs := [1, 5]) (by kernel_rfl) (by simp) ?_
    intro i hi
    have hi2 : i = 1 ∨ i = 5 := by simpa using hi
    rcases hi2 with rfl | rfl
    ·
      refine o_call rfl rfl (by kernel_rfl) (rabs_any x HX.out.1 _) hS fun w1 hS => ⟨hS, ?_⟩
      simp only [Act.put, List.getElem_toArray, List.getElem_cons_succ, List.getElem_cons_zero, List.setIfInBounds_toArray, List.set_cons_zero, List.set_cons_succ]
      refine wpAnyH_all (rs := [3, 5]) (by kernel_rfl) (by simp) ?_
      intro i hi
      have hi2 : i = 3 ∨ i = 5 := by simpa using hi
      rcases hi2 with rfl | rfl
      ·
        refine o_call rfl rfl (by kernel_rfl) (rabs_any y HX.out.2.1 _) hS fun w1 hS => ⟨hS, ?_⟩
        simp only [Act.put, List.getElem_toArray, List.getElem_cons_succ, List.getElem_cons_zero, List.setIfInBounds_toArray, List.set_cons_zero, List.set_cons_succ]
        refine wpAnyH_all (rs := [4, 5]) (by kernel_rfl) (by simp) ?_
        intro i hi
        have hi2 : i = 4 ∨ i = 5 := by simpa using hi
        rcases hi2 with rfl | rfl
        ·
          refine o_call rfl rfl (by kernel_rfl) (hq' _) hS fun w1 hS => ⟨hS, ?_⟩
          simp only [Act.put, List.getElem_toArray, List.getElem_cons_succ, List.getElem_cons_zero, List.setIfInBounds_toArray, List.set_cons_zero, List.set_cons_succ]
          refine wpAnyH_all (rs := [5]) (by kernel_rfl) (by simp) ?_
          intro i hi
          obtain rfl : i = 5 := by simpa using hi
          refine o_new rfl rfl 23 rfl word_zero hS fun w1 bn hS => ⟨hS.drop, ?_⟩
          simp only [Act.put, List.getElem_toArray, List.getElem_cons_succ, List.getElem_cons_zero, List.setIfInBounds_toArray, List.set_cons_zero, List.set_cons_succ]
          refine wpAnyH_all (rs := [6]) (by kernel_rfl) (by simp) ?_
          intro i hi
          obtain rfl : i = 6 := by simpa using hi
          refine o_store (c' := wcells q) rfl rfl hS 23 _ _ rfl rfl rfl (by repeat (first | exact Upd.head | apply Upd.tail)) word_size (wf_size _) (wf_size _) (wf_one _) fun w1 hS => ⟨hS.drop, ?_⟩
          simp only [Act.put, List.getElem_toArray, List.getElem_cons_succ, List.getElem_cons_zero, List.setIfInBounds_toArray, List.set_cons_zero, List.set_cons_succ]
          refine wpAnyH_done (by kernel_rfl) ?_ _
          go_wp2_with (fail)
          go_meet
          exact ⟨_, rfl, hS⟩
        ·
          refine o_new rfl rfl 23 rfl word_zero hS fun w1 bn hS => ⟨hS.drop, ?_⟩
          simp only [Act.put, List.getElem_toArray, List.getElem_cons_succ, List.getElem_cons_zero, List.setIfInBounds_toArray, List.set_cons_zero, List.set_cons_succ]
          refine wpAnyH_all (rs := [4]) (by kernel_rfl) (by simp) ?_
          intro i hi
          obtain rfl : i = 4 := by simpa using hi
          refine o_call rfl rfl (by kernel_rfl) (hq' _) hS fun w1 hS => ⟨hS.drop, ?_⟩
          simp only [Act.put, List.getElem_toArray, List.getElem_cons_succ, List.getElem_cons_zero, List.setIfInBounds_toArray, List.set_cons_zero, List.set_cons_succ]
          refine wpAnyH_all (rs := [6]) (by kernel_rfl) (by simp) ?_
          intro i hi
          obtain rfl : i = 6 := by simpa using hi
          refine o_store (c' := wcells q) rfl rfl hS 23 _ _ rfl rfl rfl (by repeat (first | exact Upd.head | apply Upd.tail)) word_size (wf_size _) (wf_size _) (wf_one _) fun w1 hS => ⟨hS.drop, ?_⟩
          simp only [Act.put, List.getElem_toArray, List.getElem_cons_succ, List.getElem_cons_zero, List.setIfInBounds_toArray, List.set_cons_zero, List.set_cons_succ]
          refine wpAnyH_done (by kernel_rfl) ?_ _
          go_wp2_with (fail)
          go_meet
          exact ⟨_, rfl, hS⟩
      ·
        refine o_new rfl rfl 23 rfl word_zero hS fun w1 bn hS => ⟨hS.drop, ?_⟩
        simp only [Act.put, List.getElem_toArray, List.getElem_cons_succ, List.getElem_cons_zero, List.setIfInBounds_toArray, List.set_cons_zero, List.set_cons_succ]
        refine wpAnyH_all (rs := [3]) (by kernel_rfl) (by simp) ?_
        intro i hi
        obtain rfl : i = 3 := by simpa using hi
        refine o_call rfl rfl (by kernel_rfl) (rabs_any y HX.out.2.1 _) hS fun w1 hS => ⟨hS.drop, ?_⟩
        simp only [Act.put, List.getElem_toArray, List.getElem_cons_succ, List.getElem_cons_zero, List.setIfInBounds_toArray, List.set_cons_zero, List.set_cons_succ]
        refine wpAnyH_all (rs := [4]) (by kernel_rfl) (by simp) ?_
        intro i hi
        obtain rfl : i = 4 := by simpa using hi
        refine o_call rfl rfl (by kernel_rfl) (hq' _) hS fun w1 hS => ⟨hS.drop, ?_⟩
        simp only [Act.put, List.getElem_toArray, List.getElem_cons_succ, List.getElem_cons_zero, List.setIfInBounds_toArray, List.set_cons_zero, List.set_cons_succ]
        refine wpAnyH_all (rs := [6]) (by kernel_rfl) (by simp) ?_
        intro i hi
        obtain rfl : i = 6 := by simpa using hi
        refine o_store (c' := wcells q) rfl rfl hS 23 _ _ rfl rfl rfl (by repeat (first | exact Upd.head | apply Upd.tail)) word_size (wf_size _) (wf_size _) (wf_one _) fun w1 hS => ⟨hS.drop, ?_⟩
        simp only [Act.put, List.getElem_toArray, List.getElem_cons_succ, List.getElem_cons_zero, List.setIfInBounds_toArray, List.set_cons_zero, List.set_cons_succ]
        refine wpAnyH_done (by kernel_rfl) ?_ _
        go_wp2_with (fail)
        go_meet
        exact ⟨_, rfl, hS⟩
    ·
      refine o_new rfl rfl 23 rfl word_zero hS fun w1 bn hS => ⟨hS.drop, ?_⟩
      simp only [Act.put, List.getElem_toArray, List.getElem_cons_succ, List.getElem_cons_zero, List.setIfInBounds_toArray, List.set_cons_zero, List.set_cons_succ]
      refine wpAnyH_all (rs := [1]) (by kernel_rfl) (by simp) ?_
      intro i hi
      obtain rfl : i = 1 := by simpa using hi
      refine o_call rfl rfl (by kernel_rfl) (rabs_any x HX.out.1 _) hS fun w1 hS => ⟨hS.drop, ?_⟩
      simp only [Act.put, List.getElem_toArray, List.getElem_cons_succ, List.getElem_cons_zero, List.setIfInBounds_toArray, List.set_cons_zero, List.set_cons_succ]
      refine wpAnyH_all (rs := [3]) (by kernel_rfl) (by simp) ?_
      intro i hi
      obtain rfl : i = 3 := by simpa using hi
      refine o_call rfl rfl (by kernel_rfl) (rabs_any y HX.out.2.1 _) hS fun w1 hS => ⟨hS.drop, ?_⟩
      simp only [Act.put, List.getElem_toArray, List.getElem_cons_succ, List.getElem_cons_zero, List.setIfInBounds_toArray, List.set_cons_zero, List.set_cons_succ]
      refine wpAnyH_all (rs := [4]) (by kernel_rfl) (by simp) ?_
      intro i hi
      obtain rfl : i = 4 := by simpa using hi
      refine o_call rfl rfl (by kernel_rfl) (hq' _) hS fun w1 hS => ⟨hS.drop, ?_⟩
      simp only [Act.put, List.getElem_toArray, List.getElem_cons_succ, List.getElem_cons_zero, List.setIfInBounds_toArray, List.set_cons_zero, List.set_cons_succ]
      refine wpAnyH_all (rs := [6]) (by kernel_rfl) (by simp) ?_
      intro i hi
      obtain rfl : i = 6 := by simpa using hi
      refine o_store (c' := wcells q) rfl rfl hS 23 _ _ rfl rfl rfl (by repeat (first | exact Upd.head | apply Upd.tail)) word_size (wf_size _) (wf_size _) (wf_one _) fun w1 hS => ⟨hS.drop, ?_⟩
      simp only [Act.put, List.getElem_toArray, List.getElem_cons_succ, List.getElem_cons_zero, List.setIfInBounds_toArray, List.set_cons_zero, List.set_cons_succ]
      refine wpAnyH_done (by kernel_rfl) ?_ _
      go_wp2_with (fail)
      go_meet
      exact ⟨_, rfl, hS⟩
  case rest =>
    clear hS
    obtain ⟨c5, rfl, hS⟩ := hcut
    cases dx <;> cases dy <;> (
      go_upto_region 2 with (fail)
      try simp only [Act.put, List.setIfInBounds_toArray, List.set_cons_zero, List.set_cons_succ]
      refine k_region (C := fun w' => St w w' _) (by kernel_rfl) (by kernel_rfl) hS.drew ?_
      repeat (first | (refine k_skip rfl rfl rfl rfl rfl ?_; try simp only [Act.put, List.setIfInBounds_toArray, List.set_cons_zero, List.set_cons_succ]) | (refine k_load rfl 23 _ rfl rfl (by repeat (first | exact At.head | apply At.tail)) word_type word_size (wf_size _) ?_; try simp only [Act.put, List.setIfInBounds_toArray, List.set_cons_zero, List.set_cons_succ]) | (refine k_neqb rfl _ _ _ rfl rfl rfl ?_; try simp only [Act.put, List.setIfInBounds_toArray, List.set_cons_zero, List.set_cons_succ]) | (refine k_boolm rfl _ rfl rfl ?_; try simp only [Act.put, List.setIfInBounds_toArray, List.set_cons_zero, List.set_cons_succ]) | (refine k_boola rfl _ rfl rfl ?_; try simp only [Act.put, List.setIfInBounds_toArray, List.set_cons_zero, List.set_cons_succ]) | (refine k_intm rfl _ rfl rfl ?_; try simp only [Act.put, List.setIfInBounds_toArray, List.set_cons_zero, List.set_cons_succ]) | (refine k_inta rfl _ rfl rfl ?_; try simp only [Act.put, List.setIfInBounds_toArray, List.set_cons_zero, List.set_cons_succ]) | (refine k_pickT rfl _ _ _ rfl rfl rfl ?_; try simp only [Act.put, List.setIfInBounds_toArray, List.set_cons_zero, List.set_cons_succ]) | (refine k_pickF rfl _ _ _ rfl rfl rfl ?_; try simp only [Act.put, List.setIfInBounds_toArray, List.set_cons_zero, List.set_cons_succ]) | (refine k_bools rfl _ _ _ rfl rfl rfl ?_; try simp only [Act.put, List.setIfInBounds_toArray, List.set_cons_zero, List.set_cons_succ]) | (refine k_call_w rfl rfl rfl (by with_reducible first | exact ⟨Try.call84, rneg_is x _ HD.out.1 HX.out.1⟩ | exact ⟨Try.call84, rneg_is y _ HD.out.2 HX.out.2.1⟩) ?_; try simp only [Act.put, List.setIfInBounds_toArray, List.set_cons_zero, List.set_cons_succ]))
      refine k_end ?_
      clear hS
      intro w1 hS
      go_wp2_with (first | (refine st_load hS rfl 23 _ rfl rfl (by repeat (first | exact At.head | apply At.tail)) word_type rfl word_size (wf_size _) ?_) | (refine st_store hS rfl 23 _ _ rfl rfl rfl (by repeat (first | exact Upd.head | apply Upd.tail)) word_size (wf_size _) (wf_size _) (wf_one _) ?_; clear hS; intro w1 hS) | (go_at_call 84; with_reducible (first | refine (rneg_is x _ HD.out.1 HX.out.1 _).mono ?_ | refine (rneg_is y _ HD.out.2 HX.out.2.1 _).mono ?_); rintro e w1 ⟨rfl, hb⟩; replace hS := hS.call hb; clear hb) | (go_at_call 21; with_reducible refine (rneg_call q HX.out.2.2 _).mono ?_; rintro e w1 ⟨rfl, hb⟩; replace hS := hS.call hb; clear hb))
      exact st_post hS 4 23 rfl rfl rfl (by repeat (first | exact At.head | apply At.tail)) word_type rfl word_size (wf_size _) (fun hb => ⟨rfl, hb⟩))
set_option maxHeartbeats 1000000 in
set_option maxRecDepth 100000 in
theorem rsmod_case (x y q : Nat) (dx dy : Bool) (hdx : decide (2 ^ 255 ≤ x) = dx) (hdy : decide (2 ^ 255 ≤ y) = dy) (hq : q = wrest (magN x) (magN y)) (hx : x < M256) (hy : y < M256) (w : World) :
    Calls Try.prog 31 #[.agg (wcells x), .agg (wcells y)] w fun e w' => e = .returned (.agg (wcells (pickN (dx) q))) ∧ Below w.heap.size w w' := by
  have HX := Lib.hid (And.intro hx (And.intro hy (show q < M256 by rw [hq]; exact wrest_lt (magN_lt hx))))
  have HD := Lib.hid (And.intro hdx hdy)
  have hq' : ∀ w : World, Calls Try.prog 27 #[.agg (wcells (magN x)), .agg (wcells (magN y))] w fun e w' => e = .returned (.agg (wcells q)) ∧ Below w.heap.size w w' := by
    intro w; rw [hq]; exact rMod_any (magN x) (magN y) (magN_lt hx) (magN_lt hy) _
  clear hx hy hq hdx hdy
  have hS := St.start w
  go_enter Try.func31, Try.ntmps31
  go_wp2_with (first | (have _t := b3; clear _t; refine st_new hS rfl 23 rfl word_zero ?_; clear hS; intro w1 b4 hS) | (have _t := b2; clear _t; refine st_box hS rfl _ _ rfl rfl ?_; clear hS; intro w1 b3 hS) | (refine st_box hS rfl _ _ rfl rfl ?_; clear hS; intro w1 b2 hS))
  try simp only [Act.put, List.setIfInBounds_toArray, List.set_cons_zero, List.set_cons_succ]
  go_cut [5] (fun s5 wx => ∃ c5 : Nat, s5 = .pointer (some ⟨c5, 0, none⟩) ∧ St w wx [(c5, 23, wcells q), (b4, 23, wcells 0), (b3, 23, wcells y), (b2, 23, wcells x)])
  case first =>
    refine wp_region_held_drew (S := fun w' => St w w' _) (by kernel_rfl) hS.drew fun _ => ?_
    replace hS := hS.drew
    simp only [List.size_toArray, List.length_cons, List.length_nil, Nat.reduceAdd, Array.replicate_succ, Array.replicate_zero, List.push_toArray, List.nil_append, List.cons_append]
    refine wpAnyH_take (i := 0) rfl (by kernel_rfl) (by kernel_rfl) (by kernel_rfl) (fun _ _ _ h => h) (y_load rfl 23 _ rfl rfl (by repeat (first | exact At.head | apply At.tail)) word_type rfl word_size (wf_size _)) hS ?_; simp only [Act.put, List.getElem_toArray, List.getElem_cons_succ, List.getElem_cons_zero, List.setIfInBounds_toArray, List.set_cons_zero, List.set_cons_succ]
    refine wpAnyH_take (i := 2) rfl (by kernel_rfl) (by kernel_rfl) (by kernel_rfl) (fun _ _ _ h => h) (y_load rfl 23 _ rfl rfl (by repeat (first | exact At.head | apply At.tail)) word_type rfl word_size (wf_size _)) hS ?_; simp only [Act.put, List.getElem_toArray, List.getElem_cons_succ, List.getElem_cons_zero, List.setIfInBounds_toArray, List.set_cons_zero, List.set_cons_succ]
    refine wpAnyH_all (rs := [1, 5]) (by kernel_rfl) (by simp) ?_
    intro i hi
    have hi2 : i = 1 ∨ i = 5 := by simpa using hi
    rcases hi2 with rfl | rfl
    ·
      refine o_call rfl rfl (by kernel_rfl) (rabs_any x HX.out.1 _) hS fun w1 hS => ⟨hS, ?_⟩
      simp only [Act.put, List.getElem_toArray, List.getElem_cons_succ, List.getElem_cons_zero, List.setIfInBounds_toArray, List.set_cons_zero, List.set_cons_succ]
      refine wpAnyH_all (rs := [3, 5]) (by kernel_rfl) (by simp) ?_
      intro i hi
      have hi2 : i = 3 ∨ i = 5 := by simpa using hi
      rcases hi2 with rfl | rfl
      ·
        refine o_call rfl rfl (by kernel_rfl) (rabs_any y HX.out.2.1 _) hS fun w1 hS => ⟨hS, ?_⟩
        simp only [Act.put, List.getElem_toArray, List.getElem_cons_succ, List.getElem_cons_zero, List.setIfInBounds_toArray, List.set_cons_zero, List.set_cons_succ]
        refine wpAnyH_all (rs := [4, 5]) (by kernel_rfl) (by simp) ?_
        intro i hi
        have hi2 : i = 4 ∨ i = 5 := by simpa using hi
        rcases hi2 with rfl | rfl
        ·
          refine o_call rfl rfl (by kernel_rfl) (hq' _) hS fun w1 hS => ⟨hS, ?_⟩
          simp only [Act.put, List.getElem_toArray, List.getElem_cons_succ, List.getElem_cons_zero, List.setIfInBounds_toArray, List.set_cons_zero, List.set_cons_succ]
          refine wpAnyH_all (rs := [5]) (by kernel_rfl) (by simp) ?_
          intro i hi
          obtain rfl : i = 5 := by simpa using hi
          refine o_new rfl rfl 23 rfl word_zero hS fun w1 bn hS => ⟨hS.drop, ?_⟩
          simp only [Act.put, List.getElem_toArray, List.getElem_cons_succ, List.getElem_cons_zero, List.setIfInBounds_toArray, List.set_cons_zero, List.set_cons_succ]
          refine wpAnyH_all (rs := [6]) (by kernel_rfl) (by simp) ?_
          intro i hi
          obtain rfl : i = 6 := by simpa using hi
          refine o_store (c' := wcells q) rfl rfl hS 23 _ _ rfl rfl rfl (by repeat (first | exact Upd.head | apply Upd.tail)) word_size (wf_size _) (wf_size _) (wf_one _) fun w1 hS => ⟨hS.drop, ?_⟩
          simp only [Act.put, List.getElem_toArray, List.getElem_cons_succ, List.getElem_cons_zero, List.setIfInBounds_toArray, List.set_cons_zero, List.set_cons_succ]
          refine wpAnyH_done (by kernel_rfl) ?_ _
          go_wp2_with (fail)
          go_meet
          exact ⟨_, rfl, hS⟩
        ·
          refine o_new rfl rfl 23 rfl word_zero hS fun w1 bn hS => ⟨hS.drop, ?_⟩
          simp only [Act.put, List.getElem_toArray, List.getElem_cons_succ, List.getElem_cons_zero, List.setIfInBounds_toArray, List.set_cons_zero, List.set_cons_succ]
          refine wpAnyH_all (rs := [4]) (by kernel_rfl) (by simp) ?_
          intro i hi
          obtain rfl : i = 4 := by simpa using hi
          refine o_call rfl rfl (by kernel_rfl) (hq' _) hS fun w1 hS => ⟨hS.drop, ?_⟩
          simp only [Act.put, List.getElem_toArray, List.getElem_cons_succ, List.getElem_cons_zero, List.setIfInBounds_toArray, List.set_cons_zero, List.set_cons_succ]
          refine wpAnyH_all (rs := [6]) (by kernel_rfl) (by simp) ?_
          intro i hi
          obtain rfl : i = 6 := by simpa using hi
          refine o_store (c' := wcells q) rfl rfl hS 23 _ _ rfl rfl rfl (by repeat (first | exact Upd.head | apply Upd.tail)) word_size (wf_size _) (wf_size _) (wf_one _) fun w1 hS => ⟨hS.drop, ?_⟩
          simp only [Act.put, List.getElem_toArray, List.getElem_cons_succ, List.getElem_cons_zero, List.setIfInBounds_toArray, List.set_cons_zero, List.set_cons_succ]
          refine wpAnyH_done (by kernel_rfl) ?_ _
          go_wp2_with (fail)
          go_meet
          exact ⟨_, rfl, hS⟩
      ·
        refine o_new rfl rfl 23 rfl word_zero hS fun w1 bn hS => ⟨hS.drop, ?_⟩
        simp only [Act.put, List.getElem_toArray, List.getElem_cons_succ, List.getElem_cons_zero, List.setIfInBounds_toArray, List.set_cons_zero, List.set_cons_succ]
        refine wpAnyH_all (rs := [3]) (by kernel_rfl) (by simp) ?_
        intro i hi
        obtain rfl : i = 3 := by simpa using hi
        refine o_call rfl rfl (by kernel_rfl) (rabs_any y HX.out.2.1 _) hS fun w1 hS => ⟨hS.drop, ?_⟩
        simp only [Act.put, List.getElem_toArray, List.getElem_cons_succ, List.getElem_cons_zero, List.setIfInBounds_toArray, List.set_cons_zero, List.set_cons_succ]
        refine wpAnyH_all (rs := [4]) (by kernel_rfl) (by simp) ?_
        intro i hi
        obtain rfl : i = 4 := by simpa using hi
        refine o_call rfl rfl (by kernel_rfl) (hq' _) hS fun w1 hS => ⟨hS.drop, ?_⟩
        simp only [Act.put, List.getElem_toArray, List.getElem_cons_succ, List.getElem_cons_zero, List.setIfInBounds_toArray, List.set_cons_zero, List.set_cons_succ]
        refine wpAnyH_all (rs := [6]) (by kernel_rfl) (by simp) ?_
        intro i hi
        obtain rfl : i = 6 := by simpa using hi
        refine o_store (c' := wcells q) rfl rfl hS 23 _ _ rfl rfl rfl (by repeat (first | exact Upd.head | apply Upd.tail)) word_size (wf_size _) (wf_size _) (wf_one _) fun w1 hS => ⟨hS.drop, ?_⟩
        simp only [Act.put, List.getElem_toArray, List.getElem_cons_succ, List.getElem_cons_zero, List.setIfInBounds_toArray, List.set_cons_zero, List.set_cons_succ]
        refine wpAnyH_done (by kernel_rfl) ?_ _
        go_wp2_with (fail)
        go_meet
        exact ⟨_, rfl, hS⟩
    ·
      refine o_new rfl rfl 23 rfl word_zero hS fun w1 bn hS => ⟨hS.drop, ?_⟩
      simp only [Act.put, List.getElem_toArray, List.getElem_cons_succ, List.getElem_cons_zero, List.setIfInBounds_toArray, List.set_cons_zero, List.set_cons_succ]
      refine wpAnyH_all (rs := [1]) (by kernel_rfl) (by simp) ?_
      intro i hi
      obtain rfl : i = 1 := by simpa using hi
      refine o_call rfl rfl (by kernel_rfl) (rabs_any x HX.out.1 _) hS fun w1 hS => ⟨hS.drop, ?_⟩
      simp only [Act.put, List.getElem_toArray, List.getElem_cons_succ, List.getElem_cons_zero, List.setIfInBounds_toArray, List.set_cons_zero, List.set_cons_succ]
      refine wpAnyH_all (rs := [3]) (by kernel_rfl) (by simp) ?_
      intro i hi
      obtain rfl : i = 3 := by simpa using hi
      refine o_call rfl rfl (by kernel_rfl) (rabs_any y HX.out.2.1 _) hS fun w1 hS => ⟨hS.drop, ?_⟩
      simp only [Act.put, List.getElem_toArray, List.getElem_cons_succ, List.getElem_cons_zero, List.setIfInBounds_toArray, List.set_cons_zero, List.set_cons_succ]
      refine wpAnyH_all (rs := [4]) (by kernel_rfl) (by simp) ?_
      intro i hi
      obtain rfl : i = 4 := by simpa using hi
      refine o_call rfl rfl (by kernel_rfl) (hq' _) hS fun w1 hS => ⟨hS.drop, ?_⟩
      simp only [Act.put, List.getElem_toArray, List.getElem_cons_succ, List.getElem_cons_zero, List.setIfInBounds_toArray, List.set_cons_zero, List.set_cons_succ]
      refine wpAnyH_all (rs := [6]) (by kernel_rfl) (by simp) ?_
      intro i hi
      obtain rfl : i = 6 := by simpa using hi
      refine o_store (c' := wcells q) rfl rfl hS 23 _ _ rfl rfl rfl (by repeat (first | exact Upd.head | apply Upd.tail)) word_size (wf_size _) (wf_size _) (wf_one _) fun w1 hS => ⟨hS.drop, ?_⟩
      simp only [Act.put, List.getElem_toArray, List.getElem_cons_succ, List.getElem_cons_zero, List.setIfInBounds_toArray, List.set_cons_zero, List.set_cons_succ]
      refine wpAnyH_done (by kernel_rfl) ?_ _
      go_wp2_with (fail)
      go_meet
      exact ⟨_, rfl, hS⟩
  case rest =>
    clear hS
    obtain ⟨c5, rfl, hS⟩ := hcut
    cases dx <;> (
      go_wp2_with (first | (refine st_load hS rfl 23 _ rfl rfl (by repeat (first | exact At.head | apply At.tail)) word_type rfl word_size (wf_size _) ?_) | (refine st_store hS rfl 23 _ _ rfl rfl rfl (by repeat (first | exact Upd.head | apply Upd.tail)) word_size (wf_size _) (wf_size _) (wf_one _) ?_; clear hS; intro w1 hS) | (go_at_call 84; with_reducible (first | refine (rneg_is x _ HD.out.1 HX.out.1 _).mono ?_ | refine (rneg_is y _ HD.out.2 HX.out.2.1 _).mono ?_); rintro e w1 ⟨rfl, hb⟩; replace hS := hS.call hb; clear hb) | (go_at_call 21; with_reducible refine (rneg_call q HX.out.2.2 _).mono ?_; rintro e w1 ⟨rfl, hb⟩; replace hS := hS.call hb; clear hb))
      exact st_post hS 4 23 rfl rfl rfl (by repeat (first | exact At.head | apply At.tail)) word_type rfl word_size (wf_size _) (fun hb => ⟨rfl, hb⟩))
theorem rsdiv_any (x y : Nat) (hx : x < M256) (hy : y < M256) (w : World) :
    Calls Try.prog 29 #[.agg (wcells x), .agg (wcells y)] w fun e w' => e = .returned (.agg (wcells (sdivN x y))) ∧ Below w.heap.size w w' := rsdiv_case x y _ _ _ rfl rfl rfl hx hy w
theorem rsmod_any (x y : Nat) (hx : x < M256) (hy : y < M256) (w : World) :
    Calls Try.prog 31 #[.agg (wcells x), .agg (wcells y)] w fun e w' => e = .returned (.agg (wcells (smodN x y))) ∧ Below w.heap.size w w' := rsmod_case x y _ _ _ rfl rfl rfl hx hy w
end Go.Proofs.Ytcdjinjeogodfaa
