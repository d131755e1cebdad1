/- Leading noughts of words' texts: hex.Short, the document's Short; word.Bits, the document's Of. -/
import Derived.Test.YtbmlglnfhapceaaM1
import Derived.Test.YtbmlglnfhapceaaH8
namespace Go.Proofs.Ytbmlglnfhapceaa
open Go.RowKit

/-- A word's bytes. -/
def wl (f : Nat → Nat) : List Nat := (List.range 32).map f
theorem wl_length (f : Nat → Nat) : (wl f).length = 32 := by simp [wl]
theorem wl_get (f : Nat → Nat) (i : Nat) (h : i < 32) : (wl f)[i]'(by rw [wl_length]; exact h) = f i := by simp [wl]
theorem wl_congr {f g : Nat → Nat} (h : ∀ i, i < 32 → f i = g i) : wl f = wl g := by
  unfold wl; apply List.map_congr_left; intro i hi; exact h i (List.mem_range.1 hi)
theorem wl_lt {f : Nat → Nat} (h : ∀ i, i < 32 → f i < 256) : ∀ x ∈ wl f, x < 256 := by
  intro x hx; obtain ⟨i, hi, rfl⟩ := List.mem_map.1 hx; exact h i (List.mem_range.1 hi)
theorem nib_get (x j : Nat) (h : j < 64) : (hexOf (wl (byt x)))[j]? = some (hch (x / 2 ^ (4 * (63 - j)) % 16)) := by
  have g := hexOf_get (wl (byt x)) (j / 2) (by rw [wl_length]; omega)
  rw [wl_get _ _ (by omega), show byt x (j / 2) = x / 2 ^ (8 * (31 - j / 2)) % 256 from rfl] at g
  rcases Nat.mod_two_eq_zero_or_one j with hm | hm
  · have g1 := g.1
    rw [show 2 * (j / 2) = j by omega] at g1
    rw [g1, show 4 * (63 - j) = 8 * (31 - j / 2) + 4 by omega, Nat.pow_add, ← Nat.div_div_eq_div_mul]
    congr 2
    generalize x / 2 ^ (8 * (31 - j / 2)) = y
    omega
  · have g1 := g.2
    rw [show 2 * (j / 2) + 1 = j by omega] at g1
    rw [g1, show 4 * (63 - j) = 8 * (31 - j / 2) by omega]
    congr 2
    generalize x / 2 ^ (8 * (31 - j / 2)) = y
    omega
/-- How many digits a number has, one at least. -/
def digs (x : Nat) : Nat := max 1 ((bitLen x + 3) / 4)
theorem bitLen_le256 {x : Nat} (hx : x < M256) : bitLen x ≤ 256 := by
  by_cases h0 : x = 0
  · subst h0; decide
  · have h := (bitLen_spec x).2 h0
    have : 2 ^ (bitLen x - 1) < 2 ^ 256 := Nat.lt_of_le_of_lt h hx
    have := (Nat.pow_lt_pow_iff_right (by decide : 1 < 2)).1 this
    omega
theorem strip_short (x : Nat) (hx : x < M256) : strip (hexOf (wl (byt x))) = (hexOf (wl (byt x))).drop (64 - digs x) := by
  have hl : (hexOf (wl (byt x))).length = 64 := by rw [hexOf_length, wl_length]
  have h256 := bitLen_le256 hx
  have hs := bitLen_spec x
  have hd1 : 1 ≤ digs x := by unfold digs; omega
  have hd2 : digs x ≤ 64 := by unfold digs; omega
  have hd3 : bitLen x ≤ 4 * digs x := by unfold digs; omega
  have hlt : x < 2 ^ (4 * digs x) := Nat.lt_of_lt_of_le hs.1 (Nat.pow_le_pow_right (by decide) hd3)
  apply strip_drop
  · intro j hj
    rw [nib_get x j (by omega)]
    have : x / 2 ^ (4 * (63 - j)) = 0 := Nat.div_eq_of_lt (Nat.lt_of_lt_of_le hlt (Nat.pow_le_pow_right (by decide) (by omega)))
    rw [this]; rfl
  · rw [hl]; omega
  · rw [hl]
    by_cases h1 : digs x = 1
    · left; omega
    · right
      rw [nib_get x _ (by omega), show 63 - (64 - digs x) = digs x - 1 by omega]
      intro e
      have e1 := (hch_zero (Nat.mod_lt _ (by decide))).1 (Option.some.inj e)
      have hb : 4 * (digs x - 1) ≤ bitLen x - 1 := by unfold digs at *; omega
      have h0 : x ≠ 0 := by rintro rfl; apply h1; decide
      have hge : 2 ^ (4 * (digs x - 1)) ≤ x := Nat.le_trans (Nat.pow_le_pow_right (by decide) hb) (hs.2 h0)
      have hq1 : 1 ≤ x / 2 ^ (4 * (digs x - 1)) := (Nat.one_le_div_iff (Nat.two_pow_pos _)).2 hge
      have hq2 : x / 2 ^ (4 * (digs x - 1)) < 16 := by
        rw [Nat.div_lt_iff_lt_mul (Nat.two_pow_pos _), show (16 : Nat) = 2 ^ 4 by rfl, ← Nat.pow_add, show 4 + 4 * (digs x - 1) = 4 * digs x by omega]; exact hlt
      rw [Nat.mod_eq_of_lt hq2] at e1
      omega
theorem wcells_zero_lit : (wcells 0) = bc 32 fun _ => 0 := wf_congr fun i _ => by unfold byt; simp
theorem of_step {n : Int} {j : Nat} (hj : j < 8) {v : Int} (hv : v = ((byt (wint n) (31 - j) : Nat) : Int)) :
    (wf fun i => if 31 < i + j then byt (wint n) i else byt 0 i).setIfInBounds (31 - j) (.int .u8 v) = wf fun i => if 31 < i + (j + 1) then byt (wint n) i else byt 0 i := by
  rw [hv, wf_set (by omega)]
  refine wf_congr fun i hi => ?_
  by_cases h : i = 31 - j
  · rw [if_pos h, if_pos (by omega), h]
  · rw [if_neg h]
    by_cases h1 : 31 < i + j
    · rw [if_pos h1, if_pos (by omega)]
    · rw [if_neg h1, if_neg (by omega)]
theorem of_step2 {n : Int} {k : Nat} (hk : k < 24) {v : Int} (hv : v = ((byt (wint n) k : Nat) : Int)) :
    (wf fun i => if 31 < i + 8 ∨ i < k then byt (wint n) i else byt 0 i).setIfInBounds k (.int .u8 v) = wf fun i => if 31 < i + 8 ∨ i < k + 1 then byt (wint n) i else byt 0 i := by
  rw [hv, wf_set (by omega)]
  refine wf_congr fun i hi => ?_
  by_cases h : i = k
  · rw [if_pos h, if_pos (by omega), h]
  · rw [if_neg h]
    by_cases h1 : 31 < i + 8 ∨ i < k
    · rw [if_pos h1, if_pos (by omega)]
    · rw [if_neg h1, if_neg (by omega)]
theorem word_zero' : (Try.prog.info? 30).bind (·.zero) = some (.agg (wcells 0)) := by rw [wcells_zero_lit]; exact word_zero
set_option maxHeartbeats 1000000 in
set_option maxRecDepth 100000 in
theorem rOf_any (n0 : Int) (hn : -9223372036854775808 ≤ n0 ∧ n0 ≤ 9223372036854775807) (w : World) :
    Calls Try.prog 19 #[.int .i64 n0] w fun e w' => e = .returned (.agg (wcells (wint n0))) ∧ Tch [] w w' := by
  have hS := St.start w
  go_enter Try.func19, Try.ntmps19
  go_wp2_with (first | (have _t := b2; clear _t; refine st_new hS rfl 30 rfl word_zero' ?_; clear hS; intro w1 b3 hS) | (refine st_new hS rfl 30 rfl word_zero' ?_; clear hS; intro w1 b2 hS))
  go_loopw [0, 4] (fun n i wr => ∃ j : Nat, j ≤ 8 ∧ i = .int .i64 (31 - (j : Int)) ∧ (∃ m : Int, n = .int .i64 m ∧ Hid (m = n0 / 2 ^ (8 * j)) ∧ -9223372036854775808 ≤ m ∧ m ≤ 9223372036854775807) ∧ St [] w wr [(b3, 30, wf fun i => if 31 < i + j then byt (wint n0) i else byt 0 i), (b2, 30, wcells 0)]) (fun _ i _ => (intOf i).toNat)
  case atStart =>
    refine ⟨0, by omega, rfl, ⟨n0, rfl, Lib.hid (by simp), hn.1, hn.2⟩, ?_⟩
    rw [show (wf fun i => if 31 < i + 0 then byt (wint n0) i else byt 0 i) = wf (byt 0) from wf_congr fun i hi => if_neg (by omega)]
    exact hS
  case round =>
    clear hS
    obtain ⟨j, hj, rfl, ⟨m, rfl, HM, hm1, hm2⟩, hS⟩ := hrel
    by_cases hlt : j < 8
    · have hst := of_step (n := n0) hlt (v := bits BinOp.and IntKind.i64 m 255 % 256) (by rw [int_and255, HM.out, Int.emod_emod, wint_byte n0 j (by omega)])
      have HS := Lib.hid hst
      clear hst
      go_wp2_with (first | (refine st_store1 (j := 31 - j) hS rfl 5 _ _ rfl rfl rfl u8_size (by repeat (first | exact Upd.head | apply Upd.tail)) (by first | (rw [wf_size]; omega) | (rw [Array.size_setIfInBounds, wf_size]; omega)) ?_; clear hS; intro w1 hS))
      rw [HS.out] at hS
      go_roundw
      case rel =>
        refine ⟨j + 1, by omega, by congr 1; omega, ⟨m / 256, rfl, Lib.hid (by rw [HM.out, div_pow_succ]), by omega, by omega⟩, hS⟩
      case measure => simp [intOf]; omega
    · obtain rfl : j = 8 := by omega
      rw [show (31 : Int) - ((8 : Nat) : Int) = 23 from rfl]
      go_wp2
      go_loopw [5] (fun i wr => ∃ k : Nat, k ≤ 24 ∧ i = .int .i64 k ∧ St [] w wr [(b3, 30, wf fun i => if 31 < i + 8 ∨ i < k then byt (wint n0) i else byt 0 i), (b2, 30, wcells 0)]) (fun i _ => 24 - (intOf i).toNat)
      case atStart =>
        refine ⟨0, by omega, rfl, ?_⟩
        rw [show (wf fun i => if 31 < i + 8 ∨ i < 0 then byt (wint n0) i else byt 0 i) = wf (fun i => if 31 < i + 8 then byt (wint n0) i else byt 0 i) from wf_congr fun i hi => by simp]
        exact hS
      case round =>
        clear hS
        obtain ⟨k, hk, rfl, hS⟩ := hrel
        by_cases hlk : k < 24
        · have hst := of_step2 (n := n0) hlk (v := bits BinOp.and IntKind.i64 m 255 % 256) (by rw [int_and255, HM.out, Int.emod_emod, high_byte hn hlk])
          have HS := Lib.hid hst
          clear hst
          go_wp2_with (first | (refine st_store1 (j := k) hS rfl 5 _ _ rfl rfl rfl u8_size (by repeat (first | exact Upd.head | apply Upd.tail)) (by first | (rw [wf_size]; omega) | (rw [Array.size_setIfInBounds, wf_size]; omega)) ?_; clear hS; intro w1 hS))
          rw [HS.out] at hS
          go_roundw
          case rel => exact ⟨k + 1, by omega, by go_num, hS⟩
          case measure => simp [intOf]; omega
        · obtain rfl : k = 24 := by omega
          rw [show (wf fun i => if 31 < i + 8 ∨ i < 24 then byt (wint n0) i else byt 0 i) = wcells (wint n0) from wf_congr fun i hi => if_pos (by omega)] at hS
          go_wp2_with (first | (refine st_load hS rfl 30 _ rfl rfl (by repeat (first | exact At.head | apply At.tail)) word_type rfl word_size (wf_size _) ?_) | (refine st_store hS rfl 30 _ _ rfl rfl rfl (by repeat (first | exact Upd.head | apply Upd.tail)) word_size (wf_size _) (wf_size _) (wf_one _) ?_; clear hS; intro w1 hS))
          exact st_post hS 2 30 rfl rfl rfl (by repeat (first | exact At.head | apply At.tail)) word_type rfl word_size (wf_size _) (fun hb => ⟨rfl, hb⟩)
set_option maxHeartbeats 1000000 in
set_option maxRecDepth 1000000 in
theorem len8_any (x : Nat) (hx : x < 256) (w : World) :
    Calls Try.prog 33 #[.int .u8 x] w fun e w' => e = .returned (.int .i64 (bitLen x : Nat)) ∧ w = w' := by
  have h8 := bitLen_le8 x hx
  go_enter Try.func33, Try.ntmps33
  go_wp2
  go_ret
  refine ⟨ret_int ?_, rfl⟩
  show wrap64 _ = _
  rw [len8tab_get x, IntWalk.wrap64_in _ (by omega)]
theorem run_index_word {f : Nat → Nat} {k : Nat} (hk : k < 32) (w : World) : (Instr.index 30 (.agg (wf f)) (.int .i64 (k : Int))).run Try.prog w = .ok (.int .u8 ((f k : Nat) : Int)) w := by
  have hin : 0 ≤ (k : Int) ∧ (k : Int) < (32 : Nat) := by omega
  have hp : (part 5 (wf f) (k * 1)).run Try.prog w = .ok (.int .u8 ((f k : Nat) : Int)) w := by
    have hg := wf_get (f := f) hk
    simp [part, isAgg, run_underlying byte_ty, hg]
  simp only [Instr.index, asIntOf, Sem.run_bind, run_underlying word_type, Result.andThen_ok, Sem.run_pure, hin, and_self, if_true, sizeOf_one u8_size, Int.toNat_natCast, hp]
theorem bits_step {x k : Nat} (hk : k < 32) (hx : x < 2 ^ (8 * (32 - k))) : x / 2 ^ (8 * (31 - k)) = byt x k := by
  unfold byt
  rw [Nat.mod_eq_of_lt]
  rw [Nat.div_lt_iff_lt_mul (Nat.two_pow_pos _), show 256 = 2 ^ 8 by rfl, ← Nat.pow_add, show 8 + 8 * (31 - k) = 8 * (32 - k) by omega]
  exact hx
theorem bits_zero {x k : Nat} (hk : k < 32) (hx : x < 2 ^ (8 * (32 - k))) (h : byt x k = 0) : x < 2 ^ (8 * (32 - (k + 1))) := by
  have e := bits_step hk hx
  rw [h, Nat.div_eq_zero_iff] at e
  rcases e with e | e
  · exact absurd e (Nat.ne_of_gt (Nat.two_pow_pos _))
  · rw [show 32 - (k + 1) = 31 - k by omega]; exact e
theorem bits_found {x k : Nat} (hk : k < 32) (hx : x < 2 ^ (8 * (32 - k))) (h : byt x k ≠ 0) : bitLen x = 8 * (31 - k) + bitLen (byt x k) := by
  have e := bits_step hk hx
  rw [bitLen_shift x (8 * (31 - k)) (by rw [e]; exact h), e]
theorem bits_none {x : Nat} (hx : x < 2 ^ (8 * (32 - 32))) : bitLen x = 0 := by
  have : x = 0 := by simpa using hx
  subst this; rfl
set_option maxHeartbeats 1000000 in
set_option maxRecDepth 100000 in
theorem bits_any (x : Nat) (hx : x < M256) (w : World) :
    Calls Try.prog 28 #[.agg (wcells x)] w fun e w' => e = .returned (.int .i64 (bitLen x : Nat)) ∧ Tch [] w w' := by
  have HX := Lib.hid hx
  clear hx
  have hS := St.start w
  go_enter Try.func28, Try.ntmps28
  go_wp2_with (first | (refine st_box hS rfl _ _ rfl rfl ?_; clear hS; intro w1 b1 hS) | (refine st_load hS rfl 30 _ rfl rfl (by repeat (first | exact At.head | apply At.tail)) word_type rfl word_size (wf_size _) ?_))
  go_loop [6] (fun i => ∃ k : Nat, k ≤ 32 ∧ i = .int .i64 k ∧ Hid (x < 2 ^ (8 * (32 - k)))) (fun i => 32 - (intOf i).toNat)
  case atStart => exact ⟨0, by omega, rfl, Lib.hid (by have := HX.out; rwa [M256] at this)⟩
  case round =>
    obtain ⟨k, hk, rfl, HK⟩ := hrel
    by_cases hlt : k < 32
    · have hix := fun wx => run_index_word (f := byt x) hlt wx
      have hbl := byt_lt x k
      by_cases hb : byt x k = 0
      · have HB := Lib.hid (bits_zero hlt HK.out hb)
        rw [hb] at hix
        clear hb hbl
        go_wp2
        go_round
        case rel => exact ⟨k + 1, by omega, by go_num, HB⟩
        case measure => simp [intOf]; omega
      · have HB := Lib.hid (bits_found hlt HK.out hb)
        have h8 := bitLen_le8 _ hbl
        generalize byt x k = b at *
        have hb2 : ((b : Int) != 0) = true := by simp; omega
        go_wp2_with (go_at_call 33; refine (len8_any _ hbl _).mono ?_; rintro e w' ⟨rfl, rfl⟩)
        go_ret
        refine ⟨ret_int ?_, hS.frame⟩
        rw [HB.out]; omega
    · go_wp2
      obtain rfl : k = 32 := by omega
      go_ret
      exact ⟨ret_int (by rw [bits_none HK.out]; rfl), hS.frame⟩
theorem str_eq {a : ByteArray} {l : List UInt8} (h : a.data.toList = l) : a = ⟨l.toArray⟩ := by
  subst h; cases a with | mk d => simp
theorem app_data (a b : ByteArray) : (a ++ b).data.toList = a.data.toList ++ b.data.toList := by rw [ByteArray.data_append]; simp
theorem extract_data' (a : ByteArray) (i j : Nat) : (a.extract i j).data.toList = (a.data.toList.take j).drop i := by rw [ByteArray.data_extract]; simp [List.extract_eq_take_drop, List.drop_take]
theorem strip_step (u : ByteArray) (h0 : 0 < u.size) (hz : (u[0]'h0).toNat = 48) (h1 : 1 < u.size) : strip (u.extract 1 u.size).data.toList = strip u.data.toList := by
  have hg := get_data u 0 h0
  have hs := size_data u
  rw [extract_data', List.take_of_length_le (by omega)]
  match hq : u.data.toList with
  | [] => rw [hq, List.length_nil] at hs; omega
  | [_] => rw [hq, List.length_cons, List.length_nil] at hs; omega
  | c :: d :: r =>
    rw [hq] at hg
    have hc : c = u[0]'h0 := by simpa using hg
    have : c = 48 := UInt8.toNat_inj.1 (by rw [hc]; exact hz)
    subst this
    rfl
theorem strip_stop (u : ByteArray) (h0 : 0 < u.size) (hz : ¬ (u[0]'h0).toNat = 48) : strip u.data.toList = u.data.toList := by
  have hg := get_data u 0 h0
  have hs := size_data u
  match hq : u.data.toList with
  | [] => rfl
  | [_] => rfl
  | c :: d :: r =>
    rw [hq] at hg
    have hc : c = u[0]'h0 := by simpa using hg
    have : c ≠ 48 := by rintro rfl; apply hz; rw [← hc]; rfl
    simp [strip, this]
theorem strip_one (u : ByteArray) (h1 : u.size ≤ 1) : strip u.data.toList = u.data.toList := by
  have hs := size_data u
  match hq : u.data.toList with
  | [] => rfl
  | [_] => rfl
  | c :: d :: r => rw [hq, List.length_cons, List.length_cons] at hs; omega
/-- The text of a word, leading noughts gone. -/
def shortL (f : Nat → Nat) : List UInt8 := 48 :: 120 :: strip (hexOf (wl f))
theorem wl_range (f : Nat → Nat) : (List.range 32).map f = wl f := rfl
set_option maxHeartbeats 1000000 in
set_option maxRecDepth 100000 in
theorem hexShort_any (x : Nat) (hx : x < M256) (w : World) :
    Calls Try.prog 16 #[.agg (wcells x)] w fun e w' => e = .returned (.string ⟨(shortL (byt x)).toArray⟩) ∧ Tch [] w w' := by
  have hS := St.start w
  have hbits := fun w1 => bits_any x hx w1
  have htext := fun (b : Nat) (w1 : World) (hB : Blk w1 b 30 (wcells x)) => hexText_any _ (wl (byt x)) w1 (by rw [wl_length]; omega) (RdB.blk (n := 32) hB (fun i hi => byt_lt x i))
  have HST := Lib.hid (And.intro (strip_short x hx) (And.intro (bitLen_le256 hx) (show digs x = max 1 ((bitLen x + 3) / 4) from rfl)))
  have hsl := fun (b : Nat) (w1 : World) => slice_all (P := Try.prog) (b := b) word_type u8_size (by decide) w1
  clear hx
  obtain ⟨t, ht⟩ : ∃ t : ByteArray, t = ⟨(txt (wl (byt x))).toArray⟩ := ⟨_, rfl⟩
  rw [← ht] at htext
  have hts : t.size = 66 := by rw [ht, size_of_list, txt_length, wl_length]
  have htl : t.data.toList = 48 :: 120 :: hexOf (wl (byt x)) := by rw [ht]; simp [txt]
  have HT := Lib.hid (And.intro hts htl)
  have hb256 := HST.out.2.1
  have hs1 : t.size ≤ 66 := by omega
  have hs2 : 66 ≤ t.size := by omega
  obtain ⟨d, hd⟩ : ∃ d, d = digs x := ⟨_, rfl⟩
  have hd1 : 1 ≤ d := by have := HST.out.2.2; omega
  have hd2 : d ≤ 64 := by have := HST.out.2.2; omega
  have hmax : max 1 (((bitLen x : Nat) + 3 : Int) / 4) = (d : Int) := by have := HST.out.2.2; omega
  have HD := Lib.hid hd
  clear ht hts htl hd
  go_enter Try.func16, Try.ntmps16
  go_wp2_with (first | (refine st_box hS rfl _ _ rfl rfl ?_; clear hS; intro w1 b1 hS) | (go_at_call 15; refine (htext _ _ (hS.get .head)).mono ?_; rintro e w2 ⟨rfl, hT⟩; replace hS := hS.call hT; clear hT) | (refine st_load hS rfl 30 _ rfl rfl (by repeat (first | exact At.head | apply At.tail)) word_type rfl word_size (wf_size _) ?_) | (go_at_call 28; refine (hbits _).mono ?_; rintro e w3 ⟨rfl, hT⟩; replace hS := hS.call hT; clear hT))
  go_ret
  refine ⟨?_, hS.frame⟩
  rw [show (⟨#[48, 120]⟩ ++ t.extract (t.size - d) t.size : ByteArray) = ⟨(shortL (byt x)).toArray⟩ from str_eq (by
    rw [HT.out.1, HD.out, app_data, extract_data', HT.out.2, shortL, HST.out.1]
    rw [List.take_of_length_le (by rw [List.length_cons, List.length_cons, hexOf_length, wl_length]; omega), ← HD.out, show 66 - d = (64 - d) + 1 + 1 by omega, List.drop_succ_cons, List.drop_succ_cons]
    rfl)]
  rfl
/-- The length of a text. -/
def strLen (v : Value) : Nat := match v with | .string s => s.size | _ => 0
set_option maxHeartbeats 1000000 in
set_option maxRecDepth 100000 in
theorem refShort_any (f : Nat → Nat) (hf : ∀ i, i < 32 → f i < 256) (w : World) :
    Calls Try.prog 18 #[.agg (wf f)] w fun e w' => e = .returned (.string ⟨(shortL f).toArray⟩) ∧ Tch [] w w' := by
  have hS := St.start w
  have htext := fun (b : Nat) (w1 : World) (hB : Blk w1 b 30 (wf f)) => refText_any _ (wl f) w1 (by rw [wl_length]; omega) (RdB.blk (n := 32) hB hf)
  have hsl := fun (b : Nat) (w1 : World) => slice_all (P := Try.prog) (b := b) word_type u8_size (by decide) w1
  clear hf
  obtain ⟨t, ht⟩ : ∃ t : ByteArray, t = ⟨(txt (wl f)).toArray⟩ := ⟨_, rfl⟩
  rw [← ht] at htext
  have hts : t.size = 66 := by rw [ht, size_of_list, txt_length, wl_length]
  have htl : t.data.toList = 48 :: 120 :: hexOf (wl f) := by rw [ht]; simp [txt]
  have HT := Lib.hid (And.intro hts htl)
  have hs1 : t.size ≤ 66 := by omega
  have hs2 : 66 ≤ t.size := by omega
  clear ht hts htl
  go_enter Try.func18, Try.ntmps18
  go_wp2_with (first | (refine st_box hS rfl _ _ rfl rfl ?_; clear hS; intro w1 b1 hS) | (go_at_call 17; refine (htext _ _ (hS.get .head)).mono ?_; rintro e w2 ⟨rfl, hT⟩; replace hS := hS.call hT; clear hT))
  go_loop [3] (fun v => ∃ u : ByteArray, v = .string u ∧ Hid (strip u.data.toList = strip (hexOf (wl f))) ∧ 1 ≤ u.size ∧ u.size ≤ 64) (fun v => strLen v)
  case atStart =>
    refine ⟨_, rfl, Lib.hid ?_, ?_, ?_⟩
    · rw [extract_data', HT.out.2, List.take_of_length_le (by rw [List.length_cons, List.length_cons, hexOf_length, wl_length, HT.out.1]; omega)]; rfl
    · simp; omega
    · simp; omega
  case round =>
    obtain ⟨u, rfl, HU, hu1, hu2⟩ := hrel
    have hsz := size_data u
    by_cases h1 : 1 < u.size
    · have h0 : 0 < u.size := by omega
      by_cases hz : (u[0]'h0).toNat = 48
      · have hb : (((u[0]'h0).toNat : Int) == 48) = true := by rw [hz]; rfl
        have hn := Lib.hid (strip_step u h0 hz h1)
        clear hz hsz
        go_wp2
        go_round
        case rel => exact ⟨_, rfl, Lib.hid (hn.out.trans HU.out), by simp; omega, by simp; omega⟩
        case measure => simp [strLen]; omega
      · have hb : (((u[0]'h0).toNat : Int) == 48) = false := by rw [beq_eq_false_iff_ne]; omega
        have hn := Lib.hid (strip_stop u h0 hz)
        clear hz hsz
        go_wp2
        go_ret
        exact ⟨congrArg (fun s => Ending.returned (.string s)) (str_eq (by rw [app_data, shortL, ← HU.out, hn.out]; rfl)), hS.frame⟩
    · have hn := Lib.hid (strip_one u (by omega))
      clear hsz
      go_wp2
      go_ret
      exact ⟨congrArg (fun s => Ending.returned (.string s)) (str_eq (by rw [app_data, shortL, ← HU.out, hn.out]; rfl)), hS.frame⟩
end Go.Proofs.Ytbmlglnfhapceaa
