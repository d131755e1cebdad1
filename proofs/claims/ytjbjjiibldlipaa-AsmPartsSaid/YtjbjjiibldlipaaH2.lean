/- The document's digit, and hex.fill: digits into bytes that are there. -/
import Derived.Test.YtjbjjiibldlipaaH1
import Derived.Test.YtjbjjiibldlipaaG1
import Derived.Lib.OthersKept
namespace Go.Proofs.Ytjbjjiibldlipaa
open Go.RowKit

theorem digit_yes (c v : Nat) (w : World) (hv0 : hv c = some v) :
    Calls Try.prog 41 #[.int .u8 (c : Int)] w fun e w' => e = .returned (.tuple #[.int .i64 (v : Int), .bool true]) ∧ w = w' := by
  have hl := hv_lt hv0
  have hc := hv_hch hv0
  have HC := Lib.hid hc
  clear hv0 hc
  go_enter Try.func41, Try.ntmps41
  go_wp2
  go_loop [4] (fun i => ∃ k : Nat, k ≤ v ∧ i = .int .i64 k) (fun i => 16 - (intOf i).toNat)
  case atStart => exact ⟨0, by omega, rfl⟩
  case round =>
    obtain ⟨k, hk, rfl⟩ := hrel
    have h16 : k < 16 := by omega
    have hd := digit_at k h16
    by_cases hkv : k < v
    · have hb : (((⟨#[48, 49, 50, 51, 52, 53, 54, 55, 56, 57, 97, 98, 99, 100, 101, 102]⟩ : ByteArray)[k]'h16).toNat : Int) == (c : Int) ↔ False := by
        rw [hd]
        constructor
        · intro h
          have h' : (hch k).toNat = c := Int.ofNat.inj (by simpa using h)
          have := hch_inj h16 hl (h'.trans HC.out.symm)
          omega
        · exact False.elim
      have hb' : ((((⟨#[48, 49, 50, 51, 52, 53, 54, 55, 56, 57, 97, 98, 99, 100, 101, 102]⟩ : ByteArray)[k]'h16).toNat : Int) == (c : Int)) = false := by
        cases hq : ((((⟨#[48, 49, 50, 51, 52, 53, 54, 55, 56, 57, 97, 98, 99, 100, 101, 102]⟩ : ByteArray)[k]'h16).toNat : Int) == (c : Int)) with
        | false => rfl
        | true => exact (hb.1 hq).elim
      clear hb hd
      go_wp2
      go_round
      case rel => exact ⟨k + 1, by omega, by go_num⟩
      case measure => simp [intOf]; omega
    · obtain rfl : k = v := by omega
      have hb' : ((((⟨#[48, 49, 50, 51, 52, 53, 54, 55, 56, 57, 97, 98, 99, 100, 101, 102]⟩ : ByteArray)[k]'h16).toNat : Int) == (c : Int)) = true := by
        rw [hd, HC.out]; simp
      clear hd
      go_wp2
      go_ret2
      exact ⟨rfl, rfl⟩
theorem digit_no (c : Nat) (w : World) (hv0 : hv c = none) :
    Calls Try.prog 41 #[.int .u8 (c : Int)] w fun e w' => e = .returned (.tuple #[.int .i64 0, .bool false]) ∧ w = w' := by
  have HC := Lib.hid hv0
  clear hv0
  go_enter Try.func41, Try.ntmps41
  go_wp2
  go_loop [4] (fun i => ∃ k : Nat, k ≤ 16 ∧ i = .int .i64 k) (fun i => 16 - (intOf i).toNat)
  case atStart => exact ⟨0, by omega, rfl⟩
  case round =>
    obtain ⟨k, hk, rfl⟩ := hrel
    by_cases h16 : k < 16
    · have hd := digit_at k h16
      have hb' : ((((⟨#[48, 49, 50, 51, 52, 53, 54, 55, 56, 57, 97, 98, 99, 100, 101, 102]⟩ : ByteArray)[k]'h16).toNat : Int) == (c : Int)) = false := by
        cases hq : ((((⟨#[48, 49, 50, 51, 52, 53, 54, 55, 56, 57, 97, 98, 99, 100, 101, 102]⟩ : ByteArray)[k]'h16).toNat : Int) == (c : Int)) with
        | false => rfl
        | true =>
          rw [hd] at hq
          have h' : (hch k).toNat = c := Int.ofNat.inj (by simpa using hq)
          have := hch_hv k h16
          rw [h', HC.out] at this
          simp at this
      clear hd
      go_wp2
      go_round
      case rel => exact ⟨k + 1, by omega, by go_num⟩
      case measure => simp [intOf]; omega
    · go_wp2
      go_ret2
      exact ⟨rfl, rfl⟩
/-- What bytes hold when so many places have been filled. -/
def fc (P : List UInt8) (pl i : Nat) : Nat := if 2 * i + 1 < pl then 16 * dg P (2 * i) + dg P (2 * i + 1) else if 2 * i < pl then dg P (2 * i) else 0
theorem fc_lt (P : List UInt8) (pl i : Nat) : fc P pl i < 256 := by
  have := dg_lt P (2 * i); have := dg_lt P (2 * i + 1)
  unfold fc; split
  · omega
  · split <;> omega
theorem fc_start (P : List UInt8) (p0 : Nat) (h : ∀ i, i < p0 → dg P i = 0) (i : Nat) : fc P p0 i = 0 := by
  unfold fc; split
  · rw [h _ (by omega), h _ (by omega)]
  · split
    · rw [h _ (by omega)]
    · rfl
theorem fc_step (n : Nat) (P : List UInt8) (pl : Nat) (h : pl < 2 * n) : (bc n (fc P pl)).setIfInBounds (pl / 2) (.int .u8 ((16 * (fc P pl (pl / 2)) + dg P pl : Nat) : Int)) = bc n (fc P (pl + 1)) := by
  rw [bc_set (by omega)]
  refine bc_congr fun i _ => ?_
  by_cases hi : i = pl / 2
  · rw [if_pos hi]
    rcases Nat.mod_two_eq_zero_or_one pl with hm | hm
    · have e : pl = 2 * i := by omega
      unfold fc
      rw [if_neg (by omega), if_neg (by omega), if_neg (by omega), if_pos (by omega), e]; omega
    · have e : pl = 2 * i + 1 := by omega
      unfold fc
      rw [if_neg (by omega), if_pos (by omega), if_pos (by omega), ← hi, e]
  · rw [if_neg hi]
    unfold fc
    by_cases h1 : 2 * i + 1 < pl
    · rw [if_pos h1, if_pos (by omega)]
    · rw [if_neg h1]
      by_cases h2 : 2 * i < pl
      · rw [if_pos h2, if_neg (by omega), if_pos (by omega)]
      · rw [if_neg h2, if_neg (by omega), if_neg (by omega)]
theorem fc_below (P : List UInt8) (pl : Nat) : fc P pl (pl / 2) < 16 := by
  have := dg_lt P (2 * (pl / 2))
  unfold fc
  rw [if_neg (by omega)]
  split <;> omega
theorem fc_end (P : List UInt8) (n : Nat) : bc n (fc P (2 * n)) = bc n (fun i => (prs P n).getD i 0) := by
  refine bc_congr fun i hi => ?_
  unfold fc
  rw [if_pos (by omega)]
  simp [prs, hi]
/-- The step of a byte that gets a digit more, as the walk tells it. -/
theorem shl_or (x v : Nat) (hx : x < 16) (hv : v < 16) : bits BinOp.or IntKind.u8 ((x : Int) * 16) (v : Int) = ((16 * x + v : Nat) : Int) := by
  have all : ∀ a b : Fin 16, bits BinOp.or IntKind.u8 ((a.val : Int) * 16) (b.val : Int) = ((16 * a.val + b.val : Nat) : Int) := by decide +kernel
  exact all ⟨x, hx⟩ ⟨v, hv⟩
theorem list_snoc_all (l : List UInt8) (k : Nat) (h : k < l.length) : allHex (l.take (k + 1)) = (allHex (l.take k) && isHex (l.getD k 0)) := by
  rw [List.take_succ_eq_append_getElem h]; simp only [allHex, List.all_append, List.all_cons, List.all_nil, Bool.and_true]; simp [h]
theorem all_false {l : List UInt8} {k : Nat} (h : k < l.length) (hx : isHex (l.getD k 0) = false) : allHex l = false := by
  have e : l.getD k 0 = l[k] := by simp [h]
  rw [e] at hx
  cases hq : allHex l with
  | false => rfl
  | true => have := (List.all_eq_true.1 hq) _ (List.getElem_mem h); rw [hx] at this; exact absurd this (by decide)
def FillPost (b n : Nat) (t : TypeId) (l : List UInt8) (w : World) (e : Ending) (w' : World) : Prop :=
  e = .returned (.bool (allHex l)) ∧ Tch [b] w w' ∧ ∃ f, Blk w' b t (bc n f) ∧ (allHex l = true → f = fc (pad (2 * n - l.length) l) (2 * n))
theorem fillpost_no {b n p0 pl : Nat} {t : TypeId} {l : List UInt8} {w w' : World} (hx : allHex l = false) (hS : St [b] w w' [(b, t, bc n (fc (pad p0 l) pl))]) : FillPost b n t l w (.returned (.bool false)) w' :=
  ⟨by rw [hx], hS.frame, _, hS.get .head, fun h => by rw [hx] at h; cases h⟩
theorem fillpost_yes {b n p0 pl : Nat} {t : TypeId} {l : List UInt8} {w w' : World} (hx : allHex l = true) (hp : p0 + l.length = 2 * n) (hpl : pl = 2 * n) (hS : St [b] w w' [(b, t, bc n (fc (pad p0 l) pl))]) : FillPost b n t l w (.returned (.bool true)) w' :=
  ⟨by rw [hx], hS.frame, _, hS.get .head, fun _ => by rw [hpl, show 2 * n - l.length = p0 by omega]⟩
set_option maxHeartbeats 1000000 in
set_option maxRecDepth 100000 in
theorem fill_any (b n cap : Nat) (t : TypeId) (s : ByteArray) (w : World) (hm : s.size ≤ maxLen) (hn : n ≤ 1000000000) (hl : s.size ≤ 2 * n) (hB : Blk w b t (bc n fun _ => 0)) :
    Calls Try.prog 39 #[.slice (some ⟨b, 0, none⟩) n cap, .string s] w (FillPost b n t s.data.toList w) := by
  unfold maxLen at hm
  have hS := St.one hB
  have hlt := hB.lt
  have hsz := size_data s
  obtain ⟨p0, hp0⟩ : ∃ p0, p0 + s.size = 2 * n := ⟨2 * n - s.size, by omega⟩
  have hpd : 2 * (n : Int) - s.size = (p0 : Int) := by omega
  clear hl
  have h0 : (bc n fun _ => 0) = bc n (fc (pad p0 s.data.toList) p0) := bc_congr fun i _ => (fc_start _ _ (fun j hj => by rw [dg_pad, if_pos hj]) i).symm
  rw [h0] at hS
  have HZ := Lib.hid hsz
  have HP := Lib.hid hpd
  have HPZ := Lib.hid hp0
  clear hB h0 hsz hpd hp0
  go_enter Try.func39, Try.ntmps39
  go_wp2
  rw [HP.out]
  go_loopw [5] (fun pl wr => ∃ k p : Nat, k ≤ s.size ∧ Hid (p = p0 + k) ∧ pl = .int .i64 (p : Int) ∧ wr.heap[w.heap.size]? = some (.stringIter s k) ∧ St [b] w wr [(b, t, bc n (fc (pad p0 s.data.toList) p))] ∧ Hid (allHex (s.data.toList.take k) = true)) (fun pl _ => 2 * n - (intOf pl).toNat)
  case atStart => exact ⟨0, p0, by omega, Lib.hid rfl, rfl, World.iter_heap _ _ _, hS.alloc _, Lib.hid rfl⟩
  case round =>
    clear hS
    obtain ⟨k, p, hk, HK, rfl, hit, hS, HA⟩ := hrel
    by_cases hks : k < s.size
    · have hp2 : p < 2 * n := by have := HK.out; have := HPZ.out; omega
      have hdec := Lib.run_next_any_at (P := Try.prog) wr w.heap.size s k 0 hit hks
      obtain ⟨r, hr⟩ : ∃ r, r = (Utf8.decode s k).1 := ⟨_, rfl⟩
      have hr31 : r ≤ 2147483647 := by rw [hr]; exact decode_le s k
      rw [← hr] at hdec
      cases hv0 : hv r with
      | none =>
        have hx : isHex (s.data.toList.getD k 0) = false := by
          by_cases ha : (s[k]'hks).toNat < 128
          · rw [decode_ascii s k hks ha] at hr
            subst hr
            have e := get_data s k hks
            have e2 : s.data.toList.getD k 0 = s[k]'hks := by rw [List.getD_eq_getElem?_getD, e]; rfl
            rw [e2]; unfold isHex; rw [hv0]; rfl
          · cases hq : isHex (s.data.toList.getD k 0) with
            | false => rfl
            | true =>
              have e := get_data s k hks
              have e2 : s.data.toList.getD k 0 = s[k]'hks := by rw [List.getD_eq_getElem?_getD, e]; rfl
              rw [e2] at hq
              have := hv_ascii (isHex_some hq)
              omega
        have HX := Lib.hid (all_false (by rw [← HZ.out]; exact hks) hx)
        obtain ⟨w2, hw2⟩ : ∃ w2, w2 = wr.iterAt w.heap.size s (k + (Utf8.decode s k).2) := ⟨_, rfl⟩
        have hS2 : St [b] w w2 [(b, t, bc n (fc (pad p0 s.data.toList) p))] := by rw [hw2]; exact hS.iterAt hit (Nat.le_refl _) _
        rw [← hw2] at hdec
        have HV := Lib.hid hv0
        clear hv0 hx hr hw2
        go_wp2_with (go_at_call 46; refine (value_no _ _ hr31 HV.out).mono ?_; rintro e w' ⟨rfl, rfl⟩)
        go_ret
        exact fillpost_no HX.out hS2
      | some v =>
        have hr128 := hv_ascii hv0
        have ha : (s[k]'hks).toNat < 128 := by
          rcases Nat.lt_or_ge (s[k]'hks).toNat 128 with h | h
          · exact h
          · have := (decode_high s k hks h).1; omega
        have e := get_data s k hks
        have e2 : s.data.toList.getD k 0 = s[k]'hks := by rw [List.getD_eq_getElem?_getD, e]; rfl
        rw [decode_ascii s k hks ha] at hr hdec
        replace hr : r = (s[k]'hks).toNat := hr
        have hx : hv (s.data.toList.getD k 0).toNat = some v := by rw [e2, ← hr]; exact hv0
        have hdg : dg (pad p0 s.data.toList) p = v := by
          rw [HK.out, dg_pad, if_neg (by omega), show p0 + k - p0 = k by omega]; unfold dg dv; rw [hx]; rfl
        have hA2 : allHex (s.data.toList.take (k + 1)) = true := by
          rw [list_snoc_all _ _ (by rw [← HZ.out]; exact hks), HA.out, Bool.true_and]; unfold isHex; rw [hx]; rfl
        have hst := fc_step n (pad p0 s.data.toList) p hp2
        have hx16 := fc_below (pad p0 s.data.toList) p
        have hv16 := hv_lt hv0
        rw [hdg] at hst
        have hor := shl_or _ _ hx16 hv16
        obtain ⟨w2, hw2⟩ : ∃ w2, w2 = wr.iterAt w.heap.size s (k + 1) := ⟨_, rfl⟩
        have hS2 : St [b] w w2 [(b, t, bc n (fc (pad p0 s.data.toList) p))] := by rw [hw2]; exact hS.iterAt hit (Nat.le_refl _) _
        have hit2 : w2.heap[w.heap.size]? = some (.stringIter s (k + 1)) := by rw [hw2]; exact Lib.iterAt_heap _ _ _ _ _ hit
        replace hdec : (Instr.next (.pointer (some ⟨w.heap.size, 0, none⟩)) true 0).run Try.prog wr = .ok (.tuple #[.bool true, .int .i64 k, .int .i32 r]) w2 := by rw [hw2]; exact hdec
        have hcell : w2.cell? ⟨b, p / 2, none⟩ = some (.int .u8 ((fc (pad p0 s.data.toList) p (p / 2) : Nat) : Int)) := (hS2.get .head).cell (bc_get (by omega))
        have HV := Lib.hid hv0
        have HST := Lib.hid (And.intro hst (And.intro hor hA2))
        clear hv0 hx hr hw2 e e2 hdg hst hor hA2 ha hS
        generalize fc (pad p0 s.data.toList) p (p / 2) = x at *
        have hp22 : p / 2 < n := by omega
        go_wp2_with (first | (go_at_call 46; refine (value_yes _ _ _ HV.out).mono ?_; rintro e w' ⟨rfl, rfl⟩) | (refine st_store1o (j := p / 2) hS2 rfl 5 _ _ rfl rfl rfl u8_size .head (by rw [bc_size]; exact hp22) ?_; intro w3 hS3 hO))
        rw [HST.out.2.1, HST.out.1] at hS3
        go_roundw
        case rel => exact ⟨k + 1, p + 1, by omega, Lib.hid (by have := HK.out; omega), by go_num, only_heap hO hit2 (by omega), hS3, Lib.hid HST.out.2.2⟩
        case measure => simp [intOf]; omega
    · obtain rfl : k = s.size := by omega
      have hend := Lib.run_next_end_at (P := Try.prog) wr w.heap.size s s.size 0 hit (by omega)
      have hall := Lib.hid (show allHex s.data.toList = true by have := HA.out; rwa [HZ.out, List.take_length] at this)
      go_wp2
      go_ret
      exact fillpost_yes hall.out (by rw [← HZ.out]; exact HPZ.out) (by have := HK.out; have := HPZ.out; omega) hS
end Go.Proofs.Ytjbjjiibldlipaa
