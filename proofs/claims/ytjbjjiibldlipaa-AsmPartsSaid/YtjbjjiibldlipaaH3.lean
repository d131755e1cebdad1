/- Slices that read as bytes; the document's ReadHex. -/
import Derived.Test.YtjbjjiibldlipaaH2
import Derived.Test.YtjbjjiibldlipaaG1
import Derived.Laws.AppendOwn
import Derived.Laws.BytesString
import Derived.Laws.IdiomStrings
namespace Go.Proofs.Ytjbjjiibldlipaa
open Go.RowKit

theorem digit_u8 (c : UInt8) (w : World) :
    Calls Try.prog 41 #[.int .u8 (c.toNat : Int)] w fun e w' => e = .returned (.tuple #[.int .i64 (dv c : Int), .bool (isHex c)]) ∧ w = w' := by
  cases h : hv c.toNat with
  | none => 
    have e1 : dv c = 0 := by unfold dv; rw [h]; rfl
    have e2 : isHex c = false := by unfold isHex; rw [h]; rfl
    rw [e1, e2]; exact digit_no _ w h
  | some v =>
    have e1 : dv c = v := by unfold dv; rw [h]; rfl
    have e2 : isHex c = true := by unfold isHex; rw [h]; rfl
    rw [e1, e2]; exact digit_yes _ v w h
theorem get_drop (s : ByteArray) (i : Nat) (h : 2 + i < s.size) : (s.data.toList.drop 2).getD i 0 = s[2 + i]'h := by
  rw [List.getD_eq_getElem?_getD, List.getElem?_drop, get_data s (2 + i) h]; rfl
theorem all_snoc2 (l : List UInt8) (k : Nat) (h : 2 * k + 1 < l.length) (ha : allHex (l.take (2 * k)) = true) (h0 : isHex (l.getD (2 * k) 0) = true) (h1 : isHex (l.getD (2 * k + 1) 0) = true) : allHex (l.take (2 * (k + 1))) = true := by
  rw [show 2 * (k + 1) = 2 * k + 1 + 1 by omega, list_snoc_all l (2 * k + 1) h, list_snoc_all l (2 * k) (by omega), ha, h0, h1]; rfl
/-- What a text is as bytes: prefix, an even number of digits. -/
def rdOk (s : ByteArray) : Bool := px s && (s.size % 2 == 0) && allHex (s.data.toList.drop 2)
def HexPost (s : ByteArray) (w : World) (bad : Value) (e : Ending) (w' : World) (ok : Value) : Prop :=
  Tch [] w w' ∧ if rdOk s = true then ∃ v, e = .returned (.tuple #[v, ok]) ∧ RdB w' v (prs (s.data.toList.drop 2) ((s.size - 2) / 2)) else e = .returned (.tuple #[.slice none 0 0, bad])
theorem hexpost_no {s : ByteArray} {w w' : World} {bad ok : Value} (h : rdOk s = false) (hT : Tch [] w w') : HexPost s w bad (.returned (.tuple #[.slice none 0 0, bad])) w' ok := ⟨hT, by rw [if_neg (by rw [h]; decide)]⟩
theorem hexpost_yes {s : ByteArray} {w w' : World} {bad ok v : Value} (h : rdOk s = true) (hT : Tch [] w w') (hv : RdB w' v (prs (s.data.toList.drop 2) ((s.size - 2) / 2))) : HexPost s w bad (.returned (.tuple #[v, ok])) w' ok := ⟨hT, by rw [if_pos h]; exact ⟨v, rfl, hv⟩⟩
theorem not_px {s : ByteArray} (h : px s = false) : rdOk s = false := by unfold rdOk; rw [h]; rfl
theorem not_len {s : ByteArray} (h : ¬ 2 ≤ s.size) : rdOk s = false := by
  cases hp : px s with
  | false => exact not_px hp
  | true => exact absurd (px_le hp) h
theorem not_even {s : ByteArray} (h : s.size % 2 = 1) : rdOk s = false := by
  have : (s.size % 2 == 0) = false := by rw [h]; rfl
  unfold rdOk; rw [this]; cases px s <;> rfl
theorem not_digit {s : ByteArray} {i : Nat} (h : 2 + i < s.size) (hx : isHex (s[2 + i]'h) = false) : rdOk s = false := by
  have : allHex (s.data.toList.drop 2) = false := all_false (k := i) (by rw [List.length_drop, ← size_data]; omega) (by rw [get_drop s i h]; exact hx)
  unfold rdOk; rw [this, Bool.and_false]
theorem is_ok {s : ByteArray} (h1 : px s = true) (h2 : s.size % 2 = 0) (h3 : allHex (s.data.toList.drop 2) = true) : rdOk s = true := by
  have : (s.size % 2 == 0) = true := by rw [h2]; rfl
  unfold rdOk; rw [this, h1, h3]; rfl
set_option maxHeartbeats 1000000 in
set_option maxRecDepth 100000 in
theorem readHex_any (s : ByteArray) (w : World) (hm : s.size ≤ 1000000) :
    Calls Try.prog 31 #[.string s] w fun e w' => HexPost s w (.bool false) e w' (.bool true) := by
  have hpx := px_extract s
  by_cases h2 : 2 ≤ s.size
  · have hd2 : decide ((s.size : Int) < 2) = false := by simp; omega
    cases hp : px s with
    | false =>
      rw [hp] at hpx
      have HN := Lib.hid (not_px hp)
      clear hp
      go_enter Try.func31, Try.ntmps31
      go_wp2
      go_ret2
      exact hexpost_no HN.out (Tch.refl _ _)
    | true =>
      rw [hp] at hpx
      have HPX := Lib.hid hp
      clear hp
      rcases Nat.mod_two_eq_zero_or_one s.size with hm2 | hm2
      · have hpar : ((s.size : Int) % 2 != 0) = false := by rw [bne_eq_false_iff_eq]; omega
        obtain ⟨h, hh⟩ : ∃ h, s.size = 2 + 2 * h := ⟨(s.size - 2) / 2, by omega⟩
        have HH := Lib.hid (And.intro hm2 hh)
        clear hm2 hh
        obtain ⟨i0, hi, hz0, hz1, hz2⟩ := info_parts A_info
        have hown0 : w.ownsRow w.heap.size 5 1 (.slice none 0 0) 0 (nb (prs (s.data.toList.drop 2) 0)) := ⟨rfl, .inl ⟨rfl, rfl⟩⟩
        go_enter Try.func31, Try.ntmps31
        go_wp2
        go_loopw [4, 5] (fun v i wr => ∃ k : Nat, k ≤ h ∧ i = .int .i64 ((2 + 2 * k : Nat) : Int) ∧ wr.ownsRow w.heap.size 5 1 v k (nb (prs (s.data.toList.drop 2) k)) ∧ Below w.heap.size w wr ∧ Hid (allHex ((s.data.toList.drop 2).take (2 * k)) = true)) (fun _ i _ => s.size - (intOf i).toNat)
        case atStart => exact ⟨0, by omega, rfl, hown0, Below.refl _ _, Lib.hid rfl⟩
        case round =>
          clear hown0
          obtain ⟨k, hk, rfl, hown, hbel, HA⟩ := hrel
          by_cases hkh : k < h
          · have hlt : 2 + 2 * k + 1 < s.size := by have := HH.out.2; omega
            have hlt0 : 2 + 2 * k < s.size := by omega
            cases h0 : isHex (s[2 + 2 * k]'hlt0) with
            | false =>
              have HN := Lib.hid (not_digit hlt0 h0)
              go_wp2_with (go_at_call 41; refine (digit_u8 _ _).mono ?_; rintro e w' ⟨rfl, rfl⟩)
              go_ret2
              exact hexpost_no HN.out (Tch.of_below hbel)
            | true =>
              cases h1 : isHex (s[2 + 2 * k + 1]'hlt) with
              | false =>
                have HN := Lib.hid (not_digit (i := 2 * k + 1) hlt h1)
                go_wp2_with (go_at_call 41; refine (digit_u8 _ _).mono ?_; rintro e w' ⟨rfl, rfl⟩)
                go_ret2
                exact hexpost_no HN.out (Tch.of_below hbel)
              | true =>
                have b0 := dv_lt (s[2 + 2 * k]'hlt0)
                have b1 := dv_lt (s[2 + 2 * k + 1]'hlt)
                have hnew : prs (s.data.toList.drop 2) (k + 1) = prs (s.data.toList.drop 2) k ++ [16 * dv (s[2 + 2 * k]'hlt0) + dv (s[2 + 2 * k + 1]'hlt)] := by
                  rw [prs_succ]; unfold dg; rw [get_drop s (2 * k) hlt0, get_drop s (2 * k + 1) hlt]; rfl
                have hall := all_snoc2 _ k (by rw [List.length_drop, ← size_data]; omega) HA.out (by rw [get_drop s (2 * k) hlt0]; exact h0) (by rw [get_drop s (2 * k + 1) hlt]; exact h1)
                have HW := Lib.hid (And.intro hnew hall)
                clear hnew hall
                go_wp2_with (first | (go_at_call 41; refine (digit_u8 _ _).mono ?_; rintro e w' ⟨rfl, rfl⟩) | (at_builtin; refine wpList_append_own _ rfl _ _ 22 rfl w.heap.size 5 i0 (.int .u8 0) 1 1 bytes_ty hi hz0 hz1 hz2 rfl (by decide) _ _ _ rfl (hown.alloc _) ⟨wr.heap.size, 0, none⟩ 1 1 [.int .u8 (16 * (dv (s[2 + 2 * k]'hlt0) : Int) + (dv (s[2 + 2 * k + 1]'hlt) : Int))] rfl rfl ?c1 ?c2 ?c3 ?c4 ?c5 ?_))
                case c1 =>
                  intro j u hj
                  match j, hj with
                  | 0, hj => simp at hj; subst hj; simp [Addr.add]
                case c2 => intro u hu; simp at hu; subst hu; rfl
                case c3 => unfold maxLen; omega
                case c4 => omega
                case c5 => have := hbel.size; simp; omega
                intro v' w2 hown' hgrow _
                have hbel2 := (hbel.alloc hbel.size _).grown hgrow (by have := hbel.size; simp; omega) (fun k hk => (hown.lt k hk).1)
                replace hown' : w2.ownsRow w.heap.size 5 1 v' (k + 1) (nb (prs (s.data.toList.drop 2) (k + 1))) := by rw [HW.out.1, nb_snoc]; exact hown'
                clear hown hgrow hbel
                go_wp2
                go_roundw
                case rel => exact ⟨k + 1, by omega, by go_num, hown', hbel2, Lib.hid HW.out.2⟩
                case measure => simp [intOf]; omega
          · obtain rfl : k = h := by omega
            have hge : ¬ 2 + 2 * k < s.size := by have := HH.out.2; omega
            have hall : allHex (s.data.toList.drop 2) = true := by
              have := HA.out
              rwa [List.take_of_length_le (by rw [List.length_drop, ← size_data]; have := HH.out.2; omega)] at this
            have HO := Lib.hid (is_ok HPX.out HH.out.1 hall)
            clear hall
            go_wp2
            go_ret2
            exact hexpost_yes HO.out (Tch.of_below hbel) (by rw [show (s.size - 2) / 2 = k by have := HH.out.2; omega]; exact RdB.own hown (prs_lt _ _))
      · have hpar : ((s.size : Int) % 2 != 0) = true := by rw [bne_iff_ne]; omega
        have HN := Lib.hid (not_even hm2)
        clear hm2
        go_enter Try.func31, Try.ntmps31
        go_wp2
        go_ret2
        exact hexpost_no HN.out (Tch.refl _ _)
  · have hd2 : decide ((s.size : Int) < 2) = true := by simp; omega
    have HN := Lib.hid (not_len h2)
    clear hpx
    go_enter Try.func31, Try.ntmps31
    go_wp2
    go_ret2
    exact hexpost_no HN.out (Tch.refl _ _)
end Go.Proofs.Ytjbjjiibldlipaa
