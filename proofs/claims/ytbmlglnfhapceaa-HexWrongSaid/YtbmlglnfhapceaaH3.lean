/- Slices that read as bytes; the document's ReadHex. -/
import Derived.Test.YtbmlglnfhapceaaH2
import Derived.Laws.AppendOwn
import Derived.Laws.BytesString
import Derived.Laws.IdiomStrings
namespace Go.Proofs.Ytbmlglnfhapceaa
open Go.RowKit

/-- Bytes as cells. -/
def nb (l : List Nat) : List Value := l.map fun x => Value.int .u8 ((x : Nat) : Int)
theorem nb_length (l : List Nat) : (nb l).length = l.length := by simp [nb]
theorem nb_snoc (l : List Nat) (x : Nat) : nb (l ++ [x]) = nb l ++ [.int .u8 (x : Int)] := by simp [nb]
theorem nb_get {l : List Nat} {i : Nat} (h : i < l.length) : (nb l)[i]? = some (.int .u8 ((l.getD i 0 : Nat) : Int)) := by simp [nb, h]
/-- A value that is a slice of these bytes. -/
def RdB (w : World) (v : Value) (l : List Nat) : Prop := ∃ p c, v = .slice p l.length c ∧ l.length ≤ c ∧ (∀ x ∈ l, x < 256) ∧ (l ≠ [] → ∃ b o, p = some ⟨b, o, none⟩ ∧ b < w.heap.size ∧ ∀ i, i < l.length → w.cell? ⟨b, o + i, none⟩ = some (.int .u8 ((l.getD i 0 : Nat) : Int)))
theorem RdB.tch {bs : List Nat} {w w' : World} {v : Value} {l : List Nat} (h : RdB w v l) (hT : Tch bs w w') (hb : ∀ x ∈ bs, w.heap.size ≤ x) : RdB w' v l := by
  obtain ⟨p, c, h1, h2, h3, h4⟩ := h
  refine ⟨p, c, h1, h2, h3, fun hl => ?_⟩
  obtain ⟨b, o, h5, h6, h7⟩ := h4 hl
  exact ⟨b, o, h5, Nat.lt_of_lt_of_le h6 hT.size, fun i hi => by rw [hT.cell (p := ⟨b, o + i, none⟩) h6 (fun hm => Nat.lt_irrefl b (Nat.lt_of_lt_of_le h6 (hb _ hm)))]; exact h7 i hi⟩
theorem RdB.nil (w : World) : RdB w (.slice none 0 0) [] := ⟨none, 0, rfl, Nat.le_refl _, by simp, fun h => absurd rfl h⟩
theorem RdB.blk {w : World} {b n : Nat} {t : TypeId} {f : Nat → Nat} (h : Blk w b t (bc n f)) (hf : ∀ i, i < n → f i < 256) : RdB w (.slice (some ⟨b, 0, none⟩) n n) ((List.range n).map f) :=
  ⟨some ⟨b, 0, none⟩, n, by simp, by simp, fun x hx => by obtain ⟨i, hi, rfl⟩ := List.mem_map.1 hx; exact hf i (List.mem_range.1 hi), fun _ => ⟨b, 0, rfl, h.lt, fun i hi => by
    have hi' : i < n := by simpa using hi
    rw [Nat.zero_add, h.cell (bc_get hi')]; simp [hi']⟩⟩
theorem RdB.own {w : World} {B n : Nat} {v : Value} {l : List Nat} (h : w.ownsRow B 5 1 v n (nb l)) (hl : ∀ x ∈ l, x < 256) : RdB w v l := by
  obtain ⟨h1, h2⟩ := h
  rw [nb_length, Nat.mul_one] at h1
  subst h1
  rcases h2 with ⟨rfl, h0⟩ | ⟨g, cap, cur, rfl, hg, hb, hn, _, hcs, htk⟩
  · have : l = [] := List.length_eq_zero_iff.1 h0
    subst this
    exact RdB.nil w
  · refine ⟨some ⟨g, 0, none⟩, cap, rfl, hn, hl, fun _ => ⟨g, 0, rfl, (Array.getElem?_eq_some_iff.1 hb).1, fun i hi => ?_⟩⟩
    have hB : Blk w g 5 cur := hb
    rw [Nat.zero_add, hB.cell (v := .int .u8 ((l.getD i 0 : Nat) : Int))]
    have e := congrArg (fun x => x[i]?) htk
    simp only [Nat.mul_one, List.getElem?_take, hi, if_true, nb_get hi] at e
    simpa using e
/-- The text whose bytes they are. -/
def strB (l : List Nat) : ByteArray := ⟨(l.map UInt8.ofNat).toArray⟩
theorem strB_size (l : List Nat) : (strB l).size = l.length := by rw [size_data]; simp [strB]
theorem bytes_ty : Try.prog.underlying 23 = some (.slice 5) := by kernel_rfl
theorem byte_ty : Try.prog.underlying 5 = some (.int .u8) := by kernel_rfl
theorem string_ty : Try.prog.underlying 9 = some .string := by kernel_rfl
theorem conv_rd {w : World} {v : Value} {l : List Nat} (h : RdB w v l) : (convert 23 9 v).run Try.prog w = .ok (.string (strB l)) w := by
  obtain ⟨p, c, rfl, h2, h3, h4⟩ := h
  by_cases hl : l = []
  · subst hl
    cases p with
    | none => rw [run_convert_bytes_string w 23 9 5 none _ c bytes_ty byte_ty string_ty]; rfl
    | some a => exact run_convert_bytes_back w 23 9 5 a c [] bytes_ty byte_ty string_ty (fun j hj => by simp at hj)
  · obtain ⟨b, o, rfl, h6, h7⟩ := h4 hl
    have := run_convert_bytes_back (P := Try.prog) w 23 9 5 ⟨b, o, none⟩ c (l.map UInt8.ofNat) bytes_ty byte_ty string_ty (fun j hj => by
      have hj' : j < l.length := by simpa using hj
      have hadd : (⟨b, o, none⟩ : Addr).add j = ⟨b, o + j, none⟩ := by unfold Addr.add; split <;> simp_all
      have hx : l[j] < 256 := h3 _ (List.getElem_mem hj')
      rw [hadd, h7 j hj']
      simp [hj', Nat.mod_eq_of_lt hx])
    rwa [List.length_map] at this
theorem digit_u8 (c : UInt8) (w : World) :
    Calls Try.prog 22 #[.int .u8 (c.toNat : Int)] w fun e w' => e = .returned (.tuple #[.int .i64 (dv c : Int), .bool (isHex c)]) ∧ w = w' := by
  cases h : hv c.toNat with
  | none => 
    have e1 : dv c = 0 := by unfold dv; rw [h]; rfl
    have e2 : isHex c = false := by unfold isHex; rw [h]; rfl
    rw [e1, e2]; exact digit_no _ w h
  | some v =>
    have e1 : dv c = v := by unfold dv; rw [h]; rfl
    have e2 : isHex c = true := by unfold isHex; rw [h]; rfl
    rw [e1, e2]; exact digit_yes _ v w h
theorem A_info : (Try.prog.info? 5).map (fun i => (i.zero, i.size, i.bytes)) = some (some (.int .u8 0), 1, 1) := by kernel_rfl
theorem get_drop (s : ByteArray) (i : Nat) (h : 2 + i < s.size) : (s.data.toList.drop 2).getD i 0 = s[2 + i]'h := by
  rw [List.getD_eq_getElem?_getD, List.getElem?_drop, get_data s (2 + i) h]; rfl
theorem all_snoc2 (l : List UInt8) (k : Nat) (h : 2 * k + 1 < l.length) (ha : allHex (l.take (2 * k)) = true) (h0 : isHex (l.getD (2 * k) 0) = true) (h1 : isHex (l.getD (2 * k + 1) 0) = true) : allHex (l.take (2 * (k + 1))) = true := by
  rw [show 2 * (k + 1) = 2 * k + 1 + 1 by omega, list_snoc_all l (2 * k + 1) h, list_snoc_all l (2 * k) (by omega), ha, h0, h1]; rfl
/-- What a text is as bytes: prefix, an even number of digits. -/
def rdOk (s : ByteArray) : Bool := px s && (s.size % 2 == 0) && allHex (s.data.toList.drop 2)
def HexPost (s : ByteArray) (w : World) (bad : Value) (e : Ending) (w' : World) (ok : Value) : Prop :=
  Tch [] w w' ∧ if rdOk s = true then ∃ v, e = .returned (.tuple #[v, ok]) ∧ RdB w' v (prs (s.data.toList.drop 2) ((s.size - 2) / 2)) else e = .returned (.tuple #[.slice none 0 0, bad])
theorem hexpost_no {s : ByteArray} {w w' : World} {bad ok : Value} (h : rdOk s = false) (hT : Tch [] w w') : HexPost s w bad (.returned (.tuple #[.slice none 0 0, bad])) w' ok := ⟨hT, by rw [if_neg (by rw [h]; decide)]⟩
theorem hexpost_yes {s : ByteArray} {w w' : World} {bad ok v : Value} (h : rdOk s = true) (hT : Tch [] w w') (hv : RdB w' v (prs (s.data.toList.drop 2) ((s.size - 2) / 2))) : HexPost s w bad (.returned (.tuple #[v, ok])) w' ok := ⟨hT, by rw [if_pos h]; exact ⟨v, rfl, hv⟩⟩
theorem not_px {s : ByteArray} (h : px s = false) : rdOk s = false := by unfold rdOk; rw [h]; rfl
theorem not_len {s : ByteArray} (h : ¬ 2 ≤ s.size) : rdOk s = false := by
  cases hp : px s with
  | false => exact not_px hp
  | true => exact absurd (px_le hp) h
theorem not_even {s : ByteArray} (h : s.size % 2 = 1) : rdOk s = false := by
  have : (s.size % 2 == 0) = false := by rw [h]; rfl
  unfold rdOk; rw [this]; cases px s <;> rfl
theorem not_digit {s : ByteArray} {i : Nat} (h : 2 + i < s.size) (hx : isHex (s[2 + i]'h) = false) : rdOk s = false := by
  have : allHex (s.data.toList.drop 2) = false := all_false (k := i) (by rw [List.length_drop, ← size_data]; omega) (by rw [get_drop s i h]; exact hx)
  unfold rdOk; rw [this, Bool.and_false]
theorem is_ok {s : ByteArray} (h1 : px s = true) (h2 : s.size % 2 = 0) (h3 : allHex (s.data.toList.drop 2) = true) : rdOk s = true := by
  have : (s.size % 2 == 0) = true := by rw [h2]; rfl
  unfold rdOk; rw [this, h1, h3]; rfl
set_option maxHeartbeats 1000000 in
set_option maxRecDepth 100000 in
theorem readHex_any (s : ByteArray) (w : World) (hm : s.size ≤ 1000000) :
    Calls Try.prog 9 #[.string s] w fun e w' => HexPost s w (.bool false) e w' (.bool true) := by
  have hpx := px_extract s
  by_cases h2 : 2 ≤ s.size
  · have hd2 : decide ((s.size : Int) < 2) = false := by simp; omega
    cases hp : px s with
    | false =>
      rw [hp] at hpx
      have HN := Lib.hid (not_px hp)
      clear hp
      go_enter Try.func9, Try.ntmps9
      go_wp2
      go_ret2
      exact hexpost_no HN.out (Tch.refl _ _)
    | true =>
      rw [hp] at hpx
      have HPX := Lib.hid hp
      clear hp
      rcases Nat.mod_two_eq_zero_or_one s.size with hm2 | hm2
      · have hpar : ((s.size : Int) % 2 != 0) = false := by rw [bne_eq_false_iff_eq]; omega
        obtain ⟨h, hh⟩ : ∃ h, s.size = 2 + 2 * h := ⟨(s.size - 2) / 2, by omega⟩
        have HH := Lib.hid (And.intro hm2 hh)
        clear hm2 hh
        obtain ⟨i0, hi, hz0, hz1, hz2⟩ := info_parts A_info
        have hown0 : w.ownsRow w.heap.size 5 1 (.slice none 0 0) 0 (nb (prs (s.data.toList.drop 2) 0)) := ⟨rfl, .inl ⟨rfl, rfl⟩⟩
        go_enter Try.func9, Try.ntmps9
        go_wp2
        go_loopw [4, 5] (fun v i wr => ∃ k : Nat, k ≤ h ∧ i = .int .i64 ((2 + 2 * k : Nat) : Int) ∧ wr.ownsRow w.heap.size 5 1 v k (nb (prs (s.data.toList.drop 2) k)) ∧ Below w.heap.size w wr ∧ Hid (allHex ((s.data.toList.drop 2).take (2 * k)) = true)) (fun _ i _ => s.size - (intOf i).toNat)
        case atStart => exact ⟨0, by omega, rfl, hown0, Below.refl _ _, Lib.hid rfl⟩
        case round =>
          clear hown0
          obtain ⟨k, hk, rfl, hown, hbel, HA⟩ := hrel
          by_cases hkh : k < h
          · have hlt : 2 + 2 * k + 1 < s.size := by have := HH.out.2; omega
            have hlt0 : 2 + 2 * k < s.size := by omega
            cases h0 : isHex (s[2 + 2 * k]'hlt0) with
            | false =>
              have HN := Lib.hid (not_digit hlt0 h0)
              go_wp2_with (go_at_call 22; refine (digit_u8 _ _).mono ?_; rintro e w' ⟨rfl, rfl⟩)
              go_ret2
              exact hexpost_no HN.out (Tch.of_below hbel)
            | true =>
              cases h1 : isHex (s[2 + 2 * k + 1]'hlt) with
              | false =>
                have HN := Lib.hid (not_digit (i := 2 * k + 1) hlt h1)
                go_wp2_with (go_at_call 22; refine (digit_u8 _ _).mono ?_; rintro e w' ⟨rfl, rfl⟩)
                go_ret2
                exact hexpost_no HN.out (Tch.of_below hbel)
              | true =>
                have b0 := dv_lt (s[2 + 2 * k]'hlt0)
                have b1 := dv_lt (s[2 + 2 * k + 1]'hlt)
                have hnew : prs (s.data.toList.drop 2) (k + 1) = prs (s.data.toList.drop 2) k ++ [16 * dv (s[2 + 2 * k]'hlt0) + dv (s[2 + 2 * k + 1]'hlt)] := by
                  rw [prs_succ]; unfold dg; rw [get_drop s (2 * k) hlt0, get_drop s (2 * k + 1) hlt]; rfl
                have hall := all_snoc2 _ k (by rw [List.length_drop, ← size_data]; omega) HA.out (by rw [get_drop s (2 * k) hlt0]; exact h0) (by rw [get_drop s (2 * k + 1) hlt]; exact h1)
                have HW := Lib.hid (And.intro hnew hall)
                clear hnew hall
                go_wp2_with (first | (go_at_call 22; refine (digit_u8 _ _).mono ?_; rintro e w' ⟨rfl, rfl⟩) | (at_builtin; refine wpList_append_own _ rfl _ _ 23 rfl w.heap.size 5 i0 (.int .u8 0) 1 1 bytes_ty hi hz0 hz1 hz2 rfl (by decide) _ _ _ rfl (hown.alloc _) ⟨wr.heap.size, 0, none⟩ 1 1 [.int .u8 (16 * (dv (s[2 + 2 * k]'hlt0) : Int) + (dv (s[2 + 2 * k + 1]'hlt) : Int))] rfl rfl ?c1 ?c2 ?c3 ?c4 ?c5 ?_))
                case c1 =>
                  intro j u hj
                  match j, hj with
                  | 0, hj => simp at hj; subst hj; simp [Addr.add]
                case c2 => intro u hu; simp at hu; subst hu; rfl
                case c3 => unfold maxLen; omega
                case c4 => omega
                case c5 => have := hbel.size; simp; omega
                intro v' w2 hown' hgrow _
                have hbel2 := (hbel.alloc hbel.size _).grown hgrow (by have := hbel.size; simp; omega) (fun k hk => (hown.lt k hk).1)
                replace hown' : w2.ownsRow w.heap.size 5 1 v' (k + 1) (nb (prs (s.data.toList.drop 2) (k + 1))) := by rw [HW.out.1, nb_snoc]; exact hown'
                clear hown hgrow hbel
                go_wp2
                go_roundw
                case rel => exact ⟨k + 1, by omega, by go_num, hown', hbel2, Lib.hid HW.out.2⟩
                case measure => simp [intOf]; omega
          · obtain rfl : k = h := by omega
            have hge : ¬ 2 + 2 * k < s.size := by have := HH.out.2; omega
            have hall : allHex (s.data.toList.drop 2) = true := by
              have := HA.out
              rwa [List.take_of_length_le (by rw [List.length_drop, ← size_data]; have := HH.out.2; omega)] at this
            have HO := Lib.hid (is_ok HPX.out HH.out.1 hall)
            clear hall
            go_wp2
            go_ret2
            exact hexpost_yes HO.out (Tch.of_below hbel) (by rw [show (s.size - 2) / 2 = k by have := HH.out.2; omega]; exact RdB.own hown (prs_lt _ _))
      · have hpar : ((s.size : Int) % 2 != 0) = true := by rw [bne_iff_ne]; omega
        have HN := Lib.hid (not_even hm2)
        clear hm2
        go_enter Try.func9, Try.ntmps9
        go_wp2
        go_ret2
        exact hexpost_no HN.out (Tch.refl _ _)
  · have hd2 : decide ((s.size : Int) < 2) = true := by simp; omega
    have HN := Lib.hid (not_len h2)
    clear hpx
    go_enter Try.func9, Try.ntmps9
    go_wp2
    go_ret2
    exact hexpost_no HN.out (Tch.refl _ _)
end Go.Proofs.Ytbmlglnfhapceaa
