/- asm.Read. -/
import Derived.Test.YtjbjjiibldlipaaJ9
namespace Go.Proofs.Ytjbjjiibldlipaa
open Go.RowKit

theorem decN_wide (n b0 b1 b2 b3 : Nat) (h : 128 ≤ b0) : 1 ≤ (Lib.decodeN n b0 b1 b2 b3).2 ∧ (Lib.decodeN n b0 b1 b2 b3).2 ≤ 4 ∧ (2 ≤ (Lib.decodeN n b0 b1 b2 b3).2 → 1 < n ∧ 128 ≤ b1) ∧ (3 ≤ (Lib.decodeN n b0 b1 b2 b3).2 → 2 < n ∧ 128 ≤ b2) ∧ (4 ≤ (Lib.decodeN n b0 b1 b2 b3).2 → 3 < n ∧ 128 ≤ b3) := by
  unfold Lib.decodeN
  rw [if_neg (by omega)]
  repeat' split
  all_goals (simp only; omega)
theorem get_strB (T : List Nat) (hT : ∀ x ∈ T, x < 256) (i : Nat) (h : i < T.length) : ((strB T).get! i).toNat = T.getD i 0 := by
  have hs := strB_size T
  have e := get_data (strB T) i (by omega)
  rw [strB_data, List.getElem?_map, List.getElem?_eq_getElem h] at e
  have e2 : UInt8.ofNat T[i] = (strB T)[i]'(by omega) := by simpa using e
  have e3 : T.getD i 0 = T[i] := by simp [h]
  have e4 := hT T[i] (List.getElem_mem h)
  have e5 : (strB T).get! i = (strB T)[i]'(by omega) := by have := get_at (strB T) i (by omega); rwa [Nat.add_zero] at this
  rw [e5, ← e2, UInt8.toNat_ofNat', e3, Nat.mod_eq_of_lt (by omega)]
/-- One rune of a text: the byte 10 alone, or bytes that are no 10. -/
theorem dec_step (T : List Nat) (hT : ∀ x ∈ T, x < 256) (i : Nat) (h : i < T.length) : ∃ r d, Utf8.decode (strB T) i = (r, d) ∧ r ≤ 2147483647 ∧ ((T.getD i 0 = 10 ∧ r = 10 ∧ d = 1) ∨ (r ≠ 10 ∧ 1 ≤ d ∧ i + d ≤ T.length ∧ ∀ j, j < d → T.getD (i + j) 0 ≠ 10)) := by
  have hs := strB_size T
  have hlt : i < (strB T).size := by omega
  have hg := get_strB T hT i h
  have e5 : (strB T).get! i = (strB T)[i]'hlt := by have := get_at (strB T) i hlt; rwa [Nat.add_zero] at this
  rw [e5] at hg
  by_cases hc : T.getD i 0 < 128
  · have hd := decode_ascii (strB T) i hlt (by omega)
    rw [hg] at hd
    refine ⟨_, _, hd, by omega, ?_⟩
    by_cases h10 : T.getD i 0 = 10
    · exact .inl ⟨h10, h10, rfl⟩
    · refine .inr ⟨h10, Nat.le_refl 1, h, fun j hj => ?_⟩
      obtain rfl : j = 0 := by omega
      exact h10
  · have hh := decode_high (strB T) i hlt (by omega)
    have hle := decode_le (strB T) i
    have hN := Lib.decode_at (strB T) i
    rw [e5, hg, hs] at hN
    have hw := decN_wide (T.length - i) (T.getD i 0) ((strB T).get! (i + 1)).toNat ((strB T).get! (i + 2)).toNat ((strB T).get! (i + 3)).toNat (by omega)
    rw [← hN] at hw
    obtain ⟨r, d, hrd⟩ : ∃ r d, Utf8.decode (strB T) i = (r, d) := ⟨_, _, rfl⟩
    rw [hrd] at hh hle hw
    simp only at hh hle hw
    obtain ⟨w1, w2, w3, w4, w5⟩ := hw
    have g := fun k (hk : i + k < T.length) => get_strB T hT (i + k) hk
    refine ⟨r, d, hrd, hle, .inr ⟨by omega, w1, by omega, fun j hj => ?_⟩⟩
    match j, hj with
    | 0, _ => exact fun e => hc (by rw [show i + 0 = i from rfl] at e; omega)
    | 1, hj => have h1 := w3 (by omega); rw [g 1 (by omega)] at h1; omega
    | 2, hj => have h1 := w4 (by omega); rw [g 2 (by omega)] at h1; omega
    | 3, hj => have h1 := w5 (by omega); rw [g 3 (by omega)] at h1; omega
    | j + 4, hj => omega
/-- The world in which a text's runes have been gone over up to p. -/
def itW (w : World) (s : ByteArray) (p : Nat) : World := (w.iter s 0).iterAt w.heap.size s p
theorem itW_size (w : World) (s : ByteArray) (p : Nat) : (itW w s p).heap.size = w.heap.size + 1 := by
  unfold itW; rw [Lib.iterAt_size]; simp [World.iter]
theorem itW_at (w : World) (s : ByteArray) (p : Nat) : (itW w s p).heap[w.heap.size]? = some (.stringIter s p) := Lib.iterAt_heap _ _ _ _ _ (World.iter_heap _ _ _)
theorem itW_tch (w : World) (s : ByteArray) (p : Nat) : Tch [] w (itW w s p) :=
  ⟨rfl, rfl, rfl, by rw [itW_size]; omega, fun k hk _ => (Lib.iterAt_other _ _ _ _ _ (by omega)).trans (Below.heap_alloc _ _ _ hk)⟩
theorem itW_start (w : World) (s : ByteArray) : Tch [] (itW w s 0) (w.iter s 0) :=
  ⟨rfl, rfl, rfl, by rw [itW_size]; simp [World.iter], fun k hk _ => by
    by_cases e : k = w.heap.size
    · subst e; rw [itW_at]; exact World.iter_heap _ _ _
    · exact (Lib.iterAt_other _ _ _ _ _ e).symm⟩
theorem itW_hit {w wr : World} {s : ByteArray} {p : Nat} (h : Tch [] (itW w s p) wr) : wr.heap[w.heap.size]? = some (.stringIter s p) := by
  rw [h.block w.heap.size (by rw [itW_size]; omega) (by simp)]; exact itW_at w s p
theorem itW_next {w wr : World} {s : ByteArray} {p : Nat} (h : Tch [] (itW w s p) wr) (q : Nat) : Tch [] (itW w s q) (wr.iterAt w.heap.size s q) := by
  have hit := itW_hit h
  refine ⟨h.os, h.tape, h.output, by rw [Lib.iterAt_size, itW_size]; have := h.size; rw [itW_size] at this; exact this, fun k hk hm => ?_⟩
  by_cases e : k = w.heap.size
  · subst e; rw [itW_at]; exact Lib.iterAt_heap _ _ _ _ _ hit
  · rw [Lib.iterAt_other _ _ _ _ _ e, h.block k (by rw [itW_size] at hk ⊢; exact hk) hm]
    unfold itW; rw [Lib.iterAt_other _ _ _ _ _ e, Lib.iterAt_other _ _ _ _ _ e]
theorem own_iter {wr : World} {B n k p q : Nat} {s : ByteArray} {e : TypeId} {v : Value} {l : List Value} (h : wr.ownsRow B e 1 v n l) (hit : wr.heap[k]? = some (.stringIter s p)) : (wr.iterAt k s q).ownsRow B e 1 v n l := by
  refine ⟨h.1, ?_⟩
  rcases h.2 with hn | ⟨g, cap, cur, rfl, hb, hgg, rest⟩
  · exact .inl hn
  · refine .inr ⟨g, cap, cur, rfl, hb, ?_, rest⟩
    rw [Lib.iterAt_other _ _ _ _ _ (fun e => by rw [e, hit] at hgg; cases hgg)]; exact hgg
theorem own_nil' (w : World) (B : Nat) : w.ownsRow B 5 1 (.slice none 0 0) ([] : List Nat).length (nb []) := ⟨rfl, .inl ⟨rfl, rfl⟩⟩
theorem asmpost_none {w0 w' : World} {l T : List Nat} {e : Ending} (h : AsmPost w0 l T e w') (hr : rdLn T = none) : Tch [] w0 w' ∧ ∃ u, e = .returned (.tuple #[u, .bool false]) := by
  have := h.2; rw [hr] at this; exact ⟨h.1, this⟩
theorem asmpost_some {w0 w' : World} {l T b : List Nat} {e : Ending} (h : AsmPost w0 l T e w') (hr : rdLn T = some b) : Tch [] w0 w' ∧ ∃ v', e = .returned (.tuple #[v', .bool true]) ∧ w'.ownsRow w0.heap.size 5 1 v' (l ++ b).length (nb (l ++ b)) := by
  have := h.2; rw [hr] at this; exact ⟨h.1, this⟩
set_option maxHeartbeats 4000000 in
set_option maxRecDepth 100000 in
theorem aread_any (T : List Nat) (w : World) (hT : ∀ x ∈ T, x < 256) (hm : T.length ≤ 200000) :
    Calls Try.prog 9 #[.string (strB T)] w (RdPost2 T w) := by
  have HS := Lib.hid (strB_size T)
  have hs9 : (strB T).size ≤ 200000 := by rw [HS.out]; exact hm
  have hs8 : ¬ (262144 : Int) < ((strB T).size : Int) := by omega
  have hTl : ((strB T).size : Int) = (T.length : Int) := by rw [HS.out]
  have HT := Lib.hid hT
  have HA := Lib.hid (rdA_go (T := T) (by omega))
  clear hT
  go_enter Try.func9, Try.ntmps9
  go_wp2
  go_loopw [5, 6, 7] (fun v f nn wr => ∃ (i from_ n : Nat) (out : List Nat), f = .int .i64 (from_ : Int) ∧ nn = .int .i64 (n : Int) ∧ i ≤ T.length ∧ from_ ≤ i ∧ out.length ≤ from_ ∧ n ≤ from_ + 1 ∧ wr.ownsRow (w.heap.size + 1) 5 1 v out.length (nb out) ∧ Hid ((∀ x ∈ out, x < 256) ∧ rdGo (T.drop i) ((T.drop from_).take (i - from_)) out n = rdGo T [] [] 1) ∧ Tch [] (itW w (strB T) i) wr) (fun _ _ _ wr => T.length - wr.iterPos w.heap.size)
  case atStart => exact ⟨0, 0, 1, [], rfl, rfl, Nat.zero_le _, Nat.le_refl _, Nat.le_refl _, by omega, own_nil' _ _, Lib.hid ⟨by simp, rfl⟩, itW_start _ _⟩
  case round =>
    obtain ⟨i, from_, n, out, rfl, rfl, hi, hf, hol, hn, hown, HG, hT0⟩ := hrel
    have hit := itW_hit hT0
    have hpos : wr.iterPos w.heap.size = i := by unfold World.iterPos; rw [hit]
    by_cases hlt : i < T.length
    · have hdec := Lib.run_next_any_at (P := Try.prog) wr w.heap.size (strB T) i 0 hit (by omega)
      obtain ⟨r, d, hrd, hr31, hcase⟩ := dec_step T HT.out i hlt
      rw [hrd] at hdec
      simp only at hdec
      have hT2 := itW_next hT0 (i + d)
      have hown2 := own_iter (q := i + d) hown hit
      obtain ⟨w2, hw2⟩ : ∃ w2, w2 = wr.iterAt w.heap.size (strB T) (i + d) := ⟨_, rfl⟩
      rw [← hw2] at hdec hT2 hown2
      have HP := Lib.hid hpos
      clear hown hT0 hit hw2 hrd hpos
      rcases hcase with ⟨h10, rfl, rfl⟩ | ⟨hne, hd1, hd2, hpass⟩
      · have hgo := rdGo_ten T ((T.drop from_).take (i - from_)) out i n hlt h10
        have hlen : ((T.drop from_).take (i - from_)).length = i - from_ := by rw [List.length_take, List.length_drop]; omega
        have HSL := Lib.hid (sls_mid T from_ i hf (by omega))
        have HLT := Lib.hid (show ∀ x ∈ (T.drop from_).take (i - from_), x < 256 from fun x hx => HT.out x (List.mem_of_mem_drop (List.mem_of_mem_take hx)))
        have hown3 := hown2
        rw [← itW_size w (strB T) (i + 1)] at hown3
        have HLN := Lib.hid (fun v (h : w2.ownsRow (itW w (strB T) (i + 1)).heap.size 5 1 v out.length (nb out)) => assemble_any v out ((T.drop from_).take (i - from_)) (itW w (strB T) (i + 1)) w2 h hT2 HLT.out (by omega) (by omega))
        clear h10
        cases hr : rdLn ((T.drop from_).take (i - from_)) with
        | none =>
          rw [hr] at hgo
          have HR := Lib.hid (show rdA T = ([], n, 2) by rw [HA.out, ← HG.out.2, hgo])
          have HL2 := Lib.hid (((HLN.out _ hown3)).mono fun e w' h => asmpost_none h hr)
          clear hr hgo
          go_wp2_with (first
            | (refine st_slO (vx := .string (strB T)) (vl := some (.int .i64 (from_ : Int))) (vh := some (.int .i64 (i : Int))) rfl rfl rfl rfl rfl HSL.out ?_)
            | (go_at_call 17; refine HL2.out.mono ?_; rintro e w4 ⟨hT4, u4, rfl⟩))
          go_ret3
          exact rdpost_bad HR.out ((itW_tch _ _ _).trans hT4)
        | some b =>
          rw [hr] at hgo
          have hbl := rdLn_len hr
          have HBL := Lib.hid (rdLn_lt hr)
          have HG2 := Lib.hid (show (∀ x ∈ out ++ b, x < 256) ∧ rdGo (T.drop (i + 1)) ((T.drop (i + 1)).take (i + 1 - (i + 1))) (out ++ b) (n + 1) = rdGo T [] [] 1 from ⟨fun x hx => (List.mem_append.1 hx).elim (HG.out.1 x) (HBL.out x), by
            rw [Nat.sub_self, List.take_zero, ← HG.out.2, hgo]⟩)
          have HL2 := Lib.hid (((HLN.out _ hown3)).mono fun e w' h => asmpost_some h hr)
          clear hr hgo
          go_wp2_with (first
            | (refine st_slO (vx := .string (strB T)) (vl := some (.int .i64 (from_ : Int))) (vh := some (.int .i64 (i : Int))) rfl rfl rfl rfl rfl HSL.out ?_)
            | (go_at_call 17; refine HL2.out.mono ?_; rintro e w4 ⟨hT4, u4, rfl, hu4⟩))
          rw [itW_size] at hu4
          go_roundw
          case rel => exact ⟨i + 1, i + 1, n + 1, out ++ b, by go_num, by go_num, hlt, Nat.le_refl _, by rw [List.length_append]; omega, by omega, hu4, HG2, hT4⟩
          case measure => rw [HP.out]; have h9 := itW_hit hT4; unfold World.iterPos; rw [h9]; simp; omega
      · have hne2 : ((r : Int) != 10) = true := by rw [bne_iff_ne]; omega
        have HG2 := Lib.hid (show (∀ x ∈ out, x < 256) ∧ rdGo (T.drop (i + d)) ((T.drop from_).take (i + d - from_)) out n = rdGo T [] [] 1 from ⟨HG.out.1, by
          rw [← HG.out.2, rdGo_pass T from_ i d out n hf hd2 hpass]⟩)
        clear hpass
        go_wp2
        go_roundw
        case rel => exact ⟨i + d, from_, n, out, rfl, rfl, hd2, by omega, hol, hn, hown2, HG2, hT2⟩
        case measure => rw [HP.out]; have h9 := itW_hit hT2; unfold World.iterPos; rw [h9]; simp; omega
    · obtain rfl : i = T.length := by omega
      have hend := Lib.run_next_end_at (P := Try.prog) wr w.heap.size (strB T) T.length 0 hit (by omega)
      have hgo := rdGo_stop T ((T.drop from_).take (T.length - from_)) out n
      have hT1 := (itW_tch _ _ _).trans hT0
      by_cases hfl : from_ < T.length
      · have hd2 : (from_ : Int) < ((strB T).size : Int) := by omega
        have HR := Lib.hid (show rdA T = ([], n, 2) by
          rw [HA.out, ← HG.out.2, hgo, if_neg (fun e => by have := congrArg List.length e; rw [List.length_take, List.length_drop] at this; simp at this; omega)])
        clear hgo
        go_wp2
        go_ret3
        exact rdpost_bad HR.out hT1
      · have hd2 : ¬ (from_ : Int) < ((strB T).size : Int) := by omega
        have HR := Lib.hid (show rdA T = (out, 0, 0) by
          rw [HA.out, ← HG.out.2, hgo, if_pos (by rw [show T.length - from_ = 0 by omega, List.take_zero])])
        clear hgo
        go_wp2
        go_ret3
        exact rdpost_ok HR.out hT1 (RdB.own hown HG.out.1)
end Go.Proofs.Ytjbjjiibldlipaa
