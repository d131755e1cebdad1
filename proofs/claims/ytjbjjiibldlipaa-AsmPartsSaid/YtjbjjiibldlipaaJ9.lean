/- The document's ReadAsm; a step over a text, byte by byte or rune by rune. -/
import Derived.Test.YtjbjjiibldlipaaJ8
import Derived.Lib.DecodeN
namespace Go.Proofs.Ytjbjjiibldlipaa
open Go.RowKit

theorem take_ext (T : List Nat) (f i d : Nat) (h : f ≤ i) : (T.drop f).take (i + d - f) = (T.drop f).take (i - f) ++ (T.drop i).take d := by
  rw [show i + d - f = (i - f) + d by omega, List.take_add, List.drop_drop, show f + (i - f) = i by omega]
/-- Bytes that end no line are passed. -/
theorem rdGo_pass (T : List Nat) (f i d : Nat) (out : List Nat) (n : Nat) (h : f ≤ i) (hd : i + d ≤ T.length) (h10 : ∀ j, j < d → T.getD (i + j) 0 ≠ 10) :
    rdGo (T.drop i) ((T.drop f).take (i - f)) out n = rdGo (T.drop (i + d)) ((T.drop f).take (i + d - f)) out n := by
  have e : T.drop i = (T.drop i).take d ++ T.drop (i + d) := by
    rw [← List.drop_drop, List.take_append_drop]
  rw [take_ext T f i d h]
  conv => lhs; rw [e]
  refine rdGo_more _ _ _ _ _ fun hm => ?_
  obtain ⟨j, hj, hj2⟩ := List.getElem_of_mem hm
  rw [List.length_take, List.length_drop] at hj
  rw [List.getElem_take, List.getElem_drop] at hj2
  refine h10 j (by omega) ?_
  rw [← hj2]; simp [show i + j < T.length by omega]
theorem rdGo_ten (T cur out : List Nat) (i n : Nat) (h : i < T.length) (h10 : T.getD i 0 = 10) :
    rdGo (T.drop i) cur out n = match rdLn cur with | none => ([], n, 2) | some b => rdGo (T.drop (i + 1)) [] (out ++ b) (n + 1) := by
  obtain ⟨x, hx, hy⟩ := drop_cons h
  rw [hx, rdGo_cons, if_pos (by rw [← hy]; exact h10)]
  cases rdLn cur <;> rfl
theorem rdGo_stop (T cur out : List Nat) (n : Nat) : rdGo (T.drop T.length) cur out n = if cur = [] then (out, 0, 0) else ([], n, 2) := by
  rw [List.drop_length]; rfl
theorem rdA_go {T : List Nat} (h : T.length ≤ 262144) : rdA T = rdGo T [] [] 1 := by unfold rdA; rw [if_neg (by omega)]
def RdPost2 (T : List Nat) (w : World) (e : Ending) (w' : World) : Prop :=
  Tch [] w w' ∧ ∃ v, e = .returned (.tuple #[v, .int .i64 ((rdA T).2.1 : Int), .int .i64 ((rdA T).2.2 : Int)]) ∧ RdB w' v (rdA T).1
theorem rdpost_bad {T : List Nat} {w w' : World} {n : Nat} (h : rdA T = ([], n, 2)) (hT : Tch [] w w') : RdPost2 T w (.returned (.tuple #[.slice none 0 0, .int .i64 (n : Int), .int .i64 2])) w' :=
  ⟨hT, _, by rw [h]; rfl, by rw [h]; exact RdB.nil w'⟩
theorem rdpost_ok {T out : List Nat} {w w' : World} {v : Value} (h : rdA T = (out, 0, 0)) (hT : Tch [] w w') (ho : RdB w' v out) : RdPost2 T w (.returned (.tuple #[v, .int .i64 0, .int .i64 0])) w' :=
  ⟨hT, v, by rw [h]; rfl, by rw [h]; exact ho⟩
theorem lnpost_none {T : List Nat} {w w' : World} {e : Ending} (h : LnPost T w e w') (hr : rdLn T = none) : Tch [] w w' ∧ ∃ u, e = .returned (.tuple #[u, .bool false]) := by
  have := h.2; rw [hr] at this; exact ⟨h.1, this⟩
theorem lnpost_some {T b : List Nat} {w w' : World} {e : Ending} (h : LnPost T w e w') (hr : rdLn T = some b) : Tch [] w w' ∧ ∃ v', e = .returned (.tuple #[v', .bool true]) ∧ RdB w' v' b := by
  have := h.2; rw [hr] at this; exact ⟨h.1, this⟩
set_option maxHeartbeats 4000000 in
set_option maxRecDepth 100000 in
theorem readAsm_any (T : List Nat) (w : World) (hT : ∀ x ∈ T, x < 256) (hm : T.length ≤ 200000) :
    Calls Try.prog 12 #[.string (strB T)] w (RdPost2 T w) := by
  have HS := Lib.hid (strB_size T)
  have hs9 : (strB T).size ≤ 200000 := by rw [HS.out]; exact hm
  have hs8 : ¬ (262144 : Int) < ((strB T).size : Int) := by omega
  have hTl : ((strB T).size : Int) = (T.length : Int) := by rw [HS.out]
  have HT := Lib.hid hT
  have HA := Lib.hid (rdA_go (T := T) (by omega))
  clear hT
  go_enter Try.func12, Try.ntmps12
  go_upto_region 7 with (fail)
  go_loopw [5, 6, 7, 8] (fun v f nn ii wr => ∃ (i from_ n : Nat) (out : List Nat), f = .int .i64 (from_ : Int) ∧ nn = .int .i64 (n : Int) ∧ ii = .int .i64 (i : Int) ∧ i ≤ T.length ∧ from_ ≤ i ∧ out.length ≤ from_ ∧ n ≤ from_ + 1 ∧ wr.ownsRow w.heap.size 5 1 v out.length (nb out) ∧ Hid ((∀ x ∈ out, x < 256) ∧ rdGo (T.drop i) ((T.drop from_).take (i - from_)) out n = rdGo T [] [] 1) ∧ Tch [] w wr) (fun _ _ _ ii _ => T.length - (intOf ii).toNat)
  case atStart => exact ⟨0, 0, 1, [], rfl, rfl, rfl, Nat.zero_le _, Nat.le_refl _, Nat.le_refl _, by omega, own_nil _ _, Lib.hid ⟨by simp, rfl⟩, Tch.refl _ _⟩
  case round =>
    obtain ⟨i, from_, n, out, rfl, rfl, rfl, hi, hf, hol, hn, hown, HG, hT0⟩ := hrel
    by_cases hlt : i < T.length
    · have hd : (i : Int) < ((strB T).size : Int) := by omega
      have HI := Lib.hid (idxS T i hlt HT.out)
      by_cases h10 : T.getD i 0 = 10
      · have hne : (((T.getD i 0 : Nat) : Int) != 10) = false := by rw [h10]; rfl
        have hgo := rdGo_ten T ((T.drop from_).take (i - from_)) out i n hlt h10
        have hlen : ((T.drop from_).take (i - from_)).length = i - from_ := by rw [List.length_take, List.length_drop]; omega
        have HSL := Lib.hid (sls_mid T from_ i hf (by omega))
        have HLT := Lib.hid (show ∀ x ∈ (T.drop from_).take (i - from_), x < 256 from fun x hx => HT.out x (List.mem_of_mem_drop (List.mem_of_mem_take hx)))
        have HLN := Lib.hid (fun w1 => rline_any ((T.drop from_).take (i - from_)) w1 HLT.out (by omega))
        cases hr : rdLn ((T.drop from_).take (i - from_)) with
        | none =>
          rw [hr] at hgo
          have HR := Lib.hid (show rdA T = ([], n, 2) by rw [HA.out, ← HG.out.2, hgo])
          have HL2 := Lib.hid (fun w1 => (HLN.out w1).mono fun e w' h => lnpost_none h hr)
          clear hr hgo h10
          generalize T.getD i 0 = ch at *
          go_wp2_with (first
            | (refine st_idxO (vx := .string (strB T)) (vy := .int .i64 (i : Int)) rfl rfl rfl rfl HI.out ?_)
            | (refine st_slO (vx := .string (strB T)) (vl := some (.int .i64 (from_ : Int))) (vh := some (.int .i64 (i : Int))) rfl rfl rfl rfl rfl HSL.out ?_)
            | (go_at_call 21; refine (HL2.out _).mono ?_; rintro e w4 ⟨hT4, u4, rfl⟩))
          go_ret3
          exact rdpost_bad HR.out (hT0.trans hT4)
        | some b =>
          rw [hr] at hgo
          have hbl := rdLn_len hr
          have HBL := Lib.hid (rdLn_lt hr)
          have HG2 := Lib.hid (show (∀ x ∈ out ++ b, x < 256) ∧ rdGo (T.drop (i + 1)) ((T.drop (i + 1)).take (i + 1 - (i + 1))) (out ++ b) (n + 1) = rdGo T [] [] 1 from ⟨fun x hx => (List.mem_append.1 hx).elim (HG.out.1 x) (HBL.out x), by
            rw [Nat.sub_self, List.take_zero, ← HG.out.2, hgo]⟩)
          have HL2 := Lib.hid (fun w1 => (HLN.out w1).mono fun e w' h => lnpost_some h hr)
          clear hr hgo h10
          generalize T.getD i 0 = ch at *
          go_upto_region 13 with (first
            | (refine st_idxO (vx := .string (strB T)) (vy := .int .i64 (i : Int)) rfl rfl rfl rfl HI.out ?_)
            | (refine st_slO (vx := .string (strB T)) (vl := some (.int .i64 (from_ : Int))) (vh := some (.int .i64 (i : Int))) rfl rfl rfl rfl rfl HSL.out ?_)
            | (go_at_call 21; refine (HL2.out _).mono ?_; rintro e w4 ⟨hT4, u4, rfl, hu4⟩))
          have hown4 := own_tch hown hT4
          have hT5 := hT0.trans hT4
          have HU := Lib.hid hu4
          clear hown hT0 hT4 hu4
          go_wp2_with (at_builtin; refine st_appB (ty := 5) (w0 := w) (l := out) (m := b) rfl _ _ rfl rfl rfl hown4 hT5 HU.out (by omega) ?_; intro v6 w6 hown6 hT6)
          go_roundw
          case rel => exact ⟨i + 1, i + 1, n + 1, out ++ b, by go_num, by go_num, by go_num, hlt, Nat.le_refl _, by rw [List.length_append]; omega, by omega, hown6, HG2, hT6⟩
          case measure => simp [intOf]; omega
      · have hne : (((T.getD i 0 : Nat) : Int) != 10) = true := by rw [bne_iff_ne]; omega
        have h1j : ∀ j, j < 1 → T.getD (i + j) 0 ≠ 10 := by
          intro j hj
          obtain rfl : j = 0 := by omega
          exact h10
        have HG2 := Lib.hid (show (∀ x ∈ out, x < 256) ∧ rdGo (T.drop (i + 1)) ((T.drop from_).take (i + 1 - from_)) out n = rdGo T [] [] 1 from ⟨HG.out.1, by
          rw [← HG.out.2, rdGo_pass T from_ i 1 out n hf hlt h1j]⟩)
        clear h10 h1j
        generalize T.getD i 0 = ch at *
        go_wp2_with (refine st_idxO (vx := .string (strB T)) (vy := .int .i64 (i : Int)) rfl rfl rfl rfl HI.out ?_)
        go_roundw
        case rel => exact ⟨i + 1, from_, n, out, rfl, rfl, by go_num, hlt, by omega, hol, hn, hown, HG2, hT0⟩
        case measure => simp [intOf]; omega
    · obtain rfl : i = T.length := by omega
      have hgo := rdGo_stop T ((T.drop from_).take (T.length - from_)) out n
      by_cases hfl : from_ < T.length
      · have hd2 : (from_ : Int) < ((strB T).size : Int) := by omega
        have HR := Lib.hid (show rdA T = ([], n, 2) by
          rw [HA.out, ← HG.out.2, hgo, if_neg (fun e => by have := congrArg List.length e; rw [List.length_take, List.length_drop] at this; simp at this; omega)])
        clear hgo
        go_wp2
        go_ret3
        exact rdpost_bad HR.out hT0
      · have hd2 : ¬ (from_ : Int) < ((strB T).size : Int) := by omega
        have HR := Lib.hid (show rdA T = (out, 0, 0) by
          rw [HA.out, ← HG.out.2, hgo, if_pos (by rw [show T.length - from_ = 0 by omega, List.take_zero])])
        clear hgo
        go_wp2
        go_ret3
        exact rdpost_ok HR.out hT0 (RdB.own hown HG.out.1)
end Go.Proofs.Ytjbjjiibldlipaa
