/- asm.assemble: a line's bytes are appended. -/
import Derived.Test.YtjbjjiibldlipaaJ6
namespace Go.Proofs.Ytjbjjiibldlipaa
open Go.RowKit

theorem rdLn_bareW {T : List Nat} (h : ¬ (word1 T).length < T.length) : rdLn T = match opF (word1 T) with | none => none | some x => if ownN x = 0 then some [x] else none := by
  show (if (word1 T).length < T.length then _ else _) = _
  rw [if_neg h]; rfl
theorem rdLn_tailW {T : List Nat} (h : (word1 T).length < T.length) : rdLn T = match hexR (T.drop ((word1 T).length + 1)) with
    | none => none
    | some b => if word1 T = byteW then (if b.length = 1 then some b else none) else
      match opF (word1 T) with
      | none => none
      | some x => if b.length = ownN x ∧ 0 < ownN x then some (x :: b) else none := by
  show (if (word1 T).length < T.length then _ else _) = _
  rw [if_pos h]; rfl
theorem opF_byte : opF byteW = some 26 := opF_some (by decide) (by decide +kernel) (by decide +kernel)
theorem rdLn_noop {T : List Nat} (h : opF (word1 T) = none) : rdLn T = none := by
  by_cases hm : (word1 T).length < T.length
  · rw [rdLn_tailW hm]
    have hne : word1 T ≠ byteW := fun e => by rw [e, opF_byte] at h; cases h
    cases hexR (T.drop ((word1 T).length + 1)) with
    | none => rfl
    | some b => simp only [if_neg hne, h]
  · rw [rdLn_bareW hm, h]
theorem rdLn_lt {T b : List Nat} (h : rdLn T = some b) : ∀ x ∈ b, x < 256 := by
  by_cases hm : (word1 T).length < T.length
  · rw [rdLn_tailW hm] at h
    cases hh : hexR (T.drop ((word1 T).length + 1)) with
    | none => rw [hh] at h; cases h
    | some c =>
      rw [hh] at h
      have hc := hexR_lt hh
      simp only at h
      split at h
      · split at h
        · cases h; exact hc
        · cases h
      · cases ho : opF (word1 T) with
        | none => rw [ho] at h; cases h
        | some x =>
          rw [ho] at h
          simp only at h
          split at h
          · cases h
            intro y hy
            rcases List.mem_cons.1 hy with rfl | hy
            · exact (opF_lt ho).1
            · exact hc y hy
          · cases h
  · rw [rdLn_bareW hm] at h
    cases ho : opF (word1 T) with
    | none => rw [ho] at h; cases h
    | some x =>
      rw [ho] at h
      simp only at h
      split at h
      · cases h
        intro y hy
        rw [List.mem_singleton.1 hy]; exact (opF_lt ho).1
      · cases h
theorem rdLn_len {T b : List Nat} (h : rdLn T = some b) : b.length ≤ T.length + 1 := by
  by_cases hm : (word1 T).length < T.length
  · rw [rdLn_tailW hm] at h
    cases hh : hexR (T.drop ((word1 T).length + 1)) with
    | none => rw [hh] at h; cases h
    | some c =>
      rw [hh] at h
      have hc := hexR_len hh
      rw [List.length_drop] at hc
      simp only at h
      split at h
      · split at h
        · cases h; omega
        · cases h
      · cases ho : opF (word1 T) with
        | none => rw [ho] at h; cases h
        | some x =>
          rw [ho] at h
          simp only at h
          split at h
          · cases h; rw [List.length_cons]; omega
          · cases h
  · rw [rdLn_bareW hm] at h
    cases ho : opF (word1 T) with
    | none => rw [ho] at h; cases h
    | some x =>
      rw [ho] at h
      simp only at h
      split at h
      · cases h; rw [List.length_singleton]; omega
      · cases h
theorem data_strB (T : List Nat) : (strB T).data.toList.drop 2 = (T.map UInt8.ofNat).drop 2 := by rw [strB_data]
theorem tch_grown {w w' : World} {r : Option Nat} (h : w.grownBy w' r) : Tch r.toList w w' := ⟨h.os, h.tape, h.output, h.size, fun k hk hb => h.block k hk (fun e => hb (by rw [← e]; simp))⟩
/-- append(v, u...), v the call's own. -/
theorem st_appF {ops : Array Oper} {rest : List Oper} {o : Oper} {a : Act} {w0 w : World} {Q : Exit → Act → World → Prop} {v u : Value} {l m : List Nat} {ty : TypeId} (hgd : o.guard = none) (s x : Operand)
    (ho : o.op = .call { callee := .builtin .append, args := #[s, x], argTypes := #[22, 22] }) (hs : a.eval s = v) (hx : a.eval x = u) (hown : w.ownsRow w0.heap.size 5 1 v l.length (nb l)) (hT : Tch [] w0 w) (hu : RdB w u m) (hl : l.length + m.length ≤ 100000000)
    (h : ∀ v' w', w'.ownsRow w0.heap.size 5 1 v' (l ++ m).length (nb (l ++ m)) → Tch [] w0 w' → Tch v.ownBlock.toList w w' → wpList Try.prog ops Q rest (a.put o.dst v') w') : wpList Try.prog ops Q (o :: rest) a w := by
  obtain ⟨i0, hi, hz0, hz1, hz2⟩ := info_parts A_info
  obtain ⟨p, c, rfl, hlc, hb, h4⟩ := hu
  cases p with
  | none =>
    have hl0 : m = [] := by
      cases m with
      | nil => rfl
      | cons x r => obtain ⟨_, _, h, _⟩ := h4 (by simp); cases h
    subst hl0
    have hv : ∃ q n c, v = .slice q n c ∧ n ≤ c ∧ (q = none → n = 0 ∧ c = 0) := by
      obtain ⟨_, h2⟩ := hown
      rcases h2 with ⟨rfl, _⟩ | ⟨g, cap, cur, rfl, _, _, hn, _⟩
      · exact ⟨none, 0, 0, rfl, Nat.le_refl _, fun _ => ⟨rfl, rfl⟩⟩
      · exact ⟨_, _, _, rfl, hn, fun h => by cases h⟩
    obtain ⟨q, n, cq, rfl, hn, hq⟩ := hv
    refine wpList_plain hgd fun K hK => ?_
    unfold Oper.wp execOp
    simp only [ho, resolve, invoke, builtin, Sem.run_bind, Sem.run_pure, Result.andThen_ok, List.map_toArray, List.map_cons, List.map_nil, hs, hx, List.length_nil, append_any_nil _ q n cq c w hn hq]
    exact hK _ _ (h _ _ (by rw [List.append_nil]; exact hown) hT (Tch.refl _ _))
  | some ad =>
    refine wpList_append_own w hgd s x 22 ho w0.heap.size 5 i0 (.int .u8 0) 1 1 bytes_ty hi hz0 hz1 hz2 rfl (by decide) _ _ _ hs hown ad m.length c (nb m) hx (by rw [nb_length, Nat.mul_one]) ?_ (fun u hu => by obtain ⟨x, _, rfl⟩ := List.mem_map.1 hu; rfl) (by unfold maxLen; omega) (by omega) hT.size ?_
    · intro j u hu
      obtain ⟨hj, rfl⟩ := nb_ne hu
      obtain ⟨b, o, h5, h6, h7⟩ := h4 (by intro e; subst e; simp at hj)
      cases h5
      have hadd : (⟨b, o, none⟩ : Addr).add j = ⟨b, o + j, none⟩ := by unfold Addr.add; split <;> simp_all
      rw [hadd]; exact h7 j hj
    · intro v' w' hown' hgrow _
      refine h v' w' ?_ ⟨hgrow.os.trans hT.os, hgrow.tape.trans hT.tape, hgrow.output.trans hT.output, Nat.le_trans hT.size hgrow.size, fun k hk _ => (hgrow.block k (Nat.lt_of_lt_of_le hk hT.size) (fun e => ?_)).trans (hT.block k hk (by simp))⟩ (tch_grown hgrow)
      · have e : nb (l ++ m) = nb l ++ nb m := by simp [nb]
        rw [e, List.length_append]; exact hown'
      · have := (hown.lt k e.symm).1; omega
def HexPostF (s : ByteArray) (w : World) (bad : Value) (e : Ending) (w' : World) (ok : Value) : Prop :=
  Tch [] w w' ∧ if rdOk s = true then ∃ v, e = .returned (.tuple #[v, ok]) ∧ RdF w w' v (prs (s.data.toList.drop 2) ((s.size - 2) / 2)) else e = .returned (.tuple #[.slice none 0 0, bad])
theorem hexpostF_no {s : ByteArray} {w w' : World} {bad ok : Value} (h : rdOk s = false) (hT : Tch [] w w') : HexPostF s w bad (.returned (.tuple #[.slice none 0 0, bad])) w' ok := ⟨hT, by rw [if_neg (by rw [h]; decide)]⟩
theorem hexpostF_yes {s : ByteArray} {w w' : World} {bad ok v : Value} (h : rdOk s = true) (hT : Tch [] w w') (hv : RdF w w' v (prs (s.data.toList.drop 2) ((s.size - 2) / 2))) : HexPostF s w bad (.returned (.tuple #[v, ok])) w' ok := ⟨hT, by rw [if_pos h]; exact ⟨v, rfl, hv⟩⟩
theorem RdA.blkN {X : List Nat} {w : World} {b n : Nat} {t : TypeId} {f : Nat → Nat} (h : Blk w b t (bc n f)) (hf : ∀ i, i < n → f i < 256) (hb : b ∉ X) : RdA X w (.slice (some ⟨b, 0, none⟩) n n) ((List.range n).map f) := by
  obtain ⟨p, c, e1, e2, e3, e4⟩ := RdB.blk h hf
  refine ⟨p, c, e1, e2, e3, fun hne => ?_⟩
  obtain ⟨b', o', h5, h6, h7⟩ := e4 hne
  refine ⟨b', o', h5, h6, ?_, h7⟩
  obtain ⟨e5, _, _⟩ := Value.slice.inj e1
  rw [h5] at e5
  injection e5 with e5
  injection e5 with e5
  subst e5
  exact hb
set_option maxHeartbeats 1000000 in
set_option maxRecDepth 100000 in
theorem hexReadF_any (s : ByteArray) (w : World) (hm : s.size ≤ 1000000) :
    Calls Try.prog 28 #[.string s] w fun e w' => HexPostF s w (.int .i64 2) e w' (.int .i64 0) := by
  have hcut := cut_any s w (by unfold maxLen; omega)
  have hS := St.start w
  cases hp : px s with
  | false =>
    rw [hp] at hcut
    have HN := Lib.hid (not_px hp)
    clear hp
    go_enter Try.func28, Try.ntmps28
    go_wp2_with (go_at_call 38; refine hcut.mono ?_; rintro e w' ⟨rfl, rfl⟩)
    go_ret2
    exact hexpostF_no HN.out (Tch.refl _ _)
  | true =>
    rw [hp] at hcut
    have h2 := px_le hp
    obtain ⟨t, ht⟩ : ∃ t, t = s.extract 2 s.size := ⟨_, rfl⟩
    have htl : t.data.toList = s.data.toList.drop 2 := by rw [ht, tail_data]
    have hts : t.size + 2 = s.size := by rw [size_data, size_data s, htl, List.length_drop]; have := size_data s; omega
    replace hcut : Calls Try.prog 38 #[.string s, .string ⟨#[48, 120]⟩] w fun e w' => e = .returned (.tuple #[.string t, .bool true]) ∧ w = w' := by rw [ht]; exact hcut
    clear ht
    rcases Nat.mod_two_eq_zero_or_one s.size with hm2 | hm2
    · have hpar : ((t.size : Int) % 2 != 0) = false := by rw [bne_eq_false_iff_eq]; omega
      obtain ⟨n, hn⟩ : ∃ n, t.size = 2 * n := ⟨t.size / 2, by omega⟩
      have hq : (t.size : Int) / 2 = (n : Int) := by omega
      have hfill := fun (b : Nat) (w1 : World) (hB : Blk w1 b 5 (bc n fun _ => 0)) => fill_any b n n 5 t w1 (by unfold maxLen; omega) (by omega) (by omega) hB
      cases hall : allHex t.data.toList with
      | false =>
        have HN := Lib.hid (show rdOk s = false by rw [htl] at hall; unfold rdOk; rw [hall, Bool.and_false])
        have hfill2 := fun (b : Nat) (w1 : World) (hB : Blk w1 b 5 (bc n fun _ => 0)) => (hfill b w1 hB).mono (fun e w' h => (show e = .returned (.bool false) ∧ Tch [b] w1 w' from ⟨by rw [← hall]; exact h.1, h.2.1⟩))
        have HF := Lib.hid hfill2
        clear hfill hfill2 hall htl hp hm2 hn
        go_enter Try.func28, Try.ntmps28
        go_wp2_with (first | (go_at_call 38; refine hcut.mono ?_; rintro e w' ⟨rfl, rfl⟩) | (refine st_makeB n hS rfl _ _ rfl (by rw [← hq]; rfl) (by rw [← hq]; rfl) (by omega) ?_; clear hS; intro w1 b1 hS) | (go_at_call 39; refine (HF.out _ _ (hS.get .head)).mono ?_; rintro e w' ⟨rfl, hT⟩; replace hS := hS.lose hT; clear hT))
        go_ret2
        exact hexpostF_no HN.out hS.frame
      | true =>
        have HO := Lib.hid (And.intro (show rdOk s = true from is_ok hp hm2 (by rw [← htl]; exact hall)) (And.intro htl (show (s.size - 2) / 2 = n by omega)))
        have hfill2 := fun (b : Nat) (w1 : World) (hB : Blk w1 b 5 (bc n fun _ => 0)) => (hfill b w1 hB).mono (fun e w' h => (show e = .returned (.bool true) ∧ Tch [b] w1 w' ∧ Blk w' b 5 (bc n fun i => (prs t.data.toList n).getD i 0) from ⟨by rw [← hall]; exact h.1, h.2.1, by
          obtain ⟨f, hf, hf2⟩ := h.2.2
          rw [hf2 hall, ← size_data, show 2 * n - t.size = 0 by omega, pad_zero, fc_end] at hf
          exact hf⟩))
        have HF := Lib.hid hfill2
        clear hfill hfill2 hall htl hp hm2 hn
        go_enter Try.func28, Try.ntmps28
        go_wp2_with (first | (go_at_call 38; refine hcut.mono ?_; rintro e w' ⟨rfl, rfl⟩) | (refine st_makeB n hS rfl _ _ rfl (by rw [← hq]; rfl) (by rw [← hq]; rfl) (by omega) ?_; clear hS; intro w1 b1 hS) | (go_at_call 39; refine (HF.out _ _ (hS.get .head)).mono ?_; rintro e w' ⟨rfl, hT, hB⟩; replace hS := hS.on1 .head hT hB; clear hT hB))
        go_ret2
        refine hexpostF_yes HO.out.1 hS.frame ?_
        rw [← HO.out.2.1, HO.out.2.2]
        intro X hX
        have hnb : _ ∉ X := fun hm => absurd (hX _ hm) (Nat.not_lt.2 ((hS.own .head).elim id (fun h => by simp at h)))
        have := RdA.blkN (hS.get .head) (fun i hi => by
          have hl : i < (prs t.data.toList n).length := by rw [prs_length]; exact hi
          have e : (prs t.data.toList n).getD i 0 = (prs t.data.toList n)[i] := by simp [hl]
          rw [e]; exact prs_lt _ _ _ (List.getElem_mem hl)) hnb
        rwa [prs_range] at this
    · have hpar : ((t.size : Int) % 2 != 0) = true := by rw [bne_iff_ne]; omega
      have HN := Lib.hid (not_even hm2)
      clear hm2 htl hp
      go_enter Try.func28, Try.ntmps28
      go_wp2_with (go_at_call 38; refine hcut.mono ?_; rintro e w' ⟨rfl, rfl⟩)
      go_ret2
      exact hexpostF_no HN.out (Tch.refl _ _)
def HexP (T : List Nat) (w : World) (bad ok : Value) (e : Ending) (w' : World) : Prop :=
  Tch [] w w' ∧ match hexR T with
    | some b => ∃ v, e = .returned (.tuple #[v, ok]) ∧ RdB w' v b
    | none => e = .returned (.tuple #[.slice none 0 0, bad])
theorem hexP_of {T : List Nat} {w w' : World} {bad ok : Value} {e : Ending} (h : HexPost (strB T) w bad e w' ok) : HexP T w bad ok e w' := by
  refine ⟨h.1, ?_⟩
  have h2 := h.2
  unfold hexR
  split at h2
  · rename_i hr
    rw [if_pos hr]
    obtain ⟨v, he, hv⟩ := h2
    rw [strB_size, data_strB] at hv
    exact ⟨v, he, hv⟩
  · rename_i hr
    rw [if_neg hr]; exact h2
def HexPF (T : List Nat) (w : World) (bad ok : Value) (e : Ending) (w' : World) : Prop :=
  Tch [] w w' ∧ match hexR T with
    | some b => ∃ v, e = .returned (.tuple #[v, ok]) ∧ RdF w w' v b
    | none => e = .returned (.tuple #[.slice none 0 0, bad])
theorem hexPF_of {T : List Nat} {w w' : World} {bad ok : Value} {e : Ending} (h : HexPostF (strB T) w bad e w' ok) : HexPF T w bad ok e w' := by
  refine ⟨h.1, ?_⟩
  have h2 := h.2
  unfold hexR
  split at h2
  · rename_i hr
    rw [if_pos hr]
    obtain ⟨v, he, hv⟩ := h2
    rw [strB_size, data_strB] at hv
    exact ⟨v, he, hv⟩
  · rename_i hr
    rw [if_neg hr]; exact h2
theorem ahexF_any (T : List Nat) (w : World) (hm : T.length ≤ 1000000) : Calls Try.prog 28 #[.string (strB T)] w (HexPF T w (.int .i64 2) (.int .i64 0)) :=
  (hexReadF_any (strB T) w (by rw [strB_size]; exact hm)).mono fun _ _ h => hexPF_of h
theorem hexPF_yes {T b : List Nat} {w w' : World} {bad ok : Value} {e : Ending} (h : HexPF T w bad ok e w') (hb : hexR T = some b) : Tch [] w w' ∧ ∃ v, e = .returned (.tuple #[v, ok]) ∧ RdF w w' v b := by
  have := h.2; rw [hb] at this; exact ⟨h.1, this⟩
theorem ahex_any (T : List Nat) (w : World) (hm : T.length ≤ 1000000) : Calls Try.prog 28 #[.string (strB T)] w (HexP T w (.int .i64 2) (.int .i64 0)) :=
  (hexRead_any (strB T) w (by rw [strB_size]; exact hm)).mono fun _ _ h => hexP_of h
theorem rhex_any (T : List Nat) (w : World) (hm : T.length ≤ 1000000) : Calls Try.prog 31 #[.string (strB T)] w (HexP T w (.bool false) (.bool true)) :=
  (readHex_any (strB T) w (by rw [strB_size]; exact hm)).mono fun _ _ h => hexP_of h
theorem hexP_yes {T b : List Nat} {w w' : World} {bad ok : Value} {e : Ending} (h : HexP T w bad ok e w') (hb : hexR T = some b) : Tch [] w w' ∧ ∃ v, e = .returned (.tuple #[v, ok]) ∧ RdB w' v b := by
  have := h.2; rw [hb] at this; exact ⟨h.1, this⟩
theorem hexP_no {T : List Nat} {w w' : World} {bad ok : Value} {e : Ending} (h : HexP T w bad ok e w') (hb : hexR T = none) : Tch [] w w' ∧ e = .returned (.tuple #[.slice none 0 0, bad]) := by
  have := h.2; rw [hb] at this; exact ⟨h.1, this⟩
/-- What a call that appends a line's bytes answers. -/
def AsmPost (w0 : World) (l T : List Nat) (e : Ending) (w' : World) : Prop :=
  Tch [] w0 w' ∧ match rdLn T with
    | none => ∃ u, e = .returned (.tuple #[u, .bool false])
    | some b => ∃ v', e = .returned (.tuple #[v', .bool true]) ∧ w'.ownsRow w0.heap.size 5 1 v' (l ++ b).length (nb (l ++ b))
theorem asmpost_no {w0 w' : World} {l T : List Nat} {u : Value} (h : rdLn T = none) (hT : Tch [] w0 w') : AsmPost w0 l T (.returned (.tuple #[u, .bool false])) w' :=
  ⟨hT, by rw [h]; exact ⟨u, rfl⟩⟩
theorem asmpost_if {w0 w' : World} {l T b : List Nat} {u : Value} {t : Bool} (h : rdLn T = if t then some b else none) (hT : Tch [] w0 w') (ho : w'.ownsRow w0.heap.size 5 1 u (l ++ b).length (nb (l ++ b))) : AsmPost w0 l T (.returned (.tuple #[u, .bool t])) w' := by
  refine ⟨hT, ?_⟩
  rw [h]
  cases t
  · exact ⟨u, rfl⟩
  · exact ⟨u, rfl, ho⟩
set_option maxHeartbeats 2000000 in
set_option maxRecDepth 100000 in
theorem asm_none (v : Value) (l T : List Nat) (w0 w : World) (hT0 : Tch [] w0 w) (hT : ∀ x ∈ T, x < 256) (hm : T.length ≤ 300000) (ho : opF (word1 T) = none) :
    Calls Try.prog 17 #[v, .string (strB T)] w (AsmPost w0 l T) := by
  have hle := word1_le T
  have HC := Lib.hid (acut_any T w hT (by omega))
  have HO := Lib.hid (fun w1 => op_any (word1 T) w1 (word1_lt hT) (by omega))
  have HF := Lib.hid ho
  clear hT ho
  go_enter Try.func17, Try.ntmps17
  go_upto_region 3 with (first
    | (go_at_call 26; refine HC.out.mono ?_; rintro e w1 ⟨rfl, hT1⟩)
    | (go_at_call 27; refine (HO.out _).mono ?_; rintro e w2 ⟨rfl, hT2⟩))
  rw [HF.out]
  go_wp2
  go_ret2
  exact asmpost_no (rdLn_noop HF.out) (hT0.trans (hT1.trans hT2))
set_option maxHeartbeats 2000000 in
set_option maxRecDepth 100000 in
theorem asm_bare (v : Value) (l T : List Nat) (x : Nat) (w0 w : World) (hown : w.ownsRow w0.heap.size 5 1 v l.length (nb l)) (hT0 : Tch [] w0 w) (hT : ∀ x ∈ T, x < 256) (hm : T.length ≤ 300000) (hl : l.length ≤ 10000000) (ho : opF (word1 T) = some x) (hw : ¬ (word1 T).length < T.length) :
    Calls Try.prog 17 #[v, .string (strB T)] w (AsmPost w0 l T) := by
  have hle := word1_le T
  have hx := (opF_lt ho).1
  have hC := acut_any T w hT (by omega)
  unfold CutPost at hC
  rw [decide_eq_false hw] at hC
  have HC := Lib.hid hC
  have HO := Lib.hid (fun w1 => op_any (word1 T) w1 (word1_lt hT) (by omega))
  have HF := Lib.hid ho
  have HR := Lib.hid (show rdLn T = if decide (((ownN x : Nat) : Int) = 0) then some [x] else none by
    rw [rdLn_bareW hw, ho]
    by_cases h0 : ownN x = 0
    · simp [h0]
    · have : ¬ ((ownN x : Nat) : Int) = 0 := by omega
      simp [h0])
  have hxl : ∀ y ∈ [x], y < 256 := fun y hy => by rw [List.mem_singleton.1 hy]; exact hx
  have HX := Lib.hid hxl
  have ho32 := ownN_le x
  clear hT ho hC hw hxl
  go_enter Try.func17, Try.ntmps17
  go_upto_region 3 with (first
    | (go_at_call 26; refine HC.out.mono ?_; rintro e w1 ⟨rfl, hT1⟩)
    | (go_at_call 27; refine (HO.out _).mono ?_; rintro e w2 ⟨rfl, hT2⟩))
  rw [HF.out]
  have hown2 := own_tch hown (hT1.trans hT2)
  have hT3 := hT0.trans (hT1.trans hT2)
  clear hown hT0 hT1 hT2
  go_wp2_with (first
    | (at_builtin; refine st_appB (ty := 5) (w0 := w0) (l := l) (m := [x]) rfl _ _ rfl rfl rfl (hown2.alloc _) (hT3.alloc _) (RdB.lit _ _ [x] HX.out _ rfl) (by simp; omega) ?_; intro v4 w4 hown4 hT4)
    | (go_at_call 23; refine (afollow_any x _ hx).mono ?_; rintro e w5 ⟨rfl, rfl⟩))
  go_ret2
  exact asmpost_if HR.out hT4 hown4
set_option maxHeartbeats 2000000 in
set_option maxRecDepth 100000 in
theorem asm_bad (v : Value) (l T : List Nat) (x : Nat) (w0 w : World) (hT0 : Tch [] w0 w) (hT : ∀ x ∈ T, x < 256) (hm : T.length ≤ 300000) (ho : opF (word1 T) = some x) (hw : (word1 T).length < T.length) (hx : hexR (T.drop ((word1 T).length + 1)) = none) :
    Calls Try.prog 17 #[v, .string (strB T)] w (AsmPost w0 l T) := by
  have hle := word1_le T
  have hC := acut_any T w hT (by omega)
  unfold CutPost at hC
  rw [decide_eq_true hw] at hC
  have HC := Lib.hid hC
  have HO := Lib.hid (fun w1 => op_any (word1 T) w1 (word1_lt hT) (by omega))
  have HF := Lib.hid ho
  have HR := Lib.hid (show rdLn T = none by rw [rdLn_tailW hw, hx])
  have HH := Lib.hid (fun w1 => (ahex_any (T.drop ((word1 T).length + 1)) w1 (by rw [List.length_drop]; omega)).mono fun e w' h => hexP_no h hx)
  clear hT ho hC hw hx
  go_enter Try.func17, Try.ntmps17
  go_upto_region 3 with (first
    | (go_at_call 26; refine HC.out.mono ?_; rintro e w1 ⟨rfl, hT1⟩)
    | (go_at_call 27; refine (HO.out _).mono ?_; rintro e w2 ⟨rfl, hT2⟩))
  rw [HF.out]
  have hT3 := hT0.trans (hT1.trans hT2)
  clear hT0 hT1 hT2
  go_wp2_with (go_at_call 28; refine (HH.out _).mono ?_; rintro e w4 ⟨hT4, rfl⟩)
  go_ret2
  exact asmpost_no HR.out (hT3.trans hT4)
set_option maxHeartbeats 2000000 in
set_option maxRecDepth 100000 in
theorem asm_empty (v : Value) (l T : List Nat) (x : Nat) (w0 w : World) (hT0 : Tch [] w0 w) (hT : ∀ x ∈ T, x < 256) (hm : T.length ≤ 300000) (ho : opF (word1 T) = some x) (hw : (word1 T).length < T.length) (hx : hexR (T.drop ((word1 T).length + 1)) = some []) :
    Calls Try.prog 17 #[v, .string (strB T)] w (AsmPost w0 l T) := by
  have hle := word1_le T
  have hC := acut_any T w hT (by omega)
  unfold CutPost at hC
  rw [decide_eq_true hw] at hC
  have HC := Lib.hid hC
  have HO := Lib.hid (fun w1 => op_any (word1 T) w1 (word1_lt hT) (by omega))
  have HF := Lib.hid ho
  have HR := Lib.hid (show rdLn T = none by
    rw [rdLn_tailW hw, hx, ho]
    simp only
    split
    · rfl
    · rw [if_neg (fun h => by have := h.1; simp at this; omega)])
  have HH := Lib.hid (fun w1 => (ahex_any (T.drop ((word1 T).length + 1)) w1 (by rw [List.length_drop]; omega)).mono fun e w' h => hexP_yes h hx)
  clear hT ho hC hw hx
  go_enter Try.func17, Try.ntmps17
  go_upto_region 3 with (first
    | (go_at_call 26; refine HC.out.mono ?_; rintro e w1 ⟨rfl, hT1⟩)
    | (go_at_call 27; refine (HO.out _).mono ?_; rintro e w2 ⟨rfl, hT2⟩))
  rw [HF.out]
  have hT3 := hT0.trans (hT1.trans hT2)
  clear hT0 hT1 hT2
  go_upto_region 8 with (go_at_call 28; refine (HH.out _).mono ?_; rintro e w4 ⟨hT4, vb, rfl, hvb⟩)
  obtain ⟨p, c, rfl, _⟩ := hvb
  go_wp2
  go_ret2
  exact asmpost_no HR.out (hT3.trans hT4)
set_option maxHeartbeats 2000000 in
set_option maxRecDepth 100000 in
theorem asm_byte (v : Value) (l T b : List Nat) (x : Nat) (w0 w : World) (hown : w.ownsRow w0.heap.size 5 1 v l.length (nb l)) (hT0 : Tch [] w0 w) (hT : ∀ x ∈ T, x < 256) (hm : T.length ≤ 300000) (hl : l.length ≤ 10000000) (ho : opF (word1 T) = some x) (hw : (word1 T).length < T.length) (hx : hexR (T.drop ((word1 T).length + 1)) = some b) (hb : b ≠ []) (hby : word1 T = byteW) :
    Calls Try.prog 17 #[v, .string (strB T)] w (AsmPost w0 l T) := by
  have hle := word1_le T
  have hC := acut_any T w hT (by omega)
  unfold CutPost at hC
  rw [decide_eq_true hw] at hC
  have HC := Lib.hid hC
  have HO := Lib.hid (fun w1 => op_any (word1 T) w1 (word1_lt hT) (by omega))
  have HF := Lib.hid ho
  have hbl := hexR_len hx
  rw [List.length_drop] at hbl
  have HB := Lib.hid (And.intro (word1_lt hT) (show (word1 T == byteW) = true by rw [hby]; rfl))
  have HR := Lib.hid (show rdLn T = if decide ((b.length : Int) = 1) then some b else none by
    rw [rdLn_tailW hw, hx]
    simp only [if_pos hby]
    by_cases h0 : b.length = 1
    · simp [h0]
    · have : ¬ (b.length : Int) = 1 := by omega
      simp [h0, this])
  have HH := Lib.hid (fun w1 => (ahex_any (T.drop ((word1 T).length + 1)) w1 (by rw [List.length_drop]; omega)).mono fun e w' h => hexP_yes h hx)
  have hb0 : ¬ b.length = 0 := fun e => hb (List.length_eq_zero_iff.1 e)
  have hb1 : ((b.length : Int) == 0) = false := by rw [beq_eq_false_iff_ne]; omega
  clear hT ho hC hw hx hby hb
  go_enter Try.func17, Try.ntmps17
  go_upto_region 3 with (first
    | (go_at_call 26; refine HC.out.mono ?_; rintro e w1 ⟨rfl, hT1⟩)
    | (go_at_call 27; refine (HO.out _).mono ?_; rintro e w2 ⟨rfl, hT2⟩))
  rw [HF.out]
  have hown2 := own_tch hown (hT1.trans hT2)
  have hT3 := hT0.trans (hT1.trans hT2)
  clear hown hT0 hT1 hT2
  go_upto_region 8 with (go_at_call 28; refine (HH.out _).mono ?_; rintro e w4 ⟨hT4, vb, rfl, hvb⟩)
  have hown4 := own_tch hown2 hT4
  have hT5 := hT3.trans hT4
  have HV := Lib.hid hvb
  obtain ⟨p, c, rfl, _⟩ := hvb
  clear hown2 hT3 hT4
  go_wp2_with (first
    | (refine st_eqS (l := word1 T) (m := byteW) (t := true) rfl _ _ _ rfl rfl rfl HB.out.1 (by decide) HB.out.2 ?_)
    | (at_builtin; refine st_appB (ty := 5) (w0 := w0) (l := l) (m := b) rfl _ _ rfl rfl rfl hown4 hT5 HV.out (by omega) ?_; intro v6 w6 hown6 hT6))
  go_ret2
  exact asmpost_if HR.out hT6 hown6
set_option maxHeartbeats 2000000 in
set_option maxRecDepth 100000 in
theorem asm_push (v : Value) (l T b : List Nat) (x : Nat) (w0 w : World) (hown : w.ownsRow w0.heap.size 5 1 v l.length (nb l)) (hT0 : Tch [] w0 w) (hT : ∀ x ∈ T, x < 256) (hm : T.length ≤ 300000) (hl : l.length ≤ 10000000) (ho : opF (word1 T) = some x) (hw : (word1 T).length < T.length) (hx : hexR (T.drop ((word1 T).length + 1)) = some b) (hb : b ≠ []) (hby : word1 T ≠ byteW) :
    Calls Try.prog 17 #[v, .string (strB T)] w (AsmPost w0 l T) := by
  have hle := word1_le T
  have hx256 := (opF_lt ho).1
  have hC := acut_any T w hT (by omega)
  unfold CutPost at hC
  rw [decide_eq_true hw] at hC
  have HC := Lib.hid hC
  have HO := Lib.hid (fun w1 => op_any (word1 T) w1 (word1_lt hT) (by omega))
  have HF := Lib.hid ho
  have hbl := hexR_len hx
  rw [List.length_drop] at hbl
  have HB := Lib.hid (And.intro (word1_lt hT) (show (word1 T == byteW) = false by rw [beq_eq_false_iff_ne]; exact hby))
  have hb0 : ¬ b.length = 0 := fun e => hb (List.length_eq_zero_iff.1 e)
  have HR := Lib.hid (show rdLn T = if decide ((b.length : Int) = ((ownN x : Nat) : Int)) then some ([x] ++ b) else none by
    rw [rdLn_tailW hw, hx, ho]
    simp only [if_neg hby]
    by_cases h0 : b.length = ownN x
    · have : (b.length : Int) = ((ownN x : Nat) : Int) := by omega
      rw [if_pos ⟨h0, by omega⟩, if_pos (decide_eq_true this)]; rfl
    · have : ¬ (b.length : Int) = ((ownN x : Nat) : Int) := by omega
      rw [if_neg (fun h => h0 h.1), if_neg (by rw [decide_eq_false this]; decide)])
  have HH := Lib.hid (fun w1 => (ahexF_any (T.drop ((word1 T).length + 1)) w1 (by rw [List.length_drop]; omega)).mono fun e w' h => hexPF_yes h hx)
  have hb1 : ((b.length : Int) == 0) = false := by rw [beq_eq_false_iff_ne]; omega
  have hxl : ∀ y ∈ [x], y < 256 := fun y hy => by rw [List.mem_singleton.1 hy]; exact hx256
  have HX := Lib.hid hxl
  clear hT ho hC hw hx hby hb hxl
  go_enter Try.func17, Try.ntmps17
  go_upto_region 3 with (first
    | (go_at_call 26; refine HC.out.mono ?_; rintro e w1 ⟨rfl, hT1⟩)
    | (go_at_call 27; refine (HO.out _).mono ?_; rintro e w2 ⟨rfl, hT2⟩))
  rw [HF.out]
  have hown2 := own_tch hown (hT1.trans hT2)
  have hT3 := hT0.trans (hT1.trans hT2)
  clear hown hT0 hT1 hT2
  go_upto_region 8 with (go_at_call 28; refine (HH.out _).mono ?_; rintro e w4 ⟨hT4, vb, rfl, hvb⟩)
  have hown4 := own_tch hown2 hT4
  have hT5 := hT3.trans hT4
  have hX : ∀ x ∈ v.ownBlock.toList, x < w2.heap.size := fun x hx => (hown2.lt x (by simpa using hx)).2
  have HV := Lib.hid (hvb _ hX)
  obtain ⟨p, c, rfl, _⟩ := hvb [] (by simp)
  clear hown2 hT3 hT4 hX hvb
  have ht1 := True.intro
  go_wp2_with (first
    | (refine st_eqS (l := word1 T) (m := byteW) (t := false) rfl _ _ _ rfl rfl rfl HB.out.1 (by decide) HB.out.2 ?_)
    | (at_builtin; have _t := ht1; clear _t ht1; refine st_appF (ty := 5) (w0 := w0) (l := l) (m := [x]) rfl _ _ rfl rfl rfl (hown4.alloc _) (hT5.alloc _) (RdB.lit _ _ [x] HX.out _ rfl) (by simp; omega) ?_; intro v6 w6 hown6 hT6 hG6)
    | (at_builtin; refine st_appB (ty := 5) (w0 := w0) (l := l ++ [x]) (m := b) rfl _ _ rfl rfl rfl hown6 hT6 (((HV.out.tch ((Tch.refl _ _).alloc _)).tch hG6).rdB) (by simp; omega) ?_; intro v7 w7 hown7 hT7)
    | (go_at_call 23; refine (afollow_any x _ hx256).mono ?_; rintro e w8 ⟨rfl, rfl⟩))
  go_ret2
  rw [List.append_assoc] at hown7
  exact asmpost_if HR.out hT7 hown7
theorem assemble_any (v : Value) (l T : List Nat) (w0 w : World) (hown : w.ownsRow w0.heap.size 5 1 v l.length (nb l)) (hT0 : Tch [] w0 w) (hT : ∀ x ∈ T, x < 256) (hm : T.length ≤ 300000) (hl : l.length ≤ 10000000) :
    Calls Try.prog 17 #[v, .string (strB T)] w (AsmPost w0 l T) := by
  cases ho : opF (word1 T) with
  | none => exact asm_none v l T w0 w hT0 hT hm ho
  | some x =>
    by_cases hw : (word1 T).length < T.length
    · cases hx : hexR (T.drop ((word1 T).length + 1)) with
      | none => exact asm_bad v l T x w0 w hT0 hT hm ho hw hx
      | some b =>
        by_cases hb : b = []
        · subst hb; exact asm_empty v l T x w0 w hT0 hT hm ho hw hx
        · by_cases hby : word1 T = byteW
          · exact asm_byte v l T b x w0 w hown hT0 hT hm hl ho hw hx hb hby
          · exact asm_push v l T b x w0 w hown hT0 hT hm hl ho hw hx hb hby
    · exact asm_bare v l T x w0 w hown hT0 hT hm hl ho hw
end Go.Proofs.Ytjbjjiibldlipaa
