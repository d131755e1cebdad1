/- Reading: what bytes are as an item, as plain mathematics; that it undoes the writing, and the writing it. -/
import Derived.Test.YtacnechjofnnjaaR11
namespace Go.Proofs.Ytacnechjofnnjaa
open Go.RowKit

/-- What bytes begin with: an item and what follows it, or an error. -/
abbrev Res (α : Type) := Except Nat α
def decL (f : List Nat → Res (It × List Nat)) : Nat → List Nat → Res (List It)
  | 0, l => if l = [] then .ok [] else .error 4
  | n + 1, l => if l = [] then .ok [] else match f l with
    | .error e => .error e
    | .ok (t, r) => match decL f n r with
      | .error e => .error e
      | .ok ts => .ok (t :: ts)
/-- j: how many lists may still be begun. -/
def dec : Nat → List Nat → Res (It × List Nat)
  | j, l => if 192 ≤ l.getD 0 0 ∧ j = 0 then .error 3 else match spl l with
    | none => .error 4
    | some (h, n) => if l.getD 0 0 < 192 then .ok (.str ((l.drop h).take n), l.drop (h + n)) else match j with
      | 0 => .error 3
      | j + 1 => match decL (dec j) n ((l.drop h).take n) with
        | .error e => .error e
        | .ok ts => .ok (.lst ts, l.drop (h + n))
theorem chk_some {c h n h' n' : Nat} {l : List Nat} (e : chk c l h n = some (h', n')) : h' = h ∧ n' = n ∧ n ≤ l.length - h ∧ ¬ (c = 129 ∧ l.getD h 0 < 128) := by
  unfold chk at e
  split at e
  · cases e
  · split at e
    · cases e
    · cases e; exact ⟨rfl, rfl, by omega, by assumption⟩
/-- What a head that holds says. -/
theorem spl_some {l : List Nat} {h n : Nat} (e : spl l = some (h, n)) : h + n ≤ l.length ∧ 0 < h + n := by
  cases l with
  | nil => cases e
  | cons c r =>
    rw [spl_cons] at e
    split at e
    · cases e; simp
    · split at e
      · obtain ⟨rfl, rfl, h3, _⟩ := chk_some e
        simp at *; omega
      · split at e
        · rename_i hk
          obtain ⟨rfl, rfl, h3, _⟩ := chk_some e
          unfold lenOk at hk
          simp only [Bool.and_eq_true, decide_eq_true_eq] at hk
          simp at *; omega
        · cases e
theorem be_val (l : List Nat) (h : ∀ x ∈ l, x < 256) (h0 : l.getD 0 0 ≠ 0) : be (val l) = l := by
  induction hl : l.length generalizing l with
  | zero => have : l = [] := List.eq_nil_of_length_eq_zero hl; subst this; simp at h0
  | succ n ih =>
    have hne : l ≠ [] := by intro e; subst e; simp at hl
    obtain ⟨q, x, rfl⟩ : ∃ q x, l = q ++ [x] := ⟨l.dropLast, l.getLast hne, (List.dropLast_concat_getLast hne).symm⟩
    have hx : x < 256 := h x (by simp)
    rw [val_snoc]
    by_cases hq : q = []
    · subst hq
      have hx0 : x ≠ 0 := by simpa using h0
      have e : val [] * 256 + x = x := by simp [val]
      rw [e, be_pos (by omega), show x / 256 = 0 by omega, be_zero, Nat.mod_eq_of_lt hx]
    · have hq0 : q.getD 0 0 ≠ 0 := by
        cases q with
        | nil => exact absurd rfl hq
        | cons a s => simpa using h0
      have hv : 0 < val q := by
        rcases Nat.eq_zero_or_pos (val q) with h1 | h1
        · have := ih q (fun y hy => h y (by simp [hy])) hq0 (by simpa using hl)
          rw [h1, be_zero] at this
          exact absurd this.symm hq
        · exact h1
      rw [be_pos (by omega), show (val q * 256 + x) / 256 = val q by omega, show (val q * 256 + x) % 256 = x by omega, ih q (fun y hy => h y (by simp [hy])) hq0 (by simpa using hl)]
theorem val_be (n : Nat) : val (be n) = n := by
  induction n using Nat.strongRecOn with
  | _ n ih =>
    rcases Nat.eq_zero_or_pos n with h | h
    · subst h; rw [be_zero]; rfl
    · rw [be_pos h, val_snoc, ih _ (by omega)]; omega
theorem be_head {n : Nat} (h : 0 < n) : (be n).getD 0 0 ≠ 0 := by
  induction n using Nat.strongRecOn with
  | _ n ih =>
    rw [be_pos h]
    rcases Nat.eq_zero_or_pos (n / 256) with h1 | h1
    · rw [h1, be_zero]; simp; omega
    · have := ih (n / 256) (by omega) h1
      cases hb : be (n / 256) with
      | nil => rw [hb] at this; simp at this
      | cons a s => rw [hb] at this; simpa using this
/-- A head that holds is the head of just so many bytes. -/
theorem spl_head {l : List Nat} {h n : Nat} (hb : ∀ x ∈ l, x < 256) (e : spl l = some (h, n)) :
    (l.getD 0 0 < 128 ∧ h = 0 ∧ n = 1) ∨ (128 ≤ l.getD 0 0 ∧ l.getD 0 0 < 192 ∧ l.take h = hd 128 n ∧ single ((l.drop h).take n) = false) ∨ (192 ≤ l.getD 0 0 ∧ l.take h = hd 192 n) := by
  cases l with
  | nil => cases e
  | cons c r =>
    have hc : c < 256 := hb c List.mem_cons_self
    simp only [List.getD_cons_zero]
    rw [spl_cons] at e
    split at e
    · cases e; exact .inl ⟨by assumption, rfl, rfl⟩
    · right
      rename_i hc1
      have key : ∀ base, (base = 128 ∨ base = 192) → base ≤ c → c < base + 64 → (c :: r).take h = hd base n := by
        intro base hbase h1 h2
        have hcm : c % 64 = c - base := by omega
        split at e
        · obtain ⟨rfl, rfl, _, _⟩ := chk_some e
          unfold hd
          rw [if_pos (by assumption), hcm]
          simp; omega
        · split at e
          · rename_i hk
            obtain ⟨rfl, rfl, _, _⟩ := chk_some e
            unfold lenOk at hk
            simp only [Bool.and_eq_true, decide_eq_true_eq, bne_iff_ne] at hk
            obtain ⟨⟨⟨k1, k2⟩, k3⟩, k4⟩ := hk
            have hr0 : (r.take (c % 64 - 55)).getD 0 0 ≠ 0 := by
              rw [List.getD_eq_getElem?_getD, List.getElem?_take, if_pos (by omega), ← List.getD_eq_getElem?_getD]; exact k2
            have hbe := be_val (r.take (c % 64 - 55)) (fun x hx => hb x (List.mem_cons_of_mem _ (List.mem_of_mem_take hx))) hr0
            unfold hd
            rw [if_neg (by omega)]
            unfold lsz
            rw [hbe, List.length_take, Nat.min_eq_left k1, Nat.add_comm 1, List.take_succ_cons]
            congr 1; omega
          · cases e
      rcases Nat.lt_or_ge c 192 with h1 | h1
      · left
        refine ⟨by omega, h1, key 128 (.inl rfl) (by omega) (by omega), ?_⟩
        have hk : n ≤ (c :: r).length - h ∧ ¬ (c = 129 ∧ (c :: r).getD h 0 < 128) ∧ (n = 1 → c = 129) := by
          split at e
          · obtain ⟨rfl, rfl, k1, k2⟩ := chk_some e
            exact ⟨k1, k2, fun h => by omega⟩
          · split at e
            · rename_i hk
              obtain ⟨rfl, rfl, k1, k2⟩ := chk_some e
              unfold lenOk at hk
              simp only [Bool.and_eq_true, decide_eq_true_eq, bne_iff_ne] at hk
              exact ⟨k1, k2, fun h => by omega⟩
            · cases e
        obtain ⟨k1, k2, k3⟩ := hk
        unfold single
        split
        · rename_i x hx
          have hl := congrArg List.length hx
          simp only [List.length_take, List.length_drop, List.length_singleton] at hl
          have h129 := k3 (by omega)
          have hx0 : (c :: r).getD h 0 = x := by
            have e2 := congrArg (fun q => q.getD 0 0) hx
            simp only [List.getD_eq_getElem?_getD, List.getElem?_take, List.getElem?_drop] at e2
            rw [if_pos (by omega)] at e2
            rw [List.getD_eq_getElem?_getD]
            simpa using e2
          rw [hx0] at k2
          exact decide_eq_false (fun h => k2 ⟨h129, h⟩)
        · rfl
      · right
        exact ⟨h1, key 192 (.inr rfl) h1 (by omega)⟩
theorem split3 (l : List Nat) (h n : Nat) : l = l.take h ++ (l.drop h).take n ++ l.drop (h + n) := by
  rw [List.append_assoc, show l.drop (h + n) = (l.drop h).drop n by rw [List.drop_drop], List.take_append_drop, List.take_append_drop]
theorem encs_cons (x : It) (r : List It) : encs (x :: r) = enc x ++ encs r := by rw [encs]
/-- What was read has just the bytes that were read. -/
theorem decL_enc {f : List Nat → Res (It × List Nat)} (hf : ∀ l t r, (∀ x ∈ l, x < 256) → f l = .ok (t, r) → l = enc t ++ r) : ∀ (n : Nat) (l : List Nat) (ts : List It), (∀ x ∈ l, x < 256) → decL f n l = .ok ts → l = encs ts
  | 0, l, ts, hb, h => by
    unfold decL at h
    split at h
    · cases h; rename_i h; rw [h]; rw [encs]
    · cases h
  | n + 1, l, ts, hb, h => by
    unfold decL at h
    split at h
    · cases h; rename_i h; rw [h]; rw [encs]
    · split at h
      · cases h
      · rename_i t r hfl
        have h1 := hf l t r hb hfl
        split at h
        · cases h
        · rename_i ts' hts
          cases h
          have h2 := decL_enc hf n r ts' (fun x hx => hb x (by rw [h1]; simp [hx])) hts
          rw [encs_cons, ← h2]; exact h1
theorem dec_eq (j : Nat) (l : List Nat) : dec j l = if 192 ≤ l.getD 0 0 ∧ j = 0 then .error 3 else match spl l with
    | none => .error 4
    | some (h, n) => if l.getD 0 0 < 192 then .ok (.str ((l.drop h).take n), l.drop (h + n)) else match j with
      | 0 => .error 3
      | j + 1 => match decL (dec j) n ((l.drop h).take n) with
        | .error e => .error e
        | .ok ts => .ok (.lst ts, l.drop (h + n)) := by cases j <;> rw [dec]
theorem dec_enc : ∀ (j : Nat) (l : List Nat) (t : It) (r : List Nat), (∀ x ∈ l, x < 256) → dec j l = .ok (t, r) → l = enc t ++ r
  | j, l, t, r, hb, h => by
    rw [dec_eq] at h
    split at h
    · cases h
    · split at h
      · cases h
      · rename_i hh nn hs
        have hsp := split3 l hh nn
        have hhd := spl_head hb hs
        have hle := spl_some hs
        have hlen : ((l.drop hh).take nn).length = nn := by rw [List.length_take, List.length_drop]; omega
        split at h
        · cases h
          rename_i hlt
          rw [enc_str]
          unfold encS
          rcases hhd with ⟨h1, rfl, rfl⟩ | ⟨h1, h2, h3, h4⟩ | ⟨h1, _⟩
          · have h5 : single ((l.drop 0).take 1) = true := by
              cases l with
              | nil => simp at hle
              | cons c q => simpa [single] using h1
            rw [if_pos h5]
            simpa using hsp
          · rw [if_neg (by rw [h4]; decide), hlen, ← h3]
            exact hsp
          · omega
        · rename_i hge
          split at h
          · cases h
          · rename_i j' hjj
            split at h
            · cases h
            · rename_i ts hts
              cases h
              have h2 := decL_enc (dec_enc j') nn _ ts (fun x hx => hb x (List.mem_of_mem_drop (List.mem_of_mem_take hx))) hts
              rw [enc_lst, ← h2, hlen]
              rcases hhd with ⟨h1, _⟩ | ⟨_, h1, _⟩ | ⟨_, h3⟩
              · omega
              · omega
              · rw [← h3]; exact hsp
theorem hd_len (base n : Nat) : (hd base n).length = if n ≤ 55 then 1 else 1 + lsz n := by
  unfold hd; split
  · rfl
  · rw [List.length_cons]; unfold lsz; omega
/-- What comes of the head of so many bytes. -/
theorem spl_hd {base n : Nat} {body r : List Nat} (hbase : base = 128 ∨ base = 192) (hn : body.length = n) (hz : lsz n ≤ 4) (hno : base = 128 → single body = false) :
    spl (hd base n ++ (body ++ r)) = some ((hd base n).length, n) ∧ base ≤ (hd base n ++ (body ++ r)).getD 0 0 ∧ (hd base n ++ (body ++ r)).getD 0 0 < base + 64 := by
  by_cases h : n ≤ 55
  · have e : hd base n = [base + n] := by unfold hd; rw [if_pos h]
    rw [e]
    refine ⟨?_, by simp, by simp; omega⟩
    have em : (base + n) % 64 = n := by omega
    rw [List.singleton_append, spl_cons, if_neg (by omega), em, if_pos h]
    unfold chk
    rw [if_neg (by simp; omega)]
    by_cases h1 : base + n = 129
    · have hb : base = 128 := by omega
      have hn1 : n = 1 := by omega
      have hs := hno hb
      subst hb
      rw [if_neg]
      · rfl
      · rintro ⟨_, h2⟩
        match body, hn, hs with
        | [x], _, hs => simp [single] at hs; simp at h2; omega
        | [], hn, _ => simp at hn; omega
        | _ :: _ :: _, hn, _ => simp at hn; omega
    · rw [if_neg (fun h2 => h1 h2.1)]; rfl
  · have e : hd base n = (base + 55 + lsz n) :: be n := by unfold hd; rw [if_neg h]
    have hl1 : 0 < lsz n := by unfold lsz; rw [be_pos (by omega)]; simp
    rw [e]
    refine ⟨?_, by simp; omega, by simp; omega⟩
    have em : (base + 55 + lsz n) % 64 - 55 = lsz n := by omega
    have em2 : ¬ (base + 55 + lsz n) % 64 ≤ 55 := by omega
    have hbl : (be n).length = lsz n := rfl
    have htake : (be n ++ (body ++ r)).take (lsz n) = be n := by rw [← hbl, List.take_left]
    have hok : lenOk (be n ++ (body ++ r)) (lsz n) = true := by
      unfold lenOk
      rw [htake, val_be]
      have h0 : (be n ++ (body ++ r)).getD 0 0 ≠ 0 := by
        have := be_head (n := n) (by omega)
        cases hb : be n with
        | nil => rw [hb] at this; simp at this
        | cons a s => rw [hb] at this; simpa using this
      simp only [Bool.and_eq_true, decide_eq_true_eq, bne_iff_ne]
      exact ⟨⟨⟨by simp [hbl], h0⟩, hz⟩, by omega⟩
    rw [List.cons_append, spl_cons, if_neg (by omega), if_neg em2, em, if_pos hok, htake, val_be]
    unfold chk
    rw [if_neg (by simp [hbl]; omega), if_neg (by omega)]
    simp [hbl]; omega
theorem single_cons {l : List Nat} (h : single l = true) : ∃ x, l = [x] ∧ x < 128 := by
  match l, h with
  | [x], h => exact ⟨x, rfl, by simpa [single] using h⟩
theorem lsz_mono {n m : Nat} (h : n ≤ m) : lsz n ≤ lsz m := by
  induction m using Nat.strongRecOn generalizing n with
  | _ m ih =>
    rcases Nat.eq_zero_or_pos n with h0 | h0
    · subst h0; unfold lsz; rw [be_zero]; simp
    · have h1 := ih (m / 256) (by omega) (n := n / 256) (Nat.div_le_div_right h)
      unfold lsz at *
      rw [be_pos h0, be_pos (show 0 < m by omega), List.length_append, List.length_append]
      simp; omega
theorem enc_len_lst (l : List It) : (encs l).length ≤ (enc (.lst l)).length := by rw [enc_lst, List.length_append]; omega
theorem decL_go {f : List Nat → Res (It × List Nat)} (j : Nat) (hf : ∀ t r, (enc t).length ≤ 16777216 → f (enc t ++ r) = if dep t ≤ j then .ok (t, r) else .error 3) : ∀ (ts : List It) (n : Nat), (encs ts).length ≤ n → (encs ts).length ≤ 16777216 → decL f n (encs ts) = if deps ts ≤ j then .ok ts else .error 3
  | [], n, _, _ => by
    rw [show encs [] = [] by rw [encs], show deps [] = 0 by rw [deps], if_pos (Nat.zero_le _)]
    cases n <;> (unfold decL; rw [if_pos rfl])
  | t :: ts, 0, h, _ => by
    rw [encs_cons, List.length_append] at h
    have := enc_pos t
    omega
  | t :: ts, n + 1, h, h16 => by
    rw [encs_cons, List.length_append] at h h16
    have hp := enc_pos t
    unfold decL
    rw [encs_cons, if_neg (by intro e; have := congrArg List.length e; rw [List.length_append, List.length_nil] at this; omega), hf t (encs ts) (by omega), show deps (t :: ts) = max (dep t) (deps ts) by rw [deps]]
    by_cases h1 : dep t ≤ j
    · rw [if_pos h1]
      simp only []
      rw [decL_go j hf ts n (by omega) (by omega)]
      by_cases h2 : deps ts ≤ j
      · rw [if_pos h2, if_pos (by omega)]
      · rw [if_neg h2, if_neg (by omega)]
    · rw [if_neg h1, if_neg (by omega)]
/-- An item's bytes are read as it. -/
theorem enc_dec : ∀ (j : Nat) (t : It) (r : List Nat), (enc t).length ≤ 16777216 → dec j (enc t ++ r) = if dep t ≤ j then .ok (t, r) else .error 3
  | j, .str l, r, h => by
    rw [show dep (.str l) = 0 by rw [dep], if_pos (Nat.zero_le _), dec_eq, enc_str]
    rw [enc_str] at h
    unfold encS at h ⊢
    by_cases hs : single l = true
    · obtain ⟨x, rfl, hx⟩ := single_cons hs
      rw [if_pos hs]
      have e : spl ([x] ++ r) = some (0, 1) := by rw [List.singleton_append, spl_cons, if_pos hx]
      rw [e, if_neg (by simp; omega)]
      simp only []
      rw [if_pos (by simp; omega)]; simp
    · rw [if_neg hs] at h ⊢
      rw [List.length_append] at h
      have hz : lsz l.length ≤ 4 := Nat.le_trans (lsz_mono (show l.length ≤ 16777216 by omega)) (by unfold lsz; decide +kernel)
      obtain ⟨h1, h2, h3⟩ := spl_hd (base := 128) (r := r) (.inl rfl) rfl hz (fun _ => by simpa using hs)
      rw [List.append_assoc, h1, if_neg (by omega)]
      simp only []
      rw [if_pos (by omega)]
      simp [← List.drop_drop]
  | j, .lst ts, r, h => by
    rw [show dep (.lst ts) = deps ts + 1 by rw [dep], dec_eq, enc_lst]
    rw [enc_lst, List.length_append] at h
    have hz : lsz (encs ts).length ≤ 4 := Nat.le_trans (lsz_mono (show (encs ts).length ≤ 16777216 by omega)) (by unfold lsz; decide +kernel)
    obtain ⟨h1, h2, h3⟩ := spl_hd (base := 192) (r := r) (.inr rfl) rfl hz (fun h => by omega)
    rw [List.append_assoc, h1]
    cases j with
    | zero => rw [if_pos ⟨h2, rfl⟩, if_neg (by omega)]
    | succ j =>
      rw [if_neg (by omega)]
      simp only []
      rw [if_neg (by omega)]
      have hd1 : (hd 192 (encs ts).length ++ (encs ts ++ r)).drop (hd 192 (encs ts).length).length = encs ts ++ r := by simp
      have hd2 : (hd 192 (encs ts).length ++ (encs ts ++ r)).drop ((hd 192 (encs ts).length).length + (encs ts).length) = r := by rw [← List.drop_drop, hd1]; simp
      rw [hd1, hd2, show (encs ts ++ r).take (encs ts).length = encs ts by simp, decL_go j (fun t r => enc_dec j t r) ts _ (Nat.le_refl _) (by omega)]
      by_cases hj : deps ts ≤ j
      · rw [if_pos hj, if_pos (by omega)]
      · rw [if_neg hj, if_neg (by omega)]
/-- What is read, of which nothing is left, or why there is none. -/
def rd (l : List Nat) : Res It := if 16777216 < l.length then .error 3 else match dec 32 l with
  | .error e => .error e
  | .ok (t, r) => if r = [] then .ok t else .error 4
theorem rd_enc {l : List Nat} {t : It} (hb : ∀ x ∈ l, x < 256) (h : rd l = .ok t) : l = enc t := by
  unfold rd at h
  split at h
  · cases h
  · split at h
    · cases h
    · rename_i t' r hd
      have := dec_enc 32 l t' r hb hd
      split at h
      · rename_i hr; cases h; rw [hr, List.append_nil] at this; exact this
      · cases h
theorem enc_rd {t : It} (h : (enc t).length ≤ 16777216) : rd (enc t) = if dep t ≤ 32 then .ok t else .error 3 := by
  unfold rd
  rw [if_neg (by omega)]
  have := enc_dec 32 t [] h
  rw [List.append_nil] at this
  rw [this]
  by_cases hd : dep t ≤ 32
  · rw [if_pos hd, if_pos hd]; simp
  · rw [if_neg hd, if_neg hd]
def app (ts : List It) : Res (List It) → Res (List It)
  | .error e => .error e
  | .ok us => .ok (ts ++ us)
theorem app_app (a b : List It) (r : Res (List It)) : app a (app b r) = app (a ++ b) r := by
  cases r with
  | error e => rfl
  | ok u => simp [app]
theorem decL_nil (f : List Nat → Res (It × List Nat)) (n : Nat) : decL f n [] = .ok [] := by cases n <;> (unfold decL; rw [if_pos rfl])
theorem decL_ok {f : List Nat → Res (It × List Nat)} {n : Nat} {l r : List Nat} {t : It} (hl : l ≠ []) (h : f l = .ok (t, r)) : decL f (n + 1) l = app [t] (decL f n r) := by
  rw [decL, if_neg hl, h]
  simp only []
  cases decL f n r <;> rfl
theorem decL_err {f : List Nat → Res (It × List Nat)} {n : Nat} {l : List Nat} {e : Nat} (hl : l ≠ []) (h : f l = .error e) : decL f (n + 1) l = .error e := by
  rw [decL, if_neg hl, h]
theorem dec_rest {j : Nat} {l r : List Nat} {t : It} (h : dec j l = .ok (t, r)) : ∃ h n, spl l = some (h, n) ∧ r = l.drop (h + n) ∧ r.length < l.length := by
  rw [dec_eq] at h
  split at h
  · cases h
  · split at h
    · cases h
    · rename_i hh nn hs
      have hle := spl_some hs
      refine ⟨hh, nn, hs, ?_⟩
      split at h
      · cases h; exact ⟨rfl, by rw [List.length_drop]; omega⟩
      · split at h
        · cases h
        · split at h
          · cases h
          · cases h; exact ⟨rfl, by rw [List.length_drop]; omega⟩
mutual
/-- Are two items one? -/
def eqI : It → It → Bool
  | .str a, .str b => a == b
  | .lst a, .lst b => eqL a b
  | .str _, .lst _ => false
  | .lst _, .str _ => false
def eqL : List It → List It → Bool
  | [], [] => true
  | x :: r, y :: s => eqI x y && eqL r s
  | [], _ :: _ => false
  | _ :: _, [] => false
end
mutual
theorem eqI_iff : ∀ a b, eqI a b = true ↔ a = b
  | .str a, .str b => by rw [eqI]; simp
  | .lst a, .lst b => by rw [eqI, eqL_iff a b]; simp
  | .str _, .lst _ => by rw [eqI]; simp
  | .lst _, .str _ => by rw [eqI]; simp
theorem eqL_iff : ∀ a b, eqL a b = true ↔ a = b
  | [], [] => by rw [eqL]; simp
  | x :: r, y :: s => by rw [eqL, Bool.and_eq_true, eqI_iff x y, eqL_iff r s]; simp
  | [], _ :: _ => by rw [eqL]; simp
  | _ :: _, [] => by rw [eqL]; simp
end
theorem eqI_self (a : It) : eqI a a = true := (eqI_iff a a).2 rfl
theorem eqI_ne {a b : It} (h : a ≠ b) : eqI a b = false := by
  cases hq : eqI a b with
  | false => rfl
  | true => exact absurd ((eqI_iff a b).1 hq) h
end Go.Proofs.Ytacnechjofnnjaa
