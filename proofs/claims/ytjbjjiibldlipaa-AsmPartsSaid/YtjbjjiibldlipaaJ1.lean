/- Codes as lines: mathematics (what a line is, what a text of lines is as a code). -/
import Derived.Test.YtjbjjiibldlipaaO15
import Derived.Test.YtjbjjiibldlipaaH8
namespace Go.Proofs.Ytjbjjiibldlipaa
open Go.RowKit

/-- How many bytes belong to an instruction. -/
def ownN (x : Nat) : Nat := if 96 ≤ x ∧ x < 128 then x - 95 else 0
theorem ownN_le (x : Nat) : ownN x ≤ 32 := by unfold ownN; split <;> omega
/-- The text of bytes, as bytes. -/
def txtN (L : List Nat) : List Nat := (txt L).map UInt8.toNat
theorem map_ofNat (l : List UInt8) : (l.map UInt8.toNat).map UInt8.ofNat = l := by simp [List.map_map, Function.comp_def]
theorem strB_txtN (L : List Nat) : strB (txtN L) = ⟨(txt L).toArray⟩ := by unfold strB txtN; rw [map_ofNat]
theorem txtN_length (L : List Nat) : (txtN L).length = 2 + 2 * L.length := by unfold txtN; rw [List.length_map, txt_length]
theorem txtN_lt (L : List Nat) : ∀ x ∈ txtN L, x < 256 := by
  intro x hx
  obtain ⟨u, _, rfl⟩ := List.mem_map.1 hx
  exact u.toNat_lt
theorem strB_data (L : List Nat) : (strB L).data.toList = L.map UInt8.ofNat := by simp [strB]
/-- What a text is as bytes. -/
def hexR (T : List Nat) : Option (List Nat) := if rdOk (strB T) = true then some (prs ((T.map UInt8.ofNat).drop 2) ((T.length - 2) / 2)) else none
theorem hexR_lt {T b : List Nat} (h : hexR T = some b) : ∀ x ∈ b, x < 256 := by
  unfold hexR at h; split at h
  · cases h; exact prs_lt _ _
  · cases h
theorem hexR_len {T b : List Nat} (h : hexR T = some b) : b.length ≤ T.length := by
  unfold hexR at h; split at h
  · cases h; rw [prs_length]; omega
  · cases h
theorem rdOk_txt (L : List Nat) (h : ∀ x ∈ L, x < 256) : rdOk (strB (txtN L)) = true := by
  have e : (strB (txtN L)).data.toList = 48 :: 120 :: hexOf L := by rw [strB_txtN]; simp [txt]
  refine is_ok ?_ ?_ ?_
  · unfold px; rw [e]; rfl
  · rw [strB_size, txtN_length]; omega
  · rw [e]; exact allHex_hexOf L h
theorem hexR_txt (L : List Nat) (h : ∀ x ∈ L, x < 256) : hexR (txtN L) = some L := by
  unfold hexR
  rw [if_pos (rdOk_txt L h)]
  have e : (txtN L).map UInt8.ofNat = 48 :: 120 :: hexOf L := by unfold txtN; rw [map_ofNat]; rfl
  rw [e, txtN_length]
  show some (prs (hexOf L) ((2 + 2 * L.length - 2) / 2)) = some L
  rw [show (2 + 2 * L.length - 2) / 2 = L.length by omega, prs_hexOf L h]
def byteW : List Nat := [66, 89, 84, 69]
/-- The line of the instruction with which a code begins, without its end, and for how many bytes it stands. -/
def lineN : List Nat → List Nat × Nat
  | [] => ([], 1)
  | x :: r => if nm x = [] ∨ r.length < ownN x then (byteW ++ 32 :: txtN [x], 1) else if ownN x = 0 then (nm x, 1) else (nm x ++ 32 :: txtN (r.take (ownN x)), 1 + ownN x)
theorem lineN_cons (x : Nat) (r : List Nat) : lineN (x :: r) = if nm x = [] ∨ r.length < ownN x then (byteW ++ 32 :: txtN [x], 1) else if ownN x = 0 then (nm x, 1) else (nm x ++ 32 :: txtN (r.take (ownN x)), 1 + ownN x) := rfl
theorem lineN_pos (L : List Nat) : 1 ≤ (lineN L).2 := by
  cases L with
  | nil => exact Nat.le_refl 1
  | cons x r => rw [lineN_cons]; split; exact Nat.le_refl 1; split; exact Nat.le_refl 1; exact Nat.le_add_right 1 _
theorem lineN_le (x : Nat) (r : List Nat) : (lineN (x :: r)).2 ≤ r.length + 1 := by
  rw [lineN_cons]; split
  · exact Nat.le_add_left 1 _
  · rename_i h; split
    · exact Nat.le_add_left 1 _
    · show 1 + ownN x ≤ r.length + 1
      have : ¬ r.length < ownN x := fun h' => h (.inr h')
      omega
/-- The text of a code. -/
def prtN : Nat → List Nat → List Nat
  | 0, _ => []
  | _ + 1, [] => []
  | n + 1, x :: r => (lineN (x :: r)).1 ++ 10 :: prtN n ((x :: r).drop (lineN (x :: r)).2)
theorem prtN_cons (n x : Nat) (r : List Nat) : prtN (n + 1) (x :: r) = (lineN (x :: r)).1 ++ 10 :: prtN n ((x :: r).drop (lineN (x :: r)).2) := rfl
def prt (L : List Nat) : List Nat := prtN L.length L
theorem prtN_nil (n : Nat) : prtN n [] = [] := by cases n <;> rfl
theorem prtN_fuel : ∀ (n m : Nat) (L : List Nat), L.length ≤ n → L.length ≤ m → prtN n L = prtN m L
  | n, m, [], _, _ => by rw [prtN_nil, prtN_nil]
  | 0, _, _ :: _, h, _ => by simp at h
  | _, 0, _ :: _, _, h => by simp at h
  | n + 1, m + 1, x :: r, hn, hm => by
    have hp := lineN_pos (x :: r)
    rw [prtN_cons, prtN_cons]
    rw [prtN_fuel n m _ (by rw [List.length_drop]; simp at hn ⊢; omega) (by rw [List.length_drop]; simp at hm ⊢; omega)]
theorem prt_nil : prt [] = [] := rfl
theorem prt_cons (x : Nat) (r : List Nat) : prt (x :: r) = (lineN (x :: r)).1 ++ 10 :: prt ((x :: r).drop (lineN (x :: r)).2) := by
  have hp := lineN_pos (x :: r)
  unfold prt
  rw [show (x :: r).length = r.length + 1 from rfl]
  show (lineN (x :: r)).1 ++ 10 :: prtN r.length ((x :: r).drop (lineN (x :: r)).2) = _
  rw [prtN_fuel r.length _ _ (by rw [List.length_drop]; simp; omega) (Nat.le_refl _)]
theorem lineN_lt (L : List Nat) (hL : ∀ x ∈ L, x < 256) : ∀ y ∈ (lineN L).1, y < 256 := by
  cases L with
  | nil => intro y hy; cases hy
  | cons x r =>
    have hx := hL x List.mem_cons_self
    intro y hy
    rw [lineN_cons] at hy
    split at hy
    · rcases List.mem_append.1 hy with h | h
      · exact (by decide : ∀ z ∈ byteW, z < 256) y h
      · rcases List.mem_cons.1 h with rfl | h
        · decide
        · exact txtN_lt _ y h
    · split at hy
      · exact nm_lt ⟨x, hx⟩ y hy
      · rcases List.mem_append.1 hy with h | h
        · exact nm_lt ⟨x, hx⟩ y h
        · rcases List.mem_cons.1 h with rfl | h
          · decide
          · exact txtN_lt _ y h
theorem prtN_lt : ∀ (n : Nat) (L : List Nat), (∀ x ∈ L, x < 256) → ∀ y ∈ prtN n L, y < 256
  | 0, _, _ => fun y hy => by cases hy
  | _ + 1, [], _ => fun y hy => by cases hy
  | n + 1, x :: r, h => fun y hy => by
    rw [prtN_cons] at hy
    rcases List.mem_append.1 hy with hy | hy
    · exact lineN_lt _ h y hy
    · rcases List.mem_cons.1 hy with rfl | hy
      · decide
      · exact prtN_lt n _ (fun z hz => h z (List.mem_of_mem_drop hz)) y hy
theorem prt_lt (L : List Nat) (h : ∀ x ∈ L, x < 256) : ∀ y ∈ prt L, y < 256 := prtN_lt _ L h
theorem nm_short : ∀ x : Fin 256, (nm x.val).length ≤ 14 ∧ (ownN x.val ≠ 0 → (nm x.val).length ≤ 6) := by decide +kernel
theorem lineN_len (x : Nat) (r : List Nat) (hx : x < 256) : (lineN (x :: r)).1.length + 1 ≤ 15 * (lineN (x :: r)).2 := by
  have h1 := nm_short ⟨x, hx⟩
  rw [lineN_cons]; split
  · simp [byteW, txtN_length]
  · rename_i h
    have hn : ¬ r.length < ownN x := fun h' => h (.inr h')
    split
    · show (nm x).length + 1 ≤ 15 * 1; have := h1.1; simp only at this; omega
    · rename_i h0
      have := h1.2 h0; simp only at this
      show (nm x ++ 32 :: txtN (r.take (ownN x))).length + 1 ≤ 15 * (1 + ownN x)
      rw [List.length_append, List.length_cons, txtN_length, List.length_take]; omega
theorem prtN_len : ∀ (n : Nat) (L : List Nat), (∀ x ∈ L, x < 256) → (prtN n L).length ≤ 15 * L.length
  | 0, _, _ => Nat.zero_le _
  | _ + 1, [], _ => Nat.zero_le _
  | n + 1, x :: r, h => by
    have h1 := lineN_len x r (h x List.mem_cons_self)
    have h2 := lineN_le x r
    have h3 := prtN_len n ((x :: r).drop (lineN (x :: r)).2) (fun z hz => h z (List.mem_of_mem_drop hz))
    rw [List.length_drop, List.length_cons] at h3
    rw [prtN_cons]
    rw [List.length_append, List.length_cons, List.length_cons]; omega
theorem prt_len (L : List Nat) (h : ∀ x ∈ L, x < 256) : (prt L).length ≤ 15 * L.length := prtN_len _ L h
/-- What a line is as a code. -/
def rdLn (T : List Nat) : Option (List Nat) :=
  let N := T.takeWhile (· != 32)
  if N.length < T.length then
    match hexR (T.drop (N.length + 1)) with
    | none => none
    | some b => if N = byteW then (if b.length = 1 then some b else none) else
      match opF N with
      | none => none
      | some x => if b.length = ownN x ∧ 0 < ownN x then some (x :: b) else none
  else match opF N with
    | none => none
    | some x => if ownN x = 0 then some [x] else none
/-- What lines are as a code: what is left, the line so far, the code so far, the line's number. -/
def rdGo : List Nat → List Nat → List Nat → Nat → List Nat × Nat × Nat
  | [], cur, out, n => if cur = [] then (out, 0, 0) else ([], n, 2)
  | c :: s, cur, out, n => if c = 10 then (match rdLn cur with | none => ([], n, 2) | some b => rdGo s [] (out ++ b) (n + 1)) else rdGo s (cur ++ [c]) out n
theorem rdGo_cons (c : Nat) (s cur out : List Nat) (n : Nat) : rdGo (c :: s) cur out n = if c = 10 then (match rdLn cur with | none => ([], n, 2) | some b => rdGo s [] (out ++ b) (n + 1)) else rdGo s (cur ++ [c]) out n := rfl
def rdA (T : List Nat) : List Nat × Nat × Nat := if 262144 < T.length then ([], 0, 3) else rdGo T [] [] 1
theorem rdGo_more : ∀ (m s cur out : List Nat) (n : Nat), 10 ∉ m → rdGo (m ++ s) cur out n = rdGo s (cur ++ m) out n
  | [], s, cur, out, n, _ => by rw [List.append_nil]; rfl
  | c :: m, s, cur, out, n, h => by
    have hc : c ≠ 10 := fun e => h (by rw [e]; exact List.mem_cons_self)
    show rdGo (c :: (m ++ s)) cur out n = _
    rw [rdGo_cons, if_neg hc, rdGo_more m s (cur ++ [c]) out n (fun hm => h (List.mem_cons_of_mem _ hm)), List.append_assoc]; rfl
theorem rdGo_line {m s out : List Nat} {n : Nat} (h : 10 ∉ m) {b : List Nat} (hb : rdLn m = some b) : rdGo (m ++ 10 :: s) [] out n = rdGo s [] (out ++ b) (n + 1) := by
  rw [rdGo_more m _ [] out n h, List.nil_append]
  show (if (10 : Nat) = 10 then _ else _) = _
  rw [if_pos rfl, hb]
theorem takeWhile_all {p : Nat → Bool} : ∀ (l : List Nat), (∀ x ∈ l, p x = true) → l.takeWhile p = l
  | [], _ => rfl
  | x :: l, h => by rw [List.takeWhile_cons, if_pos (h x List.mem_cons_self), takeWhile_all l fun y hy => h y (List.mem_cons_of_mem _ hy)]
theorem takeWhile_stop {p : Nat → Bool} (c : Nat) (hc : p c = false) (s : List Nat) : ∀ (l : List Nat), (∀ x ∈ l, p x = true) → (l ++ c :: s).takeWhile p = l
  | [], _ => by rw [List.nil_append, List.takeWhile_cons, if_neg (by rw [hc]; decide)]
  | x :: l, h => by rw [List.cons_append, List.takeWhile_cons, if_pos (h x List.mem_cons_self), takeWhile_stop c hc s l fun y hy => h y (List.mem_cons_of_mem _ hy)]
theorem nm_no : ∀ x : Fin 256, (∀ y ∈ nm x.val, y ≠ 32 ∧ y ≠ 10) ∧ (nm x.val = byteW → ownN x.val = 0) := by decide +kernel
theorem rdLn_bare (N : List Nat) (h : ∀ y ∈ N, y ≠ 32) : rdLn N = match opF N with | none => none | some x => if ownN x = 0 then some [x] else none := by
  have e : N.takeWhile (· != 32) = N := takeWhile_all N fun y hy => by simpa using h y hy
  unfold rdLn
  simp only [e]
  rw [if_neg (by omega)]
theorem rdLn_tail (N s : List Nat) (h : ∀ y ∈ N, y ≠ 32) : rdLn (N ++ 32 :: s) = match hexR s with
    | none => none
    | some b => if N = byteW then (if b.length = 1 then some b else none) else
      match opF N with
      | none => none
      | some x => if b.length = ownN x ∧ 0 < ownN x then some (x :: b) else none := by
  have e : (N ++ 32 :: s).takeWhile (· != 32) = N := takeWhile_stop 32 rfl s N fun y hy => by simpa using h y hy
  have e2 : (N ++ 32 :: s).drop (N.length + 1) = s := by rw [List.drop_append]; simp
  unfold rdLn
  simp only [e, e2]
  rw [if_pos (by rw [List.length_append, List.length_cons]; omega)]
/-- A line as it is printed is read as what it stands for. -/
theorem rdLn_line (x : Nat) (r : List Nat) (h : ∀ y ∈ x :: r, y < 256) : rdLn (lineN (x :: r)).1 = some ((x :: r).take (lineN (x :: r)).2) := by
  have hx := h x List.mem_cons_self
  have hn := nm_no ⟨x, hx⟩
  rw [lineN_cons]; split
  · show rdLn (byteW ++ 32 :: txtN [x]) = some [x]
    rw [rdLn_tail byteW (txtN [x]) (by decide), hexR_txt [x] (fun y hy => by rw [List.mem_singleton.1 hy]; exact hx)]
    simp
  · rename_i h0
    have h1 : nm x ≠ [] := fun e => h0 (.inl e)
    have hr : ¬ r.length < ownN x := fun e => h0 (.inr e)
    have ho := opF_some hx h1 rfl
    split
    · rename_i h2
      show rdLn (nm x) = some [x]
      rw [rdLn_bare (nm x) (fun y hy => (hn.1 y hy).1), ho]
      simp [h2]
    · rename_i h2
      show rdLn (nm x ++ 32 :: txtN (r.take (ownN x))) = some ((x :: r).take (1 + ownN x))
      rw [rdLn_tail (nm x) _ (fun y hy => (hn.1 y hy).1), hexR_txt _ (fun y hy => h y (List.mem_cons_of_mem _ (List.mem_of_mem_take hy)))]
      have hb : nm x ≠ byteW := fun e => h2 (hn.2 e)
      have hl : (r.take (ownN x)).length = ownN x := by rw [List.length_take]; omega
      simp only [if_neg hb, ho, hl]
      rw [if_pos ⟨trivial, by omega⟩, Nat.add_comm 1, List.take_succ_cons]
theorem lineN_no10 (x : Nat) (r : List Nat) (h : ∀ y ∈ x :: r, y < 256) : 10 ∉ (lineN (x :: r)).1 := by
  have hx := h x List.mem_cons_self
  have hn := nm_no ⟨x, hx⟩
  have ht : ∀ L : List Nat, (∀ y ∈ L, y < 256) → 10 ∉ txtN L := by
    intro L hL hm
    unfold txtN txt at hm
    rw [List.map_cons, List.map_cons] at hm
    rcases List.mem_cons.1 hm with e | hm
    · exact absurd e (by decide)
    rcases List.mem_cons.1 hm with e | hm
    · exact absurd e (by decide)
    obtain ⟨u, hu, e⟩ := List.mem_map.1 hm
    have := (List.all_eq_true.1 (allHex_hexOf L hL)) u hu
    unfold isHex at this
    rw [e] at this
    exact absurd this (by decide)
  rw [lineN_cons]; split
  · intro hm
    rcases List.mem_append.1 hm with hm | hm
    · exact absurd hm (by decide)
    · rcases List.mem_cons.1 hm with e | hm
      · exact absurd e (by decide)
      · exact ht [x] (fun y hy => by rw [List.mem_singleton.1 hy]; exact hx) hm
  · split
    · exact fun hm => (hn.1 10 hm).2 rfl
    · intro hm
      rcases List.mem_append.1 hm with hm | hm
      · exact (hn.1 10 hm).2 rfl
      · rcases List.mem_cons.1 hm with e | hm
        · exact absurd e (by decide)
        · exact ht _ (fun y hy => h y (List.mem_cons_of_mem _ (List.mem_of_mem_take hy))) hm
/-- What is printed is read as it was. -/
theorem rdGo_prtN : ∀ (k : Nat) (L s out : List Nat) (n : Nat), L.length ≤ k → (∀ x ∈ L, x < 256) → ∃ m, rdGo (prtN k L ++ s) [] out n = rdGo s [] (out ++ L) m
  | k, [], s, out, n, _, _ => ⟨n, by rw [prtN_nil, List.append_nil]; rfl⟩
  | 0, _ :: _, _, _, _, h, _ => by simp at h
  | k + 1, x :: r, s, out, n, hk, h => by
    have hp := lineN_pos (x :: r)
    obtain ⟨m, hm⟩ := rdGo_prtN k ((x :: r).drop (lineN (x :: r)).2) s (out ++ (x :: r).take (lineN (x :: r)).2) (n + 1) (by rw [List.length_drop]; simp at hk ⊢; omega) (fun z hz => h z (List.mem_of_mem_drop hz))
    refine ⟨m, ?_⟩
    rw [prtN_cons]
    rw [List.append_assoc, List.cons_append, rdGo_line (lineN_no10 x r h) (rdLn_line x r h), hm, List.append_assoc, List.take_append_drop]
theorem rdA_prt (L : List Nat) (h : ∀ x ∈ L, x < 256) (hl : (prt L).length ≤ 262144) : rdA (prt L) = (L, 0, 0) := by
  obtain ⟨m, hm⟩ := rdGo_prtN L.length L [] [] 1 (Nat.le_refl _) h
  rw [List.append_nil, List.nil_append] at hm
  unfold rdA
  rw [if_neg (by omega)]
  exact hm
/-- Behind 33 noughts what is printed begins anew. -/
theorem prt_zero (r : List Nat) : prt (0 :: r) = nm 0 ++ 10 :: prt r := by
  have e : lineN (0 :: r) = (nm 0, 1) := by
    rw [lineN_cons]
    rw [if_neg (by rw [show nm 0 = [83, 84, 79, 80] by decide +kernel, show ownN 0 = 0 from rfl]; simp), if_pos (by decide)]
  rw [prt_cons, e]; rfl
theorem prt_zeros : ∀ (k : Nat) (b : List Nat), prt (List.replicate k 0 ++ b) = prt (List.replicate k 0) ++ prt b
  | 0, b => rfl
  | k + 1, b => by
    rw [List.replicate_succ, List.cons_append, prt_zero, prt_zero, prt_zeros k b, List.append_assoc]; rfl
theorem lineN_more (x : Nat) (r s : List Nat) (h : ownN x ≤ r.length) : lineN (x :: (r ++ s)) = lineN (x :: r) := by
  rw [lineN_cons, lineN_cons, List.take_append_of_le_length h]
  by_cases h0 : nm x = []
  · rw [if_pos (.inl h0), if_pos (.inl h0)]
  · have c1 : ¬ (nm x = [] ∨ (r ++ s).length < ownN x) := fun e => e.elim h0 (fun e => by rw [List.length_append] at e; omega)
    have c2 : ¬ (nm x = [] ∨ r.length < ownN x) := fun e => e.elim h0 (fun e => by omega)
    rw [if_neg c1, if_neg c2]
theorem prt_parts : ∀ (n : Nat) (a : List Nat) (k : Nat) (b : List Nat), a.length ≤ n → 32 ≤ k ∨ a = [] → prt (a ++ List.replicate k 0 ++ b) = prt (a ++ List.replicate k 0) ++ prt b
  | _, [], k, b, _, _ => by rw [List.nil_append]; exact prt_zeros k b
  | 0, _ :: _, _, _, h, _ => by simp at h
  | n + 1, x :: r, k, b, hn, hk => by
    have hk : 32 ≤ k := hk.resolve_right (by simp)
    have ho := ownN_le x
    have hp := lineN_pos (x :: (r ++ List.replicate k 0))
    have hm := lineN_more x (r ++ List.replicate k 0) b (by rw [List.length_append, List.length_replicate]; omega)
    have hs : (lineN (x :: (r ++ List.replicate k 0))).2 ≤ 33 := by
      rw [lineN_cons]; split
      · exact Nat.le_add_left 1 32
      · split
        · exact Nat.le_add_left 1 32
        · show 1 + ownN x ≤ 33; omega
    have e0 : ∀ s, x :: r ++ List.replicate k 0 ++ s = x :: (r ++ List.replicate k 0 ++ s) := fun s => rfl
    rw [e0, List.cons_append, prt_cons, prt_cons, hm, List.append_assoc ((lineN (x :: (r ++ List.replicate k 0))).1), List.cons_append]
    congr 2
    generalize (lineN (x :: (r ++ List.replicate k 0))).2 = z at hp hs
    obtain ⟨y, rfl⟩ : ∃ y, z = y + 1 := ⟨z - 1, by omega⟩
    rw [List.drop_succ_cons, List.drop_succ_cons]
    by_cases hy : y ≤ r.length
    · rw [List.append_assoc, List.drop_append_of_le_length hy, List.drop_append_of_le_length hy, ← List.append_assoc]
      by_cases he : r.drop y = []
      · exact prt_parts n (r.drop y) k b (by rw [he]; exact Nat.zero_le _) (.inr he)
      · exact prt_parts n (r.drop y) k b (by rw [List.length_drop]; simp at hn; omega) (.inl hk)
    · have e : ∀ s : List Nat, (r ++ (List.replicate k 0 ++ s)).drop y = List.replicate (k - (y - r.length)) 0 ++ s := by
        intro s
        rw [List.drop_append, List.drop_eq_nil_of_le (by omega), List.nil_append, List.drop_append_of_le_length (by rw [List.length_replicate]; omega), List.drop_replicate]
      have e1 := e []
      rw [List.append_nil, List.append_nil] at e1
      rw [List.append_assoc, e b, e1]
      exact prt_zeros _ b
end Go.Proofs.Ytjbjjiibldlipaa
