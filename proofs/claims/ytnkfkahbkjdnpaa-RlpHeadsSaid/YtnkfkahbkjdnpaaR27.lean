/- The document's part: heads with a length of their own that don't hold. -/
import Derived.Test.YtnkfkahbkjdnpaaR26
namespace Go.Proofs.Ytnkfkahbkjdnpaa
open Go.RowKit

theorem fold_ge : ∀ (l : List Nat) (a : Nat), a * 256 ^ l.length ≤ l.foldl (fun a x => a * 256 + x) a
  | [], a => by simp
  | x :: r, a => by
    have h1 := fold_ge r (a * 256 + x)
    rw [List.foldl_cons, List.length_cons, Nat.pow_succ]
    refine Nat.le_trans ?_ h1
    calc a * (256 ^ r.length * 256) = (a * 256) * 256 ^ r.length := by rw [Nat.mul_assoc, Nat.mul_comm 256]
      _ ≤ (a * 256 + x) * 256 ^ r.length := Nat.mul_le_mul_right _ (by omega)
theorem val_ge {l : List Nat} {m : Nat} (h0 : l.getD 0 0 ≠ 0) (hm : 0 < m) (hl : m ≤ l.length) : 256 ^ (m - 1) ≤ val (l.take m) := by
  cases l with
  | nil => simp at h0
  | cons x r =>
    obtain ⟨q, rfl⟩ : ∃ q, m = q + 1 := ⟨m - 1, by omega⟩
    have hx : 1 ≤ x := by simp at h0; omega
    rw [List.take_succ_cons]
    unfold val
    rw [List.foldl_cons, Nat.zero_mul, Nat.zero_add]
    have h1 := fold_ge (r.take q) x
    rw [List.length_take, Nat.min_eq_left (by simp at hl; omega)] at h1
    exact Nat.le_trans (Nat.le_trans (Nat.le_of_eq (Nat.one_mul _).symm) (Nat.mul_le_mul_right _ hx)) h1
theorem val_take_lt {r : List Nat} {i : Nat} (hb : ∀ y ∈ r, y < 256) (hi : i ≤ 3) : val (r.take i) < 16777216 := by
  have h1 := val_lt (r.take i) (fun y hy => hb y (List.mem_of_mem_take hy))
  have h2 : (r.take i).length ≤ 3 := by rw [List.length_take]; omega
  have h3 : (256 : Nat) ^ (r.take i).length ≤ 256 ^ 3 := Nat.pow_le_pow_right (by omega) h2
  omega
theorem val_step {r : List Nat} {i : Nat} (hb : ∀ y ∈ r, y < 256) (hi : i < r.length) : val (r.take (i + 1)) = val (r.take i) * 256 + r.getD i 0 ∧ r.getD i 0 < 256 := by
  refine ⟨by rw [take_snoc' r i hi, val_snoc], ?_⟩
  have e : r.getD i 0 = r[i] := by rw [List.getD_eq_getElem?_getD, List.getElem?_eq_getElem hi]; rfl
  rw [e]; exact hb _ (List.getElem_mem _)
theorem or_byte2 (n x : Nat) (hx : x < 256) (hn : n ≤ 16777216) : bits BinOp.or IntKind.i64 ((n : Int) * 256) (x : Int) = ((n * 256 + x : Nat) : Int) := by
  have key : (BitVec.ofInt 64 ((n : Int) * 256) ||| BitVec.ofInt 64 (x : Int)).toNat = n * 256 + x := by
    rw [BitVec.toNat_or, BitVec.toNat_ofInt, BitVec.toNat_ofInt]
    have e1 : ((n : Int) * 256 % ((2 ^ 64 : Nat) : Int)).toNat = n <<< 8 := by rw [Nat.shiftLeft_eq]; omega
    have e2 : ((x : Int) % ((2 ^ 64 : Nat) : Int)).toNat = x := by omega
    rw [e1, e2, ← Nat.shiftLeft_add_eq_or_of_lt (show x < 2 ^ 8 by omega), Nat.shiftLeft_eq]
  show IntKind.i64.wrap ((BitVec.ofInt 64 ((n : Int) * 256) ||| BitVec.ofInt 64 (x : Int)).toNat : Nat) = _
  rw [key, IntKind.wrap_i64]
  omega
theorem long_none {x : Nat} {r : List Nat} {m : Nat} (hs : spl (x :: r) = none) (hx : 128 ≤ x) (h64 : 55 < x % 64) (hm : m = x % 64 - 55) (hl : m ≤ r.length) (h0 : r.getD 0 0 ≠ 0) (hv : 55 < val (r.take m)) (hr : r.length ≤ 16777216) : r.length - m < val (r.take m) := by
  by_cases h4 : m ≤ 4
  · have hk : lenOk r m = true := by
      unfold lenOk
      simp only [Bool.and_eq_true, decide_eq_true_eq, bne_iff_ne]
      exact ⟨⟨⟨hl, h0⟩, h4⟩, hv⟩
    rw [spl_cons, if_neg (by omega), if_neg (by omega), ← hm, if_pos hk] at hs
    unfold chk at hs
    by_cases h : (x :: r).length - (1 + m) < val (r.take m)
    · simp only [List.length_cons] at h; omega
    · rw [if_neg h, if_neg (by omega)] at hs; cases hs
  · have h1 := val_ge h0 (by omega) hl
    have h2 : (256 : Nat) ^ 4 ≤ 256 ^ (m - 1) := Nat.pow_le_pow_right (by omega) (by omega)
    omega
theorem long_some {x : Nat} {r : List Nat} {m h n : Nat} (hs : spl (x :: r) = some (h, n)) (hx : 128 ≤ x) (h64 : 55 < x % 64) (hm : m = x % 64 - 55) : m ≤ r.length ∧ r.getD 0 0 ≠ 0 ∧ m ≤ 4 ∧ 1 ≤ m ∧ n = val (r.take m) ∧ h = 1 + m ∧ 55 < n ∧ n ≤ r.length - m := by
  rw [spl_cons, if_neg (by omega), if_neg (by omega), ← hm] at hs
  split at hs
  · rename_i hk
    unfold lenOk at hk
    simp only [Bool.and_eq_true, decide_eq_true_eq, bne_iff_ne] at hk
    obtain ⟨rfl, rfl, h3, _⟩ := chk_some hs
    simp only [List.length_cons] at h3
    exact ⟨hk.1.1.1, hk.1.1.2, hk.1.2, by omega, rfl, rfl, hk.2, by omega⟩
  · cases hs
set_option maxHeartbeats 1000000 in
set_option maxRecDepth 100000 in
theorem part_long_missing (j : Nat) (v : Value) (x : Nat) (r : List Nat) (w : World) (hn : (x :: r).length ≤ 16777216) (hv : RdA [] w v (x :: r)) (hx : 128 ≤ x) (hg : ¬ (192 ≤ x ∧ j = 0)) (hs : spl (x :: r) = none) (h64 : 55 < x % 64) (hf : r.length < x % 64 - 55) : Calls Try.prog 25 #[v, .int .i64 (j : Int)] w (PartPost j (x :: r) w) := by
  obtain ⟨f0, f1, f2, hty, _⟩ := item_ty
  have hS := St.start w
  obtain ⟨p, n, c, rfl⟩ := slice_keep hv
  obtain ⟨p', c', hp, hcap, hb, h4⟩ := id hv
  have hxb := hb x List.mem_cons_self
  cases hp
  obtain ⟨b, o, rfl, hbw, _, h8⟩ := h4 (by simp)
  have hc0 := h8 0 (by simp)
  rw [Nat.add_zero] at hc0
  simp only [List.getD_cons_zero] at hc0
  have hdec : dec j (x :: r) = .error 4 := by rw [dec_eq, if_neg (by simpa using hg), hs]
  have HD := Lib.hid hdec
  have hx2 : ¬ (x : Int) < 128 := by omega
  have hxx : (192 ≤ x ∧ 0 < j) ∨ x < 192 := by
    rcases Nat.lt_or_ge x 192 with h | h
    · exact .inr h
    · exact .inl ⟨h, by rcases Nat.eq_zero_or_pos j with h0 | h0; exact absurd ⟨h, h0⟩ hg; exact h0⟩
  obtain ⟨N, hN⟩ : ∃ N, N = x % 64 := ⟨_, rfl⟩
  have hand := and63 x hxb
  rw [← hN] at hand
  have hk4 : ∀ w' : World, Tch [] w w' → w'.cell? ⟨b, o, none⟩ = some (.int .u8 (x : Int)) := fun w' hT => (hT.cell (p := ⟨b, o, none⟩) hbw (by simp)).trans hc0
  have HK := Lib.hid hk4
  obtain ⟨m, hm⟩ : ∃ m, m = x % 64 - 55 := ⟨_, rfl⟩
  have hlt55 : (55 : Int) < (N : Int) := by omega
  have hmN : (N : Int) - 55 = (m : Int) := by omega
  have hN64 : N < 64 := by omega
  have hm8 : m ≤ 8 := by omega
  have hshort : ((r.length + 1 : Nat) : Int) < 1 + (m : Int) := by omega
  have HM := Lib.hid hm
  clear hdec h8 h4 hv hb hk4 hc0 hs hg hN
  simp only [List.length_cons] at *
  clear hf h64 hm
  rcases hxx with ⟨hx3, hj⟩ | hx3
  · have hx4 : (192 : Int) ≤ x := by omega
    have hj0 : ((j : Int) == 0) = false := by rw [beq_eq_false_iff_ne]; omega
    have hj1 : ¬ (j : Int) = 0 := by omega
    clear hx3 hj
    go_enter Try.func25, Try.ntmps25
    go_wp2_with (first | (refine st_new (L := []) hS rfl 25 rfl item_zero ?_; clear hS; intro w4 b4 hS; have hc4 := HK.out w4 hS.frame) | (refine st_store (c' := #[.bool false, .slice none 0 0, .slice none 0 0]) hS rfl 25 _ _ rfl rfl rfl (by repeat (first | exact Upd.head | apply Upd.tail)) item_size (by rfl) (by rfl) (one3 rfl rfl rfl) ?_; clear hS; intro w5 hS))
    exact post_cell_two 4 5 6 25 rfl rfl rfl rfl rfl (hS.get .head) hty rfl item_size rfl (partpost_no HD.out rfl hS.frame)
  · have hx4 : ¬ (192 : Int) ≤ x := by omega
    clear hx3
    go_enter Try.func25, Try.ntmps25
    go_wp2_with (first | (refine st_new (L := []) hS rfl 25 rfl item_zero ?_; clear hS; intro w4 b4 hS; have hc4 := HK.out w4 hS.frame) | (refine st_store (c' := #[.bool false, .slice none 0 0, .slice none 0 0]) hS rfl 25 _ _ rfl rfl rfl (by repeat (first | exact Upd.head | apply Upd.tail)) item_size (by rfl) (by rfl) (one3 rfl rfl rfl) ?_; clear hS; intro w5 hS))
    exact post_cell_two 4 5 6 25 rfl rfl rfl rfl rfl (hS.get .head) hty rfl item_size rfl (partpost_no HD.out rfl hS.frame)
set_option maxHeartbeats 1000000 in
set_option maxRecDepth 100000 in
theorem part_long_nought (j : Nat) (v : Value) (x : Nat) (r : List Nat) (w : World) (hn : (x :: r).length ≤ 16777216) (hv : RdA [] w v (x :: r)) (hx : 128 ≤ x) (hg : ¬ (192 ≤ x ∧ j = 0)) (hs : spl (x :: r) = none) (h64 : 55 < x % 64) (hf : x % 64 - 55 ≤ r.length) (hy : r.getD 0 0 = 0) : Calls Try.prog 25 #[v, .int .i64 (j : Int)] w (PartPost j (x :: r) w) := by
  obtain ⟨f0, f1, f2, hty, _⟩ := item_ty
  have hS := St.start w
  obtain ⟨p, n, c, rfl⟩ := slice_keep hv
  obtain ⟨p', c', hp, hcap, hb, h4⟩ := id hv
  have hxb := hb x List.mem_cons_self
  cases hp
  obtain ⟨b, o, rfl, hbw, _, h8⟩ := h4 (by simp)
  have hc0 := h8 0 (by simp)
  rw [Nat.add_zero] at hc0
  simp only [List.getD_cons_zero] at hc0
  have hdec : dec j (x :: r) = .error 4 := by rw [dec_eq, if_neg (by simpa using hg), hs]
  have HD := Lib.hid hdec
  have hx2 : ¬ (x : Int) < 128 := by omega
  have hxx : (192 ≤ x ∧ 0 < j) ∨ x < 192 := by
    rcases Nat.lt_or_ge x 192 with h | h
    · exact .inr h
    · exact .inl ⟨h, by rcases Nat.eq_zero_or_pos j with h0 | h0; exact absurd ⟨h, h0⟩ hg; exact h0⟩
  obtain ⟨N, hN⟩ : ∃ N, N = x % 64 := ⟨_, rfl⟩
  have hand := and63 x hxb
  rw [← hN] at hand
  have hk4 : ∀ w' : World, Tch [] w w' → w'.cell? ⟨b, o, none⟩ = some (.int .u8 (x : Int)) := fun w' hT => (hT.cell (p := ⟨b, o, none⟩) hbw (by simp)).trans hc0
  have HK := Lib.hid hk4
  obtain ⟨m, hm⟩ : ∃ m, m = x % 64 - 55 := ⟨_, rfl⟩
  have hlt55 : (55 : Int) < (N : Int) := by omega
  have hmN : (N : Int) - 55 = (m : Int) := by omega
  have hN64 : N < 64 := by omega
  have hm8 : m ≤ 8 := by omega
  have hr1 : 1 ≤ r.length := by omega
  have hc1 := h8 1 (by simp; omega)
  simp only [List.getD_cons_succ] at hc1
  rw [hy] at hc1
  have hshort : ¬ ((r.length + 1 : Nat) : Int) < 1 + (m : Int) := by omega
  have hk5 : ∀ w' : World, Tch [] w w' → w'.cell? ⟨b, o + 1, none⟩ = some (.int .u8 0) := fun w' hT => (hT.cell (p := ⟨b, o + 1, none⟩) hbw (by simp)).trans hc1
  have HK5 := Lib.hid hk5
  have HM := Lib.hid hm
  clear hk5 hc1 hy
  clear hdec h8 h4 hv hb hk4 hc0 hs hg hN
  simp only [List.length_cons] at *
  clear hf h64 hm
  rcases hxx with ⟨hx3, hj⟩ | hx3
  · have hx4 : (192 : Int) ≤ x := by omega
    have hj0 : ((j : Int) == 0) = false := by rw [beq_eq_false_iff_ne]; omega
    have hj1 : ¬ (j : Int) = 0 := by omega
    clear hx3 hj
    go_enter Try.func25, Try.ntmps25
    go_wp2_with (first | (refine st_new (L := []) hS rfl 25 rfl item_zero ?_; clear hS; intro w4 b4 hS; have hc4 := HK.out w4 hS.frame; have hc5 := HK5.out w4 hS.frame) | (refine st_store (c' := #[.bool false, .slice none 0 0, .slice none 0 0]) hS rfl 25 _ _ rfl rfl rfl (by repeat (first | exact Upd.head | apply Upd.tail)) item_size (by rfl) (by rfl) (one3 rfl rfl rfl) ?_; clear hS; intro w5 hS))
    exact post_cell_two 4 5 6 25 rfl rfl rfl rfl rfl (hS.get .head) hty rfl item_size rfl (partpost_no HD.out rfl hS.frame)
  · have hx4 : ¬ (192 : Int) ≤ x := by omega
    clear hx3
    go_enter Try.func25, Try.ntmps25
    go_wp2_with (first | (refine st_new (L := []) hS rfl 25 rfl item_zero ?_; clear hS; intro w4 b4 hS; have hc4 := HK.out w4 hS.frame; have hc5 := HK5.out w4 hS.frame) | (refine st_store (c' := #[.bool false, .slice none 0 0, .slice none 0 0]) hS rfl 25 _ _ rfl rfl rfl (by repeat (first | exact Upd.head | apply Upd.tail)) item_size (by rfl) (by rfl) (one3 rfl rfl rfl) ?_; clear hS; intro w5 hS))
    exact post_cell_two 4 5 6 25 rfl rfl rfl rfl rfl (hS.get .head) hty rfl item_size rfl (partpost_no HD.out rfl hS.frame)
set_option maxHeartbeats 1000000 in
set_option maxRecDepth 100000 in
theorem part_long_no (j : Nat) (v : Value) (x : Nat) (r : List Nat) (w : World) (hn : (x :: r).length ≤ 16777216) (hv : RdA [] w v (x :: r)) (hx : 128 ≤ x) (hg : ¬ (192 ≤ x ∧ j = 0)) (hs : spl (x :: r) = none) (h64 : 55 < x % 64) (hf : x % 64 - 55 ≤ r.length) (hy : r.getD 0 0 ≠ 0) : Calls Try.prog 25 #[v, .int .i64 (j : Int)] w (PartPost j (x :: r) w) := by
  obtain ⟨f0, f1, f2, hty, _⟩ := item_ty
  have hS := St.start w
  obtain ⟨p, n, c, rfl⟩ := slice_keep hv
  obtain ⟨p', c', hp, hcap, hb, h4⟩ := id hv
  have hxb := hb x List.mem_cons_self
  cases hp
  obtain ⟨b, o, rfl, hbw, _, h8⟩ := h4 (by simp)
  have hc0 := h8 0 (by simp)
  rw [Nat.add_zero] at hc0
  simp only [List.getD_cons_zero] at hc0
  have hdec : dec j (x :: r) = .error 4 := by rw [dec_eq, if_neg (by simpa using hg), hs]
  have HD := Lib.hid hdec
  have hx2 : ¬ (x : Int) < 128 := by omega
  have hxx : (192 ≤ x ∧ 0 < j) ∨ x < 192 := by
    rcases Nat.lt_or_ge x 192 with h | h
    · exact .inr h
    · exact .inl ⟨h, by rcases Nat.eq_zero_or_pos j with h0 | h0; exact absurd ⟨h, h0⟩ hg; exact h0⟩
  obtain ⟨N, hN⟩ : ∃ N, N = x % 64 := ⟨_, rfl⟩
  have hand := and63 x hxb
  rw [← hN] at hand
  have hk4 : ∀ w' : World, Tch [] w w' → w'.cell? ⟨b, o, none⟩ = some (.int .u8 (x : Int)) := fun w' hT => (hT.cell (p := ⟨b, o, none⟩) hbw (by simp)).trans hc0
  have HK := Lib.hid hk4
  obtain ⟨m, hm⟩ : ∃ m, m = x % 64 - 55 := ⟨_, rfl⟩
  have hlt55 : (55 : Int) < (N : Int) := by omega
  have hmN : (N : Int) - 55 = (m : Int) := by omega
  have hN64 : N < 64 := by omega
  have hm8 : m ≤ 8 := by omega
  have hr1 : 1 ≤ r.length := by omega
  have hrb : ∀ y ∈ r, y < 256 := fun y hy => hb y (List.mem_cons_of_mem _ hy)
  have hkall : ∀ i, i < r.length → ∀ w' : World, Tch [] w w' → w'.cell? ⟨b, o + (1 + i), none⟩ = some (.int .u8 ((r.getD i 0 : Nat) : Int)) := fun i hi w' hT => by
    have := h8 (1 + i) (by simp; omega)
    rw [Nat.add_comm 1 i, List.getD_cons_succ] at this
    rw [Nat.add_comm 1 i]
    exact (hT.cell (p := ⟨b, o + (i + 1), none⟩) hbw (by simp)).trans this
  have hk5 : ∀ w' : World, Tch [] w w' → w'.cell? ⟨b, o + 1, none⟩ = some (.int .u8 ((r.getD 0 0 : Nat) : Int)) := fun w' hT => hkall 0 (by omega) w' hT
  have hki : ∀ i, i < m → ∀ w' : World, Tch [] w w' → w'.cell? ⟨b, o + (1 + i), none⟩ = some (.int .u8 ((r.getD i 0 : Nat) : Int)) := fun i hi => hkall i (by omega)
  have hvs : ∀ i, i < m → val (r.take (i + 1)) = val (r.take i) * 256 + r.getD i 0 ∧ r.getD i 0 < 256 := fun i hi => val_step hrb (by omega)
  have hy0 : ((r.getD 0 0 : Int) == 0) = false := by rw [beq_eq_false_iff_ne]; omega
  have hy1 : ¬ (r.getD 0 0 : Int) = 0 := by omega
  have hshort : ¬ ((r.length + 1 : Nat) : Int) < 1 + (m : Int) := by omega
  have HK5 := Lib.hid hk5
  have HKI := Lib.hid hki
  have HV := Lib.hid hvs
  have HM := Lib.hid hm
  have hno : 55 < val (r.take m) → r.length - m < val (r.take m) := fun h => long_none hs hx h64 hm (by omega) hy h (by simp at hn; omega)
  have HNO := Lib.hid hno
  have hmr : m ≤ r.length := by omega
  clear hkall hk5 hki hvs hno hrb
  generalize r.getD 0 0 = y0 at *
  clear hdec h8 h4 hv hb hk4 hc0 hs hg hN
  simp only [List.length_cons] at *
  clear hf h64 hm hy
  rcases hxx with ⟨hx3, hj⟩ | hx3
  · have hx4 : (192 : Int) ≤ x := by omega
    have hj0 : ((j : Int) == 0) = false := by rw [beq_eq_false_iff_ne]; omega
    have hj1 : ¬ (j : Int) = 0 := by omega
    clear hx3 hj
    go_enter Try.func25, Try.ntmps25
    go_wp2_with (first | (refine st_new (L := []) hS rfl 25 rfl item_zero ?_; clear hS; intro w4 b4 hS; have hc4 := HK.out w4 hS.frame; have hc5 := HK5.out w4 hS.frame))
    have H0 := Lib.hid hS
    clear hS hc4 hc5
    go_loopw [9, 12] (fun nv iv wr => ∃ i : Nat, i ≤ m ∧ iv = .int .i64 (i : Int) ∧ nv = .int .i64 (val (r.take i) : Int) ∧ St [] w wr [(b4, 25, #[.bool false, .slice none 0 0, .slice none 0 0])] ∧ val (r.take i) ≤ 4294967551) (fun _ iv _ => m - (intOf iv).toNat)
    case atStart => exact ⟨0, Nat.zero_le _, rfl, rfl, H0.out, by simp [val]⟩
    case round =>
      obtain ⟨i, him, rfl, rfl, hS, hVB⟩ := hrel
      by_cases hlt : i < m
      · by_cases hbig : 16777216 < val (r.take i)
        · have hVb : (16777216 : Int) < (val (r.take i) : Int) := by omega
          generalize val (r.take i) = V at *
          go_wp2_with (first | (refine st_store (c' := #[.bool false, .slice none 0 0, .slice none 0 0]) hS rfl 25 _ _ rfl rfl rfl (by repeat (first | exact Upd.head | apply Upd.tail)) item_size (by rfl) (by rfl) (one3 rfl rfl rfl) ?_; clear hS; intro w5 hS))
          exact post_cell_two 4 5 6 25 rfl rfl rfl rfl rfl (hS.get .head) hty rfl item_size rfl (partpost_no HD.out rfl hS.frame)
        · obtain ⟨hst, hyb⟩ := HV.out i hlt
          have hor := or_byte2 (val (r.take i)) (r.getD i 0) hyb (by omega)
          have hci := HKI.out i hlt wr hS.frame
          have HST := Lib.hid hst
          have hVb : ¬ (16777216 : Int) < (val (r.take i) : Int) := by omega
          have hV2 : val (r.take i) ≤ 16777216 := by omega
          clear hst hbig
          generalize val (r.take i) = V at *
          generalize r.getD i 0 = y at *
          go_wp2
          go_roundw
          case rel => exact ⟨i + 1, by omega, by go_num, by rw [HST.out]; simp, hS, by rw [HST.out]; omega⟩
          case measure => simp [intOf]; omega
      · obtain rfl : i = m := by omega
        by_cases hV56 : val (r.take i) < 56
        · have hV : (val (r.take i) : Int) < 56 := by omega
          generalize val (r.take i) = V at *
          go_wp2_with (first | (refine st_store (c' := #[.bool false, .slice none 0 0, .slice none 0 0]) hS rfl 25 _ _ rfl rfl rfl (by repeat (first | exact Upd.head | apply Upd.tail)) item_size (by rfl) (by rfl) (one3 rfl rfl rfl) ?_; clear hS; intro w5 hS))
          exact post_cell_two 4 5 6 25 rfl rfl rfl rfl rfl (hS.get .head) hty rfl item_size rfl (partpost_no HD.out rfl hS.frame)
        · have hno := HNO.out (by omega)
          have hV : ¬ (val (r.take i) : Int) < 56 := by omega
          have hfit : ((r.length + 1 : Nat) : Int) - (1 + (i : Int)) < (val (r.take i) : Int) := by omega
          generalize val (r.take i) = V at *
          go_wp2_with (first | (refine st_store (c' := #[.bool false, .slice none 0 0, .slice none 0 0]) hS rfl 25 _ _ rfl rfl rfl (by repeat (first | exact Upd.head | apply Upd.tail)) item_size (by rfl) (by rfl) (one3 rfl rfl rfl) ?_; clear hS; intro w5 hS))
          exact post_cell_two 4 5 6 25 rfl rfl rfl rfl rfl (hS.get .head) hty rfl item_size rfl (partpost_no HD.out rfl hS.frame)
  · have hx4 : ¬ (192 : Int) ≤ x := by omega
    clear hx3
    go_enter Try.func25, Try.ntmps25
    go_wp2_with (first | (refine st_new (L := []) hS rfl 25 rfl item_zero ?_; clear hS; intro w4 b4 hS; have hc4 := HK.out w4 hS.frame; have hc5 := HK5.out w4 hS.frame))
    have H0 := Lib.hid hS
    clear hS hc4 hc5
    go_loopw [9, 12] (fun nv iv wr => ∃ i : Nat, i ≤ m ∧ iv = .int .i64 (i : Int) ∧ nv = .int .i64 (val (r.take i) : Int) ∧ St [] w wr [(b4, 25, #[.bool false, .slice none 0 0, .slice none 0 0])] ∧ val (r.take i) ≤ 4294967551) (fun _ iv _ => m - (intOf iv).toNat)
    case atStart => exact ⟨0, Nat.zero_le _, rfl, rfl, H0.out, by simp [val]⟩
    case round =>
      obtain ⟨i, him, rfl, rfl, hS, hVB⟩ := hrel
      by_cases hlt : i < m
      · by_cases hbig : 16777216 < val (r.take i)
        · have hVb : (16777216 : Int) < (val (r.take i) : Int) := by omega
          generalize val (r.take i) = V at *
          go_wp2_with (first | (refine st_store (c' := #[.bool false, .slice none 0 0, .slice none 0 0]) hS rfl 25 _ _ rfl rfl rfl (by repeat (first | exact Upd.head | apply Upd.tail)) item_size (by rfl) (by rfl) (one3 rfl rfl rfl) ?_; clear hS; intro w5 hS))
          exact post_cell_two 4 5 6 25 rfl rfl rfl rfl rfl (hS.get .head) hty rfl item_size rfl (partpost_no HD.out rfl hS.frame)
        · obtain ⟨hst, hyb⟩ := HV.out i hlt
          have hor := or_byte2 (val (r.take i)) (r.getD i 0) hyb (by omega)
          have hci := HKI.out i hlt wr hS.frame
          have HST := Lib.hid hst
          have hVb : ¬ (16777216 : Int) < (val (r.take i) : Int) := by omega
          have hV2 : val (r.take i) ≤ 16777216 := by omega
          clear hst hbig
          generalize val (r.take i) = V at *
          generalize r.getD i 0 = y at *
          go_wp2
          go_roundw
          case rel => exact ⟨i + 1, by omega, by go_num, by rw [HST.out]; simp, hS, by rw [HST.out]; omega⟩
          case measure => simp [intOf]; omega
      · obtain rfl : i = m := by omega
        by_cases hV56 : val (r.take i) < 56
        · have hV : (val (r.take i) : Int) < 56 := by omega
          generalize val (r.take i) = V at *
          go_wp2_with (first | (refine st_store (c' := #[.bool false, .slice none 0 0, .slice none 0 0]) hS rfl 25 _ _ rfl rfl rfl (by repeat (first | exact Upd.head | apply Upd.tail)) item_size (by rfl) (by rfl) (one3 rfl rfl rfl) ?_; clear hS; intro w5 hS))
          exact post_cell_two 4 5 6 25 rfl rfl rfl rfl rfl (hS.get .head) hty rfl item_size rfl (partpost_no HD.out rfl hS.frame)
        · have hno := HNO.out (by omega)
          have hV : ¬ (val (r.take i) : Int) < 56 := by omega
          have hfit : ((r.length + 1 : Nat) : Int) - (1 + (i : Int)) < (val (r.take i) : Int) := by omega
          generalize val (r.take i) = V at *
          go_wp2_with (first | (refine st_store (c' := #[.bool false, .slice none 0 0, .slice none 0 0]) hS rfl 25 _ _ rfl rfl rfl (by repeat (first | exact Upd.head | apply Upd.tail)) item_size (by rfl) (by rfl) (one3 rfl rfl rfl) ?_; clear hS; intro w5 hS))
          exact post_cell_two 4 5 6 25 rfl rfl rfl rfl rfl (hS.get .head) hty rfl item_size rfl (partpost_no HD.out rfl hS.frame)
end Go.Proofs.Ytnkfkahbkjdnpaa
