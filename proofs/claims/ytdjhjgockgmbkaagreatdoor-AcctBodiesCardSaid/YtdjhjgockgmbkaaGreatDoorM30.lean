/- The document's part: heads with a length of their own that don't hold. -/
import Derived.Test.YtdjhjgockgmbkaaGreatDoorM29
set_option linter.unusedVariables false
set_option linter.unusedSimpArgs false
namespace Go.Proofs.YtdjhjgockgmbkaaGreatDoor
open Go.RowKit

theorem fold_ge : ∀ (l : List Nat) (a : Nat), a * 256 ^ l.length ≤ l.foldl (fun a x => a * 256 + x) a
  | [], a => by simp
  | x :: r, a => by
    have h1 := fold_ge r (a * 256 + x)
    rw [List.foldl_cons, List.length_cons, Nat.pow_succ]
    refine Nat.le_trans ?_ h1
    calc a * (256 ^ r.length * 256) = (a * 256) * 256 ^ r.length := by rw [Nat.mul_assoc, Nat.mul_comm 256]
      _ ≤ (a * 256 + x) * 256 ^ r.length := Nat.mul_le_mul_right _ (by omega)
theorem val_ge {l : List Nat} {m : Nat} (h0 : l.getD 0 0 ≠ 0) (hm : 0 < m) (hl : m ≤ l.length) : 256 ^ (m - 1) ≤ val (l.take m) := by
  cases l with
  | nil => simp at h0
  | cons x r =>
    obtain ⟨q, rfl⟩ : ∃ q, m = q + 1 := ⟨m - 1, by omega⟩
    have hx : 1 ≤ x := by simp at h0; omega
    rw [List.take_succ_cons]
    unfold val
    rw [List.foldl_cons, Nat.zero_mul, Nat.zero_add]
    have h1 := fold_ge (r.take q) x
    rw [List.length_take, Nat.min_eq_left (by simp at hl; omega)] at h1
    exact Nat.le_trans (Nat.le_trans (Nat.le_of_eq (Nat.one_mul _).symm) (Nat.mul_le_mul_right _ hx)) h1
theorem val_take_lt {r : List Nat} {i : Nat} (hb : ∀ y ∈ r, y < 256) (hi : i ≤ 3) : val (r.take i) < 16777216 := by
  have h1 := val_lt (r.take i) (fun y hy => hb y (List.mem_of_mem_take hy))
  have h2 : (r.take i).length ≤ 3 := by rw [List.length_take]; omega
  have h3 : (256 : Nat) ^ (r.take i).length ≤ 256 ^ 3 := Nat.pow_le_pow_right (by omega) h2
  omega
theorem val_step {r : List Nat} {i : Nat} (hb : ∀ y ∈ r, y < 256) (hi : i < r.length) : val (r.take (i + 1)) = val (r.take i) * 256 + r.getD i 0 ∧ r.getD i 0 < 256 := by
  refine ⟨by rw [take_snoc' r i hi, val_snoc], ?_⟩
  have e : r.getD i 0 = r[i] := by rw [List.getD_eq_getElem?_getD, List.getElem?_eq_getElem hi]; rfl
  rw [e]; exact hb _ (List.getElem_mem _)
theorem or_byte2 (n x : Nat) (hx : x < 256) (hn : n ≤ 16777216) : bits BinOp.or IntKind.i64 ((n : Int) * 256) (x : Int) = ((n * 256 + x : Nat) : Int) := by
  have key : (BitVec.ofInt 64 ((n : Int) * 256) ||| BitVec.ofInt 64 (x : Int)).toNat = n * 256 + x := by
    rw [BitVec.toNat_or, BitVec.toNat_ofInt, BitVec.toNat_ofInt]
    have e1 : ((n : Int) * 256 % ((2 ^ 64 : Nat) : Int)).toNat = n <<< 8 := by rw [Nat.shiftLeft_eq]; omega
    have e2 : ((x : Int) % ((2 ^ 64 : Nat) : Int)).toNat = x := by omega
    rw [e1, e2, ← Nat.shiftLeft_add_eq_or_of_lt (show x < 2 ^ 8 by omega), Nat.shiftLeft_eq]
  show IntKind.i64.wrap ((BitVec.ofInt 64 ((n : Int) * 256) ||| BitVec.ofInt 64 (x : Int)).toNat : Nat) = _
  rw [key, IntKind.wrap_i64]
  omega
theorem long_none {x : Nat} {r : List Nat} {m : Nat} (hs : spl (x :: r) = none) (hx : 128 ≤ x) (h64 : 55 < x % 64) (hm : m = x % 64 - 55) (hl : m ≤ r.length) (h0 : r.getD 0 0 ≠ 0) (hv : 55 < val (r.take m)) (hr : r.length ≤ 16777216) : r.length - m < val (r.take m) := by
  by_cases h4 : m ≤ 4
  · have hk : lenOk r m = true := by
      unfold lenOk
      simp only [Bool.and_eq_true, decide_eq_true_eq, bne_iff_ne]
      exact ⟨⟨⟨hl, h0⟩, h4⟩, hv⟩
    rw [spl_cons, if_neg (by omega), if_neg (by omega), ← hm, if_pos hk] at hs
    unfold chk at hs
    by_cases h : (x :: r).length - (1 + m) < val (r.take m)
    · simp only [List.length_cons] at h; omega
    · rw [if_neg h, if_neg (by omega)] at hs; cases hs
  · have h1 := val_ge h0 (by omega) hl
    have h2 : (256 : Nat) ^ 4 ≤ 256 ^ (m - 1) := Nat.pow_le_pow_right (by omega) (by omega)
    omega
theorem long_some {x : Nat} {r : List Nat} {m h n : Nat} (hs : spl (x :: r) = some (h, n)) (hx : 128 ≤ x) (h64 : 55 < x % 64) (hm : m = x % 64 - 55) : m ≤ r.length ∧ r.getD 0 0 ≠ 0 ∧ m ≤ 4 ∧ 1 ≤ m ∧ n = val (r.take m) ∧ h = 1 + m ∧ 55 < n ∧ n ≤ r.length - m := by
  rw [spl_cons, if_neg (by omega), if_neg (by omega), ← hm] at hs
  split at hs
  · rename_i hk
    unfold lenOk at hk
    simp only [Bool.and_eq_true, decide_eq_true_eq, bne_iff_ne] at hk
    obtain ⟨rfl, rfl, h3, _⟩ := chk_some hs
    simp only [List.length_cons] at h3
    exact ⟨hk.1.1.1, hk.1.1.2, hk.1.2, by omega, rfl, rfl, hk.2, by omega⟩
  · cases hs
set_option maxHeartbeats 1000000 in
set_option maxRecDepth 100000 in
theorem part_long_missing (j : Nat) (v : Value) (x : Nat) (r : List Nat) (w : World) (hn : (x :: r).length ≤ 16777216) (hv : RdA [] w v (x :: r)) (hx : 128 ≤ x) (hg : ¬ (192 ≤ x ∧ j = 0)) (hs : spl (x :: r) = none) (h64 : 55 < x % 64) (hf : r.length < x % 64 - 55) : Calls Tryz.prog 66 #[v, .int .i64 (j : Int)] w (PartPost j (x :: r) w) := by
  obtain ⟨f0, f1, f2, hty, _⟩ := item_ty
  have hS := St.start w
  obtain ⟨p, n, c, rfl⟩ := slice_keep hv
  obtain ⟨p', c', hp, hcap, hb, h4⟩ := id hv
  have hxb := hb x List.mem_cons_self
  cases hp
  obtain ⟨b, o, rfl, hbw, _, h8⟩ := h4 (by simp)
  have hc0 := h8 0 (by simp)
  rw [Nat.add_zero] at hc0
  simp only [List.getD_cons_zero] at hc0
  have hdec : dec j (x :: r) = .error 4 := by rw [dec_eq, if_neg (by simpa using hg), hs]
  have HD := Lib.hid hdec
  have hx2 : ¬ (x : Int) < 128 := by omega
  have hxx : (192 ≤ x ∧ 0 < j) ∨ x < 192 := by
    rcases Nat.lt_or_ge x 192 with h | h
    · exact .inr h
    · exact .inl ⟨h, by rcases Nat.eq_zero_or_pos j with h0 | h0; exact absurd ⟨h, h0⟩ hg; exact h0⟩
  obtain ⟨N, hN⟩ : ∃ N, N = x % 64 := ⟨_, rfl⟩
  have hand := and63 x hxb
  rw [← hN] at hand
  have hk4 : ∀ w' : World, Tch [] w w' → w'.cell? ⟨b, o, none⟩ = some (.int .u8 (x : Int)) := fun w' hT => (hT.cell (p := ⟨b, o, none⟩) hbw (by simp)).trans hc0
  have HK := Lib.hid hk4
  obtain ⟨m, hm⟩ : ∃ m, m = x % 64 - 55 := ⟨_, rfl⟩
  have hlt55 : (55 : Int) < (N : Int) := by omega
  have hmN : (N : Int) - 55 = (m : Int) := by omega
  have hN64 : N < 64 := by omega
  have hm8 : m ≤ 8 := by omega
  have hshort : ((r.length + 1 : Nat) : Int) < 1 + (m : Int) := by omega
  have HM := Lib.hid hm
  clear hdec h8 h4 hv hb hk4 hc0 hs hg hN
  simp only [List.length_cons] at *
  clear hf h64 hm
  rcases hxx with ⟨hx3, hj⟩ | hx3
  · have hx4 : (192 : Int) ≤ x := by omega
    have hj0 : ((j : Int) == 0) = false := by rw [beq_eq_false_iff_ne]; omega
    have hj1 : ¬ (j : Int) = 0 := by omega
    clear hx3 hj
    go_enter Tryz.func66, Tryz.ntmps66
    go_wp2_with (first | (refine st_new (L := []) hS rfl 68 rfl item_zero ?_; clear hS; intro w4 b4 hS; have hc4 := HK.out w4 hS.frame) | (refine st_store (c' := #[.bool false, .slice none 0 0, .slice none 0 0]) hS rfl 68 _ _ rfl rfl rfl (by repeat (first | exact Upd.head | apply Upd.tail)) item_size (by rfl) (by rfl) (one3 rfl rfl rfl) ?_; clear hS; intro w5 hS))
    exact post_cell_two 4 5 6 68 rfl rfl rfl rfl rfl (hS.get .head) hty rfl item_size rfl (partpost_no HD.out rfl hS.frame)
  · have hx4 : ¬ (192 : Int) ≤ x := by omega
    clear hx3
    go_enter Tryz.func66, Tryz.ntmps66
    go_wp2_with (first | (refine st_new (L := []) hS rfl 68 rfl item_zero ?_; clear hS; intro w4 b4 hS; have hc4 := HK.out w4 hS.frame) | (refine st_store (c' := #[.bool false, .slice none 0 0, .slice none 0 0]) hS rfl 68 _ _ rfl rfl rfl (by repeat (first | exact Upd.head | apply Upd.tail)) item_size (by rfl) (by rfl) (one3 rfl rfl rfl) ?_; clear hS; intro w5 hS))
    exact post_cell_two 4 5 6 68 rfl rfl rfl rfl rfl (hS.get .head) hty rfl item_size rfl (partpost_no HD.out rfl hS.frame)
set_option maxHeartbeats 1000000 in
set_option maxRecDepth 100000 in
theorem part_long_nought (j : Nat) (v : Value) (x : Nat) (r : List Nat) (w : World) (hn : (x :: r).length ≤ 16777216) (hv : RdA [] w v (x :: r)) (hx : 128 ≤ x) (hg : ¬ (192 ≤ x ∧ j = 0)) (hs : spl (x :: r) = none) (h64 : 55 < x % 64) (hf : x % 64 - 55 ≤ r.length) (hy : r.getD 0 0 = 0) : Calls Tryz.prog 66 #[v, .int .i64 (j : Int)] w (PartPost j (x :: r) w) := by
  obtain ⟨f0, f1, f2, hty, _⟩ := item_ty
  have hS := St.start w
  obtain ⟨p, n, c, rfl⟩ := slice_keep hv
  obtain ⟨p', c', hp, hcap, hb, h4⟩ := id hv
  have hxb := hb x List.mem_cons_self
  cases hp
  obtain ⟨b, o, rfl, hbw, _, h8⟩ := h4 (by simp)
  have hc0 := h8 0 (by simp)
  rw [Nat.add_zero] at hc0
  simp only [List.getD_cons_zero] at hc0
  have hdec : dec j (x :: r) = .error 4 := by rw [dec_eq, if_neg (by simpa using hg), hs]
  have HD := Lib.hid hdec
  have hx2 : ¬ (x : Int) < 128 := by omega
  have hxx : (192 ≤ x ∧ 0 < j) ∨ x < 192 := by
    rcases Nat.lt_or_ge x 192 with h | h
    · exact .inr h
    · exact .inl ⟨h, by rcases Nat.eq_zero_or_pos j with h0 | h0; exact absurd ⟨h, h0⟩ hg; exact h0⟩
  obtain ⟨N, hN⟩ : ∃ N, N = x % 64 := ⟨_, rfl⟩
  have hand := and63 x hxb
  rw [← hN] at hand
  have hk4 : ∀ w' : World, Tch [] w w' → w'.cell? ⟨b, o, none⟩ = some (.int .u8 (x : Int)) := fun w' hT => (hT.cell (p := ⟨b, o, none⟩) hbw (by simp)).trans hc0
  have HK := Lib.hid hk4
  obtain ⟨m, hm⟩ : ∃ m, m = x % 64 - 55 := ⟨_, rfl⟩
  have hlt55 : (55 : Int) < (N : Int) := by omega
  have hmN : (N : Int) - 55 = (m : Int) := by omega
  have hN64 : N < 64 := by omega
  have hm8 : m ≤ 8 := by omega
  have hr1 : 1 ≤ r.length := by omega
  have hc1 := h8 1 (by simp; omega)
  simp only [List.getD_cons_succ] at hc1
  rw [hy] at hc1
  have hshort : ¬ ((r.length + 1 : Nat) : Int) < 1 + (m : Int) := by omega
  have hk5 : ∀ w' : World, Tch [] w w' → w'.cell? ⟨b, o + 1, none⟩ = some (.int .u8 0) := fun w' hT => (hT.cell (p := ⟨b, o + 1, none⟩) hbw (by simp)).trans hc1
  have HK5 := Lib.hid hk5
  have HM := Lib.hid hm
  clear hk5 hc1 hy
  clear hdec h8 h4 hv hb hk4 hc0 hs hg hN
  simp only [List.length_cons] at *
  clear hf h64 hm
  rcases hxx with ⟨hx3, hj⟩ | hx3
  · have hx4 : (192 : Int) ≤ x := by omega
    have hj0 : ((j : Int) == 0) = false := by rw [beq_eq_false_iff_ne]; omega
    have hj1 : ¬ (j : Int) = 0 := by omega
    clear hx3 hj
    go_enter Tryz.func66, Tryz.ntmps66
    go_wp2_with (first | (refine st_new (L := []) hS rfl 68 rfl item_zero ?_; clear hS; intro w4 b4 hS; have hc4 := HK.out w4 hS.frame; have hc5 := HK5.out w4 hS.frame) | (refine st_store (c' := #[.bool false, .slice none 0 0, .slice none 0 0]) hS rfl 68 _ _ rfl rfl rfl (by repeat (first | exact Upd.head | apply Upd.tail)) item_size (by rfl) (by rfl) (one3 rfl rfl rfl) ?_; clear hS; intro w5 hS))
    exact post_cell_two 4 5 6 68 rfl rfl rfl rfl rfl (hS.get .head) hty rfl item_size rfl (partpost_no HD.out rfl hS.frame)
  · have hx4 : ¬ (192 : Int) ≤ x := by omega
    clear hx3
    go_enter Tryz.func66, Tryz.ntmps66
    go_wp2_with (first | (refine st_new (L := []) hS rfl 68 rfl item_zero ?_; clear hS; intro w4 b4 hS; have hc4 := HK.out w4 hS.frame; have hc5 := HK5.out w4 hS.frame) | (refine st_store (c' := #[.bool false, .slice none 0 0, .slice none 0 0]) hS rfl 68 _ _ rfl rfl rfl (by repeat (first | exact Upd.head | apply Upd.tail)) item_size (by rfl) (by rfl) (one3 rfl rfl rfl) ?_; clear hS; intro w5 hS))
    exact post_cell_two 4 5 6 68 rfl rfl rfl rfl rfl (hS.get .head) hty rfl item_size rfl (partpost_no HD.out rfl hS.frame)
set_option maxHeartbeats 1000000 in
set_option maxRecDepth 100000 in
theorem part_long_no (j : Nat) (v : Value) (x : Nat) (r : List Nat) (w : World) (hn : (x :: r).length ≤ 16777216) (hv : RdA [] w v (x :: r)) (hx : 128 ≤ x) (hg : ¬ (192 ≤ x ∧ j = 0)) (hs : spl (x :: r) = none) (h64 : 55 < x % 64) (hf : x % 64 - 55 ≤ r.length) (hy : r.getD 0 0 ≠ 0) : Calls Tryz.prog 66 #[v, .int .i64 (j : Int)] w (PartPost j (x :: r) w) := by
  obtain ⟨f0, f1, f2, hty, _⟩ := item_ty
  have hS := St.start w
  obtain ⟨p, n, c, rfl⟩ := slice_keep hv
  obtain ⟨p', c', hp, hcap, hb, h4⟩ := id hv
  have hxb := hb x List.mem_cons_self
  cases hp
  obtain ⟨b, o, rfl, hbw, _, h8⟩ := h4 (by simp)
  have hc0 := h8 0 (by simp)
  rw [Nat.add_zero] at hc0
  simp only [List.getD_cons_zero] at hc0
  have hdec : dec j (x :: r) = .error 4 := by rw [dec_eq, if_neg (by simpa using hg), hs]
  have HD := Lib.hid hdec
  have hx2 : ¬ (x : Int) < 128 := by omega
  have hxx : (192 ≤ x ∧ 0 < j) ∨ x < 192 := by
    rcases Nat.lt_or_ge x 192 with h | h
    · exact .inr h
    · exact .inl ⟨h, by rcases Nat.eq_zero_or_pos j with h0 | h0; exact absurd ⟨h, h0⟩ hg; exact h0⟩
  obtain ⟨N, hN⟩ : ∃ N, N = x % 64 := ⟨_, rfl⟩
  have hand := and63 x hxb
  rw [← hN] at hand
  have hk4 : ∀ w' : World, Tch [] w w' → w'.cell? ⟨b, o, none⟩ = some (.int .u8 (x : Int)) := fun w' hT => (hT.cell (p := ⟨b, o, none⟩) hbw (by simp)).trans hc0
  have HK := Lib.hid hk4
  obtain ⟨m, hm⟩ : ∃ m, m = x % 64 - 55 := ⟨_, rfl⟩
  have hlt55 : (55 : Int) < (N : Int) := by omega
  have hmN : (N : Int) - 55 = (m : Int) := by omega
  have hN64 : N < 64 := by omega
  have hm8 : m ≤ 8 := by omega
  have hr1 : 1 ≤ r.length := by omega
  have hrb : ∀ y ∈ r, y < 256 := fun y hy => hb y (List.mem_cons_of_mem _ hy)
  have hkall : ∀ i, i < r.length → ∀ w' : World, Tch [] w w' → w'.cell? ⟨b, o + (1 + i), none⟩ = some (.int .u8 ((r.getD i 0 : Nat) : Int)) := fun i hi w' hT => by
    have := h8 (1 + i) (by simp; omega)
    rw [Nat.add_comm 1 i, List.getD_cons_succ] at this
    rw [Nat.add_comm 1 i]
    exact (hT.cell (p := ⟨b, o + (i + 1), none⟩) hbw (by simp)).trans this
  have hk5 : ∀ w' : World, Tch [] w w' → w'.cell? ⟨b, o + 1, none⟩ = some (.int .u8 ((r.getD 0 0 : Nat) : Int)) := fun w' hT => hkall 0 (by omega) w' hT
  have hki : ∀ i, i < m → ∀ w' : World, Tch [] w w' → w'.cell? ⟨b, o + (1 + i), none⟩ = some (.int .u8 ((r.getD i 0 : Nat) : Int)) := fun i hi => hkall i (by omega)
  have hvs : ∀ i, i < m → val (r.take (i + 1)) = val (r.take i) * 256 + r.getD i 0 ∧ r.getD i 0 < 256 := fun i hi => val_step hrb (by omega)
  have hy0 : ((r.getD 0 0 : Int) == 0) = false := by rw [beq_eq_false_iff_ne]; omega
  have hy1 : ¬ (r.getD 0 0 : Int) = 0 := by omega
  have hshort : ¬ ((r.length + 1 : Nat) : Int) < 1 + (m : Int) := by omega
  have HK5 := Lib.hid hk5
  have HKI := Lib.hid hki
  have HV := Lib.hid hvs
  have HM := Lib.hid hm
  have hno : 55 < val (r.take m) → r.length - m < val (r.take m) := fun h => long_none hs hx h64 hm (by omega) hy h (by simp at hn; omega)
  have HNO := Lib.hid hno
  have hmr : m ≤ r.length := by omega
  clear hkall hk5 hki hvs hno hrb
  generalize r.getD 0 0 = y0 at *
  clear hdec h8 h4 hv hb hk4 hc0 hs hg hN
  simp only [List.length_cons] at *
  clear hf h64 hm hy
  rcases hxx with ⟨hx3, hj⟩ | hx3
  · have hx4 : (192 : Int) ≤ x := by omega
    have hj0 : ((j : Int) == 0) = false := by rw [beq_eq_false_iff_ne]; omega
    have hj1 : ¬ (j : Int) = 0 := by omega
    clear hx3 hj
    go_enter Tryz.func66, Tryz.ntmps66
    go_wp2_with (first | (refine st_new (L := []) hS rfl 68 rfl item_zero ?_; clear hS; intro w4 b4 hS; have hc4 := HK.out w4 hS.frame; have hc5 := HK5.out w4 hS.frame))
    have H0 := Lib.hid hS
    clear hS hc4 hc5
    go_loopw [9, 12] (fun nv iv wr => ∃ i : Nat, i ≤ m ∧ iv = .int .i64 (i : Int) ∧ nv = .int .i64 (val (r.take i) : Int) ∧ St [] w wr [(b4, 68, #[.bool false, .slice none 0 0, .slice none 0 0])] ∧ val (r.take i) ≤ 4294967551) (fun _ iv _ => m - (intOf iv).toNat)
    case atStart => exact ⟨0, Nat.zero_le _, rfl, rfl, H0.out, by simp [val]⟩
    case round =>
      obtain ⟨i, him, rfl, rfl, hS, hVB⟩ := hrel
      by_cases hlt : i < m
      · by_cases hbig : 16777216 < val (r.take i)
        · have hVb : (16777216 : Int) < (val (r.take i) : Int) := by omega
          generalize val (r.take i) = V at *
          go_wp2_with (first | (refine st_store (c' := #[.bool false, .slice none 0 0, .slice none 0 0]) hS rfl 68 _ _ rfl rfl rfl (by repeat (first | exact Upd.head | apply Upd.tail)) item_size (by rfl) (by rfl) (one3 rfl rfl rfl) ?_; clear hS; intro w5 hS))
          exact post_cell_two 4 5 6 68 rfl rfl rfl rfl rfl (hS.get .head) hty rfl item_size rfl (partpost_no HD.out rfl hS.frame)
        · obtain ⟨hst, hyb⟩ := HV.out i hlt
          have hor := or_byte2 (val (r.take i)) (r.getD i 0) hyb (by omega)
          have hci := HKI.out i hlt wr hS.frame
          have HST := Lib.hid hst
          have hVb : ¬ (16777216 : Int) < (val (r.take i) : Int) := by omega
          have hV2 : val (r.take i) ≤ 16777216 := by omega
          clear hst hbig
          generalize val (r.take i) = V at *
          generalize r.getD i 0 = y at *
          go_wp2
          go_roundw
          case rel => exact ⟨i + 1, by omega, by go_num, by rw [HST.out]; simp, hS, by rw [HST.out]; omega⟩
          case measure => simp [intOf]; omega
      · obtain rfl : i = m := by omega
        by_cases hV56 : val (r.take i) < 56
        · have hV : (val (r.take i) : Int) < 56 := by omega
          generalize val (r.take i) = V at *
          go_wp2_with (first | (refine st_store (c' := #[.bool false, .slice none 0 0, .slice none 0 0]) hS rfl 68 _ _ rfl rfl rfl (by repeat (first | exact Upd.head | apply Upd.tail)) item_size (by rfl) (by rfl) (one3 rfl rfl rfl) ?_; clear hS; intro w5 hS))
          exact post_cell_two 4 5 6 68 rfl rfl rfl rfl rfl (hS.get .head) hty rfl item_size rfl (partpost_no HD.out rfl hS.frame)
        · have hno := HNO.out (by omega)
          have hV : ¬ (val (r.take i) : Int) < 56 := by omega
          have hfit : ((r.length + 1 : Nat) : Int) - (1 + (i : Int)) < (val (r.take i) : Int) := by omega
          generalize val (r.take i) = V at *
          go_wp2_with (first | (refine st_store (c' := #[.bool false, .slice none 0 0, .slice none 0 0]) hS rfl 68 _ _ rfl rfl rfl (by repeat (first | exact Upd.head | apply Upd.tail)) item_size (by rfl) (by rfl) (one3 rfl rfl rfl) ?_; clear hS; intro w5 hS))
          exact post_cell_two 4 5 6 68 rfl rfl rfl rfl rfl (hS.get .head) hty rfl item_size rfl (partpost_no HD.out rfl hS.frame)
  · have hx4 : ¬ (192 : Int) ≤ x := by omega
    clear hx3
    go_enter Tryz.func66, Tryz.ntmps66
    go_wp2_with (first | (refine st_new (L := []) hS rfl 68 rfl item_zero ?_; clear hS; intro w4 b4 hS; have hc4 := HK.out w4 hS.frame; have hc5 := HK5.out w4 hS.frame))
    have H0 := Lib.hid hS
    clear hS hc4 hc5
    go_loopw [9, 12] (fun nv iv wr => ∃ i : Nat, i ≤ m ∧ iv = .int .i64 (i : Int) ∧ nv = .int .i64 (val (r.take i) : Int) ∧ St [] w wr [(b4, 68, #[.bool false, .slice none 0 0, .slice none 0 0])] ∧ val (r.take i) ≤ 4294967551) (fun _ iv _ => m - (intOf iv).toNat)
    case atStart => exact ⟨0, Nat.zero_le _, rfl, rfl, H0.out, by simp [val]⟩
    case round =>
      obtain ⟨i, him, rfl, rfl, hS, hVB⟩ := hrel
      by_cases hlt : i < m
      · by_cases hbig : 16777216 < val (r.take i)
        · have hVb : (16777216 : Int) < (val (r.take i) : Int) := by omega
          generalize val (r.take i) = V at *
          go_wp2_with (first | (refine st_store (c' := #[.bool false, .slice none 0 0, .slice none 0 0]) hS rfl 68 _ _ rfl rfl rfl (by repeat (first | exact Upd.head | apply Upd.tail)) item_size (by rfl) (by rfl) (one3 rfl rfl rfl) ?_; clear hS; intro w5 hS))
          exact post_cell_two 4 5 6 68 rfl rfl rfl rfl rfl (hS.get .head) hty rfl item_size rfl (partpost_no HD.out rfl hS.frame)
        · obtain ⟨hst, hyb⟩ := HV.out i hlt
          have hor := or_byte2 (val (r.take i)) (r.getD i 0) hyb (by omega)
          have hci := HKI.out i hlt wr hS.frame
          have HST := Lib.hid hst
          have hVb : ¬ (16777216 : Int) < (val (r.take i) : Int) := by omega
          have hV2 : val (r.take i) ≤ 16777216 := by omega
          clear hst hbig
          generalize val (r.take i) = V at *
          generalize r.getD i 0 = y at *
          go_wp2
          go_roundw
          case rel => exact ⟨i + 1, by omega, by go_num, by rw [HST.out]; simp, hS, by rw [HST.out]; omega⟩
          case measure => simp [intOf]; omega
      · obtain rfl : i = m := by omega
        by_cases hV56 : val (r.take i) < 56
        · have hV : (val (r.take i) : Int) < 56 := by omega
          generalize val (r.take i) = V at *
          go_wp2_with (first | (refine st_store (c' := #[.bool false, .slice none 0 0, .slice none 0 0]) hS rfl 68 _ _ rfl rfl rfl (by repeat (first | exact Upd.head | apply Upd.tail)) item_size (by rfl) (by rfl) (one3 rfl rfl rfl) ?_; clear hS; intro w5 hS))
          exact post_cell_two 4 5 6 68 rfl rfl rfl rfl rfl (hS.get .head) hty rfl item_size rfl (partpost_no HD.out rfl hS.frame)
        · have hno := HNO.out (by omega)
          have hV : ¬ (val (r.take i) : Int) < 56 := by omega
          have hfit : ((r.length + 1 : Nat) : Int) - (1 + (i : Int)) < (val (r.take i) : Int) := by omega
          generalize val (r.take i) = V at *
          go_wp2_with (first | (refine st_store (c' := #[.bool false, .slice none 0 0, .slice none 0 0]) hS rfl 68 _ _ rfl rfl rfl (by repeat (first | exact Upd.head | apply Upd.tail)) item_size (by rfl) (by rfl) (one3 rfl rfl rfl) ?_; clear hS; intro w5 hS))
          exact post_cell_two 4 5 6 68 rfl rfl rfl rfl rfl (hS.get .head) hty rfl item_size rfl (partpost_no HD.out rfl hS.frame)
end Go.Proofs.YtdjhjgockgmbkaaGreatDoor

/- The document's part: byte strings. -/
namespace Go.Proofs.YtdjhjgockgmbkaaGreatDoor
open Go.RowKit

theorem short_some {x : Nat} {r : List Nat} {h n : Nat} (hs : spl (x :: r) = some (h, n)) (hx : 128 ≤ x) (h64 : x % 64 ≤ 55) : h = 1 ∧ n = x % 64 ∧ n ≤ r.length ∧ ¬ (x = 129 ∧ r.getD 0 0 < 128) := by
  rw [spl_cons, if_neg (by omega), if_pos h64] at hs
  obtain ⟨rfl, rfl, h3, h4⟩ := chk_some hs
  simp only [List.length_cons] at h3
  exact ⟨rfl, rfl, by omega, by simpa using h4⟩
/-- The end at a byte string. -/
theorem part_str_end {j x h n0 V A : Nat} {r l : List Nat} {w w6 : World} {p2 : Option Addr} {n2 c2 : Nat} {n : Int} (hg : x < 192) (hx : 128 ≤ x) (hs : spl (x :: r) = some (h, n0)) (hA : A = h) (hV : V = n0) (hn : n = ((A + V : Nat) : Int)) (hl : l = ((x :: r).drop h).take n0) (hr : RdF w w6 (.slice p2 n2 c2) l) (hlen : (x :: r).length ≤ 16777216) (hT : Tch [] w w6) :
    PartPost j (x :: r) w (.returned (.tuple #[.agg #[.bool false, .slice p2 n2 c2, .slice none 0 0], .int .i64 n, .int .i64 0])) w6 := by
  subst hA; subst hV
  have hle := spl_some hs
  have hdec : dec j (x :: r) = .ok (.str l, (x :: r).drop (A + V)) := by
    rw [dec_eq, if_neg (by simp; omega), hs, hl]; simp only []; rw [if_pos (by simp; omega)]
  refine partpost_yes (k := 1) hdec hn (by rw [List.length_drop]; omega) rfl (by omega) (fun X hX => ?_) hT
  unfold ItC
  refine ⟨rfl, hr X hX, ?_⟩
  rw [hl, List.length_take, List.length_drop]; omega
set_option maxHeartbeats 1000000 in
set_option maxRecDepth 100000 in
theorem part_short_text (j : Nat) (v : Value) (x : Nat) (r : List Nat) (w : World) (hn : (x :: r).length ≤ 16777216) (hv : RdA [] w v (x :: r)) (h n0 : Nat) (body : List Nat) (hx : 128 ≤ x) (hx1 : x < 192) (hs : spl (x :: r) = some (h, n0)) (h64 : x % 64 ≤ 55) (hbody : body = ((x :: r).drop h).take n0) : Calls Tryz.prog 66 #[v, .int .i64 (j : Int)] w (PartPost j (x :: r) w) := by
  obtain ⟨f0, f1, f2, hty, _⟩ := item_ty
  have hS := St.start w
  obtain ⟨p, n, c, rfl⟩ := slice_keep hv
  obtain ⟨p', c', hp, hcap, hb, h4⟩ := id hv
  have hxb := hb x List.mem_cons_self
  cases hp
  obtain ⟨b, o, rfl, hbw, _, h8⟩ := h4 (by simp)
  have hc0 := h8 0 (by simp)
  rw [Nat.add_zero] at hc0
  simp only [List.getD_cons_zero] at hc0
  obtain ⟨rfl, rfl, hfit, hno⟩ := short_some hs hx h64
  have hg : ¬ (192 ≤ x ∧ j = 0) := by omega
  have hx2 : ¬ (x : Int) < 128 := by omega
  have hxx : (192 ≤ x ∧ 0 < j) ∨ x < 192 := by
    rcases Nat.lt_or_ge x 192 with h | h
    · exact .inr h
    · exact .inl ⟨h, by rcases Nat.eq_zero_or_pos j with h0 | h0; exact absurd ⟨h, h0⟩ hg; exact h0⟩
  obtain ⟨N, hN⟩ : ∃ N, N = x % 64 := ⟨_, rfl⟩
  have hand := and63 x hxb
  rw [← hN] at hand
  have hk4 : ∀ w' : World, Tch [] w w' → w'.cell? ⟨b, o, none⟩ = some (.int .u8 (x : Int)) := fun w' hT => (hT.cell (p := ⟨b, o, none⟩) hbw (by simp)).trans hc0
  have HK := Lib.hid hk4
  have hHE := And.intro hx1 (And.intro hx (And.intro hs hbody))
  have hbb : ∀ y ∈ body, y < 256 := fun y hy => hb y (by rw [hbody] at hy; exact List.mem_of_mem_drop (List.mem_of_mem_take hy))
  have hbl : body.length ≤ 100000000 := by rw [hbody, List.length_take, List.length_drop]; simp at hn ⊢; omega
  have HE := Lib.hid hHE
  have HBB := Lib.hid hbb
  have HBL := Lib.hid hbl
  have hX : ∀ q, (c ≠ 1 → q = some ⟨b, o + 1, none⟩) → RdA [] w (.slice q N (c - 1)) body := fun q hq => by
    by_cases hc1 : c = 1
    · have h0 : N = 0 := by have : r.length + 1 ≤ c := hcap; omega
      have hb0 : body = [] := by rw [hbody, ← hN, h0, List.take_zero]
      rw [hb0, h0]
      exact ⟨q, c - 1, rfl, Nat.zero_le _, by simp, fun h => absurd rfl h⟩
    · rw [hq hc1, hbody, ← hN]
      exact (hv.from_ne 1 (by simp)).take (by simp; omega)
  have HX := Lib.hid hX
  have hN55 : N ≤ 55 := by omega
  have hlt55 : ¬ (55 : Int) < (N : Int) := by omega
  have hfit2 : ¬ ((r.length + 1 : Nat) : Int) - 1 < (N : Int) := by omega
  have hfit3 : N ≤ r.length := by omega
  have hcap2 : r.length + 1 ≤ c := hcap
  have hx4 : ¬ (192 : Int) ≤ x := by omega
  have hk5 : N = 1 → ∀ w' : World, Tch [] w w' → ∃ y, ¬ (y : Int) < 128 ∧ w'.cell? ⟨b, o + 1, none⟩ = some (.int .u8 (y : Int)) := fun h1 w' hT => by
    have hc1 := h8 1 (by simp; omega)
    simp only [List.getD_cons_succ] at hc1
    refine ⟨((r.getD 0 0 : Nat) : Int), by omega, (hT.cell (p := ⟨b, o + 1, none⟩) hbw (by simp)).trans hc1⟩
  have HK5 := Lib.hid hk5
  have HN := Lib.hid hN
  have hlen3 : r.length + 1 ≤ 16777216 := hn
  clear h8 h4 hv hb hk4 hk5 hc0 hs hg hN hX hHE hbb hbl hbody h64 hno hfit
  simp only [List.length_cons] at *
  rcases hxx with h | hx3
  · exact absurd h.1 (by omega)
  · clear hx3
    by_cases hN1 : N = 1
    · subst hN1
      have hcc : ¬ c = 1 := by omega
      go_enter Tryz.func66, Tryz.ntmps66
      go_wp2_with (first
        | (refine st_new (L := []) hS rfl 68 rfl item_zero ?_; clear hS; intro w4 b4 hS; have hc4 := HK.out w4 hS.frame; obtain ⟨y5, hy5, hc5⟩ := HK5.out rfl w4 hS.frame)
        | (refine st_cloneB (v := .slice (some ⟨b, o + 1, none⟩) 1 (c - 1)) (l := body) (by rfl) _ _ (by rfl) (by rfl) (by rfl) (RdA.tch (by first | exact HX.out _ (fun _ => rfl) | (rw [Nat.add_sub_cancel_left]; exact HX.out _ (fun _ => rfl))) hS.frame) HBL.out ?_
           intro v5 w5 hown hT5
           have hrd := RdF.own hown HBB.out
           obtain ⟨p2, n2, c2, rfl⟩ := slice_keep (hrd [] (by simp))
           have HRD := Lib.hid hrd
           have hB4 := (hS.call hT5).get .head
           have hF := hS.frame
           have hlt4 := (hS.get .head).lt
           have hge4 := (hS.own .head).resolve_right (by simp)
           clear hS hown hrd
           have hS := St.one hB4)
        | (refine st_store (c' := #[.bool false, .slice p2 n2 c2, .slice none 0 0]) hS rfl 68 _ _ rfl rfl rfl (by repeat (first | exact Upd.head | apply Upd.tail)) item_size (by rfl) (by rfl) (one3 rfl rfl rfl) ?_; clear hS; intro w6 hS))
      refine post_cell_two 4 5 6 68 rfl rfl rfl rfl rfl (hS.get .head) hty rfl item_size rfl (part_str_end (h := 1) (n0 := x % 64) HE.out.1 HE.out.2.1 HE.out.2.2.1 rfl HN.out rfl HE.out.2.2.2 (fun X hX => ?_) (by simp; omega) ((hF.trans hT5).fresh hS.frame (fun y hy => by simp at hy; omega)))
      exact ((HRD.out (b4 :: X) (fun y hy => by
        rcases List.mem_cons.1 hy with rfl | hy
        · exact hlt4
        · exact Nat.lt_of_lt_of_le (hX y hy) hF.size)).tch (hS.frame.mono (by simp))).mono (fun y hy => .inl (List.mem_cons_of_mem _ hy))
    · have hN1' : ((N : Int) == 1) = false := by rw [beq_eq_false_iff_ne]; omega
      by_cases hcc : c = 1
      · subst hcc
        go_enter Tryz.func66, Tryz.ntmps66
        go_wp2_with (first
          | (refine st_new (L := []) hS rfl 68 rfl item_zero ?_; clear hS; intro w4 b4 hS; have hc4 := HK.out w4 hS.frame)
          | (refine st_cloneB (v := .slice (some ⟨b, o, none⟩) (1 + N - 1) 0) (l := body) (by rfl) _ _ (by rfl) (by rfl) (by rfl) (RdA.tch (by first | exact HX.out _ (fun h => absurd rfl h) | (rw [Nat.add_sub_cancel_left]; exact HX.out _ (fun h => absurd rfl h))) hS.frame) HBL.out ?_
             intro v5 w5 hown hT5
             have hrd := RdF.own hown HBB.out
             obtain ⟨p2, n2, c2, rfl⟩ := slice_keep (hrd [] (by simp))
             have HRD := Lib.hid hrd
             have hB4 := (hS.call hT5).get .head
             have hF := hS.frame
             have hlt4 := (hS.get .head).lt
             have hge4 := (hS.own .head).resolve_right (by simp)
             clear hS hown hrd
             have hS := St.one hB4)
          | (refine st_store (c' := #[.bool false, .slice p2 n2 c2, .slice none 0 0]) hS rfl 68 _ _ rfl rfl rfl (by repeat (first | exact Upd.head | apply Upd.tail)) item_size (by rfl) (by rfl) (one3 rfl rfl rfl) ?_; clear hS; intro w6 hS))
        refine post_cell_two 4 5 6 68 rfl rfl rfl rfl rfl (hS.get .head) hty rfl item_size rfl (part_str_end (h := 1) (n0 := x % 64) HE.out.1 HE.out.2.1 HE.out.2.2.1 rfl HN.out (by first | omega | simp) HE.out.2.2.2 (fun X hX => ?_) (by simp; omega) ((hF.trans hT5).fresh hS.frame (fun y hy => by simp at hy; omega)))
        exact ((HRD.out (b4 :: X) (fun y hy => by
          rcases List.mem_cons.1 hy with rfl | hy
          · exact hlt4
          · exact Nat.lt_of_lt_of_le (hX y hy) hF.size)).tch (hS.frame.mono (by simp))).mono (fun y hy => .inl (List.mem_cons_of_mem _ hy))
      · go_enter Tryz.func66, Tryz.ntmps66
        go_wp2_with (first
          | (refine st_new (L := []) hS rfl 68 rfl item_zero ?_; clear hS; intro w4 b4 hS; have hc4 := HK.out w4 hS.frame)
          | (refine st_cloneB (v := .slice (some ⟨b, o + 1, none⟩) (1 + N - 1) (c - 1)) (l := body) (by rfl) _ _ (by rfl) (by rfl) (by rfl) (RdA.tch (by first | exact HX.out _ (fun _ => rfl) | (rw [Nat.add_sub_cancel_left]; exact HX.out _ (fun _ => rfl))) hS.frame) HBL.out ?_
             intro v5 w5 hown hT5
             have hrd := RdF.own hown HBB.out
             obtain ⟨p2, n2, c2, rfl⟩ := slice_keep (hrd [] (by simp))
             have HRD := Lib.hid hrd
             have hB4 := (hS.call hT5).get .head
             have hF := hS.frame
             have hlt4 := (hS.get .head).lt
             have hge4 := (hS.own .head).resolve_right (by simp)
             clear hS hown hrd
             have hS := St.one hB4)
          | (refine st_store (c' := #[.bool false, .slice p2 n2 c2, .slice none 0 0]) hS rfl 68 _ _ rfl rfl rfl (by repeat (first | exact Upd.head | apply Upd.tail)) item_size (by rfl) (by rfl) (one3 rfl rfl rfl) ?_; clear hS; intro w6 hS))
        refine post_cell_two 4 5 6 68 rfl rfl rfl rfl rfl (hS.get .head) hty rfl item_size rfl (part_str_end (h := 1) (n0 := x % 64) HE.out.1 HE.out.2.1 HE.out.2.2.1 rfl HN.out (by first | omega | simp) HE.out.2.2.2 (fun X hX => ?_) (by simp; omega) ((hF.trans hT5).fresh hS.frame (fun y hy => by simp at hy; omega)))
        exact ((HRD.out (b4 :: X) (fun y hy => by
          rcases List.mem_cons.1 hy with rfl | hy
          · exact hlt4
          · exact Nat.lt_of_lt_of_le (hX y hy) hF.size)).tch (hS.frame.mono (by simp))).mono (fun y hy => .inl (List.mem_cons_of_mem _ hy))
set_option maxHeartbeats 1000000 in
set_option maxRecDepth 100000 in
theorem part_long_text (j : Nat) (v : Value) (x : Nat) (r : List Nat) (w : World) (hn : (x :: r).length ≤ 16777216) (hv : RdA [] w v (x :: r)) (h n0 : Nat) (body : List Nat) (hx : 128 ≤ x) (hx1 : x < 192) (hs : spl (x :: r) = some (h, n0)) (h64 : 55 < x % 64) (hbody : body = ((x :: r).drop h).take n0) : Calls Tryz.prog 66 #[v, .int .i64 (j : Int)] w (PartPost j (x :: r) w) := by
  obtain ⟨f0, f1, f2, hty, _⟩ := item_ty
  have hS := St.start w
  obtain ⟨p, n, c, rfl⟩ := slice_keep hv
  obtain ⟨p', c', hp, hcap, hb, h4⟩ := id hv
  have hxb := hb x List.mem_cons_self
  cases hp
  obtain ⟨b, o, rfl, hbw, _, h8⟩ := h4 (by simp)
  have hc0 := h8 0 (by simp)
  rw [Nat.add_zero] at hc0
  simp only [List.getD_cons_zero] at hc0
  obtain ⟨hf, hy, hm4, hm1, hnv, hh, hn55, hfit0⟩ := long_some hs hx h64 rfl
  have hg : ¬ (192 ≤ x ∧ j = 0) := by omega
  have hx2 : ¬ (x : Int) < 128 := by omega
  have hxx : (192 ≤ x ∧ 0 < j) ∨ x < 192 := by
    rcases Nat.lt_or_ge x 192 with h | h
    · exact .inr h
    · exact .inl ⟨h, by rcases Nat.eq_zero_or_pos j with h0 | h0; exact absurd ⟨h, h0⟩ hg; exact h0⟩
  obtain ⟨N, hN⟩ : ∃ N, N = x % 64 := ⟨_, rfl⟩
  have hand := and63 x hxb
  rw [← hN] at hand
  have hk4 : ∀ w' : World, Tch [] w w' → w'.cell? ⟨b, o, none⟩ = some (.int .u8 (x : Int)) := fun w' hT => (hT.cell (p := ⟨b, o, none⟩) hbw (by simp)).trans hc0
  have HK := Lib.hid hk4
  obtain ⟨m, hm⟩ : ∃ m, m = x % 64 - 55 := ⟨_, rfl⟩
  have hlt55 : (55 : Int) < (N : Int) := by omega
  have hmN : (N : Int) - 55 = (m : Int) := by omega
  have hN64 : N < 64 := by omega
  have hm8 : m ≤ 8 := by omega
  have hr1 : 1 ≤ r.length := by omega
  have hrb : ∀ y ∈ r, y < 256 := fun y hy => hb y (List.mem_cons_of_mem _ hy)
  have hkall : ∀ i, i < r.length → ∀ w' : World, Tch [] w w' → w'.cell? ⟨b, o + (1 + i), none⟩ = some (.int .u8 ((r.getD i 0 : Nat) : Int)) := fun i hi w' hT => by
    have := h8 (1 + i) (by simp; omega)
    rw [Nat.add_comm 1 i, List.getD_cons_succ] at this
    rw [Nat.add_comm 1 i]
    exact (hT.cell (p := ⟨b, o + (i + 1), none⟩) hbw (by simp)).trans this
  have hk5 : ∀ w' : World, Tch [] w w' → w'.cell? ⟨b, o + 1, none⟩ = some (.int .u8 ((r.getD 0 0 : Nat) : Int)) := fun w' hT => hkall 0 (by omega) w' hT
  have hki : ∀ i, i < m → ∀ w' : World, Tch [] w w' → w'.cell? ⟨b, o + (1 + i), none⟩ = some (.int .u8 ((r.getD i 0 : Nat) : Int)) := fun i hi => hkall i (by omega)
  have hvs : ∀ i, i < m → val (r.take (i + 1)) = val (r.take i) * 256 + r.getD i 0 ∧ r.getD i 0 < 256 := fun i hi => val_step hrb (by omega)
  have hy0 : ((r.getD 0 0 : Int) == 0) = false := by rw [beq_eq_false_iff_ne]; omega
  have hy1 : ¬ (r.getD 0 0 : Int) = 0 := by omega
  have hshort : ¬ ((r.length + 1 : Nat) : Int) < 1 + (m : Int) := by omega
  have HK5 := Lib.hid hk5
  have HKI := Lib.hid hki
  have HV := Lib.hid hvs
  have HM := Lib.hid hm
  have hHE := And.intro hx1 (And.intro hx (And.intro hs hbody))
  have hbb : ∀ y ∈ body, y < 256 := fun y hy => hb y (by rw [hbody] at hy; exact List.mem_of_mem_drop (List.mem_of_mem_take hy))
  have hbl : body.length ≤ 100000000 := by rw [hbody, List.length_take, List.length_drop]; simp at hn ⊢; omega
  have HE := Lib.hid hHE
  have HBB := Lib.hid hbb
  have HBL := Lib.hid hbl
  rw [← hm] at hf hm4 hm1 hnv hh hfit0
  have hcap2 : r.length + 1 ≤ c := hcap
  have hX : ∀ q, q = some ⟨b, o + (1 + m), none⟩ → RdA [] w (.slice q n0 (c - (1 + m))) body := fun q hq => by
    rw [hq, hbody, hh]
    exact (hv.from_ne (1 + m) (by simp; omega)).take (by simp; omega)
  have HX := Lib.hid hX
  have hbig0 : ∀ i, i < m → val (r.take i) < 16777216 := fun i hi => val_take_lt hrb (by omega)
  have HBIG := Lib.hid hbig0
  have HM2 := Lib.hid hnv
  have HH := Lib.hid hh
  have hbo : n0 ≤ r.length - m ∧ 55 < n0 := ⟨hfit0, hn55⟩
  have HBO := Lib.hid hbo
  have hx4 : ¬ (192 : Int) ≤ x := by omega
  have hlen3 : r.length + 1 ≤ 16777216 := hn
  clear h8 h4 hv hb hk4 hk5 hc0 hs hg hN hX hHE hbb hbl hbody h64 hkall hki hvs hrb hbig0 hnv hh hbo hm
  generalize r.getD 0 0 = y0 at *
  simp only [List.length_cons] at *
  rcases hxx with h | hx3
  · exact absurd h.1 (by omega)
  · clear hx3
    go_enter Tryz.func66, Tryz.ntmps66
    go_wp2_with (first | (refine st_new (L := []) hS rfl 68 rfl item_zero ?_; clear hS; intro w4 b4 hS; have hc4 := HK.out w4 hS.frame; have hc5 := HK5.out w4 hS.frame))
    have H0 := Lib.hid hS
    clear hS hc4 hc5
    go_loopw [9, 12] (fun nv iv wr => ∃ i : Nat, i ≤ m ∧ iv = .int .i64 (i : Int) ∧ nv = .int .i64 (val (r.take i) : Int) ∧ St [] w wr [(b4, 68, #[.bool false, .slice none 0 0, .slice none 0 0])] ∧ val (r.take i) ≤ 4294967551) (fun _ iv _ => m - (intOf iv).toNat)
    case atStart => exact ⟨0, Nat.zero_le _, rfl, rfl, H0.out, by simp [val]⟩
    case round =>
      obtain ⟨i, him, rfl, rfl, hS, hVB⟩ := hrel
      by_cases hlt : i < m
      · by_cases hbig : 16777216 < val (r.take i)
        · exact absurd (HBIG.out i hlt) (by omega)
        · obtain ⟨hst, hyb⟩ := HV.out i hlt
          have hor := or_byte2 (val (r.take i)) (r.getD i 0) hyb (by omega)
          have hci := HKI.out i hlt wr hS.frame
          have HST := Lib.hid hst
          have hVb : ¬ (16777216 : Int) < (val (r.take i) : Int) := by omega
          have hV2 : val (r.take i) ≤ 16777216 := by omega
          clear hst hbig
          generalize val (r.take i) = V at *
          generalize r.getD i 0 = y at *
          go_wp2
          go_roundw
          case rel => exact ⟨i + 1, by omega, by go_num, by rw [HST.out]; simp, hS, by rw [HST.out]; omega⟩
          case measure => simp [intOf]; omega
      · obtain rfl : i = m := by omega
        have hbo := HBO.out
        have hVV : val (r.take i) = n0 := HM2.out.symm
        rw [hVV]
        have hV : ¬ (n0 : Int) < 56 := by omega
        have hfit : ¬ ((r.length + 1 : Nat) : Int) - (1 + (i : Int)) < (n0 : Int) := by omega
        have hV1 : ((n0 : Int) == 1) = false := by rw [beq_eq_false_iff_ne]; omega
        have hcc : ¬ c = 1 + i := by omega
        generalize hn0 : n0 = V at *
        have HVN := Lib.hid hn0
        clear hn0 hVV
        go_wp2_with (first
          | (refine st_cloneB (v := .slice (some ⟨b, o + (1 + i), none⟩) (1 + i + V - (1 + i)) (c - (1 + i))) (l := body) (by rfl) _ _ (by rfl) (by rfl) (by rfl) (RdA.tch (by first | exact HX.out _ rfl | (rw [Nat.add_sub_cancel_left]; exact HX.out _ rfl)) hS.frame) HBL.out ?_
             intro v5 w5 hown hT5
             have hrd := RdF.own hown HBB.out
             obtain ⟨p2, n2, c2, rfl⟩ := slice_keep (hrd [] (by simp))
             have HRD := Lib.hid hrd
             have hB4 := (hS.call hT5).get .head
             have hF := hS.frame
             have hlt4 := (hS.get .head).lt
             have hge4 := (hS.own .head).resolve_right (by simp)
             clear hS hown hrd
             have hS := St.one hB4)
          | (refine st_store (c' := #[.bool false, .slice p2 n2 c2, .slice none 0 0]) hS rfl 68 _ _ rfl rfl rfl (by repeat (first | exact Upd.head | apply Upd.tail)) item_size (by rfl) (by rfl) (one3 rfl rfl rfl) ?_; clear hS; intro w6 hS))
        refine post_cell_two 4 5 6 68 rfl rfl rfl rfl rfl (hS.get .head) hty rfl item_size rfl (part_str_end (h := h) (n0 := V) HE.out.1 HE.out.2.1 HE.out.2.2.1 HH.out.symm rfl (by first | omega | simp) HE.out.2.2.2 (fun X hX => ?_) (by simp; omega) ((hF.trans hT5).fresh hS.frame (fun y hy => by simp at hy; omega)))
        exact ((HRD.out (b4 :: X) (fun y hy => by
          rcases List.mem_cons.1 hy with rfl | hy
          · exact hlt4
          · exact Nat.lt_of_lt_of_le (hX y hy) hF.size)).tch (hS.frame.mono (by simp))).mono (fun y hy => .inl (List.mem_cons_of_mem _ hy))
end Go.Proofs.YtdjhjgockgmbkaaGreatDoor

/- The document's part: lists; any bytes. -/
namespace Go.Proofs.YtdjhjgockgmbkaaGreatDoor
open Go.RowKit

/-- What holds behind some rounds of the loop over a list's bytes. -/
def PTI (w : World) (j : Nat) (b4 b14 : Nat) (body : List Nat) (u : Value) (q : List Nat) (ts : List It) (wr : World) : Prop :=
  ∃ p n c, St [] w wr [(b14, 68, #[.bool true, .slice none 0 0, .slice p n c]), (b4, 68, #[.bool false, .slice none 0 0, .slice none 0 0])] ∧ n = ts.length ∧ IRow [b14, b4] w.heap.size (j + 1) wr (.slice p n c) ts ∧ (∀ g, (Value.slice p n c).ownBlock = some g → g ≠ b14 ∧ g ≠ b4) ∧ RdA [] w u q ∧ q.length + ts.length ≤ body.length ∧ decL (dec j) body.length body = app ts (decL (dec j) (body.length - ts.length) q)
theorem pti_start {w w5 : World} {j b4 b14 : Nat} {body : List Nat} {u : Value} (hS : St [] w w5 [(b14, 68, #[.bool true, .slice none 0 0, .slice none 0 0]), (b4, 68, #[.bool false, .slice none 0 0, .slice none 0 0])]) (hu : RdA [] w u body) : PTI w j b4 b14 body u body [] w5 :=
  ⟨none, 0, 0, hS, rfl, IRow.nil _ _ _ _, fun g hg => by simp [Value.ownBlock] at hg, hu, by simp, by simp only [List.length_nil, Nat.sub_zero]; cases decL (dec j) body.length body <;> rfl⟩
theorem pti_err {w wr : World} {j b4 b14 c : Nat} {body q : List Nat} {u : Value} {ts : List It} (h : PTI w j b4 b14 body u q ts wr) (hq : q ≠ []) (hc : dec j q = .error c) : decL (dec j) body.length body = .error c := by
  obtain ⟨_, _, _, _, _, _, _, _, h4, h5⟩ := h
  have hl := List.length_pos_iff.2 hq
  obtain ⟨m, hm⟩ : ∃ m, body.length - ts.length = m + 1 := ⟨body.length - ts.length - 1, by omega⟩
  rw [h5, hm, decL_err hq hc]; rfl
theorem pti_end {w wr : World} {j b4 b14 : Nat} {body : List Nat} {u : Value} {ts : List It} (h : PTI w j b4 b14 body u [] ts wr) : decL (dec j) body.length body = .ok ts := by
  obtain ⟨_, _, _, _, _, _, _, _, h4, h5⟩ := h
  rw [h5, decL_nil]
  simp [app]
theorem pti_dec {w wr : World} {j b4 b14 : Nat} {body q r : List Nat} {u : Value} {ts : List It} {t : It} (h : PTI w j b4 b14 body u q ts wr) (hq : q ≠ []) (hc : dec j q = .ok (t, r)) : r.length + (ts ++ [t]).length ≤ body.length ∧ decL (dec j) body.length body = app (ts ++ [t]) (decL (dec j) (body.length - (ts ++ [t]).length) r) := by
  obtain ⟨_, _, _, _, _, _, _, _, h4, h5⟩ := h
  have hl := List.length_pos_iff.2 hq
  obtain ⟨_, _, _, _, hlt⟩ := dec_rest hc
  obtain ⟨m, hm⟩ : ∃ m, body.length - ts.length = m + 1 := ⟨body.length - ts.length - 1, by omega⟩
  refine ⟨by rw [List.length_append, List.length_singleton]; omega, ?_⟩
  rw [h5, hm, decL_ok hq hc, app_app, List.length_append, List.length_singleton, show body.length - (ts.length + 1) = m by omega]
/-- The end at a list. -/
theorem part_lst_end {j x h n0 V A : Nat} {r body : List Nat} {ts : List It} {w wr w6 : World} {p : Option Addr} {n c b4 b14 : Nat} {u : Value} {m : Int} (hg : 192 ≤ x) (hs : spl (x :: r) = some (h, n0)) (hA : A = h) (hV : V = n0) (hm : m = ((A + V : Nat) : Int)) (hb : body = ((x :: r).drop h).take n0) (hlen : (x :: r).length ≤ 16777216)
    (hI : PTI w j b4 b14 body u [] ts wr) (hR : IRow [b14, b4] w.heap.size (j + 1) wr (.slice p n c) ts) (hn : n = ts.length) (hown : ∀ g, (Value.slice p n c).ownBlock = some g → g ≠ b14 ∧ g ≠ b4) (hO : Only b4 wr w6) (hw4 : w.heap.size ≤ b4) (hT : Tch [] w w6) :
    PartPost (j + 1) (x :: r) w (.returned (.tuple #[.agg #[.bool true, .slice none 0 0, .slice p n c], .int .i64 m, .int .i64 0])) w6 := by
  subst hA; subst hV
  have hle := spl_some hs
  have hbl : body.length = V := by rw [hb, List.length_take, List.length_drop]; omega
  have hdec : dec (j + 1) (x :: r) = .ok (.lst ts, (x :: r).drop (A + V)) := by
    rw [dec_eq, if_neg (by simp), hs]; simp only []; rw [if_neg (by simp; omega), ← hb, ← hbl, pti_end hI]
  have hts : ts.length ≤ body.length := by obtain ⟨_, _, _, _, _, _, _, _, h4, _⟩ := hI; simpa using h4
  refine partpost_yes (k := j + 2) hdec hm (by rw [List.length_drop]; omega) rfl (by omega) (fun X hX => ?_) hT
  exact (hR.only hO (by simp) (fun e => (hown _ e).2 rfl)).itc (vb := .slice none 0 0) (Y := X) (by omega) (fun y hy => .inr (hX y hy))
theorem part_lst_err {j x h n0 ec : Nat} {r body : List Nat} (hg : 192 ≤ x) (hs : spl (x :: r) = some (h, n0)) (hb : body = ((x :: r).drop h).take n0) (he : decL (dec j) body.length body = .error ec) : dec (j + 1) (x :: r) = .error ec := by
  have hle := spl_some hs
  have hbl : body.length = n0 := by rw [hb, List.length_take, List.length_drop]; omega
  rw [dec_eq, if_neg (by simp), hs]; simp only []; rw [if_neg (by simp; omega), ← hb, ← hbl, he]
theorem IRow.tch {X bs : List Nat} {B k : Nat} {w w' : World} {v : Value} {ts : List It} (h : IRow X B k w v ts) (hT : Tch bs w w') (hbs : ∀ b ∈ bs, b ∈ X ∧ v.ownBlock ≠ some b) : IRow X B k w' v ts := by
  obtain ⟨us, h1, h2⟩ := h
  have hown : w'.ownsRow B 68 3 v ts.length us := by
    refine ⟨h1.1, ?_⟩
    rcases h1.2 with hn | ⟨g, cap, cur, rfl, hb, hgg, rest⟩
    · exact .inl hn
    · exact .inr ⟨g, cap, cur, rfl, hb, by rw [hT.block g (Array.getElem?_eq_some_iff.1 hgg).1 (fun hm => (hbs g hm).2 rfl)]; exact hgg, rest⟩
  refine ⟨us, hown, fun i hi => ?_⟩
  obtain ⟨y0, yb, yl, h3, h4, h5, h6⟩ := h2 i hi
  exact ⟨y0, yb, yl, h3, h4, h5, fun Z hZ => (h6 Z hZ).tch (hT.mono (fun b hb => .inl (List.mem_append_right _ (List.mem_append_left _ (hbs b hb).1))))⟩
end Go.Proofs.YtdjhjgockgmbkaaGreatDoor

/- The document's part: lists. -/
namespace Go.Proofs.YtdjhjgockgmbkaaGreatDoor
open Go.RowKit

theorem short_any {x : Nat} {r : List Nat} {h n : Nat} (hs : spl (x :: r) = some (h, n)) (hx : 128 ≤ x) (h64 : x % 64 ≤ 55) : h = 1 ∧ n = x % 64 ∧ n ≤ r.length := by
  obtain ⟨h1, h2, h3, _⟩ := short_some hs hx h64
  exact ⟨h1, h2, h3⟩
set_option maxHeartbeats 6000000 in
set_option maxRecDepth 100000 in
theorem part_list_short (j : Nat) (v : Value) (x : Nat) (r : List Nat) (w : World) (hn : (x :: r).length ≤ 16777216) (hv : RdA [] w v (x :: r)) (h n0 j' : Nat) (body : List Nat) (hx : 128 ≤ x) (hx1 : 192 ≤ x) (hjj : j = j' + 1) (hj32 : j ≤ 32) (hih : PartOK j') (hs : spl (x :: r) = some (h, n0)) (h64 : x % 64 ≤ 55) (hbody : body = ((x :: r).drop h).take n0) : Calls Tryz.prog 66 #[v, .int .i64 (j : Int)] w (PartPost j (x :: r) w) := by
  obtain ⟨f0, f1, f2, hty, _⟩ := item_ty
  have hS := St.start w
  obtain ⟨p, n, c, rfl⟩ := slice_keep hv
  obtain ⟨p', c', hp, hcap, hb, h4⟩ := id hv
  have hxb := hb x List.mem_cons_self
  cases hp
  obtain ⟨b, o, rfl, hbw, _, h8⟩ := h4 (by simp)
  have hc0 := h8 0 (by simp)
  rw [Nat.add_zero] at hc0
  simp only [List.getD_cons_zero] at hc0
  obtain ⟨rfl, rfl, hfit⟩ := short_any hs hx h64
  have hg : ¬ (192 ≤ x ∧ j = 0) := by omega
  have hx2 : ¬ (x : Int) < 128 := by omega
  have hxx : (192 ≤ x ∧ 0 < j) ∨ x < 192 := by
    rcases Nat.lt_or_ge x 192 with h | h
    · exact .inr h
    · exact .inl ⟨h, by rcases Nat.eq_zero_or_pos j with h0 | h0; exact absurd ⟨h, h0⟩ hg; exact h0⟩
  obtain ⟨N, hN⟩ : ∃ N, N = x % 64 := ⟨_, rfl⟩
  have hand := and63 x hxb
  rw [← hN] at hand
  have hk4 : ∀ w' : World, Tch [] w w' → w'.cell? ⟨b, o, none⟩ = some (.int .u8 (x : Int)) := fun w' hT => (hT.cell (p := ⟨b, o, none⟩) hbw (by simp)).trans hc0
  have HK := Lib.hid hk4
  have hHE := And.intro hx1 (And.intro hx (And.intro hs hbody))
  have hbl : body.length ≤ 16777216 := by rw [hbody, List.length_take, List.length_drop]; simp at hn ⊢; omega
  have HE := Lib.hid hHE
  have HBL := Lib.hid hbl
  have HJ := Lib.hid hjj
  have HIH := Lib.hid hih
  have HLEN := Lib.hid hn
  have hx4 : (192 : Int) ≤ x := by omega
  have hj0 : ((j : Int) == 0) = false := by rw [beq_eq_false_iff_ne]; omega
  have hj1 : ¬ (j : Int) = 0 := by omega
  have hjm : (j : Int) - 1 = (j' : Int) := by omega
  have hjl : j' ≤ 31 := by omega
  have hX : ∀ q, (c ≠ 1 → q = some ⟨b, o + 1, none⟩) → RdA [] w (.slice q N (c - 1)) body := fun q hq => by
    by_cases hc1 : c = 1
    · have h0 : N = 0 := by have : r.length + 1 ≤ c := hcap; omega
      have hb0 : body = [] := by rw [hbody, ← hN, h0, List.take_zero]
      rw [hb0, h0]
      exact ⟨q, c - 1, rfl, Nat.zero_le _, by simp, fun h => absurd rfl h⟩
    · rw [hq hc1, hbody, ← hN]
      exact (hv.from_ne 1 (by simp)).take (by simp; omega)
  have HX := Lib.hid hX
  have hN55 : N ≤ 55 := by omega
  have hlt55 : ¬ (55 : Int) < (N : Int) := by omega
  have hfit2 : ¬ ((r.length + 1 : Nat) : Int) - 1 < (N : Int) := by omega
  have hfit3 : N ≤ r.length := by omega
  have hcap2 : r.length + 1 ≤ c := hcap
  have HN := Lib.hid hN
  have hlen3 : r.length + 1 ≤ 16777216 := hn
  clear h8 h4 hv hb hk4 hc0 hs hg hN hX hHE hbl hbody h64 hfit hih hjj hxx hx hx1
  simp only [List.length_cons] at *
  by_cases hcc : c = 1
  · subst hcc
    go_enter Tryz.func66, Tryz.ntmps66
    go_wp2_with (first
      | (refine st_new (L := []) hS rfl 68 rfl item_zero ?_; clear hS; intro w4 b4 hS; have hc4 := HK.out w4 hS.frame)
      | (refine st_new (L := [(b4, 68, #[.bool false, .slice none 0 0, .slice none 0 0])]) hS rfl 68 rfl item_zero ?_; clear hS; intro w5 b14 hS)
      | (refine st_store (c' := #[.bool true, .slice none 0 0, .slice none 0 0]) hS rfl 68 _ _ rfl rfl rfl (by repeat (first | exact Upd.head | apply Upd.tail)) item_size (by rfl) (by rfl) (one3 rfl rfl rfl) ?_; clear hS; intro w6 hS))
    have H6 := Lib.hid (pti_start (j := j') hS (HX.out (some ⟨b, o, none⟩) (fun h => absurd rfl h)))
    clear hS
    go_loopw [13] (fun uv wr => ∃ u q ts, u = uv ∧ PTI w j' b4 b14 body u q ts wr) (fun uv _ => slLen uv)
    case atStart =>
      refine ⟨_, body, [], ?_, H6.out⟩
      first
      | rfl
      | rw [Nat.add_sub_cancel_left]
    case round =>
      obtain ⟨u, q, ts, rfl, hI⟩ := hrel
      obtain ⟨pn, nn, cn, hS, hnn, hR, hown, hu, hql, _⟩ := id hI
      subst hnn
      obtain ⟨pu, nu, cu, rfl⟩ := slice_keep hu
      have hlq := hu.len
      have hcu := hu.cap
      have hblen := HBL.out
      have HII := Lib.hid hI
      have HR := Lib.hid hR
      have HOWN := Lib.hid hown
      have HU := Lib.hid hu
      have hge14 := (hS.own .head).resolve_right (by simp)
      have hge4 := (hS.own (.tail .head)).resolve_right (by simp)
      clear hI hR hown hu
      by_cases hq0 : q = []
      · subst hq0
        obtain rfl : nu = 0 := hlq
        go_wp2_with (first
          | (refine st_load hS rfl 68 _ rfl rfl (by repeat (first | exact At.head | apply At.tail)) hty rfl item_size (by rfl) ?_)
          | (refine arm_store (w' := wr.setRow b4 #[.bool true, .slice none 0 0, .slice pn ts.length cn]) (b := b4) (c := #[.bool true, .slice none 0 0, .slice pn ts.length cn]) rfl 68 _ _ rfl rfl rfl ((hS.get (.tail .head)).store item_size (by rfl) (by rfl) (one3 rfl rfl rfl)) ?_))
        have hS9 := hS.upd (.tail .head) (Only.setRow wr b4 #[.bool true, .slice none 0 0, .slice pn ts.length cn]) ((hS.get (.tail .head)).row _)
        refine post_cell_two 4 5 6 68 rfl rfl rfl rfl rfl (hS9.get (.tail .head)) hty rfl item_size rfl ?_
        rw [HJ.out]
        exact part_lst_end (h := 1) (n0 := x % 64) HE.out.1 HE.out.2.2.1 rfl HN.out (by first | omega | simp) HE.out.2.2.2 HLEN.out HII.out HR.out rfl HOWN.out (Only.setRow _ _ _) hge4 hS9.frame
      · have hpos := List.length_pos_iff.2 hq0
        have hnu : 0 < nu := by omega
        have hnu2 : nu ≤ 16777216 := by omega
        have HLQ := Lib.hid hlq
        have hcall := HIH.out (.slice pu nu cu) q wr (by omega) (HU.out.tch hS.frame)
        have HQ0 := Lib.hid hq0
        cases hdq : dec j' q with
        | error ec =>
          have hc2 := hcall.mono (R' := fun e w' => ∃ d p1 n1 c1 p2 n2 c2, ∃ cnt : Nat, e = .returned (.tuple #[.agg #[.bool d, .slice p1 n1 c1, .slice p2 n2 c2], .int .i64 (cnt : Int), .int .i64 (ec : Int)]) ∧ Tch [] wr w') (fun e w' h => by
            obtain ⟨h1, d, p1, n1, c1, p2, n2, c2, cnt, en, h2, h3⟩ := h
            rw [hdq] at h3
            obtain ⟨rfl, _⟩ := h3
            exact ⟨d, p1, n1, c1, p2, n2, c2, cnt, h2, h1⟩)
          have hec := dec_error hdq
          have hec0 : ((ec : Int) != 0) = true := by rw [bne_iff_ne]; omega
          have hec1 : ¬ (ec : Int) = 0 := by omega
          have HCC := Lib.hid hc2
          have HLE := Lib.hid (part_lst_err (h := 1) (n0 := x % 64) HE.out.1 HE.out.2.2.1 HE.out.2.2.2 (pti_err HII.out hq0 hdq))
          clear hcall hc2 hdq hlq
          go_wp2_with (first
            | (go_at_call 66; with_reducible refine HCC.out.mono ?_; rintro e w7 ⟨d, p1, n1, c1, p2, n2, c2, cnt, rfl, hT7⟩; replace hS := hS.call hT7)
            | (refine st_new (L := [(b14, 68, #[.bool true, .slice none 0 0, .slice pn ts.length cn]), (b4, 68, #[.bool false, .slice none 0 0, .slice none 0 0])]) hS rfl 68 rfl item_zero ?_; clear hS; intro w8 b15 hS)
            | (refine st_store (c' := #[.bool d, .slice p1 n1 c1, .slice p2 n2 c2]) hS rfl 68 _ _ rfl rfl rfl (by repeat (first | exact Upd.head | apply Upd.tail)) item_size (by rfl) (by rfl) (one3 rfl rfl rfl) ?_; clear hS; intro w9 hS)
            | (refine st_store (c' := #[.bool false, .slice none 0 0, .slice none 0 0]) hS rfl 68 _ _ rfl rfl rfl (by repeat (first | exact Upd.head | apply Upd.tail)) item_size (by rfl) (by rfl) (one3 rfl rfl rfl) ?_; clear hS; intro w10 hS))
          refine post_cell_two 4 5 6 68 rfl rfl rfl rfl rfl (hS.get (.tail (.tail .head))) hty rfl item_size rfl ?_
          rw [HJ.out]
          exact partpost_no HLE.out rfl hS.frame
        | ok tr =>
          obtain ⟨t, rr⟩ := tr
          have hlt : rr.length < q.length := by obtain ⟨_, _, _, _, h⟩ := dec_rest hdq; exact h
          have hc2 := hcall.mono (R' := fun e w' => ∃ d p1 n1 c1 p2 n2 c2, ∃ cnt : Nat, e = .returned (.tuple #[.agg #[.bool d, .slice p1 n1 c1, .slice p2 n2 c2], .int .i64 (cnt : Int), .int .i64 0]) ∧ Tch [] wr w' ∧ cnt + rr.length = q.length ∧ rr = q.drop cnt ∧ ItF wr w' (j' + 1) (.bool d) (.slice p1 n1 c1) (.slice p2 n2 c2) t) (fun e w' h => by
            obtain ⟨h1, d, p1, n1, c1, p2, n2, c2, cnt, en, h2, h3⟩ := h
            rw [hdq] at h3
            obtain ⟨rfl, h4, h5, h6⟩ := h3
            exact ⟨d, p1, n1, c1, p2, n2, c2, cnt, h2, h1, h4, h5, h6⟩)
          have HCC := Lib.hid hc2
          have HPD := Lib.hid (pti_dec HII.out hq0 hdq)
          have HBS : Hid (∀ y ∈ [b14, b4], y ∈ [b14, b4] ∧ (Value.slice pn ts.length cn).ownBlock ≠ some y) := Lib.hid (fun y hy => ⟨hy, fun e => by
            have h1 := HOWN.out y e
            simp only [List.mem_cons, List.not_mem_nil, or_false] at hy
            exact hy.elim h1.1 h1.2⟩)
          have HFR : Hid (∀ Z : List Nat, (∀ z ∈ Z, z < w.heap.size) → ∀ y ∈ (Value.slice pn ts.length cn).ownBlock.toList ++ ([b14, b4] ++ Z), y < wr.heap.size) := Lib.hid (fun Z hZ y hy => by
            rcases List.mem_append.1 hy with hy | hy
            · exact (HR.out.lt y (by simpa using hy)).2
            rcases List.mem_append.1 hy with hy | hy
            · simp only [List.mem_cons, List.not_mem_nil, or_false] at hy
              rcases hy with rfl | rfl
              · exact (hS.get .head).lt
              · exact (hS.get (.tail .head)).lt
            · exact Nat.lt_of_lt_of_le (hZ y hy) hS.frame.size)
          clear hcall hc2 hdq hlq
          go_wp2_with (first
            | (go_at_call 66
               with_reducible refine HCC.out.mono ?_
               rintro e w7 ⟨d, p1, n1, c1, p2, n2, c2, cnt, rfl, hT7, hcnt, hrr, hitf⟩
               have hcn : cnt ≤ nu := by have := HLQ.out; omega
               have hcn1 : 0 < cnt := by omega
               have hmn : nu - cnt = rr.length := by have := HLQ.out; omega
               have HMN := Lib.hid hmn
               clear hmn
               have hS7 := hS.call hT7
               have HF7 := Lib.hid hS7.frame
               have hne := hS7.apart2
               have HR7 := Lib.hid (HR.out.call hT7)
               have HIT := Lib.hid hitf
               have HRR := Lib.hid hrr
               obtain ⟨p3, c3, hsl, hc3, hrd⟩ := slice_from pu nu cu cnt hcn hcu
               have HSL := Lib.hid hsl
               have HRD := Lib.hid (hrd [] w q HU.out)
               clear hS hT7 hrr hitf hsl hrd
               have hS := St.two (hS7.get .head) (hS7.get (.tail .head)) hne
               clear hS7)
            | (refine st_new (L := [(b14, 68, #[.bool true, .slice none 0 0, .slice pn ts.length cn]), (b4, 68, #[.bool false, .slice none 0 0, .slice none 0 0])]) hS rfl 68 rfl item_zero ?_; clear hS; intro w8 b15 hS)
            | (refine st_store (c' := #[.bool d, .slice p1 n1 c1, .slice p2 n2 c2]) hS rfl 68 _ _ rfl rfl rfl (by repeat (first | exact Upd.head | apply Upd.tail)) item_size (by rfl) (by rfl) (one3 rfl rfl rfl) ?_; clear hS; intro w9 hS; have hcl := (hS.get (.tail .head)).cell (j := 2) rfl)
            | (refine st_load (b := b15) hS rfl 68 _ rfl rfl (by repeat (first | exact At.head | apply At.tail)) hty rfl item_size (by rfl) ?_)
            | (at_builtin
               go_must (
                 refine st_appendI (w0 := w) (w := w9) (X := [b14, b4]) (k := j' + 1) (v := .slice pn ts.length cn) (y0 := .bool d) (yb := .slice p1 n1 c1) (yl := .slice p2 n2 c2) (ts := ts) (t := t) (by rfl) _ _ (by rfl) (by rfl) (by rfl) (HR7.out.tch hS.frame HBS.out) (fun Z hZ => (HIT.out _ (HFR.out Z hZ)).tch (hS.frame.mono (fun y hy => .inl (List.mem_append_right _ (List.mem_append_left _ hy))))) (one3 rfl rfl rfl) (HF7.out.fresh hS.frame (fun y hy => by simp only [List.mem_cons, List.not_mem_nil, or_false] at hy; rcases hy with rfl | rfl; exact hge14; exact hge4)) (by omega) ?_
                 intro p4 c4 w10 hR10 hT10 hsz hkeep hown10
                 have hB14 : Blk w10 b14 68 #[.bool true, .slice none 0 0, .slice pn ts.length cn] := by unfold Blk; rw [hkeep b14 (hS.get (.tail .head)).lt (fun e => (HOWN.out _ e).1 rfl)]; exact hS.get (.tail .head)
                 have hB4 : Blk w10 b4 68 #[.bool false, .slice none 0 0, .slice none 0 0] := by unfold Blk; rw [hkeep b4 (hS.get (.tail (.tail .head))).lt (fun e => (HOWN.out _ e).2 rfl)]; exact hS.get (.tail (.tail .head))
                 have hown11 : ∀ g, (Value.slice p4 (ts.length + 1) c4).ownBlock = some g → g ≠ b14 ∧ g ≠ b4 := fun g hg => by
                   rcases hown10 with e | e
                   · rw [e] at hg; exact HOWN.out g hg
                   · have h1 := e g hg
                     have h2 := (hS.get (.tail .head)).lt
                     have h3 := (hS.get (.tail (.tail .head))).lt
                     omega
                 have HR10 := Lib.hid hR10
                 have HO11 := Lib.hid hown11
                 have hS10 := St.of_two hT10 hB14 hB4 hne hge14 hge4
                 clear hS hcl hR10 hT10 hsz hkeep hown10 hown11 hB14 hB4
                 have hS := hS10
                 clear hS10))
            | (refine arm_store1 (b := b14) (j := 2) (v := .slice p4 (ts.length + 1) c4) rfl 66 _ _ rfl rfl rfl rfl sli_size (hS.get .head) (by show 2 < 3; decide) ?_
               intro w11 hB11 hO11
               have hS11 := hS.upd .head hO11 hB11
               have HR11 := Lib.hid (HR10.out.only hO11 (by simp) (fun e => (HO11.out _ e).1 rfl))
               clear hS hB11 hO11
               have hS := hS11
               clear hS11)
            | (refine st_from (v := .slice pu nu cu) (l := .int .i64 (cnt : Int)) (r := .slice p3 (nu - cnt) c3) rfl 26 _ _ (by rfl) (by rfl) (by rfl) HSL.out ?_))
          go_roundw
          case rel =>
            refine ⟨_, rr, ts ++ [t], rfl, p4, ts.length + 1, c4, hS, by simp, HR11.out, HO11.out, ?_, HPD.out⟩
            rw [HRR.out]
            exact HRD.out
          case measure =>
            have h1 := HLQ.out
            simp [slLen]; omega
  · go_enter Tryz.func66, Tryz.ntmps66
    go_wp2_with (first
      | (refine st_new (L := []) hS rfl 68 rfl item_zero ?_; clear hS; intro w4 b4 hS; have hc4 := HK.out w4 hS.frame)
      | (refine st_new (L := [(b4, 68, #[.bool false, .slice none 0 0, .slice none 0 0])]) hS rfl 68 rfl item_zero ?_; clear hS; intro w5 b14 hS)
      | (refine st_store (c' := #[.bool true, .slice none 0 0, .slice none 0 0]) hS rfl 68 _ _ rfl rfl rfl (by repeat (first | exact Upd.head | apply Upd.tail)) item_size (by rfl) (by rfl) (one3 rfl rfl rfl) ?_; clear hS; intro w6 hS))
    have H6 := Lib.hid (pti_start (j := j') hS (HX.out (some ⟨b, o + 1, none⟩) (fun _ => rfl)))
    clear hS
    go_loopw [13] (fun uv wr => ∃ u q ts, u = uv ∧ PTI w j' b4 b14 body u q ts wr) (fun uv _ => slLen uv)
    case atStart =>
      refine ⟨_, body, [], ?_, H6.out⟩
      first
      | rfl
      | rw [Nat.add_sub_cancel_left]
    case round =>
      obtain ⟨u, q, ts, rfl, hI⟩ := hrel
      obtain ⟨pn, nn, cn, hS, hnn, hR, hown, hu, hql, _⟩ := id hI
      subst hnn
      obtain ⟨pu, nu, cu, rfl⟩ := slice_keep hu
      have hlq := hu.len
      have hcu := hu.cap
      have hblen := HBL.out
      have HII := Lib.hid hI
      have HR := Lib.hid hR
      have HOWN := Lib.hid hown
      have HU := Lib.hid hu
      have hge14 := (hS.own .head).resolve_right (by simp)
      have hge4 := (hS.own (.tail .head)).resolve_right (by simp)
      clear hI hR hown hu
      by_cases hq0 : q = []
      · subst hq0
        obtain rfl : nu = 0 := hlq
        go_wp2_with (first
          | (refine st_load hS rfl 68 _ rfl rfl (by repeat (first | exact At.head | apply At.tail)) hty rfl item_size (by rfl) ?_)
          | (refine arm_store (w' := wr.setRow b4 #[.bool true, .slice none 0 0, .slice pn ts.length cn]) (b := b4) (c := #[.bool true, .slice none 0 0, .slice pn ts.length cn]) rfl 68 _ _ rfl rfl rfl ((hS.get (.tail .head)).store item_size (by rfl) (by rfl) (one3 rfl rfl rfl)) ?_))
        have hS9 := hS.upd (.tail .head) (Only.setRow wr b4 #[.bool true, .slice none 0 0, .slice pn ts.length cn]) ((hS.get (.tail .head)).row _)
        refine post_cell_two 4 5 6 68 rfl rfl rfl rfl rfl (hS9.get (.tail .head)) hty rfl item_size rfl ?_
        rw [HJ.out]
        exact part_lst_end (h := 1) (n0 := x % 64) HE.out.1 HE.out.2.2.1 rfl HN.out (by first | omega | simp) HE.out.2.2.2 HLEN.out HII.out HR.out rfl HOWN.out (Only.setRow _ _ _) hge4 hS9.frame
      · have hpos := List.length_pos_iff.2 hq0
        have hnu : 0 < nu := by omega
        have hnu2 : nu ≤ 16777216 := by omega
        have HLQ := Lib.hid hlq
        have hcall := HIH.out (.slice pu nu cu) q wr (by omega) (HU.out.tch hS.frame)
        have HQ0 := Lib.hid hq0
        cases hdq : dec j' q with
        | error ec =>
          have hc2 := hcall.mono (R' := fun e w' => ∃ d p1 n1 c1 p2 n2 c2, ∃ cnt : Nat, e = .returned (.tuple #[.agg #[.bool d, .slice p1 n1 c1, .slice p2 n2 c2], .int .i64 (cnt : Int), .int .i64 (ec : Int)]) ∧ Tch [] wr w') (fun e w' h => by
            obtain ⟨h1, d, p1, n1, c1, p2, n2, c2, cnt, en, h2, h3⟩ := h
            rw [hdq] at h3
            obtain ⟨rfl, _⟩ := h3
            exact ⟨d, p1, n1, c1, p2, n2, c2, cnt, h2, h1⟩)
          have hec := dec_error hdq
          have hec0 : ((ec : Int) != 0) = true := by rw [bne_iff_ne]; omega
          have hec1 : ¬ (ec : Int) = 0 := by omega
          have HCC := Lib.hid hc2
          have HLE := Lib.hid (part_lst_err (h := 1) (n0 := x % 64) HE.out.1 HE.out.2.2.1 HE.out.2.2.2 (pti_err HII.out hq0 hdq))
          clear hcall hc2 hdq hlq
          go_wp2_with (first
            | (go_at_call 66; with_reducible refine HCC.out.mono ?_; rintro e w7 ⟨d, p1, n1, c1, p2, n2, c2, cnt, rfl, hT7⟩; replace hS := hS.call hT7)
            | (refine st_new (L := [(b14, 68, #[.bool true, .slice none 0 0, .slice pn ts.length cn]), (b4, 68, #[.bool false, .slice none 0 0, .slice none 0 0])]) hS rfl 68 rfl item_zero ?_; clear hS; intro w8 b15 hS)
            | (refine st_store (c' := #[.bool d, .slice p1 n1 c1, .slice p2 n2 c2]) hS rfl 68 _ _ rfl rfl rfl (by repeat (first | exact Upd.head | apply Upd.tail)) item_size (by rfl) (by rfl) (one3 rfl rfl rfl) ?_; clear hS; intro w9 hS)
            | (refine st_store (c' := #[.bool false, .slice none 0 0, .slice none 0 0]) hS rfl 68 _ _ rfl rfl rfl (by repeat (first | exact Upd.head | apply Upd.tail)) item_size (by rfl) (by rfl) (one3 rfl rfl rfl) ?_; clear hS; intro w10 hS))
          refine post_cell_two 4 5 6 68 rfl rfl rfl rfl rfl (hS.get (.tail (.tail .head))) hty rfl item_size rfl ?_
          rw [HJ.out]
          exact partpost_no HLE.out rfl hS.frame
        | ok tr =>
          obtain ⟨t, rr⟩ := tr
          have hlt : rr.length < q.length := by obtain ⟨_, _, _, _, h⟩ := dec_rest hdq; exact h
          have hc2 := hcall.mono (R' := fun e w' => ∃ d p1 n1 c1 p2 n2 c2, ∃ cnt : Nat, e = .returned (.tuple #[.agg #[.bool d, .slice p1 n1 c1, .slice p2 n2 c2], .int .i64 (cnt : Int), .int .i64 0]) ∧ Tch [] wr w' ∧ cnt + rr.length = q.length ∧ rr = q.drop cnt ∧ ItF wr w' (j' + 1) (.bool d) (.slice p1 n1 c1) (.slice p2 n2 c2) t) (fun e w' h => by
            obtain ⟨h1, d, p1, n1, c1, p2, n2, c2, cnt, en, h2, h3⟩ := h
            rw [hdq] at h3
            obtain ⟨rfl, h4, h5, h6⟩ := h3
            exact ⟨d, p1, n1, c1, p2, n2, c2, cnt, h2, h1, h4, h5, h6⟩)
          have HCC := Lib.hid hc2
          have HPD := Lib.hid (pti_dec HII.out hq0 hdq)
          have HBS : Hid (∀ y ∈ [b14, b4], y ∈ [b14, b4] ∧ (Value.slice pn ts.length cn).ownBlock ≠ some y) := Lib.hid (fun y hy => ⟨hy, fun e => by
            have h1 := HOWN.out y e
            simp only [List.mem_cons, List.not_mem_nil, or_false] at hy
            exact hy.elim h1.1 h1.2⟩)
          have HFR : Hid (∀ Z : List Nat, (∀ z ∈ Z, z < w.heap.size) → ∀ y ∈ (Value.slice pn ts.length cn).ownBlock.toList ++ ([b14, b4] ++ Z), y < wr.heap.size) := Lib.hid (fun Z hZ y hy => by
            rcases List.mem_append.1 hy with hy | hy
            · exact (HR.out.lt y (by simpa using hy)).2
            rcases List.mem_append.1 hy with hy | hy
            · simp only [List.mem_cons, List.not_mem_nil, or_false] at hy
              rcases hy with rfl | rfl
              · exact (hS.get .head).lt
              · exact (hS.get (.tail .head)).lt
            · exact Nat.lt_of_lt_of_le (hZ y hy) hS.frame.size)
          clear hcall hc2 hdq hlq
          go_wp2_with (first
            | (go_at_call 66
               with_reducible refine HCC.out.mono ?_
               rintro e w7 ⟨d, p1, n1, c1, p2, n2, c2, cnt, rfl, hT7, hcnt, hrr, hitf⟩
               have hcn : cnt ≤ nu := by have := HLQ.out; omega
               have hcn1 : 0 < cnt := by omega
               have hmn : nu - cnt = rr.length := by have := HLQ.out; omega
               have HMN := Lib.hid hmn
               clear hmn
               have hS7 := hS.call hT7
               have HF7 := Lib.hid hS7.frame
               have hne := hS7.apart2
               have HR7 := Lib.hid (HR.out.call hT7)
               have HIT := Lib.hid hitf
               have HRR := Lib.hid hrr
               obtain ⟨p3, c3, hsl, hc3, hrd⟩ := slice_from pu nu cu cnt hcn hcu
               have HSL := Lib.hid hsl
               have HRD := Lib.hid (hrd [] w q HU.out)
               clear hS hT7 hrr hitf hsl hrd
               have hS := St.two (hS7.get .head) (hS7.get (.tail .head)) hne
               clear hS7)
            | (refine st_new (L := [(b14, 68, #[.bool true, .slice none 0 0, .slice pn ts.length cn]), (b4, 68, #[.bool false, .slice none 0 0, .slice none 0 0])]) hS rfl 68 rfl item_zero ?_; clear hS; intro w8 b15 hS)
            | (refine st_store (c' := #[.bool d, .slice p1 n1 c1, .slice p2 n2 c2]) hS rfl 68 _ _ rfl rfl rfl (by repeat (first | exact Upd.head | apply Upd.tail)) item_size (by rfl) (by rfl) (one3 rfl rfl rfl) ?_; clear hS; intro w9 hS; have hcl := (hS.get (.tail .head)).cell (j := 2) rfl)
            | (refine st_load (b := b15) hS rfl 68 _ rfl rfl (by repeat (first | exact At.head | apply At.tail)) hty rfl item_size (by rfl) ?_)
            | (at_builtin
               go_must (
                 refine st_appendI (w0 := w) (w := w9) (X := [b14, b4]) (k := j' + 1) (v := .slice pn ts.length cn) (y0 := .bool d) (yb := .slice p1 n1 c1) (yl := .slice p2 n2 c2) (ts := ts) (t := t) (by rfl) _ _ (by rfl) (by rfl) (by rfl) (HR7.out.tch hS.frame HBS.out) (fun Z hZ => (HIT.out _ (HFR.out Z hZ)).tch (hS.frame.mono (fun y hy => .inl (List.mem_append_right _ (List.mem_append_left _ hy))))) (one3 rfl rfl rfl) (HF7.out.fresh hS.frame (fun y hy => by simp only [List.mem_cons, List.not_mem_nil, or_false] at hy; rcases hy with rfl | rfl; exact hge14; exact hge4)) (by omega) ?_
                 intro p4 c4 w10 hR10 hT10 hsz hkeep hown10
                 have hB14 : Blk w10 b14 68 #[.bool true, .slice none 0 0, .slice pn ts.length cn] := by unfold Blk; rw [hkeep b14 (hS.get (.tail .head)).lt (fun e => (HOWN.out _ e).1 rfl)]; exact hS.get (.tail .head)
                 have hB4 : Blk w10 b4 68 #[.bool false, .slice none 0 0, .slice none 0 0] := by unfold Blk; rw [hkeep b4 (hS.get (.tail (.tail .head))).lt (fun e => (HOWN.out _ e).2 rfl)]; exact hS.get (.tail (.tail .head))
                 have hown11 : ∀ g, (Value.slice p4 (ts.length + 1) c4).ownBlock = some g → g ≠ b14 ∧ g ≠ b4 := fun g hg => by
                   rcases hown10 with e | e
                   · rw [e] at hg; exact HOWN.out g hg
                   · have h1 := e g hg
                     have h2 := (hS.get (.tail .head)).lt
                     have h3 := (hS.get (.tail (.tail .head))).lt
                     omega
                 have HR10 := Lib.hid hR10
                 have HO11 := Lib.hid hown11
                 have hS10 := St.of_two hT10 hB14 hB4 hne hge14 hge4
                 clear hS hcl hR10 hT10 hsz hkeep hown10 hown11 hB14 hB4
                 have hS := hS10
                 clear hS10))
            | (refine arm_store1 (b := b14) (j := 2) (v := .slice p4 (ts.length + 1) c4) rfl 66 _ _ rfl rfl rfl rfl sli_size (hS.get .head) (by show 2 < 3; decide) ?_
               intro w11 hB11 hO11
               have hS11 := hS.upd .head hO11 hB11
               have HR11 := Lib.hid (HR10.out.only hO11 (by simp) (fun e => (HO11.out _ e).1 rfl))
               clear hS hB11 hO11
               have hS := hS11
               clear hS11)
            | (refine st_from (v := .slice pu nu cu) (l := .int .i64 (cnt : Int)) (r := .slice p3 (nu - cnt) c3) rfl 26 _ _ (by rfl) (by rfl) (by rfl) HSL.out ?_))
          go_roundw
          case rel =>
            refine ⟨_, rr, ts ++ [t], rfl, p4, ts.length + 1, c4, hS, by simp, HR11.out, HO11.out, ?_, HPD.out⟩
            rw [HRR.out]
            exact HRD.out
          case measure =>
            have h1 := HLQ.out
            simp [slLen]; omega
end Go.Proofs.YtdjhjgockgmbkaaGreatDoor
