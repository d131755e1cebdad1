/- Pieces of bytes; a length that stands in a head. -/
import Derived.Test.YtacnechjofnnjaaR9
namespace Go.Proofs.Ytacnechjofnnjaa
open Go.RowKit

theorem RdA.take {X : List Nat} {w : World} {p : Option Addr} {n c k : Nat} {l : List Nat} (h : RdA X w (.slice p n c) l) (hk : k ≤ n) : RdA X w (.slice p k c) (l.take k) := by
  obtain ⟨p', c', h1, h2, h3, h4⟩ := h
  cases h1
  refine ⟨p, c, by rw [List.length_take, Nat.min_eq_left hk], by rw [List.length_take]; omega, fun x hx => h3 x (List.mem_of_mem_take hx), fun hl => ?_⟩
  have hne : l ≠ [] := by intro e; subst e; simp at hl
  obtain ⟨b, o, h5, h6, h7, h8⟩ := h4 hne
  refine ⟨b, o, h5, h6, h7, fun i hi => ?_⟩
  rw [List.length_take] at hi
  rw [h8 i (by omega), List.getD_eq_getElem?_getD, List.getD_eq_getElem?_getD, List.getElem?_take, if_pos (by omega)]
theorem RdA.len {X : List Nat} {w : World} {p : Option Addr} {n c : Nat} {l : List Nat} (h : RdA X w (.slice p n c) l) : n = l.length := by
  obtain ⟨p', c', h1, _⟩ := h
  cases h1; rfl
theorem RdA.cap {X : List Nat} {w : World} {p : Option Addr} {n c : Nat} {l : List Nat} (h : RdA X w (.slice p n c) l) : n ≤ c := by
  obtain ⟨p', c', h1, h2, _⟩ := h
  cases h1; exact h2
theorem RdA.lt {X : List Nat} {w : World} {v : Value} {l : List Nat} (h : RdA X w v l) : ∀ x ∈ l, x < 256 := h.choose_spec.choose_spec.2.2.1
theorem sizeOf_u8 (w : World) : (sizeOf 5).run Try.prog w = .ok 1 w := by kernel_rfl
/-- Bytes from the k-th on. -/
theorem slice_from (p : Option Addr) (n c k : Nat) (hk : k ≤ n) (hc : n ≤ c) : ∃ p' c', (∀ w, (Instr.sliceAt 22 (.slice p n c) (some (.int .i64 (k : Int))) none none).run Try.prog w = .ok (.slice p' (n - k) c') w) ∧ n - k ≤ c' ∧
    ∀ X w l, RdA X w (.slice p n c) l → RdA X w (.slice p' (n - k) c') (l.drop k) := by
  refine ⟨if c = k then p else p.map (·.add (k * 1)), c - k, fun w => ?_, by omega, fun X w l h => ?_⟩
  · have hel : Try.prog.elem 22 = 5 := by kernel_rfl
    have ht : Try.prog.underlying 22 = some (.slice (Try.prog.elem 22)) := by rw [hel]; exact bytes_ty
    have e1 := run_sliceAt_slice (P := Try.prog) (w := w) 22 (.slice p n c) (some (.int .i64 (k : Int))) none none ht
    have e2 := run_slice_l (P := Try.prog) (w := w) 22 p n c ht .i64 (k : Int) (by omega) (by omega)
    rw [e1, e2, hel, sizeOf_u8]
    simp [Result.andThen, sliced]
  · obtain ⟨p', c', h1, h2, h3, h4⟩ := h
    cases h1
    refine ⟨_, _, by rw [List.length_drop], by rw [List.length_drop]; omega, fun x hx => h3 x (List.mem_of_mem_drop hx), fun hl => ?_⟩
    have hlt : k < l.length := by
      rcases Nat.lt_or_ge k l.length with h | h
      · exact h
      · exact absurd (List.drop_eq_nil_of_le h) hl
    obtain ⟨b, o, rfl, h6, h7, h8⟩ := h4 (by intro e; subst e; simp at hlt)
    refine ⟨b, o + k, ?_, h6, h7, fun i hi => ?_⟩
    · rw [if_neg (by omega)]
      simp [Addr.add]
    · rw [List.length_drop] at hi
      rw [Nat.add_assoc, h8 (k + i) (by omega)]
      simp
theorem slice_keep {X : List Nat} {w : World} {v : Value} {l : List Nat} (h : RdA X w v l) : ∃ p n c, v = .slice p n c := by
  obtain ⟨p, c, h, _⟩ := h; exact ⟨p, _, c, h⟩
/-- The number that bytes are. -/
def val (l : List Nat) : Nat := l.foldl (fun a x => a * 256 + x) 0
theorem val_snoc (l : List Nat) (x : Nat) : val (l ++ [x]) = val l * 256 + x := by simp [val]
theorem fold_lt : ∀ (l : List Nat) (a : Nat), (∀ x ∈ l, x < 256) → l.foldl (fun a x => a * 256 + x) a < (a + 1) * 256 ^ l.length
  | [], a, _ => by simp
  | x :: r, a, h => by
    have h1 := fold_lt r (a * 256 + x) (fun y hy => h y (List.mem_cons_of_mem _ hy))
    have h2 := h x List.mem_cons_self
    rw [List.foldl_cons, List.length_cons, Nat.pow_succ]
    refine Nat.lt_of_lt_of_le h1 ?_
    calc (a * 256 + x + 1) * 256 ^ r.length ≤ ((a + 1) * 256) * 256 ^ r.length := Nat.mul_le_mul_right _ (by omega)
      _ = (a + 1) * (256 ^ r.length * 256) := by rw [Nat.mul_assoc, Nat.mul_comm 256]
theorem val_lt (l : List Nat) (h : ∀ x ∈ l, x < 256) : val l < 256 ^ l.length := by
  have := fold_lt l 0 h
  rw [Nat.zero_add, Nat.one_mul] at this
  exact this
def lenOk (l : List Nat) (m : Nat) : Bool := decide (m ≤ l.length) && (l.getD 0 0 != 0) && decide (m ≤ 4) && decide (55 < val (l.take m))
/-- What the length in a head is read as. -/
def LenPost (l : List Nat) (m : Nat) (w : World) (e : Ending) (w' : World) : Prop := w = w' ∧ ∃ v : Nat, e = .returned (.tuple #[.int .i64 (v : Int), .bool (lenOk l m)]) ∧ (lenOk l m = true → v = val (l.take m)) ∧ v < 4294967296
theorem or_byte (n x : Nat) (hx : x < 256) (hn : n < 16777216) : bits BinOp.or IntKind.i64 ((n : Int) * 256) (x : Int) = ((n * 256 + x : Nat) : Int) := by
  have key : (BitVec.ofInt 64 ((n : Int) * 256) ||| BitVec.ofInt 64 (x : Int)).toNat = n * 256 + x := by
    rw [BitVec.toNat_or, BitVec.toNat_ofInt, BitVec.toNat_ofInt]
    have e1 : ((n : Int) * 256 % ((2 ^ 64 : Nat) : Int)).toNat = n <<< 8 := by rw [Nat.shiftLeft_eq]; omega
    have e2 : ((x : Int) % ((2 ^ 64 : Nat) : Int)).toNat = x := by omega
    rw [e1, e2, ← Nat.shiftLeft_add_eq_or_of_lt (show x < 2 ^ 8 by omega), Nat.shiftLeft_eq]
  show IntKind.i64.wrap ((BitVec.ofInt 64 ((n : Int) * 256) ||| BitVec.ofInt 64 (x : Int)).toNat : Nat) = _
  rw [key, IntKind.wrap_i64]
  omega
set_option maxHeartbeats 2000000 in
set_option maxRecDepth 100000 in
theorem length_no (p : Option Addr) (n c m : Nat) (X : List Nat) (l : List Nat) (w : World) (hv : RdA X w (.slice p n c) l) (hm : 1 ≤ m ∧ m ≤ 8) (hn : n ≤ 100000000) (h : m ≤ l.length → l.getD 0 0 ≠ 0 → 4 < m) :
    Calls Try.prog 31 #[.slice p n c, .int .i64 (m : Int)] w (LenPost l m w) := by
  have hl4 := lengthSize_any 16777216 w (by omega) (by omega)
  rw [lsz_four (by omega) (by omega)] at hl4
  have hln := hv.len
  have hno : lenOk l m = false := by
    unfold lenOk
    by_cases h1 : m ≤ l.length
    · by_cases h2 : l.getD 0 0 = 0
      · rw [h2]; simp
      · rw [show decide (m ≤ 4) = false from decide_eq_false (by have := h h1 h2; omega)]; simp
    · rw [show decide (m ≤ l.length) = false from decide_eq_false h1]; rfl
  have hfin : LenPost l m w (.returned (.tuple #[.int .i64 0, .bool false])) w := ⟨rfl, 0, (by rw [hno]; rfl), (fun h => absurd h (by rw [hno]; decide)), (by omega)⟩
  have HF := Lib.hid hfin
  have HL := Lib.hid hl4
  clear hfin hno hl4
  by_cases h1 : m ≤ n
  · have hne : l ≠ [] := by intro e; subst e; simp at hln; omega
    obtain ⟨p', c', hp, _, _, h4⟩ := hv
    cases hp
    obtain ⟨b, o, rfl, _, _, h8⟩ := h4 hne
    have hc0 := h8 0 (by omega)
    rw [Nat.add_zero] at hc0
    have hd1 : ¬ ((l.length : Nat) : Int) < (m : Int) := by omega
    by_cases h2 : l.getD 0 0 = 0
    · rw [h2] at hc0
      clear h8 h4
      go_enter Try.func31, Try.ntmps31
      go_wp2
      go_ret2
      exact HF.out
    · have h42 := h (by omega) h2
      generalize l.getD 0 0 = x at *
      have hx0 : ((x : Int) == 0) = false := by simp; omega
      have hx1 : ¬ (x : Int) = 0 := by omega
      clear h8 h4
      go_enter Try.func31, Try.ntmps31
      go_wp2_with (go_at_call 29; refine HL.out.mono ?_; rintro e w' ⟨rfl, rfl⟩)
      go_ret2
      exact HF.out
  · have hd1 : (n : Int) < (m : Int) := by omega
    clear hv
    go_enter Try.func31, Try.ntmps31
    go_wp2
    go_ret2
    exact HF.out
end Go.Proofs.Ytacnechjofnnjaa
