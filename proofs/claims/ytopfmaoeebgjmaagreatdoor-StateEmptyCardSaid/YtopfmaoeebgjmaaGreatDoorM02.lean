/- Bytes appended to bytes of the call's own; short lists of bytes built. -/
import Derived.Test.YtopfmaoeebgjmaaGreatDoorM01
import Derived.Deep.AppendLies
import Derived.Laws.BitsAll
set_option linter.unusedVariables false
set_option linter.unusedSimpArgs false
namespace Go.Proofs.YtopfmaoeebgjmaaGreatDoor
section
open Go.RowKit
theorem append_any_nil (ty : TypeId) (q : Option Addr) (n c c' : Nat) (w : World) (hn : n ≤ c) (hq : q = none → n = 0 ∧ c = 0) : (Builtin.append_ #[26, 26] ty #[.slice q n c, .slice none 0 c']).run Tryz.prog w = .ok (.slice q n c) w := by
  obtain ⟨i, hi, hz, hs, hb⟩ := info_parts A_info
  cases q with
  | none =>
    obtain ⟨rfl, rfl⟩ := hq rfl
    simp [Builtin.append_, run_underlying bytes_ty, sizeOf, typeInfo, hi, storeCells, Builtin.lenOf, Builtin.firstCells]
  | some a => simp [Builtin.append_, run_underlying bytes_ty, sizeOf, typeInfo, hi, storeCells, Builtin.lenOf, Builtin.firstCells, hn]
theorem st_appB {ops : Array Oper} {rest : List Oper} {o : Oper} {a : Act} {w0 w : World} {Q : Exit → Act → World → Prop} {v u : Value} {l m : List Nat} {ty : TypeId} (hgd : o.guard = none) (s x : Operand)
    (ho : o.op = .call { callee := .builtin .append, args := #[s, x], argTypes := #[26, 26] }) (hs : a.eval s = v) (hx : a.eval x = u) (hown : w.ownsRow w0.heap.size 5 1 v l.length (nb l)) (hT : Tch [] w0 w) (hu : RdB w u m) (hl : l.length + m.length ≤ 100000000)
    (h : ∀ v' w', w'.ownsRow w0.heap.size 5 1 v' (l ++ m).length (nb (l ++ m)) → Tch [] w0 w' → wpList Tryz.prog ops Q rest (a.put o.dst v') w') : wpList Tryz.prog ops Q (o :: rest) a w := by
  obtain ⟨i0, hi, hz0, hz1, hz2⟩ := info_parts A_info
  obtain ⟨p, c, rfl, hlc, hb, h4⟩ := hu
  cases p with
  | none =>
    have hl0 : m = [] := by
      cases m with
      | nil => rfl
      | cons x r => obtain ⟨_, _, h, _⟩ := h4 (by simp); cases h
    subst hl0
    have hv : ∃ q n c, v = .slice q n c ∧ n ≤ c ∧ (q = none → n = 0 ∧ c = 0) := by
      obtain ⟨_, h2⟩ := hown
      rcases h2 with ⟨rfl, _⟩ | ⟨g, cap, cur, rfl, _, _, hn, _⟩
      · exact ⟨none, 0, 0, rfl, Nat.le_refl _, fun _ => ⟨rfl, rfl⟩⟩
      · exact ⟨_, _, _, rfl, hn, fun h => by cases h⟩
    obtain ⟨q, n, cq, rfl, hn, hq⟩ := hv
    refine wpList_plain hgd fun K hK => ?_
    unfold Oper.wp execOp
    simp only [ho, resolve, invoke, builtin, Sem.run_bind, Sem.run_pure, Result.andThen_ok, List.map_toArray, List.map_cons, List.map_nil, hs, hx, List.length_nil, append_any_nil _ q n cq c w hn hq]
    exact hK _ _ (h _ _ (by rw [List.append_nil]; exact hown) hT)
  | some ad =>
    refine wpList_append_own w hgd s x 26 ho w0.heap.size 5 i0 (.int .u8 0) 1 1 bytes_ty hi hz0 hz1 hz2 rfl (by decide) _ _ _ hs hown ad m.length c (nb m) hx (by rw [nb_length, Nat.mul_one]) ?_ (fun u hu => by obtain ⟨x, _, rfl⟩ := List.mem_map.1 hu; rfl) (by unfold maxLen; omega) (by omega) hT.size ?_
    · intro j u hu
      obtain ⟨hj, rfl⟩ := nb_ne hu
      obtain ⟨b, o, h5, h6, h7⟩ := h4 (by intro e; subst e; simp at hj)
      cases h5
      have hadd : (⟨b, o, none⟩ : Addr).add j = ⟨b, o + j, none⟩ := by unfold Addr.add; split <;> simp_all
      rw [hadd]; exact h7 j hj
    · intro v' w' hown' hgrow _
      refine h v' w' ?_ ⟨hgrow.os.trans hT.os, hgrow.tape.trans hT.tape, hgrow.output.trans hT.output, Nat.le_trans hT.size hgrow.size, fun k hk _ => (hgrow.block k (Nat.lt_of_lt_of_le hk hT.size) (fun e => ?_)).trans (hT.block k hk (by simp))⟩
      · have e : nb (l ++ m) = nb l ++ nb m := by simp [nb]
        rw [e, List.length_append]; exact hown'
      · have := (hown.lt k e.symm).1; omega
theorem RdB.lit (w : World) (t : TypeId) (l : List Nat) (hl : ∀ x ∈ l, x < 256) (cs : Array Value) (hc : cs = (nb l).toArray) : RdB (w.alloc (.cells cs t)) (.slice (some ⟨w.heap.size, 0, none⟩) l.length l.length) l := by
  subst hc
  refine ⟨_, _, rfl, Nat.le_refl _, hl, fun _ => ⟨_, _, rfl, (Blk.new w t _).lt, fun i hi => ?_⟩⟩
  rw [Nat.zero_add, (Blk.new w t _).cell (v := .int .u8 ((l.getD i 0 : Nat) : Int)) (by rw [List.getElem?_toArray]; exact nb_get hi)]
theorem own_nil (w w0 : World) : w.ownsRow w0.heap.size 5 1 (.slice none 0 0) ([] : List Nat).length (nb []) := ⟨rfl, .inl ⟨rfl, rfl⟩⟩
theorem u8_agg (w : World) : (isAgg 5).run Tryz.prog w = .ok false w := by simp [isAgg, run_underlying byte_ty]
end
section
def posL : List Nat := [1, 10, 7, 11, 17, 18, 3, 5, 16, 8, 21, 24, 4, 15, 23, 19, 13, 12, 2, 20, 14, 22, 9, 6, 1]
def pos (t : Nat) : Nat := posL.getD t 0
def turnOf (t : Nat) : Nat := (t + 1) * (t + 2) / 2 % 64
def srcL : List Nat := [0, 6, 12, 18, 24, 3, 9, 10, 16, 22, 1, 7, 13, 19, 20, 4, 5, 11, 17, 23, 2, 8, 14, 15, 21]
def rotL : List Nat := [0, 44, 43, 21, 14, 28, 20, 3, 45, 61, 1, 6, 25, 8, 18, 27, 36, 10, 15, 56, 62, 55, 39, 41, 2]
def src (j : Nat) : Nat := srcL.getD j 0
def rot (j : Nat) : Nat := rotL.getD j 0
def tinL : List Nat := [99, 23, 17, 5, 11, 6, 22, 1, 8, 21, 0, 2, 16, 15, 19, 12, 7, 3, 4, 14, 18, 9, 20, 13, 10]
def tin (p : Nat) : Nat := tinL.getD p 99
theorem pos_lt : ∀ t, t < 25 → pos t < 25 := by decide
theorem pos_step : ∀ t, t < 24 → pos (t + 1) = pos t / 5 + 5 * ((2 * (pos t % 5) + 3 * (pos t / 5)) % 5) := by decide
theorem pos_src : ∀ t, t < 24 → src (pos (t + 1)) = pos t ∧ rot (pos (t + 1)) = turnOf t ∧ tin (pos (t + 1)) = t ∧ 0 < turnOf t ∧ turnOf t < 64 := by decide
theorem tin_eq : ∀ p, p < 25 → ∀ t, t < 24 → (tin p = t ↔ p = pos (t + 1)) := by decide
theorem tin_lt : ∀ p, p < 25 → p ≠ 0 → tin p < 24 := by decide
def rolN (x n : Nat) : Nat := x * 2 ^ n % 2 ^ 64 ||| x / 2 ^ (64 - n)
def colN (A : Nat → Nat) (x : Nat) : Nat := A x ^^^ A (x + 5) ^^^ A (x + 10) ^^^ A (x + 15) ^^^ A (x + 20)
def dltN (A : Nat → Nat) (x : Nat) : Nat := colN A ((x + 4) % 5) ^^^ rolN (colN A ((x + 1) % 5)) 1
def thetaN (A : Nat → Nat) (i : Nat) : Nat := A i ^^^ dltN A (i % 5)
def piN (T : Nat → Nat) (j : Nat) : Nat := if rot j = 0 then T (src j) else rolN (T (src j)) (rot j)
def andnN (x y : Nat) : Nat := x &&& (18446744073709551615 - y)
def chiN (B : Nat → Nat) (j : Nat) : Nat := B j ^^^ andnN (B (5 * (j / 5) + (j % 5 + 2) % 5)) (B (5 * (j / 5) + (j % 5 + 1) % 5))
def mixN (A : Nat → Nat) (j : Nat) : Nat := chiN (piN (thetaN A)) j
def roundN (A : Nat → Nat) (rc : Nat) (j : Nat) : Nat := if j = 0 then mixN A 0 ^^^ rc else mixN A j
def rcL : List Nat := [0x0000000000000001, 0x0000000000008082, 0x800000000000808A, 0x8000000080008000,
    0x000000000000808B, 0x0000000080000001, 0x8000000080008081, 0x8000000000008009,
    0x000000000000008A, 0x0000000000000088, 0x0000000080008009, 0x000000008000000A,
    0x000000008000808B, 0x800000000000008B, 0x8000000000008089, 0x8000000000008003,
    0x8000000000008002, 0x8000000000000080, 0x000000000000800A, 0x800000008000000A,
    0x8000000080008081, 0x8000000000008080, 0x0000000080000001, 0x8000000080008008]
def rc (k : Nat) : Nat := rcL.getD k 0
def perN (A : Nat → Nat) : Nat → (Nat → Nat)
  | 0 => A
  | k + 1 => roundN (perN A k) (rc k)
def permN (A : Nat → Nat) : Nat → Nat := perN A 24
def lstep (l : Nat) : Nat := if 128 ≤ l then 2 * l % 256 ^^^ 113 else 2 * l % 256
def lit (l : Nat) : Nat → Nat
  | 0 => l
  | j + 1 => lstep (lit l j)
def iacc (l : Nat) : Nat → Nat
  | 0 => 0
  | j + 1 => if lit l j % 2 = 1 then iacc l j ^^^ 2 ^ (2 ^ j - 1) else iacc l j
def lrd : Nat → Nat
  | 0 => 1
  | k + 1 => lit (lrd k) 7
theorem iota_is : ∀ k, k < 24 → iacc (lrd k) 7 = rc k := by decide +kernel
theorem lstep_lt (l : Nat) : lstep l < 256 := by
  unfold lstep; split
  · exact Nat.xor_lt_two_pow (n := 8) (Nat.mod_lt _ (by decide)) (by decide)
  · exact Nat.mod_lt _ (by decide)
theorem lit_lt {l : Nat} (h : l < 256) : ∀ j, lit l j < 256
  | 0 => h
  | j + 1 => lstep_lt (lit l j)
theorem lrd_lt : ∀ k, lrd k < 256
  | 0 => by decide
  | k + 1 => lit_lt (lrd_lt k) 7
def Lan (A : Nat → Nat) : Prop := ∀ p, A p < 18446744073709551616
theorem x64 {a b : Nat} (ha : a < 18446744073709551616) (hb : b < 18446744073709551616) : a ^^^ b < 18446744073709551616 := Nat.xor_lt_two_pow (n := 64) ha hb
theorem rolN_lt {x n : Nat} (hx : x < 18446744073709551616) : rolN x n < 18446744073709551616 :=
  Nat.or_lt_two_pow (n := 64) (Nat.mod_lt _ (by decide)) (Nat.lt_of_le_of_lt (Nat.div_le_self _ _) hx)
theorem colN_lt {A : Nat → Nat} (h : Lan A) (x : Nat) : colN A x < 18446744073709551616 := x64 (x64 (x64 (x64 (h _) (h _)) (h _)) (h _)) (h _)
theorem dltN_lt {A : Nat → Nat} (h : Lan A) (x : Nat) : dltN A x < 18446744073709551616 := x64 (colN_lt h _) (rolN_lt (colN_lt h _))
theorem theta_lan {A : Nat → Nat} (h : Lan A) : Lan (thetaN A) := fun p => x64 (h p) (dltN_lt h _)
theorem pi_lan {A : Nat → Nat} (h : Lan A) : Lan (piN A) := fun p => by unfold piN; split; exact h _; exact rolN_lt (h _)
theorem andnN_lt {x y : Nat} (h : x < 18446744073709551616) : andnN x y < 18446744073709551616 := Nat.lt_of_le_of_lt Nat.and_le_left h
theorem chi_lan {A : Nat → Nat} (h : Lan A) : Lan (chiN A) := fun p => x64 (h p) (andnN_lt (h _))
theorem mix_lan {A : Nat → Nat} (h : Lan A) : Lan (mixN A) := chi_lan (pi_lan (theta_lan h))
theorem round_lan {A : Nat → Nat} {r : Nat} (h : Lan A) (hr : r < 18446744073709551616) : Lan (roundN A r) := fun p => by unfold roundN; split; exact x64 (mix_lan h 0) hr; exact mix_lan h p
theorem rc_lt (k : Nat) : rc k < 18446744073709551616 := by
  unfold rc
  by_cases h : k < 24
  · exact (show ∀ k, k < 24 → rcL.getD k 0 < 18446744073709551616 by decide) k h
  · rw [List.getD_eq_getElem?_getD, List.getElem?_eq_none (by simp [rcL]; omega)]; decide
theorem per_lan {A : Nat → Nat} (h : Lan A) : ∀ k, Lan (perN A k)
  | 0 => h
  | k + 1 => round_lan (per_lan h k) (rc_lt k)
theorem perm_lan {A : Nat → Nat} (h : Lan A) : Lan (permN A) := per_lan h 24
def xorAt (A : Nat → Nat) (p v : Nat) : Nat → Nat := fun q => if q = p / 8 then A q ^^^ v * 2 ^ (8 * (p % 8)) else A q
structure Sp where
  A : Nat → Nat
  t : Nat
def abs1 (s : Sp) (v : Nat) : Sp := if s.t + 1 = 136 then ⟨permN (xorAt s.A s.t v), 0⟩ else ⟨xorAt s.A s.t v, s.t + 1⟩
def absL (s : Sp) (l : List Nat) : Sp := l.foldl abs1 s
def sp0 : Sp := ⟨fun _ => 0, 0⟩
def finN (s : Sp) : Nat → Nat := permN (xorAt (xorAt s.A s.t 1) 135 128)
def outN (A : Nat → Nat) (i : Nat) : Nat := A (i / 8) / 2 ^ (8 * (i % 8)) % 256
def hashN (l : List Nat) : Nat → Nat := outN (finN (absL sp0 l))
theorem outN_lt (A : Nat → Nat) (i : Nat) : outN A i < 256 := Nat.mod_lt _ (by decide)
theorem shifted_lt {v r : Nat} (hv : v < 256) (hr : r < 8) : v * 2 ^ (8 * r) < 18446744073709551616 := by
  have h1 : 2 ^ (8 * r) ≤ 2 ^ 56 := Nat.pow_le_pow_right (by decide) (by omega)
  have h2 : v * 2 ^ (8 * r) ≤ 255 * 2 ^ 56 := Nat.mul_le_mul (by omega) h1
  omega
theorem xorAt_lan {A : Nat → Nat} {p v : Nat} (h : Lan A) (hv : v < 256) : Lan (xorAt A p v) := fun q => by
  unfold xorAt; split
  · exact x64 (h q) (shifted_lt hv (Nat.mod_lt _ (by decide)))
  · exact h q
def SpOk (s : Sp) : Prop := Lan s.A ∧ s.t < 136
theorem sp0_ok : SpOk sp0 := ⟨fun _ => Nat.zero_lt_succ _, Nat.zero_lt_succ _⟩
theorem abs1_ok {s : Sp} {v : Nat} (h : SpOk s) (hv : v < 256) : SpOk (abs1 s v) := by
  unfold abs1; split
  · exact ⟨perm_lan (xorAt_lan h.1 hv), Nat.zero_lt_succ _⟩
  · exact ⟨xorAt_lan h.1 hv, by have := h.2; show s.t + 1 < 136; omega⟩
theorem absL_ok {s : Sp} : ∀ {l : List Nat}, SpOk s → (∀ v ∈ l, v < 256) → SpOk (absL s l)
  | [], h, _ => h
  | v :: l, h, hl => absL_ok (s := abs1 s v) (l := l) (abs1_ok h (hl v (by simp))) (fun x hx => hl x (by simp [hx]))
theorem absL_append (s : Sp) (l m : List Nat) : absL s (l ++ m) = absL (absL s l) m := by simp [absL, List.foldl_append]
def joinN (b : Nat → Nat) : Nat := b 0 ||| b 1 * 2 ^ 8 ||| b 2 * 2 ^ 16 ||| b 3 * 2 ^ 24 ||| b 4 * 2 ^ 32 ||| b 5 * 2 ^ 40 ||| b 6 * 2 ^ 48 ||| b 7 * 2 ^ 56
theorem or_is_xor {x y k : Nat} (h : x < 2 ^ k) : x ||| y * 2 ^ k = x ^^^ y * 2 ^ k := by
  apply Nat.eq_of_testBit_eq
  intro i
  rw [Nat.testBit_or, Nat.testBit_xor]
  by_cases hi : i < k
  · have : (y * 2 ^ k).testBit i = false := by rw [Nat.testBit_mul_two_pow]; simp; omega
    rw [this]; simp
  · have : x.testBit i = false := Nat.testBit_lt_two_pow (Nat.lt_of_lt_of_le h (Nat.pow_le_pow_right (by decide) (by omega)))
    rw [this]; simp
theorem or_next {x v k : Nat} (h : x < 2 ^ k) (hv : v < 2 ^ 8) : x ||| v * 2 ^ k < 2 ^ (k + 8) :=
  Nat.or_lt_two_pow (Nat.lt_of_lt_of_le h (Nat.pow_le_pow_right (by decide) (by omega))) (by rw [Nat.pow_add, Nat.mul_comm (2 ^ k)]; exact Nat.mul_lt_mul_of_pos_right hv (Nat.two_pow_pos _))
theorem joinN_lt {b : Nat → Nat} (h : ∀ i, i < 8 → b i < 256) : joinN b < 18446744073709551616 := by
  have h0 : b 0 < 2 ^ 8 := h 0 (by decide)
  exact or_next (or_next (or_next (or_next (or_next (or_next (or_next h0 (h 1 (by decide))) (h 2 (by decide))) (h 3 (by decide))) (h 4 (by decide))) (h 5 (by decide))) (h 6 (by decide))) (h 7 (by decide))
theorem joinN_xor {b : Nat → Nat} (h : ∀ i, i < 8 → b i < 256) (x : Nat) :
    x ^^^ joinN b = x ^^^ b 0 * 2 ^ (8 * 0) ^^^ b 1 * 2 ^ (8 * 1) ^^^ b 2 * 2 ^ (8 * 2) ^^^ b 3 * 2 ^ (8 * 3) ^^^ b 4 * 2 ^ (8 * 4) ^^^ b 5 * 2 ^ (8 * 5) ^^^ b 6 * 2 ^ (8 * 6) ^^^ b 7 * 2 ^ (8 * 7) := by
  have h0 : b 0 < 2 ^ 8 := h 0 (by decide)
  have h1 := or_next h0 (h 1 (by decide))
  have h2 := or_next h1 (h 2 (by decide))
  have h3 := or_next h2 (h 3 (by decide))
  have h4 := or_next h3 (h 4 (by decide))
  have h5 := or_next h4 (h 5 (by decide))
  have h6 := or_next h5 (h 6 (by decide))
  unfold joinN
  rw [or_is_xor h6, or_is_xor h5, or_is_xor h4, or_is_xor h3, or_is_xor h2, or_is_xor h1, or_is_xor h0]
  simp only [Nat.mul_zero, Nat.pow_zero, Nat.mul_one, Nat.xor_assoc]
theorem two_xor {A : Nat → Nat} {p v : Nat} (q : Nat) : xorAt A p v q = if q = p / 8 then A q ^^^ v * 2 ^ (8 * (p % 8)) else A q := rfl
theorem abs1_in {s : Sp} {v : Nat} (h : s.t + 1 < 136) : abs1 s v = ⟨xorAt s.A s.t v, s.t + 1⟩ := by unfold abs1; rw [if_neg (by omega)]
def abs8 (s : Sp) (b : Nat → Nat) : Sp :=
  if s.t + 8 = 136 then ⟨permN fun q => if q = s.t / 8 then s.A q ^^^ joinN b else s.A q, 0⟩ else ⟨fun q => if q = s.t / 8 then s.A q ^^^ joinN b else s.A q, s.t + 8⟩
theorem abs1_at (A : Nat → Nat) {t v u : Nat} (h : t + 1 < 136) (hu : u = t + 1) : abs1 ⟨A, t⟩ v = ⟨xorAt A t v, u⟩ := by subst hu; exact abs1_in (s := ⟨A, t⟩) h
theorem abs1_full (A : Nat → Nat) {t v : Nat} (h : t = 135) : abs1 ⟨A, t⟩ v = ⟨permN (xorAt A t v), 0⟩ := by subst h; rfl
theorem xor8 {A : Nat → Nat} {t : Nat} {b : Nat → Nat} (h8 : t % 8 = 0) (hb : ∀ i, i < 8 → b i < 256) :
    xorAt (xorAt (xorAt (xorAt (xorAt (xorAt (xorAt (xorAt A t (b 0)) (t + 1) (b 1)) (t + 2) (b 2)) (t + 3) (b 3)) (t + 4) (b 4)) (t + 5) (b 5)) (t + 6) (b 6)) (t + 7) (b 7) = fun q => if q = t / 8 then A q ^^^ joinN b else A q := by
  funext q
  simp only [two_xor]
  rw [show (t + 1) / 8 = t / 8 by omega, show (t + 2) / 8 = t / 8 by omega, show (t + 3) / 8 = t / 8 by omega, show (t + 4) / 8 = t / 8 by omega, show (t + 5) / 8 = t / 8 by omega, show (t + 6) / 8 = t / 8 by omega, show (t + 7) / 8 = t / 8 by omega,
    show (t + 1) % 8 = 1 by omega, show (t + 2) % 8 = 2 by omega, show (t + 3) % 8 = 3 by omega, show (t + 4) % 8 = 4 by omega, show (t + 5) % 8 = 5 by omega, show (t + 6) % 8 = 6 by omega, show (t + 7) % 8 = 7 by omega, h8]
  by_cases hq : q = t / 8
  · simp only [if_pos hq]; rw [joinN_xor hb]
  · simp only [if_neg hq]
theorem absL_cons (s : Sp) (v : Nat) (l : List Nat) : absL s (v :: l) = absL (abs1 s v) l := rfl
theorem absL_nil (s : Sp) : absL s [] = s := rfl
theorem abs8_is {s : Sp} {b : Nat → Nat} (h8 : s.t % 8 = 0) (ht : s.t < 136) (hb : ∀ i, i < 8 → b i < 256) : absL s [b 0, b 1, b 2, b 3, b 4, b 5, b 6, b 7] = abs8 s b := by
  obtain ⟨A, t⟩ := s
  have h8' : t % 8 = 0 := h8
  have ht' : t < 136 := ht
  have key := xor8 (A := A) h8' hb
  rw [absL_cons, absL_cons, absL_cons, absL_cons, absL_cons, absL_cons, absL_cons, absL_cons, absL_nil]
  rw [abs1_at A (u := t + 1) (by omega) rfl, abs1_at _ (u := t + 2) (by omega) rfl, abs1_at _ (u := t + 3) (by omega) rfl, abs1_at _ (u := t + 4) (by omega) rfl, abs1_at _ (u := t + 5) (by omega) rfl, abs1_at _ (u := t + 6) (by omega) rfl, abs1_at _ (u := t + 7) (by omega) rfl]
  unfold abs8
  by_cases h : t = 128
  · rw [abs1_full _ (by omega), key, if_pos (show t + 8 = 136 by omega)]
  · rw [abs1_at _ (u := t + 8) (by omega) (by omega), key, if_neg (show ¬ t + 8 = 136 by omega)]
theorem xorAt_zero (A : Nat → Nat) (p : Nat) : xorAt A p 0 = A := by funext q; rw [two_xor]; simp
theorem zeros_in {A : Nat → Nat} : ∀ {n t : Nat}, t + n < 136 → absL ⟨A, t⟩ (List.replicate n 0) = ⟨A, t + n⟩
  | 0, t, _ => rfl
  | n + 1, t, h => by
    rw [List.replicate_succ]
    show absL (abs1 ⟨A, t⟩ 0) (List.replicate n 0) = _
    rw [abs1_at A (u := t + 1) (by omega) rfl, xorAt_zero, zeros_in (by omega)]
    congr 1; omega
theorem xor_both (A : Nat → Nat) (p : Nat) : xorAt (xorAt A p 1) p 128 = xorAt A p 129 := by
  funext q
  simp only [two_xor]
  split
  · rw [Nat.xor_assoc, ← Nat.shiftLeft_eq, ← Nat.shiftLeft_eq, ← Nat.shiftLeft_eq, ← Nat.shiftLeft_xor_distrib]; rfl
  · rfl
def padL (t : Nat) : List Nat := if t = 135 then [129] else 1 :: (List.replicate (134 - t) 0 ++ [128])
theorem pad_is {s : Sp} (h : s.t < 136) : absL s (padL s.t) = ⟨finN s, 0⟩ := by
  obtain ⟨A, t⟩ := s
  simp only at h
  unfold padL finN
  simp only
  by_cases ht : t = 135
  · subst ht
    rw [if_pos rfl, xor_both]
    show abs1 ⟨A, 135⟩ 129 = _
    unfold abs1; rw [if_pos rfl]
  · rw [if_neg ht]
    show absL (abs1 ⟨A, t⟩ 1) _ = _
    rw [abs1_at A (u := t + 1) (by omega) rfl, absL_append, zeros_in (by omega)]
    show abs1 ⟨xorAt A t 1, t + 1 + (134 - t)⟩ 128 = _
    rw [show t + 1 + (134 - t) = 135 by omega]
    unfold abs1; rw [if_pos rfl]
theorem absL_t {s : Sp} : ∀ {l : List Nat}, s.t < 136 → (absL s l).t = (s.t + l.length) % 136
  | [], h => by show s.t = _; simp; omega
  | v :: l, h => by
    show (absL (abs1 s v) l).t = _
    have h1 : (abs1 s v).t = (s.t + 1) % 136 := by unfold abs1; split <;> simp only <;> omega
    rw [absL_t (by rw [h1]; omega), h1, List.length_cons]; omega
theorem hash_padded (l : List Nat) : hashN l = outN (absL sp0 (l ++ padL (l.length % 136))).A := by
  have ht : (absL sp0 l).t = l.length % 136 := by rw [absL_t (by decide)]; simp [sp0]
  rw [absL_append, ← ht, pad_is (by rw [ht]; omega)]
  rfl
/-! ### Reckoned out, with numbers that stand as numerals at each step -/
end
section
open Go.RowKit
theorem rol_bits {x k : Nat} (hx : x < 18446744073709551616) : bits BinOp.or IntKind.u64 (IntKind.u64.wrap ((x : Int) * 2 ^ k)) ((x : Int) / 2 ^ (64 - k)) = ((rolN x k : Nat) : Int) := by
  have e1 : IntKind.u64.wrap ((x : Int) * 2 ^ k) = ((x * 2 ^ k % 2 ^ 64 : Nat) : Int) := by
    rw [IntKind.wrap_u64, show (x : Int) * 2 ^ k = ((x * 2 ^ k : Nat) : Int) by rw [Int.natCast_mul, Int.natCast_pow]; rfl]
    generalize x * 2 ^ k = y
    omega
  have e2 : (x : Int) / 2 ^ (64 - k) = ((x / 2 ^ (64 - k) : Nat) : Int) := by rw [Int.natCast_ediv, Int.natCast_pow]; rfl
  have h1 : x * 2 ^ k % 2 ^ 64 < 18446744073709551616 := Nat.mod_lt _ (by decide)
  have h2 : x / 2 ^ (64 - k) < 18446744073709551616 := Nat.lt_of_le_of_lt (Nat.div_le_self _ _) hx
  rw [e1, e2]
  exact u64_or_nat _ _ h1 h2
set_option maxHeartbeats 4000000 in
set_option maxRecDepth 100000 in
theorem rotl_any (x k : Nat) (hx : x < 18446744073709551616) (hk0 : 0 < k) (hk : k < 64) (w : World) :
    Calls Tryz.prog 150 #[.int .u64 (x : Int), .int .i64 (k : Int)] w fun e w' => e = .returned (.int .u64 ((rolN x k : Nat) : Int)) ∧ w = w' := by
  have hand : bits BinOp.and IntKind.u64 (k : Int) 63 = (k : Int) := by
    rw [show (63 : Int) = ((63 : Nat) : Int) from rfl, u64_and_nat k 63 (by omega) (by decide), show (63 : Nat) = 2 ^ 6 - 1 from rfl, Nat.and_two_pow_sub_one_eq_mod, Nat.mod_eq_of_lt (by omega)]
  have HB := hQz (rol_bits (k := k) hx)
  go_enter Tryz.func150, Tryz.ntmps150
  go_wp2
  go_ret
  exact ⟨ret_int HB.out, rfl⟩
set_option maxHeartbeats 4000000 in
set_option maxRecDepth 100000 in
theorem rol_any (x k : Nat) (hx : x < 18446744073709551616) (hk0 : 0 < k) (hk : k < 64) (w : World) :
    Calls Tryz.prog 71 #[.int .u64 (x : Int), .int .u64 (k : Int)] w fun e w' => e = .returned (.int .u64 ((rolN x k : Nat) : Int)) ∧ w = w' := by
  have HB := hQz (rol_bits (k := k) hx)
  have hk1 : ((k : Int) == 0) = false := by simp; omega
  go_enter Tryz.func71, Tryz.ntmps71
  go_wp2
  go_ret
  exact ⟨ret_int HB.out, rfl⟩
theorem results_tmp5 {fn : Func} {t u v x y : Tmp} (h : fn.results = #[.tmp t, .tmp u, .tmp v, .tmp x, .tmp y]) (tmps : Array Value) (P : Program) (w : World) :
    (results fn tmps).run P w = .ok (.tuple #[tmps.getD t undef, tmps.getD u undef, tmps.getD v undef, tmps.getD x undef, tmps.getD y undef]) w := by
  simp [results, h]
theorem mix_bits {a b c : Nat} (ha : a < 18446744073709551616) (hb : b < 18446744073709551616) (hc : c < 18446744073709551616) : bits BinOp.xor IntKind.u64 (a : Int) (bits BinOp.andNot IntKind.u64 (c : Int) (b : Int)) = ((a ^^^ andnN c b : Nat) : Int) := by
  rw [u64_andNot_nat c b hc hb]
  exact u64_xor_nat a _ ha (andnN_lt hc)
set_option maxHeartbeats 4000000 in
set_option maxRecDepth 100000 in
theorem mixrow_any (a b c d e : Nat) (ha : a < 18446744073709551616) (hb : b < 18446744073709551616) (hc : c < 18446744073709551616) (hd : d < 18446744073709551616) (he : e < 18446744073709551616) (w : World) :
    Calls Tryz.prog 151 #[.int .u64 (a : Int), .int .u64 (b : Int), .int .u64 (c : Int), .int .u64 (d : Int), .int .u64 (e : Int)] w fun r w' => r = .returned (.tuple #[.int .u64 ((a ^^^ andnN c b : Nat) : Int), .int .u64 ((b ^^^ andnN d c : Nat) : Int), .int .u64 ((c ^^^ andnN e d : Nat) : Int), .int .u64 ((d ^^^ andnN a e : Nat) : Int), .int .u64 ((e ^^^ andnN b a : Nat) : Int)]) ∧ w = w' := by
  have H := hQz (And.intro ha (And.intro hb (And.intro hc (And.intro hd he))))
  clear ha hb hc hd he
  go_enter Tryz.func151, Tryz.ntmps151
  go_wp2
  refine bodyPost_ret (results_tmp5 rfl _ _ _) rfl ⟨?_, rfl⟩
  obtain ⟨ha, hb, hc, hd, he⟩ := H.out
  rw [← mix_bits ha hb hc, ← mix_bits hb hc hd, ← mix_bits hc hd he, ← mix_bits hd he ha, ← mix_bits he ha hb]
  rfl
end
end Go.Proofs.YtopfmaoeebgjmaaGreatDoor
