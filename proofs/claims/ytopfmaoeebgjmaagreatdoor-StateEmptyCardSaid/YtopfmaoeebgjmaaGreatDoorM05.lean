/- The reference's round. -/
import Derived.Test.YtopfmaoeebgjmaaGreatDoorM01
import Derived.Test.YtopfmaoeebgjmaaGreatDoorM04
import Derived.Deep.QuietTactic
import Derived.BigQuiet
set_option linter.unusedVariables false
set_option linter.unusedSimpArgs false
namespace Go.Proofs.YtopfmaoeebgjmaaGreatDoor
open Go.RowKit
def uf (n : Nat) (f : Nat → Nat) : Array Value := ((List.range n).map fun i => Value.int .u64 ((f i : Nat) : Int)).toArray
theorem uf_size (n : Nat) (f : Nat → Nat) : (uf n f).size = n := by simp [uf]
theorem uf_get {n i : Nat} {f : Nat → Nat} (h : i < n) : (uf n f)[i]? = some (.int .u64 ((f i : Nat) : Int)) := by simp [uf, h]
theorem uf_congr {n : Nat} {f g : Nat → Nat} (h : ∀ i, i < n → f i = g i) : uf n f = uf n g := by
  unfold uf
  congr 1
  apply List.map_congr_left
  intro i hi
  rw [h i (by simpa using hi)]
theorem uf_next {n k v : Nat} {g : Nat → Nat} (h : k < n) (hv : v = g k) : (uf n fun i => if i < k then g i else 0).setIfInBounds k (.int .u64 (v : Int)) = uf n fun i => if i < k + 1 then g i else 0 := by
  apply Array.ext_getElem?
  intro i
  rw [Array.getElem?_setIfInBounds]
  by_cases hi : i < n
  · by_cases hk : k = i
    · subst hk; rw [if_pos rfl, if_pos (by rw [uf_size]; exact h), uf_get h, if_pos (by omega), hv]
    · rw [if_neg hk, uf_get hi, uf_get hi]
      by_cases h2 : i < k
      · rw [if_pos h2, if_pos (by omega)]
      · rw [if_neg h2, if_neg (by omega)]
  · rw [if_neg (by omega), Array.getElem?_eq_none (by rw [uf_size]; omega), Array.getElem?_eq_none (by rw [uf_size]; omega)]
theorem five_lit : uf 5 (fun _ => 0) = #[.int .u64 0, .int .u64 0, .int .u64 0, .int .u64 0, .int .u64 0] := by kernel_rfl
theorem five_zero : (Tryz.prog.info? 148).bind (·.zero) = some (.agg (uf 5 (fun _ => 0))) := by rw [five_lit]; kernel_rfl
theorem theta_step {A : Nat → Nat} {k j s D : Nat} (hk : k < 5) (hs : s = k + 5 * j) (hj : j < 5) (hD : D = dltN A k) (i : Nat) (hi : i < 25) :
    (if i = s then A s ^^^ D else if i % 5 < k ∨ (i % 5 = k ∧ i / 5 < j) then thetaN A i else A i) = if i % 5 < k ∨ (i % 5 = k ∧ i / 5 < j + 1) then thetaN A i else A i := by
  by_cases h : i = s
  · rw [if_pos h, if_pos (by right; omega), h]
    show _ = A s ^^^ dltN A (s % 5)
    rw [hD, show s % 5 = k by omega]
  · rw [if_neg h]
    by_cases h2 : i % 5 < k ∨ (i % 5 = k ∧ i / 5 < j)
    · rw [if_pos h2, if_pos (by omega)]
    · rw [if_neg h2, if_neg (by omega)]
theorem pi_lanes {T : Nat → Nat} {p : Nat} (h : p < 25) : (if tin p < 24 then piN T p else T p) = piN T p := by
  by_cases h0 : p = 0
  · subst h0
    rw [if_neg (by decide)]
    exact (if_pos (by decide)).symm
  · rw [if_pos (tin_lt p h h0)]
theorem pi_step {T : Nat → Nat} {t q : Nat} (ht : t < 24) (hq : q = pos (t + 1)) (i : Nat) (hi : i < 25) :
    (if i = q then rolN (T (pos t)) (turnOf t) else if tin i < t then piN T i else T i) = if tin i < t + 1 then piN T i else T i := by
  have hs := pos_src t ht
  by_cases h : i = q
  · have e : tin i = t := by rw [h, hq]; exact hs.2.2.1
    rw [if_pos h, if_pos (by omega), h, hq]
    unfold piN
    rw [if_neg (by rw [hs.2.1]; omega), hs.1, hs.2.1]
  · have e : tin i ≠ t := fun e => h (by rw [hq]; exact (tin_eq i hi t ht).1 e)
    rw [if_neg h]
    by_cases h2 : tin i < t
    · rw [if_pos h2, if_pos (by omega)]
    · rw [if_neg h2, if_neg (by omega)]
theorem chi_step {E : Nat → Nat} {r k s v : Nat} (hr : r < 5) (hk : k < 5) (hs : s = k + 5 * r) (hv : v = chiN E s) (i : Nat) (hi : i < 25) :
    (if i = s then v else if i / 5 < r ∨ (i / 5 = r ∧ i % 5 < k) then chiN E i else E i) = if i / 5 < r ∨ (i / 5 = r ∧ i % 5 < k + 1) then chiN E i else E i := by
  by_cases h : i = s
  · rw [if_pos h, if_pos (by right; omega), h, hv]
  · rw [if_neg h]
    by_cases h2 : i / 5 < r ∨ (i / 5 = r ∧ i % 5 < k)
    · rw [if_pos h2, if_pos (by omega)]
    · rw [if_neg h2, if_neg (by omega)]
theorem not_bits {x y : Nat} (hx : x < 18446744073709551616) (hy : y < 18446744073709551616) : bits BinOp.and IntKind.u64 (bits BinOp.xor IntKind.u64 18446744073709551615 (x : Int)) (y : Int) = ((andnN y x : Nat) : Int) := by
  have hc : (18446744073709551615 ^^^ x) = 18446744073709551615 - x := by
    apply Nat.eq_of_testBit_eq
    intro i
    have h1 := Nat.testBit_two_pow_sub_succ (n := 64) (x := x) hx i
    rw [show (18446744073709551615 : Nat) - x = 2 ^ 64 - (x + 1) by omega, h1, Nat.testBit_xor, show (18446744073709551615 : Nat) = 2 ^ 64 - 1 from rfl, Nat.testBit_two_pow_sub_one]
    by_cases hi : i < 64
    · simp [hi]
    · have : x.testBit i = false := Nat.testBit_lt_two_pow (Nat.lt_of_lt_of_le hx (Nat.pow_le_pow_right (n := 2) (by omega) (show 64 ≤ i by omega)))
      simp [hi, this]
  rw [show (18446744073709551615 : Int) = ((18446744073709551615 : Nat) : Int) from rfl, u64_xor_nat _ _ (by decide) hx, hc, u64_and_nat _ _ (by omega) hy]
  unfold andnN
  rw [Nat.and_comm]
theorem col_bits {a b c d e : Nat} (ha : a < 18446744073709551616) (hb : b < 18446744073709551616) (hc : c < 18446744073709551616) (hd : d < 18446744073709551616) (he : e < 18446744073709551616) :
    bits BinOp.xor IntKind.u64 (bits BinOp.xor IntKind.u64 (bits BinOp.xor IntKind.u64 (bits BinOp.xor IntKind.u64 (a : Int) (b : Int)) (c : Int)) (d : Int)) (e : Int) = ((a ^^^ b ^^^ c ^^^ d ^^^ e : Nat) : Int) := by
  rw [u64_xor_nat _ _ ha hb, u64_xor_nat _ _ (x64 ha hb) hc, u64_xor_nat _ _ (x64 (x64 ha hb) hc) hd, u64_xor_nat _ _ (x64 (x64 (x64 ha hb) hc) hd) he]
theorem byte_facts : ∀ a : Fin 256, bits BinOp.and IntKind.u8 (a.val : Int) 1 = ((a.val % 2 : Nat) : Int) ∧ bits BinOp.and IntKind.u8 (a.val : Int) 128 = (if 128 ≤ a.val then 128 else 0 : Int) ∧ IntKind.u8.wrap ((a.val : Int) * 2) = ((2 * a.val % 256 : Nat) : Int) ∧ bits BinOp.xor IntKind.u8 (a.val : Int) 113 = ((a.val ^^^ 113 : Nat) : Int) := by decide +kernel
theorem one_set (a b : Value) : (#[a] : Array Value).setIfInBounds 0 b = #[b] := rfl
theorem byte_and1 {L r : Nat} (h : L < 256) (h1 : L % 2 = r) : bits BinOp.and IntKind.u8 (L : Int) 1 = (r : Int) := by rw [(byte_facts ⟨L, h⟩).1]; exact congrArg _ h1
theorem byte_and128 {L : Nat} (h : L < 256) (h2 : 128 ≤ L) : bits BinOp.and IntKind.u8 (L : Int) 128 = 128 := by rw [(byte_facts ⟨L, h⟩).2.1]; exact if_pos h2
theorem byte_and0 {L : Nat} (h : L < 256) (h2 : ¬ 128 ≤ L) : bits BinOp.and IntKind.u8 (L : Int) 128 = 0 := by rw [(byte_facts ⟨L, h⟩).2.1]; exact if_neg h2
theorem byte_shl {L : Nat} (h : L < 256) : IntKind.u8.wrap ((L : Int) * 2) = ((2 * L % 256 : Nat) : Int) := (byte_facts ⟨L, h⟩).2.2.1
theorem byte_x113 {L : Nat} : bits BinOp.xor IntKind.u8 ((2 * L % 256 : Nat) : Int) 113 = ((2 * L % 256 ^^^ 113 : Nat) : Int) := (byte_facts ⟨2 * L % 256, Nat.mod_lt _ (by decide)⟩).2.2.2
theorem reg_on {A : Nat → Nat} {ca : Array Value} {J K : Nat} : lay ca (fun i => if i = 0 then J else (fun p => if p = 0 then K else mixN A p) i) = lay ca (fun p => if p = 0 then J else mixN A p) := lay_congr fun p _ => by
  by_cases hp : p = 0
  · rw [if_pos hp, if_pos hp]
  · rw [if_neg hp, if_neg hp]; exact if_neg hp
section
variable {a : Act} {w : World} {o : Oper} {x y : Operand} {ty yt : TypeId}
theorem x_and8 {m n r : Int} (ho : o.op = .binOp .and 5 x y yt) (hx : a.eval x = .int .u8 m) (hy : a.eval y = .int .u8 n) (h : bits BinOp.and IntKind.u8 m n = r) : (execOp a.eval o).run Tryz.prog w = .ok (.value (.int .u8 r)) w := by
  unfold execOp; simp only [ho, hx, hy]; show Sem.run _ _ w = _; simp [eqGuard, binOp, Op.intBits]; exact h
theorem x_xor8 {m n r : Int} (ho : o.op = .binOp .xor 5 x y yt) (hx : a.eval x = .int .u8 m) (hy : a.eval y = .int .u8 n) (h : bits BinOp.xor IntKind.u8 m n = r) : (execOp a.eval o).run Tryz.prog w = .ok (.value (.int .u8 r)) w := by
  unfold execOp; simp only [ho, hx, hy]; show Sem.run _ _ w = _; simp [eqGuard, binOp, Op.intBits]; exact h
theorem x_eq8 {m n : Int} {t : Bool} (ho : o.op = .binOp .eql 5 x y yt) (hx : a.eval x = .int .u8 m) (hy : a.eval y = .int .u8 n) (h : (m == n) = t) : (execOp a.eval o).run Tryz.prog w = .ok (.value (.bool t)) w := by
  unfold execOp; simp only [ho, hx, hy]; show Sem.run _ _ w = _; simp [eqGuard, binOp, Op.intCmp, h]
theorem x_ne8 {m n : Int} {t : Bool} (ho : o.op = .binOp .neq 5 x y yt) (hx : a.eval x = .int .u8 m) (hy : a.eval y = .int .u8 n) (h : (m != n) = t) : (execOp a.eval o).run Tryz.prog w = .ok (.value (.bool t)) w := by
  unfold execOp; simp only [ho, hx, hy]; show Sem.run _ _ w = _; simp [eqGuard, binOp, Op.intCmp, ← h, bne]
theorem x_shl8 {m r : Int} (ho : o.op = .binOp .shl 5 x y 103) (hx : a.eval x = .int .u8 m) (hy : a.eval y = .int .u64 1) (h : IntKind.u8.wrap (m * 2) = r) : (execOp a.eval o).run Tryz.prog w = .ok (.value (.int .u8 r)) w := by
  unfold execOp; simp only [ho, hx, hy]; show Sem.run _ _ w = _; simp [eqGuard, binOp, Op.shift]; exact h
theorem x_conv7 {j : Nat} (hj : j < 7) (ho : o.op = .convert 3 103 x) (hx : a.eval x = .int .i64 (j : Int)) : (execOp a.eval o).run Tryz.prog w = .ok (.value (.int .u64 (j : Int))) w := by
  have h : IntKind.u64.wrap (j : Int) = (j : Int) := by rw [IntKind.wrap_u64]; omega
  have h1 : Tryz.prog.underlying 3 = some (.int .i64) := by kernel_rfl
  have h2 : Tryz.prog.underlying 103 = some (.int .u64) := by kernel_rfl
  unfold execOp; simp only [ho, hx]; show Sem.run _ _ w = _; simp [convert, run_underlying h1, run_underlying h2, Conv.intToInt, h]
theorem x_shl7 {j : Nat} (hj : j < 7) (ho : o.op = .binOp .shl 103 x y 103) (hx : a.eval x = .int .u64 1) (hy : a.eval y = .int .u64 (j : Int)) : (execOp a.eval o).run Tryz.prog w = .ok (.value (.int .u64 ((2 ^ j : Nat) : Int))) w := by
  unfold execOp
  have h : j = 0 ∨ j = 1 ∨ j = 2 ∨ j = 3 ∨ j = 4 ∨ j = 5 ∨ j = 6 := by omega
  rcases h with rfl | rfl | rfl | rfl | rfl | rfl | rfl <;> simp only [ho, hx, hy] <;> rfl
theorem x_sub7 {j : Nat} (hj : j < 7) (ho : o.op = .binOp .sub 103 x y 103) (hx : a.eval x = .int .u64 ((2 ^ j : Nat) : Int)) (hy : a.eval y = .int .u64 1) : (execOp a.eval o).run Tryz.prog w = .ok (.value (.int .u64 ((2 ^ j - 1 : Nat) : Int))) w := by
  unfold execOp
  have h : j = 0 ∨ j = 1 ∨ j = 2 ∨ j = 3 ∨ j = 4 ∨ j = 5 ∨ j = 6 := by omega
  rcases h with rfl | rfl | rfl | rfl | rfl | rfl | rfl <;> simp only [ho, hx, hy] <;> rfl
theorem x_top7 {j : Nat} (hj : j < 7) (ho : o.op = .binOp .shl 113 x y 103) (hx : a.eval x = .int .u64 1) (hy : a.eval y = .int .u64 ((2 ^ j - 1 : Nat) : Int)) : (execOp a.eval o).run Tryz.prog w = .ok (.value (.int .u64 ((2 ^ (2 ^ j - 1) : Nat) : Int))) w := by
  unfold execOp
  have h : j = 0 ∨ j = 1 ∨ j = 2 ∨ j = 3 ∨ j = 4 ∨ j = 5 ∨ j = 6 := by omega
  rcases h with rfl | rfl | rfl | rfl | rfl | rfl | rfl <;> simp only [ho, hx, hy] <;> rfl
theorem top7_lt {j : Nat} (hj : j < 7) : 2 ^ (2 ^ j - 1) < 18446744073709551616 := by
  have h : j = 0 ∨ j = 1 ∨ j = 2 ∨ j = 3 ∨ j = 4 ∨ j = 5 ∨ j = 6 := by omega
  rcases h with rfl | rfl | rfl | rfl | rfl | rfl | rfl <;> decide
end
section
variable {ops : Array Oper} {o : Oper} {a : Act} {rest : List Oper} {Q : Exit → Act → World → Prop} {bs : List Nat} {w0 w : World} {L : List Ent} {b j : Nat} {t : TypeId} {c : Array Value} {v : Value}
theorem l_cell (hS : St bs w0 w L) (hgd : o.guard = none) (ty : TypeId) (x : Operand) (ho : o.op = .load ty x) (hx : a.eval x = .pointer (some ⟨b, j, none⟩)) (m : At L b t c) (hv : c[j]? = some v)
    (hu : ∀ w, (isAgg ty).run Tryz.prog w = .ok false w) (h : KL ops Q rest (a.put o.dst v) w) : KL ops Q (o :: rest) a w := ⟨st_cell hS hgd ty x ho hx m hv hu h.go⟩
theorem l_ptr (p : Addr) (hw : Region.wanted o (yielded ops a.tmps) = true) (x : Operand) (ho : o.op = .move x) (hx : a.eval x = .pointer (some p))
    (h : KL ops Q rest (a.put o.dst (.pointer (some p))) w) : KL ops Q (o :: rest) a w := l_pure hw (fun w => by unfold execOp; simp only [ho, hx]; rfl) h
end
theorem iacc_lt {l : Nat} : ∀ {j : Nat}, j < 8 → iacc l j < 18446744073709551616
  | 0, _ => Nat.zero_lt_succ _
  | j + 1, h => by
    show (if lit l j % 2 = 1 then iacc l j ^^^ 2 ^ (2 ^ j - 1) else iacc l j) < _
    split
    · exact x64 (iacc_lt (by omega)) (top7_lt (by omega))
    · exact iacc_lt (by omega)
set_option maxHeartbeats 40000000 in
set_option maxRecDepth 100000 in
theorem rround_any (ba bf : Nat) (ta : TypeId) (ca : Array Value) (A : Nat → Nat) (l : Nat) (w : World) (hba : Blk w ba ta (lay ca A)) (hbf : Blk w bf 5 #[.int .u8 (l : Int)]) (hne : ba ≠ bf) (hca : 25 ≤ ca.size) (hA : Lan A) (hl : l < 256) :
    Calls Tryz.prog 49 #[.pointer (some ⟨ba, 0, none⟩), .pointer (some ⟨bf, 0, none⟩)] w fun e w' => e = .returned (.tuple #[]) ∧ Tch [ba, bf] w w' ∧ Blk w' ba ta (lay ca (fun j => if j = 0 then mixN A 0 ^^^ iacc l 7 else mixN A j)) ∧ Blk w' bf 5 #[.int .u8 ((lit l 7 : Nat) : Int)] := by
  have HN := hQz (And.intro hA (And.intro hca (And.intro hl hne)))
  have hS := St.two hba hbf hne
  clear hA hca hl hba hbf
  go_enter Tryz.func49, Tryz.ntmps49
  go_wp2_with (first | (refine st_new hS rfl 148 rfl five_zero ?_; clear hS; intro w1 bc hS))
  go_loopw [5] (fun i wr => ∃ k : Nat, k ≤ 5 ∧ i = .int .i64 (k : Int) ∧ St [ba, bf] w wr [(bc, 148, uf 5 fun i => if i < k then colN A i else 0), (ba, ta, lay ca A), (bf, 5, #[.int .u8 (l : Int)])]) (fun i _ => 5 - (intOf i).toNat)
  case atStart =>
    refine ⟨0, by omega, rfl, ?_⟩
    rw [show (uf 5 fun i => if i < 0 then colN A i else 0) = uf 5 fun _ => 0 from uf_congr fun i _ => if_neg (by omega)]
    exact hS
  case round =>
    clear hS
    obtain ⟨k, hk, rfl, hS⟩ := hrel
    by_cases hlt : k < 5
    · have hd : decide ((k : Int) < 5) = true := by simp; omega
      have hk3 : (k : Int) < 5 := by omega
      obtain ⟨i5, h5⟩ : ∃ i5, i5 = k + 5 := ⟨_, rfl⟩
      obtain ⟨i10, h10⟩ : ∃ i10, i10 = k + 10 := ⟨_, rfl⟩
      obtain ⟨i15, h15⟩ : ∃ i15, i15 = k + 15 := ⟨_, rfl⟩
      obtain ⟨i20, h20⟩ : ∃ i20, i20 = k + 20 := ⟨_, rfl⟩
      have ti5 : IntKind.i64.wrap ((k : Int) + 5) = (i5 : Int) := by rw [IntWalk.i64_in _ (by omega)]; omega
      have ti10 : IntKind.i64.wrap ((k : Int) + 10) = (i10 : Int) := by rw [IntWalk.i64_in _ (by omega)]; omega
      have ti15 : IntKind.i64.wrap ((k : Int) + 15) = (i15 : Int) := by rw [IntWalk.i64_in _ (by omega)]; omega
      have ti20 : IntKind.i64.wrap ((k : Int) + 20) = (i20 : Int) := by rw [IntWalk.i64_in _ (by omega)]; omega
      have hk25 : (k : Int) < 25 := by omega
      have j5 : (i5 : Int) < 25 := by omega
      have j10 : (i10 : Int) < 25 := by omega
      have j15 : (i15 : Int) < 25 := by omega
      have j20 : (i20 : Int) < 25 := by omega
      have n0 : k < 25 := by omega
      have n5 : i5 < 25 := by omega
      have n10 : i10 < 25 := by omega
      have n15 : i15 < 25 := by omega
      have n20 : i20 < 25 := by omega
      have g0 := (hS.get (.tail .head)).cell (lay_get (A := A) n0 HN.out.2.1)
      have g5 := (hS.get (.tail .head)).cell (lay_get (A := A) n5 HN.out.2.1)
      have g10 := (hS.get (.tail .head)).cell (lay_get (A := A) n10 HN.out.2.1)
      have g15 := (hS.get (.tail .head)).cell (lay_get (A := A) n15 HN.out.2.1)
      have g20 := (hS.get (.tail .head)).cell (lay_get (A := A) n20 HN.out.2.1)
      have hb := col_bits (HN.out.1 k) (HN.out.1 i5) (HN.out.1 i10) (HN.out.1 i15) (HN.out.1 i20)
      have hn := uf_next (n := 5) (g := colN A) (v := A k ^^^ A i5 ^^^ A i10 ^^^ A i15 ^^^ A i20) hlt (by rw [h5, h10, h15, h20]; rfl)
      generalize A k = v0 at *
      generalize A i5 = v5 at *
      generalize A i10 = v10 at *
      generalize A i15 = v15 at *
      generalize A i20 = v20 at *
      have HX := hQz (And.intro hb hn)
      have HS := hQz hS
      clear hb hn hS h5 h10 h15 h20
      go_wp2
      refine wp_region_head (C := fun w' => ∃ k, w' = wr.drewN k) 35 (by kernel_rfl) (by kernel_rfl) ⟨1, rfl⟩ ?_
      simp only [List.take_succ_cons, List.take_zero, List.drop_succ_cons, List.drop_zero]
      repeat (quiet_step (fail))
      refine wpQuiet_nil ?_
      rintro w1 ⟨nq, rfl⟩
      have hS := HS.out.drewN nq
      clear HS
      go_wp2_with (first | (refine st_store1 (j := k) hS rfl 113 _ _ rfl rfl rfl u64_size (by repeat (first | exact Upd.head | apply Upd.tail)) (by rw [uf_size]; exact hlt) ?_; clear hS; intro w1 hS))
      rw [HX.out.1, HX.out.2] at hS
      try simp only [Act.put, ppA, ppB, ppC]
      go_roundw
      case rel => exact ⟨k + 1, by omega, by go_num, hS⟩
      case measure => simp [intOf]; omega
    · obtain rfl : k = 5 := by omega
      rw [show (uf 5 fun i => if i < 5 then colN A i else 0) = uf 5 (colN A) from uf_congr fun i hi => if_pos hi] at hS
      clear hlt hk
      rw [show ((5 : Nat) : Int) = 5 from rfl]
      go_wp2
      go_loopw [6] (fun i wr => ∃ k : Nat, k ≤ 5 ∧ i = .int .i64 (k : Int) ∧ St [ba, bf] w wr [(bc, 148, uf 5 (colN A)), (ba, ta, lay ca (fun p => if p % 5 < k then thetaN A p else A p)), (bf, 5, #[.int .u8 (l : Int)])]) (fun i _ => 5 - (intOf i).toNat)
      case atStart =>
        refine ⟨0, by omega, rfl, ?_⟩
        rw [show lay ca (fun p => if p % 5 < 0 then thetaN A p else A p) = lay ca A from lay_congr fun p _ => if_neg (by omega)]
        exact hS
      case round =>
        clear hS
        obtain ⟨k, hk, rfl, hS⟩ := hrel
        by_cases hlt : k < 5
        · have hd : decide ((k : Int) < 5) = true := by simp; omega
          obtain ⟨s4, hs4⟩ : ∃ s4, s4 = k + 4 := ⟨_, rfl⟩
          obtain ⟨s1, hs1⟩ : ∃ s1, s1 = k + 1 := ⟨_, rfl⟩
          have ts4 : IntKind.i64.wrap ((k : Int) + 4) = (s4 : Int) := by rw [IntWalk.i64_in _ (by omega)]; omega
          have ts1 : IntKind.i64.wrap ((k : Int) + 1) = (s1 : Int) := by rw [IntWalk.i64_in _ (by omega)]; omega
          obtain ⟨q4, hq4⟩ : ∃ q4, q4 = s4 % 5 := ⟨_, rfl⟩
          obtain ⟨q1, hq1⟩ : ∃ q1, q1 = s1 % 5 := ⟨_, rfl⟩
          have r4 : (s4 : Int).tmod 5 = (q4 : Int) := by rw [Int.tmod_eq_emod_of_nonneg (by omega)]; omega
          have r1 : (s1 : Int).tmod 5 = (q1 : Int) := by rw [Int.tmod_eq_emod_of_nonneg (by omega)]; omega
          have v4 : (s4 : Int) % 5 = (q4 : Int) := by omega
          have v1 : (s1 : Int) % 5 = (q1 : Int) := by omega
          have w4 : IntKind.i64.wrap (q4 : Int) = (q4 : Int) := IntWalk.i64_in _ (by omega)
          have w1' : IntKind.i64.wrap (q1 : Int) = (q1 : Int) := IntWalk.i64_in _ (by omega)
          have n4 : q4 < 5 := by omega
          have n1 : q1 < 5 := by omega
          have m4 : (q4 : Int) < 5 := by omega
          have m1 : (q1 : Int) < 5 := by omega
          have g4 := (hS.get .head).cell (uf_get (f := colN A) n4)
          have g1 := (hS.get .head).cell (uf_get (f := colN A) n1)
          have hD : colN A q4 ^^^ rolN (colN A q1) 1 = dltN A k := by rw [hq4, hq1, hs4, hs1]; rfl
          have hxd := u64_xor_nat (colN A q4) (rolN (colN A q1) 1) (colN_lt HN.out.1 _) (rolN_lt (colN_lt HN.out.1 _))
          have hrol := fun n => (rol_any (colN A q1) 1 (colN_lt HN.out.1 _) (by decide) (by decide) (wr.drewN n)).mono (R' := fun e w' => e = .returned (.int .u64 ((rolN (colN A q1) 1 : Nat) : Int)) ∧ w' = wr.drewN n) (fun e w' h => ⟨h.1, h.2.symm⟩)
          rw [hD] at hxd
          have lD : dltN A k < 18446744073709551616 := dltN_lt HN.out.1 _
          obtain ⟨D, hDD⟩ : ∃ D, D = dltN A k := ⟨_, rfl⟩
          rw [← hDD] at hxd lD
          have HD := hQz (And.intro hDD lD)
          generalize rolN (colN A q1) 1 = R at *
          generalize colN A q4 = C4 at *
          generalize colN A q1 = C1 at *
          have HX := hQz hxd
          have HR := hQz hrol
          have HS := hQz hS
          have HS1 := hQz hs1
          clear hD hxd hDD lD hrol hS hq4 hq1 hs4 hs1
          go_wp2
          go_quiet ((go_at_call 71; exact Calls.quiet_of_same (HR.out _)))
          rw [HX.out]
          have hS := HS.out.drewN nq
          clear HS g4 g1
          go_wp2
          obtain ⟨wo, hwo⟩ : ∃ wo : World, wo = wr := ⟨_, rfl⟩
          go_loopw [8] (fun i wr => ∃ j y : Nat, j ≤ 5 ∧ Hid (y = 5 * j) ∧ i = .int .i64 (y : Int) ∧ St [ba, bf] w wr [(bc, 148, uf 5 (colN A)), (ba, ta, lay ca (fun p => if p % 5 < k ∨ (p % 5 = k ∧ p / 5 < j) then thetaN A p else A p)), (bf, 5, #[.int .u8 (l : Int)])]) (fun i _ => 25 - (intOf i).toNat)
          case atStart =>
            refine ⟨0, 0, by omega, hQz rfl, rfl, ?_⟩
            rw [show lay ca (fun p => if p % 5 < k ∨ (p % 5 = k ∧ p / 5 < 0) then thetaN A p else A p) = lay ca (fun p => if p % 5 < k then thetaN A p else A p) from lay_congr fun p _ => by
              by_cases h : p % 5 < k
              · rw [if_pos h, if_pos (by omega)]
              · rw [if_neg h, if_neg (by omega)]]
            exact hS
          case round =>
            clear hS
            obtain ⟨j, y, hj, HY, rfl, hS⟩ := hrel
            by_cases hjl : j < 5
            · have hy : y < 25 := by have := HY.out; omega
              have hyd : decide ((y : Int) < 25) = true := by simp; omega
              have hy3 : (y : Int) < 25 := by omega
              obtain ⟨s, hs⟩ : ∃ s, s = k + y := ⟨_, rfl⟩
              have ts : IntKind.i64.wrap ((k : Int) + (y : Int)) = (s : Int) := by rw [IntWalk.i64_in _ (by omega)]; omega
              have hs25 : s < 25 := by have := HY.out; omega
              have hs3 : (s : Int) < 25 := by omega
              have g := (hS.get (.tail .head)).cell (lay_get (A := fun p => if p % 5 < k ∨ (p % 5 = k ∧ p / 5 < j) then thetaN A p else A p) hs25 HN.out.2.1)
              have e0 : (if s % 5 < k ∨ (s % 5 = k ∧ s / 5 < j) then thetaN A s else A s) = A s := if_neg (by have := HY.out; omega)
              simp only [e0] at g
              have hx := u64_xor_nat (A s) D (HN.out.1 s) HD.out.2
              have hst := lay_set (c := ca) (A := fun p => if p % 5 < k ∨ (p % 5 = k ∧ p / 5 < j) then thetaN A p else A p) (v := A s ^^^ D) hs25 HN.out.2.1
              have hcg : lay ca (fun i => if i = s then A s ^^^ D else if i % 5 < k ∨ (i % 5 = k ∧ i / 5 < j) then thetaN A i else A i) = lay ca (fun p => if p % 5 < k ∨ (p % 5 = k ∧ p / 5 < j + 1) then thetaN A p else A p) := lay_congr (theta_step hlt (by rw [hs, HY.out]) hjl HD.out.1)
              generalize A s = v at *
              have HT := hQz (And.intro hx (And.intro hst hcg))
              have HS := hQz hS
              clear hx hst hcg hS e0 hs
              go_wp2
              refine wp_region_head (C := fun w' => ∃ k, w' = wr.drewN k) 15 (by kernel_rfl) (by kernel_rfl) ⟨1, rfl⟩ ?_
              simp only [List.take_succ_cons, List.take_zero, List.drop_succ_cons, List.drop_zero]
              repeat (quiet_step (fail))
              refine wpQuiet_nil ?_
              rintro w1 ⟨nq, rfl⟩
              have hS := HS.out.drewN nq
              clear HS g
              go_wp2_with (first | (refine st_store1 (j := s) hS rfl 113 _ _ rfl rfl rfl u64_size (by repeat (first | exact Upd.head | apply Upd.tail)) (by rw [lay_size]; have := HN.out.2.1; omega) ?_; clear hS; intro w1 hS))
              rw [HT.out.1, HT.out.2.1, HT.out.2.2] at hS
              try simp only [Act.put, ppA, ppB, ppC]
              go_roundw
              case rel => exact ⟨j + 1, y + 5, by omega, hQz (by have := HY.out; omega), by go_num, hS⟩
              case measure => simp [intOf]; omega
            · obtain rfl : j = 5 := by omega
              have hy : y = 25 := by have := HY.out; omega
              subst hy
              rw [show lay ca (fun p => if p % 5 < k ∨ (p % 5 = k ∧ p / 5 < 5) then thetaN A p else A p) = lay ca (fun p => if p % 5 < k + 1 then thetaN A p else A p) from lay_congr fun p hp => by
                by_cases h : p % 5 < k + 1
                · rw [if_pos h, if_pos (by omega)]
                · rw [if_neg h, if_neg (by omega)]] at hS
              rw [show ((25 : Nat) : Int) = 25 from rfl]
              go_wp2
              go_roundw
              case rel => exact ⟨k + 1, by omega, by rw [HS1.out], hS⟩
              case measure => have := HS1.out; simp [intOf]; omega
        · obtain rfl : k = 5 := by omega
          rw [show lay ca (fun p => if p % 5 < 5 then thetaN A p else A p) = lay ca (thetaN A) from lay_congr fun p _ => if_pos (by omega)] at hS
          clear hlt hk
          obtain ⟨T, hT⟩ : ∃ T, T = thetaN A := ⟨_, rfl⟩
          have lT : Lan T := by rw [hT]; exact theta_lan HN.out.1
          rw [← hT] at hS
          have HT := hQz (And.intro hT lT)
          clear hT lT
          rw [show ((5 : Nat) : Int) = 5 from rfl]
          go_upto_region 16 with (first | (refine st_cell (j := 1) hS rfl 113 _ rfl rfl (by repeat (first | exact At.head | apply At.tail)) (lay_get (A := T) (show 1 < 25 by decide) HN.out.2.1) u64_agg ?_))
          go_wp2
          go_loopw [9, 10, 11, 12] (fun xv yv cv tv wr => ∃ t x y : Nat, t ≤ 24 ∧ Hid (x = pos t % 5 ∧ y = pos t / 5) ∧ xv = .int .i64 (x : Int) ∧ yv = .int .i64 (y : Int) ∧ cv = .int .u64 ((T (pos t) : Nat) : Int) ∧ tv = .int .i64 (t : Int) ∧ St [ba, bf] w wr [(bc, 148, uf 5 (colN A)), (ba, ta, lay ca (fun p => if tin p < t then piN T p else T p)), (bf, 5, #[.int .u8 (l : Int)])]) (fun _ _ _ tv _ => 24 - (intOf tv).toNat)
          case atStart =>
            refine ⟨0, 1, 0, by omega, hQz ⟨by decide, by decide⟩, rfl, rfl, rfl, rfl, ?_⟩
            rw [show lay ca (fun p => if tin p < 0 then piN T p else T p) = lay ca T from lay_congr fun p _ => if_neg (by omega)]
            exact hS
          case round =>
            clear hS
            obtain ⟨t, x, y, ht, HXY, rfl, rfl, rfl, rfl, hS⟩ := hrel
            by_cases htl : t < 24
            · have hd : decide ((t : Int) < 24) = true := by simp; omega
              have hp := pos_lt t (by omega)
              have hp1 := pos_lt (t + 1) (by omega)
              have hst := pos_step t htl
              have hx5 : x < 5 := by rw [HXY.out.1]; exact Nat.mod_lt _ (by decide)
              have hy5 : y < 5 := by have := HXY.out.2; omega
              obtain ⟨y2, hy2⟩ : ∃ y2, y2 = (2 * x + 3 * y) % 5 := ⟨_, rfl⟩
              have e2 : (2 * (x : Int) + 3 * (y : Int)) % 5 = (y2 : Int) := by omega
              obtain ⟨q, hq⟩ : ∃ q, q = y + 5 * y2 := ⟨_, rfl⟩
              have hqp : q = pos (t + 1) := by rw [hst, hq, hy2, HXY.out.1, HXY.out.2]
              have e3 : (y : Int) + 5 * (y2 : Int) = (q : Int) := by omega
              have hq25 : q < 25 := by omega
              have hq3 : (q : Int) < 25 := by omega
              have hsrc := pos_src t htl
              obtain ⟨n, hn⟩ : ∃ n, n = turnOf t := ⟨_, rfl⟩
              have hn0 : 0 < n := by rw [hn]; exact hsrc.2.2.2.1
              have hn64 : n < 64 := by rw [hn]; exact hsrc.2.2.2.2
              have g := (hS.get (.tail .head)).cell (lay_get (A := fun p => if tin p < t then piN T p else T p) hq25 HN.out.2.1)
              have e0 : (if tin q < t then piN T q else T q) = T q := if_neg (by rw [hqp, hsrc.2.2.1]; omega)
              simp only [e0] at g
              have hlay := lay_set (c := ca) (A := fun p => if tin p < t then piN T p else T p) (v := rolN (T (pos t)) n) hq25 HN.out.2.1
              have hcg : lay ca (fun i => if i = q then rolN (T (pos t)) n else if tin i < t then piN T i else T i) = lay ca (fun p => if tin p < t + 1 then piN T p else T p) := lay_congr (by rw [hn]; exact pi_step htl hqp)
              have hT1 : T q = T (pos (t + 1)) := by rw [hqp]
              have hxy1 : y = pos (t + 1) % 5 ∧ y2 = pos (t + 1) / 5 := by rw [← hqp, hq]; omega
              have lC := HT.out.2 (pos t)
              obtain ⟨a1, ha1⟩ : ∃ a1, a1 = 5 * y2 := ⟨_, rfl⟩
              have f1 : IntKind.i64.wrap (5 * (y2 : Int)) = (a1 : Int) := by rw [IntWalk.i64_in _ (by omega)]; omega
              have f2 : IntKind.i64.wrap ((y : Int) + (a1 : Int)) = (q : Int) := by rw [IntWalk.i64_in _ (by omega)]; omega
              have f12 : IntKind.i64.wrap (q : Int) = (q : Int) := IntWalk.i64_in _ (by omega)
              have f3 : (y : Int) + (a1 : Int) = (q : Int) := by omega
              obtain ⟨b1, hb1⟩ : ∃ b1, b1 = t + 1 := ⟨_, rfl⟩
              obtain ⟨b2, hb2⟩ : ∃ b2, b2 = t + 2 := ⟨_, rfl⟩
              have f4 : IntKind.i64.wrap ((t : Int) + 1) = (b1 : Int) := by rw [IntWalk.i64_in _ (by omega)]; omega
              have f5 : IntKind.i64.wrap ((t : Int) + 2) = (b2 : Int) := by rw [IntWalk.i64_in _ (by omega)]; omega
              obtain ⟨mm, hmm⟩ : ∃ mm, mm = b1 * b2 := ⟨_, rfl⟩
              have hmb : mm ≤ 25 * 25 := by rw [hmm]; exact Nat.mul_le_mul (by omega) (by omega)
              have f6 : IntKind.i64.wrap ((b1 : Int) * (b2 : Int)) = (mm : Int) := by rw [← Int.natCast_mul, ← hmm, IntWalk.i64_in _ (by omega)]
              obtain ⟨h2, hh2⟩ : ∃ h2, h2 = mm / 2 := ⟨_, rfl⟩
              have f7 : (mm : Int) / 2 = (h2 : Int) := by omega
              have f8 : IntKind.i64.wrap (h2 : Int) = (h2 : Int) := IntWalk.i64_in _ (by omega)
              have hnn : n = h2 % 64 := by rw [hn, hh2, hmm, hb1, hb2]; rfl
              have f9 : (h2 : Int).tmod 64 = (n : Int) := by rw [Int.tmod_eq_emod_of_nonneg (by omega)]; omega
              have f10 : IntKind.u64.wrap (n : Int) = (n : Int) := by rw [IntKind.wrap_u64]; omega
              have f11 : IntKind.i64.wrap (n : Int) = (n : Int) := IntWalk.i64_in _ (by omega)
              have hrol := fun nn => (rol_any (T (pos t)) n lC hn0 hn64 (wr.drewN nn)).mono (R' := fun e w' => e = .returned (.int .u64 ((rolN (T (pos t)) n : Nat) : Int)) ∧ w' = wr.drewN nn) (fun e w' h => ⟨h.1, h.2.symm⟩)
              obtain ⟨R, hR⟩ : ∃ R, R = rolN (T (pos t)) n := ⟨_, rfl⟩
              rw [← hR] at hlay hcg hrol
              obtain ⟨C, hC⟩ : ∃ C, C = T (pos t) := ⟨_, rfl⟩
              rw [← hC] at hrol ⊢
              obtain ⟨D, hD⟩ : ∃ D, D = T q := ⟨_, rfl⟩
              rw [← hD] at g hT1
              have HR := hQz hrol
              have HL := hQz (And.intro hlay hcg)
              have H1 := hQz (And.intro hT1 (And.intro hxy1 hb1))
              have HS := hQz hS
              clear hrol hlay hcg hT1 hxy1 hb1 hb2 hmm hmb hh2 hnn hn hn0 hn64 hsrc hst hp hp1 hq hqp hy2 ha1 e0 hR hC hD lC hS HXY
              go_wp2
              refine wp_region_head (C := fun w' => ∃ k, w' = wr.drewN k) 17 (by kernel_rfl) (by kernel_rfl) ⟨1, rfl⟩ ?_
              simp only [List.take_succ_cons, List.take_zero, List.drop_succ_cons, List.drop_zero]
              repeat (quiet_step ((go_at_call 71; exact Calls.quiet_of_same (HR.out _))))
              refine wpQuiet_nil ?_
              rintro w1 ⟨nq, rfl⟩
              have hS := HS.out.drewN nq
              clear HS g
              go_wp2_with (first | (refine st_store1 (j := q) hS rfl 113 _ _ rfl rfl rfl u64_size (by repeat (first | exact Upd.head | apply Upd.tail)) (by rw [lay_size]; have := HN.out.2.1; omega) ?_; clear hS; intro w1 hS))
              rw [HL.out.1, HL.out.2] at hS
              try simp only [Act.put, ppA, ppB, ppC]
              go_roundw
              case rel => exact ⟨t + 1, y, y2, by omega, hQz H1.out.2.1, rfl, rfl, by rw [H1.out.1], by first | rw [H1.out.2.2] | (rw [H1.out.2.2]; go_num) | go_num, hS⟩
              case measure => have := H1.out.2.2; simp [intOf]; omega
            · obtain rfl : t = 24 := by omega
              rw [show lay ca (fun p => if tin p < 24 then piN T p else T p) = lay ca (piN T) from lay_congr fun p hp => pi_lanes hp] at hS
              clear HXY
              obtain ⟨E, hE⟩ : ∃ E, E = piN T := ⟨_, rfl⟩
              rw [← hE] at hS
              rw [show ((24 : Nat) : Int) = 24 from rfl]
              go_wp2
              have lE : Lan E := by rw [hE]; exact pi_lan HT.out.2
              have HEM := hQz (show chiN E = mixN A from funext fun j => by rw [hE, HT.out.1]; rfl)
              clear ht htl hE
              have HE := hQz lE
              clear lE
              go_loopw [16] (fun v wr => ∃ r z : Nat, r ≤ 5 ∧ Hid (z = 5 * r) ∧ v = .int .i64 (z : Int) ∧ St [ba, bf] w wr [(bc, 148, uf 5 (colN A)), (ba, ta, lay ca (fun p => if p / 5 < r then chiN E p else E p)), (bf, 5, #[.int .u8 (l : Int)])]) (fun v _ => 25 - (intOf v).toNat)
              case atStart =>
                refine ⟨0, 0, by omega, hQz rfl, rfl, ?_⟩
                rw [show lay ca (fun p => if p / 5 < 0 then chiN E p else E p) = lay ca E from lay_congr fun p _ => if_neg (by omega)]
                exact hS
              case round =>
                clear hS
                obtain ⟨r, z, hr, HZ, rfl, hS⟩ := hrel
                by_cases hrl : r < 5
                · have hz : z < 25 := by have := HZ.out; omega
                  have hzd : decide ((z : Int) < 25) = true := by simp; omega
                  go_wp2_with (first | (refine st_new hS rfl 148 rfl five_zero ?_; clear hS; intro w1 bn hS))
                  go_loopw [18] (fun v wr => ∃ k : Nat, k ≤ 5 ∧ v = .int .i64 (k : Int) ∧ St [ba, bf] w wr [(bn, 148, uf 5 fun i => if i < k then E (5 * r + i) else 0), (bc, 148, uf 5 (colN A)), (ba, ta, lay ca (fun p => if p / 5 < r then chiN E p else E p)), (bf, 5, #[.int .u8 (l : Int)])]) (fun v _ => 5 - (intOf v).toNat)
                  case atStart =>
                    refine ⟨0, by omega, rfl, ?_⟩
                    rw [show (uf 5 fun i => if i < 0 then E (5 * r + i) else 0) = uf 5 fun _ => 0 from uf_congr fun i _ => if_neg (by omega)]
                    exact hS
                  case round =>
                    clear hS
                    obtain ⟨k, hk, rfl, hS⟩ := hrel
                    by_cases hlt : k < 5
                    · have hd : decide ((k : Int) < 5) = true := by simp; omega
                      have hk3 : (k : Int) < 5 := by omega
                      obtain ⟨s, hs⟩ : ∃ s, s = k + z := ⟨_, rfl⟩
                      have ts : IntKind.i64.wrap ((k : Int) + (z : Int)) = (s : Int) := by rw [IntWalk.i64_in _ (by omega)]; omega
                      have hs25 : s < 25 := by have := HZ.out; omega
                      have hs3 : (s : Int) < 25 := by omega
                      have g := (hS.get (.tail (.tail .head))).cell (lay_get (A := fun p => if p / 5 < r then chiN E p else E p) hs25 HN.out.2.1)
                      have e0 : (if s / 5 < r then chiN E s else E s) = E s := if_neg (by have := HZ.out; omega)
                      simp only [e0] at g
                      have hn := uf_next (n := 5) (g := fun i => E (5 * r + i)) (v := E s) hlt (by show E s = E (5 * r + k); rw [hs, HZ.out, Nat.add_comm])
                      generalize E s = v at *
                      have HX := hQz hn
                      clear hn hs e0
                      go_wp2_with (first | (refine st_store1 (j := k) hS rfl 113 _ _ rfl rfl rfl u64_size (by repeat (first | exact Upd.head | apply Upd.tail)) (by rw [uf_size]; exact hlt) ?_; clear hS; intro w1 hS))
                      rw [HX.out] at hS
                      try simp only [Act.put, ppA, ppB, ppC]
                      go_roundw
                      case rel => exact ⟨k + 1, by omega, by go_num, hS⟩
                      case measure => simp [intOf]; omega
                    · obtain rfl : k = 5 := by omega
                      rw [show (uf 5 fun i => if i < 5 then E (5 * r + i) else 0) = uf 5 (fun i => E (5 * r + i)) from uf_congr fun i hi => if_pos hi] at hS
                      clear hlt hk
                      rw [show ((5 : Nat) : Int) = 5 from rfl]
                      go_wp2
                      clear hzd
                      go_loopw [19] (fun v wr => ∃ k : Nat, k ≤ 5 ∧ v = .int .i64 (k : Int) ∧ St [ba, bf] w wr [(bn, 148, uf 5 fun i => E (5 * r + i)), (bc, 148, uf 5 (colN A)), (ba, ta, lay ca (fun p => if p / 5 < r ∨ (p / 5 = r ∧ p % 5 < k) then chiN E p else E p)), (bf, 5, #[.int .u8 (l : Int)])]) (fun v _ => 5 - (intOf v).toNat)
                      case atStart =>
                        refine ⟨0, by omega, rfl, ?_⟩
                        rw [show lay ca (fun p => if p / 5 < r ∨ (p / 5 = r ∧ p % 5 < 0) then chiN E p else E p) = lay ca (fun p => if p / 5 < r then chiN E p else E p) from lay_congr fun p _ => by
                          by_cases h : p / 5 < r
                          · rw [if_pos h, if_pos (by omega)]
                          · rw [if_neg h, if_neg (by omega)]]
                        exact hS
                      case round =>
                        clear hS
                        obtain ⟨k, hk, rfl, hS⟩ := hrel
                        by_cases hlt : k < 5
                        · have hd : decide ((k : Int) < 5) = true := by simp; omega
                          have hk3 : (k : Int) < 5 := by omega
                          obtain ⟨s, hs⟩ : ∃ s, s = k + z := ⟨_, rfl⟩
                          have ts : IntKind.i64.wrap ((k : Int) + (z : Int)) = (s : Int) := by rw [IntWalk.i64_in _ (by omega)]; omega
                          have hs25 : s < 25 := by have := HZ.out; omega
                          have hs3 : (s : Int) < 25 := by omega
                          obtain ⟨s1, hs1⟩ : ∃ s1, s1 = k + 1 := ⟨_, rfl⟩
                          obtain ⟨s2, hs2⟩ : ∃ s2, s2 = k + 2 := ⟨_, rfl⟩
                          have ts1 : IntKind.i64.wrap ((k : Int) + 1) = (s1 : Int) := by rw [IntWalk.i64_in _ (by omega)]; omega
                          have ts2 : IntKind.i64.wrap ((k : Int) + 2) = (s2 : Int) := by rw [IntWalk.i64_in _ (by omega)]; omega
                          obtain ⟨q1, hq1⟩ : ∃ q1, q1 = s1 % 5 := ⟨_, rfl⟩
                          obtain ⟨q2, hq2⟩ : ∃ q2, q2 = s2 % 5 := ⟨_, rfl⟩
                          have r1 : (s1 : Int).tmod 5 = (q1 : Int) := by rw [Int.tmod_eq_emod_of_nonneg (by omega)]; omega
                          have r2 : (s2 : Int).tmod 5 = (q2 : Int) := by rw [Int.tmod_eq_emod_of_nonneg (by omega)]; omega
                          have v1 : (s1 : Int) % 5 = (q1 : Int) := by omega
                          have v2 : (s2 : Int) % 5 = (q2 : Int) := by omega
                          have x1 : IntKind.i64.wrap (q1 : Int) = (q1 : Int) := IntWalk.i64_in _ (by omega)
                          have x2 : IntKind.i64.wrap (q2 : Int) = (q2 : Int) := IntWalk.i64_in _ (by omega)
                          have n1 : q1 < 5 := by omega
                          have n2 : q2 < 5 := by omega
                          have m1 : (q1 : Int) < 5 := by omega
                          have m2 : (q2 : Int) < 5 := by omega
                          have g0 := (hS.get .head).cell (uf_get (f := fun i => E (5 * r + i)) hlt)
                          have g1 := (hS.get .head).cell (uf_get (f := fun i => E (5 * r + i)) n1)
                          have g2 := (hS.get .head).cell (uf_get (f := fun i => E (5 * r + i)) n2)
                          have hv : E (5 * r + k) ^^^ andnN (E (5 * r + q2)) (E (5 * r + q1)) = chiN E s := by
                            unfold chiN
                            rw [show s = 5 * r + k by rw [hs, HZ.out]; omega, show (5 * r + k) / 5 = r by omega, show (5 * r + k) % 5 = k by omega, hq1, hq2, hs1, hs2]
                          have hnb := not_bits (HE.out (5 * r + q1)) (HE.out (5 * r + q2))
                          have hxb := u64_xor_nat (E (5 * r + k)) (andnN (E (5 * r + q2)) (E (5 * r + q1))) (HE.out _) (andnN_lt (HE.out _))
                          rw [hv] at hxb
                          have hst := lay_set (c := ca) (A := (fun p => if p / 5 < r ∨ (p / 5 = r ∧ p % 5 < k) then chiN E p else E p)) (v := chiN E s) hs25 HN.out.2.1
                          have hcg : lay ca (fun i => if i = s then chiN E s else if i / 5 < r ∨ (i / 5 = r ∧ i % 5 < k) then chiN E i else E i) = lay ca (fun p => if p / 5 < r ∨ (p / 5 = r ∧ p % 5 < k + 1) then chiN E p else E p) := lay_congr (chi_step hrl hlt (by rw [hs, HZ.out]) rfl)
                          obtain ⟨V, hV⟩ : ∃ V, V = chiN E s := ⟨_, rfl⟩
                          rw [← hV] at hst hcg hxb
                          clear hv hV
                          generalize andnN (E (5 * r + q2)) (E (5 * r + q1)) = N at *
                          generalize E (5 * r + q1) = E1 at *
                          generalize E (5 * r + q2) = E2 at *
                          generalize E (5 * r + k) = E0 at *
                          have HX := hQz (And.intro hnb (And.intro hxb (And.intro hst (And.intro hcg hs1))))
                          have HS := hQz hS
                          clear hnb hxb hst hcg hS hs hs1 hs2 hq1 hq2
                          go_wp2
                          refine wp_region_head (C := fun w' => ∃ k, w' = wr.drewN k) 21 (by kernel_rfl) (by kernel_rfl) ⟨1, rfl⟩ ?_
                          simp only [List.take_succ_cons, List.take_zero, List.drop_succ_cons, List.drop_zero]
                          repeat (quiet_step (fail))
                          refine wpQuiet_nil ?_
                          rintro w1 ⟨nq, rfl⟩
                          have hS := HS.out.drewN nq
                          clear HS g0 g1 g2
                          rw [show (if IntKind.u64.signed = true then (-1 : Int) else IntKind.u64.max) = 18446744073709551615 by first | rfl | decide, HX.out.1, HX.out.2.1]
                          go_wp2_with (first | (refine st_store1 (j := s) hS rfl 113 _ _ rfl rfl rfl u64_size (by repeat (first | exact Upd.head | apply Upd.tail)) (by rw [lay_size]; have := HN.out.2.1; omega) ?_; clear hS; intro w1 hS))
                          rw [HX.out.2.2.1, HX.out.2.2.2.1] at hS
                          try simp only [Act.put, ppA, ppB, ppC]
                          go_roundw
                          case rel => exact ⟨k + 1, by omega, (by first | go_num | (rw [HX.out.2.2.2.2]) | (rw [HX.out.2.2.2.2]; go_num)), hS⟩
                          case measure => have := HX.out.2.2.2.2; simp [intOf]; omega
                        · obtain rfl : k = 5 := by omega
                          rw [show lay ca (fun p => if p / 5 < r ∨ (p / 5 = r ∧ p % 5 < 5) then chiN E p else E p) = lay ca (fun p => if p / 5 < r + 1 then chiN E p else E p) from lay_congr fun p hp => by
                            by_cases h : p / 5 < r + 1
                            · rw [if_pos h, if_pos (by omega)]
                            · rw [if_neg h, if_neg (by omega)]] at hS
                          clear hlt hk
                          rw [show ((5 : Nat) : Int) = 5 from rfl]
                          obtain ⟨z5, hz5⟩ : ∃ z5, z5 = z + 5 := ⟨_, rfl⟩
                          have tz5 : IntKind.i64.wrap ((z : Int) + 5) = (z5 : Int) := by rw [IntWalk.i64_in _ (by omega)]; omega
                          have hS2 := hS.drop
                          have HZ5 := hQz hz5
                          clear hS hz5
                          go_wp2
                          go_roundw
                          case rel => exact ⟨r + 1, z5, by omega, hQz (by have := HZ.out; have := HZ5.out; omega), by first | rfl | go_num, hS2⟩
                          case measure => have := HZ5.out; simp [intOf]; omega
                · obtain rfl : r = 5 := by omega
                  have hz : z = 25 := by have := HZ.out; omega
                  subst hz
                  rw [show lay ca (fun p => if p / 5 < 5 then chiN E p else E p) = lay ca (fun p => if p = 0 then mixN A 0 ^^^ iacc l 0 else mixN A p) from lay_congr fun p hp => by
                    rw [if_pos (by omega), HEM.out]
                    by_cases h : p = 0
                    · rw [if_pos h, h]; show _ = mixN A 0 ^^^ 0; rw [Nat.xor_zero]
                    · rw [if_neg h]] at hS
                  have hS2 := hS.drop
                  have HM0 := hQz (mix_lan HN.out.1 0)
                  clear hS HZ hr hrl HEM HE HT
                  rw [show ((25 : Nat) : Int) = 25 from rfl]
                  go_wp2
                  go_loopw [20, 21, 22] (fun v _ _ wr => ∃ j : Nat, j ≤ 7 ∧ v = .int .i64 (j : Int) ∧ St [ba, bf] w wr [(ba, ta, lay ca (fun p => if p = 0 then mixN A 0 ^^^ iacc l j else mixN A p)), (bf, 5, #[.int .u8 ((lit l j : Nat) : Int)])]) (fun v _ _ _ => 7 - (intOf v).toNat)
                  case atStart => exact ⟨0, by omega, rfl, hS2⟩
                  case round =>
                    clear hS2
                    obtain ⟨j, hj, rfl, hS⟩ := hrel
                    by_cases hlt : j < 7
                    · have hd : decide ((j : Int) < 7) = true := by simp; omega
                      have hj3 : (j : Int) < 7 := by omega
                      obtain ⟨L, hL⟩ : ∃ L, L = lit l j := ⟨_, rfl⟩
                      have hL256 : L < 256 := by rw [hL]; exact lit_lt HN.out.2.2.1 j
                      have HLs := show lit l (j + 1) = lstep L by rw [hL]; rfl
                      have HIs := show iacc l (j + 1) = if L % 2 = 1 then iacc l j ^^^ 2 ^ (2 ^ j - 1) else iacc l j by rw [hL]; rfl
                      rw [← hL] at hS
                      clear hL
                      by_cases h1 : L % 2 = 1
                      · by_cases h2 : 128 ≤ L
                        · skip
                          have g1 := byte_and1 hL256 h1
                          have g2 := byte_and128 hL256 h2
                          have g3 := byte_shl hL256
                          rw [show lstep L = 2 * L % 256 ^^^ 113 from if_pos h2] at HLs
                          rw [if_pos h1] at HIs
                          have HLS := hQz HLs
                          have HIS := hQz HIs
                          have HG := hQz (And.intro g1 (And.intro g2 (And.intro g3 (And.intro hlt hL256))))
                          clear g1 g2 g3 HLs HIs h1 h2 hL256 hj hlt
                          go_upto_region 41 with (fail)
                          try simp only [Act.put, ppA, ppB, ppC]
                          refine k_plain (C := fun w' => St [ba, bf] w w' _) hS ?_
                          refine k_ptr ⟨bf, 0, none⟩ rfl _ rfl rfl ?_; try simp only [Act.put, ppA, ppB, ppC]
                          refine k_nil _ rfl _ rfl rfl ?_; try simp only [Act.put, ppA, ppB, ppC]
                          refine k_cell (j := 0) rfl 5 _ rfl rfl (.tail .head) rfl u8_agg ?_; try simp only [Act.put, ppA, ppB, ppC]
                          refine k_in (v := .int .u8 1) rfl (fun w' _ => x_and8 rfl rfl rfl HG.out.1) ?_; try simp only [Act.put, ppA, ppB, ppC]
                          refine k_in (v := .bool true) rfl (fun w' _ => x_eq8 rfl rfl rfl rfl) ?_; try simp only [Act.put, ppA, ppB, ppC]
                          refine k_boola rfl _ rfl rfl ?_; try simp only [Act.put, ppA, ppB, ppC]
                          refine k_end ?_
                          clear hS
                          intro w1 hS
                          go_upto_region 42 with (fail)
                          try simp only [Act.put, ppA, ppB, ppC]
                          refine k_plain (C := fun w' => St [ba, bf] w w' _) hS ?_
                          refine k_ptr ⟨bf, 0, none⟩ rfl _ rfl rfl ?_; try simp only [Act.put, ppA, ppB, ppC]
                          refine k_nil _ rfl _ rfl rfl ?_; try simp only [Act.put, ppA, ppB, ppC]
                          refine k_cell (j := 0) rfl 5 _ rfl rfl (.tail .head) rfl u8_agg ?_; try simp only [Act.put, ppA, ppB, ppC]
                          refine k_in (v := .int .u8 128) rfl (fun w' _ => x_and8 rfl rfl rfl HG.out.2.1) ?_; try simp only [Act.put, ppA, ppB, ppC]
                          refine k_in (v := .bool true) rfl (fun w' _ => x_ne8 rfl rfl rfl rfl) ?_; try simp only [Act.put, ppA, ppB, ppC]
                          refine k_boola rfl _ rfl rfl ?_; try simp only [Act.put, ppA, ppB, ppC]
                          refine k_end ?_
                          clear hS
                          intro w2 hS
                          go_upto_region 43 with (fail)
                          try simp only [Act.put, ppA, ppB, ppC]
                          refine l_plain ?_
                          refine l_ptr ⟨bf, 0, none⟩ rfl _ rfl rfl ?_; try simp only [Act.put, ppA, ppB, ppC]
                          refine l_ptr ⟨bf, 0, none⟩ rfl _ rfl rfl ?_; try simp only [Act.put, ppA, ppB, ppC]
                          refine l_nil _ rfl _ rfl rfl ?_; try simp only [Act.put, ppA, ppB, ppC]
                          refine l_cell (j := 0) hS rfl 5 _ rfl rfl (.tail .head) rfl u8_agg ?_; try simp only [Act.put, ppA, ppB, ppC]
                          refine l_pure (v := .int .u8 ((2 * L % 256 : Nat) : Int)) rfl (fun w => x_shl8 rfl rfl rfl HG.out.2.2.1) ?_; try simp only [Act.put, ppA, ppB, ppC]
                          refine l_nil _ rfl _ rfl rfl ?_; try simp only [Act.put, ppA, ppB, ppC]
                          refine l_store (j := 0) (c := #[.int .u8 (L : Int)]) (c' := #[.int .u8 ((2 * L % 256 : Nat) : Int)]) hS rfl 5 _ _ rfl rfl rfl u8_size rfl (by repeat (first | exact Upd.head | apply Upd.tail)) (show 0 < 1 by decide) ?_
                          clear hS
                          intro w3 hS
                          try simp only [Act.put, ppA, ppB, ppC]
                          refine l_end ?_
                          go_upto_region 45 with (fail)
                          try simp only [Act.put, ppA, ppB, ppC]
                          refine l_plain ?_
                          refine l_ptr ⟨bf, 0, none⟩ rfl _ rfl rfl ?_; try simp only [Act.put, ppA, ppB, ppC]
                          refine l_ptr ⟨bf, 0, none⟩ rfl _ rfl rfl ?_; try simp only [Act.put, ppA, ppB, ppC]
                          refine l_nil _ rfl _ rfl rfl ?_; try simp only [Act.put, ppA, ppB, ppC]
                          refine l_cell (j := 0) hS rfl 5 _ rfl rfl (.tail .head) rfl u8_agg ?_; try simp only [Act.put, ppA, ppB, ppC]
                          refine l_pure (v := .int .u8 ((2 * L % 256 ^^^ 113 : Nat) : Int)) rfl (fun w => x_xor8 rfl rfl rfl byte_x113) ?_; try simp only [Act.put, ppA, ppB, ppC]
                          refine l_nil _ rfl _ rfl rfl ?_; try simp only [Act.put, ppA, ppB, ppC]
                          refine l_store (j := 0) (c := #[.int .u8 ((2 * L % 256 : Nat) : Int)]) (c' := #[.int .u8 ((2 * L % 256 ^^^ 113 : Nat) : Int)]) hS rfl 5 _ _ rfl rfl rfl u8_size rfl (by repeat (first | exact Upd.head | apply Upd.tail)) (show 0 < 1 by decide) ?_
                          clear hS
                          intro w4 hS
                          try simp only [Act.put, ppA, ppB, ppC]
                          refine l_end ?_
                          rw [← HLS.out] at hS
                          go_upto_region 47 with (fail)
                          try simp only [Act.put, ppA, ppB, ppC]
                          refine k_region_head (C := fun w' => St [ba, bf] w w' _) 13 (by kernel_rfl) (by kernel_rfl) hS.drew ?_
                          simp only [List.take_succ_cons, List.take_zero, List.drop_succ_cons, List.drop_zero]
                          refine k_ptr ⟨ba, 0, none⟩ rfl _ rfl rfl ?_; try simp only [Act.put, ppA, ppB, ppC]
                          refine k_ptr ⟨ba, 0, none⟩ rfl _ rfl rfl ?_; try simp only [Act.put, ppA, ppB, ppC]
                          refine k_nil _ rfl _ rfl rfl ?_; try simp only [Act.put, ppA, ppB, ppC]
                          refine k_idx 0 rfl 114 _ _ rfl rfl rfl lanes2_type u64_size (by decide) ?_; try simp only [Act.put, ppA, ppB, ppC]
                          refine k_cell (j := 0) rfl 113 _ rfl rfl .head (lay_get (show 0 < 25 by decide) HN.out.2.1) u64_agg ?_; try simp only [Act.put, ppA, ppB, ppC]
                          refine k_intm rfl _ rfl rfl ?_; try simp only [Act.put, ppA, ppB, ppC]
                          refine k_in (v := .int .u64 (j : Int)) rfl (fun w' _ => x_conv7 HG.out.2.2.2.1 rfl rfl) ?_; try simp only [Act.put, ppA, ppB, ppC]
                          refine k_in (v := .int .u64 ((2 ^ j : Nat) : Int)) rfl (fun w' _ => x_shl7 HG.out.2.2.2.1 rfl rfl rfl) ?_; try simp only [Act.put, ppA, ppB, ppC]
                          refine k_in (v := .int .u64 ((2 ^ j - 1 : Nat) : Int)) rfl (fun w' _ => x_sub7 HG.out.2.2.2.1 rfl rfl rfl) ?_; try simp only [Act.put, ppA, ppB, ppC]
                          refine k_in (v := .int .u64 ((2 ^ (2 ^ j - 1) : Nat) : Int)) rfl (fun w' _ => x_top7 HG.out.2.2.2.1 rfl rfl rfl) ?_; try simp only [Act.put, ppA, ppB, ppC]
                          refine k_xor (s := mixN A 0 ^^^ iacc l (j + 1)) rfl _ _ _ _ rfl rfl rfl (by simp only [if_true]; rw [HIS.out, Nat.xor_assoc]) (by simp only [if_true]; exact x64 HM0.out (iacc_lt (Nat.lt_succ_of_lt HG.out.2.2.2.1))) (top7_lt HG.out.2.2.2.1) ?_; try simp only [Act.put, ppA, ppB, ppC]
                          refine k_nil _ rfl _ rfl rfl ?_; try simp only [Act.put, ppA, ppB, ppC]
                          refine k_idx 0 rfl 114 _ _ rfl rfl rfl lanes2_type u64_size (by decide) ?_; try simp only [Act.put, ppA, ppB, ppC]
                          refine k_end ?_
                          clear hS
                          intro w5 hS
                          refine st_store1 (j := 0) hS rfl 113 _ _ rfl rfl rfl u64_size (by repeat (first | exact Upd.head | apply Upd.tail)) (by rw [lay_size]; have := HN.out.2.1; omega) ?_
                          clear hS
                          intro w6 hS
                          try simp only [Act.put, ppA, ppB, ppC]
                          rw [lay_set (show 0 < 25 by decide) HN.out.2.1, reg_on] at hS
                          go_upto_region 40 with (fail)
                          go_wp2
                          go_roundw
                          case rel => exact ⟨j + 1, by have := HG.out.2.2.2.1; omega, by go_num, hS⟩
                          case measure => have := HG.out.2.2.2.1; simp [intOf]; omega
                        · skip
                          have g1 := byte_and1 hL256 h1
                          have g2 := byte_and0 hL256 h2
                          have g3 := byte_shl hL256
                          rw [show lstep L = 2 * L % 256 from if_neg h2] at HLs
                          rw [if_pos h1] at HIs
                          have HLS := hQz HLs
                          have HIS := hQz HIs
                          have HG := hQz (And.intro g1 (And.intro g2 (And.intro g3 (And.intro hlt hL256))))
                          clear g1 g2 g3 HLs HIs h1 h2 hL256 hj hlt
                          go_upto_region 41 with (fail)
                          try simp only [Act.put, ppA, ppB, ppC]
                          refine k_plain (C := fun w' => St [ba, bf] w w' _) hS ?_
                          refine k_ptr ⟨bf, 0, none⟩ rfl _ rfl rfl ?_; try simp only [Act.put, ppA, ppB, ppC]
                          refine k_nil _ rfl _ rfl rfl ?_; try simp only [Act.put, ppA, ppB, ppC]
                          refine k_cell (j := 0) rfl 5 _ rfl rfl (.tail .head) rfl u8_agg ?_; try simp only [Act.put, ppA, ppB, ppC]
                          refine k_in (v := .int .u8 1) rfl (fun w' _ => x_and8 rfl rfl rfl HG.out.1) ?_; try simp only [Act.put, ppA, ppB, ppC]
                          refine k_in (v := .bool true) rfl (fun w' _ => x_eq8 rfl rfl rfl rfl) ?_; try simp only [Act.put, ppA, ppB, ppC]
                          refine k_boola rfl _ rfl rfl ?_; try simp only [Act.put, ppA, ppB, ppC]
                          refine k_end ?_
                          clear hS
                          intro w1 hS
                          go_upto_region 42 with (fail)
                          try simp only [Act.put, ppA, ppB, ppC]
                          refine k_plain (C := fun w' => St [ba, bf] w w' _) hS ?_
                          refine k_ptr ⟨bf, 0, none⟩ rfl _ rfl rfl ?_; try simp only [Act.put, ppA, ppB, ppC]
                          refine k_nil _ rfl _ rfl rfl ?_; try simp only [Act.put, ppA, ppB, ppC]
                          refine k_cell (j := 0) rfl 5 _ rfl rfl (.tail .head) rfl u8_agg ?_; try simp only [Act.put, ppA, ppB, ppC]
                          refine k_in (v := .int .u8 0) rfl (fun w' _ => x_and8 rfl rfl rfl HG.out.2.1) ?_; try simp only [Act.put, ppA, ppB, ppC]
                          refine k_in (v := .bool false) rfl (fun w' _ => x_ne8 rfl rfl rfl rfl) ?_; try simp only [Act.put, ppA, ppB, ppC]
                          refine k_boola rfl _ rfl rfl ?_; try simp only [Act.put, ppA, ppB, ppC]
                          refine k_end ?_
                          clear hS
                          intro w2 hS
                          go_upto_region 43 with (fail)
                          try simp only [Act.put, ppA, ppB, ppC]
                          refine l_plain ?_
                          refine l_ptr ⟨bf, 0, none⟩ rfl _ rfl rfl ?_; try simp only [Act.put, ppA, ppB, ppC]
                          refine l_ptr ⟨bf, 0, none⟩ rfl _ rfl rfl ?_; try simp only [Act.put, ppA, ppB, ppC]
                          refine l_nil _ rfl _ rfl rfl ?_; try simp only [Act.put, ppA, ppB, ppC]
                          refine l_cell (j := 0) hS rfl 5 _ rfl rfl (.tail .head) rfl u8_agg ?_; try simp only [Act.put, ppA, ppB, ppC]
                          refine l_pure (v := .int .u8 ((2 * L % 256 : Nat) : Int)) rfl (fun w => x_shl8 rfl rfl rfl HG.out.2.2.1) ?_; try simp only [Act.put, ppA, ppB, ppC]
                          refine l_nil _ rfl _ rfl rfl ?_; try simp only [Act.put, ppA, ppB, ppC]
                          refine l_store (j := 0) (c := #[.int .u8 (L : Int)]) (c' := #[.int .u8 ((2 * L % 256 : Nat) : Int)]) hS rfl 5 _ _ rfl rfl rfl u8_size rfl (by repeat (first | exact Upd.head | apply Upd.tail)) (show 0 < 1 by decide) ?_
                          clear hS
                          intro w3 hS
                          try simp only [Act.put, ppA, ppB, ppC]
                          refine l_end ?_
                          rw [← HLS.out] at hS
                          go_upto_region 47 with (fail)
                          try simp only [Act.put, ppA, ppB, ppC]
                          refine k_region_head (C := fun w' => St [ba, bf] w w' _) 13 (by kernel_rfl) (by kernel_rfl) hS.drew ?_
                          simp only [List.take_succ_cons, List.take_zero, List.drop_succ_cons, List.drop_zero]
                          refine k_ptr ⟨ba, 0, none⟩ rfl _ rfl rfl ?_; try simp only [Act.put, ppA, ppB, ppC]
                          refine k_ptr ⟨ba, 0, none⟩ rfl _ rfl rfl ?_; try simp only [Act.put, ppA, ppB, ppC]
                          refine k_nil _ rfl _ rfl rfl ?_; try simp only [Act.put, ppA, ppB, ppC]
                          refine k_idx 0 rfl 114 _ _ rfl rfl rfl lanes2_type u64_size (by decide) ?_; try simp only [Act.put, ppA, ppB, ppC]
                          refine k_cell (j := 0) rfl 113 _ rfl rfl .head (lay_get (show 0 < 25 by decide) HN.out.2.1) u64_agg ?_; try simp only [Act.put, ppA, ppB, ppC]
                          refine k_intm rfl _ rfl rfl ?_; try simp only [Act.put, ppA, ppB, ppC]
                          refine k_in (v := .int .u64 (j : Int)) rfl (fun w' _ => x_conv7 HG.out.2.2.2.1 rfl rfl) ?_; try simp only [Act.put, ppA, ppB, ppC]
                          refine k_in (v := .int .u64 ((2 ^ j : Nat) : Int)) rfl (fun w' _ => x_shl7 HG.out.2.2.2.1 rfl rfl rfl) ?_; try simp only [Act.put, ppA, ppB, ppC]
                          refine k_in (v := .int .u64 ((2 ^ j - 1 : Nat) : Int)) rfl (fun w' _ => x_sub7 HG.out.2.2.2.1 rfl rfl rfl) ?_; try simp only [Act.put, ppA, ppB, ppC]
                          refine k_in (v := .int .u64 ((2 ^ (2 ^ j - 1) : Nat) : Int)) rfl (fun w' _ => x_top7 HG.out.2.2.2.1 rfl rfl rfl) ?_; try simp only [Act.put, ppA, ppB, ppC]
                          refine k_xor (s := mixN A 0 ^^^ iacc l (j + 1)) rfl _ _ _ _ rfl rfl rfl (by simp only [if_true]; rw [HIS.out, Nat.xor_assoc]) (by simp only [if_true]; exact x64 HM0.out (iacc_lt (Nat.lt_succ_of_lt HG.out.2.2.2.1))) (top7_lt HG.out.2.2.2.1) ?_; try simp only [Act.put, ppA, ppB, ppC]
                          refine k_nil _ rfl _ rfl rfl ?_; try simp only [Act.put, ppA, ppB, ppC]
                          refine k_idx 0 rfl 114 _ _ rfl rfl rfl lanes2_type u64_size (by decide) ?_; try simp only [Act.put, ppA, ppB, ppC]
                          refine k_end ?_
                          clear hS
                          intro w5 hS
                          refine st_store1 (j := 0) hS rfl 113 _ _ rfl rfl rfl u64_size (by repeat (first | exact Upd.head | apply Upd.tail)) (by rw [lay_size]; have := HN.out.2.1; omega) ?_
                          clear hS
                          intro w6 hS
                          try simp only [Act.put, ppA, ppB, ppC]
                          rw [lay_set (show 0 < 25 by decide) HN.out.2.1, reg_on] at hS
                          go_upto_region 40 with (fail)
                          go_wp2
                          go_roundw
                          case rel => exact ⟨j + 1, by have := HG.out.2.2.2.1; omega, by go_num, hS⟩
                          case measure => have := HG.out.2.2.2.1; simp [intOf]; omega
                      · by_cases h2 : 128 ≤ L
                        · skip
                          have g1 := byte_and1 hL256 (show L % 2 = 0 by omega)
                          have g2 := byte_and128 hL256 h2
                          have g3 := byte_shl hL256
                          rw [show lstep L = 2 * L % 256 ^^^ 113 from if_pos h2] at HLs
                          rw [if_neg h1] at HIs
                          have HLS := hQz HLs
                          have HIS := hQz HIs
                          have HG := hQz (And.intro g1 (And.intro g2 (And.intro g3 (And.intro hlt hL256))))
                          clear g1 g2 g3 HLs HIs h1 h2 hL256 hj hlt
                          go_upto_region 41 with (fail)
                          try simp only [Act.put, ppA, ppB, ppC]
                          refine k_plain (C := fun w' => St [ba, bf] w w' _) hS ?_
                          refine k_ptr ⟨bf, 0, none⟩ rfl _ rfl rfl ?_; try simp only [Act.put, ppA, ppB, ppC]
                          refine k_nil _ rfl _ rfl rfl ?_; try simp only [Act.put, ppA, ppB, ppC]
                          refine k_cell (j := 0) rfl 5 _ rfl rfl (.tail .head) rfl u8_agg ?_; try simp only [Act.put, ppA, ppB, ppC]
                          refine k_in (v := .int .u8 0) rfl (fun w' _ => x_and8 rfl rfl rfl HG.out.1) ?_; try simp only [Act.put, ppA, ppB, ppC]
                          refine k_in (v := .bool false) rfl (fun w' _ => x_eq8 rfl rfl rfl rfl) ?_; try simp only [Act.put, ppA, ppB, ppC]
                          refine k_boola rfl _ rfl rfl ?_; try simp only [Act.put, ppA, ppB, ppC]
                          refine k_end ?_
                          clear hS
                          intro w1 hS
                          go_upto_region 42 with (fail)
                          try simp only [Act.put, ppA, ppB, ppC]
                          refine k_plain (C := fun w' => St [ba, bf] w w' _) hS ?_
                          refine k_ptr ⟨bf, 0, none⟩ rfl _ rfl rfl ?_; try simp only [Act.put, ppA, ppB, ppC]
                          refine k_nil _ rfl _ rfl rfl ?_; try simp only [Act.put, ppA, ppB, ppC]
                          refine k_cell (j := 0) rfl 5 _ rfl rfl (.tail .head) rfl u8_agg ?_; try simp only [Act.put, ppA, ppB, ppC]
                          refine k_in (v := .int .u8 128) rfl (fun w' _ => x_and8 rfl rfl rfl HG.out.2.1) ?_; try simp only [Act.put, ppA, ppB, ppC]
                          refine k_in (v := .bool true) rfl (fun w' _ => x_ne8 rfl rfl rfl rfl) ?_; try simp only [Act.put, ppA, ppB, ppC]
                          refine k_boola rfl _ rfl rfl ?_; try simp only [Act.put, ppA, ppB, ppC]
                          refine k_end ?_
                          clear hS
                          intro w2 hS
                          go_upto_region 43 with (fail)
                          try simp only [Act.put, ppA, ppB, ppC]
                          refine l_plain ?_
                          refine l_ptr ⟨bf, 0, none⟩ rfl _ rfl rfl ?_; try simp only [Act.put, ppA, ppB, ppC]
                          refine l_ptr ⟨bf, 0, none⟩ rfl _ rfl rfl ?_; try simp only [Act.put, ppA, ppB, ppC]
                          refine l_nil _ rfl _ rfl rfl ?_; try simp only [Act.put, ppA, ppB, ppC]
                          refine l_cell (j := 0) hS rfl 5 _ rfl rfl (.tail .head) rfl u8_agg ?_; try simp only [Act.put, ppA, ppB, ppC]
                          refine l_pure (v := .int .u8 ((2 * L % 256 : Nat) : Int)) rfl (fun w => x_shl8 rfl rfl rfl HG.out.2.2.1) ?_; try simp only [Act.put, ppA, ppB, ppC]
                          refine l_nil _ rfl _ rfl rfl ?_; try simp only [Act.put, ppA, ppB, ppC]
                          refine l_store (j := 0) (c := #[.int .u8 (L : Int)]) (c' := #[.int .u8 ((2 * L % 256 : Nat) : Int)]) hS rfl 5 _ _ rfl rfl rfl u8_size rfl (by repeat (first | exact Upd.head | apply Upd.tail)) (show 0 < 1 by decide) ?_
                          clear hS
                          intro w3 hS
                          try simp only [Act.put, ppA, ppB, ppC]
                          refine l_end ?_
                          go_upto_region 45 with (fail)
                          try simp only [Act.put, ppA, ppB, ppC]
                          refine l_plain ?_
                          refine l_ptr ⟨bf, 0, none⟩ rfl _ rfl rfl ?_; try simp only [Act.put, ppA, ppB, ppC]
                          refine l_ptr ⟨bf, 0, none⟩ rfl _ rfl rfl ?_; try simp only [Act.put, ppA, ppB, ppC]
                          refine l_nil _ rfl _ rfl rfl ?_; try simp only [Act.put, ppA, ppB, ppC]
                          refine l_cell (j := 0) hS rfl 5 _ rfl rfl (.tail .head) rfl u8_agg ?_; try simp only [Act.put, ppA, ppB, ppC]
                          refine l_pure (v := .int .u8 ((2 * L % 256 ^^^ 113 : Nat) : Int)) rfl (fun w => x_xor8 rfl rfl rfl byte_x113) ?_; try simp only [Act.put, ppA, ppB, ppC]
                          refine l_nil _ rfl _ rfl rfl ?_; try simp only [Act.put, ppA, ppB, ppC]
                          refine l_store (j := 0) (c := #[.int .u8 ((2 * L % 256 : Nat) : Int)]) (c' := #[.int .u8 ((2 * L % 256 ^^^ 113 : Nat) : Int)]) hS rfl 5 _ _ rfl rfl rfl u8_size rfl (by repeat (first | exact Upd.head | apply Upd.tail)) (show 0 < 1 by decide) ?_
                          clear hS
                          intro w4 hS
                          try simp only [Act.put, ppA, ppB, ppC]
                          refine l_end ?_
                          rw [← HLS.out] at hS
                          rw [← HIS.out] at hS
                          go_upto_region 40 with (fail)
                          go_wp2
                          go_roundw
                          case rel => exact ⟨j + 1, by have := HG.out.2.2.2.1; omega, by go_num, hS⟩
                          case measure => have := HG.out.2.2.2.1; simp [intOf]; omega
                        · skip
                          have g1 := byte_and1 hL256 (show L % 2 = 0 by omega)
                          have g2 := byte_and0 hL256 h2
                          have g3 := byte_shl hL256
                          rw [show lstep L = 2 * L % 256 from if_neg h2] at HLs
                          rw [if_neg h1] at HIs
                          have HLS := hQz HLs
                          have HIS := hQz HIs
                          have HG := hQz (And.intro g1 (And.intro g2 (And.intro g3 (And.intro hlt hL256))))
                          clear g1 g2 g3 HLs HIs h1 h2 hL256 hj hlt
                          go_upto_region 41 with (fail)
                          try simp only [Act.put, ppA, ppB, ppC]
                          refine k_plain (C := fun w' => St [ba, bf] w w' _) hS ?_
                          refine k_ptr ⟨bf, 0, none⟩ rfl _ rfl rfl ?_; try simp only [Act.put, ppA, ppB, ppC]
                          refine k_nil _ rfl _ rfl rfl ?_; try simp only [Act.put, ppA, ppB, ppC]
                          refine k_cell (j := 0) rfl 5 _ rfl rfl (.tail .head) rfl u8_agg ?_; try simp only [Act.put, ppA, ppB, ppC]
                          refine k_in (v := .int .u8 0) rfl (fun w' _ => x_and8 rfl rfl rfl HG.out.1) ?_; try simp only [Act.put, ppA, ppB, ppC]
                          refine k_in (v := .bool false) rfl (fun w' _ => x_eq8 rfl rfl rfl rfl) ?_; try simp only [Act.put, ppA, ppB, ppC]
                          refine k_boola rfl _ rfl rfl ?_; try simp only [Act.put, ppA, ppB, ppC]
                          refine k_end ?_
                          clear hS
                          intro w1 hS
                          go_upto_region 42 with (fail)
                          try simp only [Act.put, ppA, ppB, ppC]
                          refine k_plain (C := fun w' => St [ba, bf] w w' _) hS ?_
                          refine k_ptr ⟨bf, 0, none⟩ rfl _ rfl rfl ?_; try simp only [Act.put, ppA, ppB, ppC]
                          refine k_nil _ rfl _ rfl rfl ?_; try simp only [Act.put, ppA, ppB, ppC]
                          refine k_cell (j := 0) rfl 5 _ rfl rfl (.tail .head) rfl u8_agg ?_; try simp only [Act.put, ppA, ppB, ppC]
                          refine k_in (v := .int .u8 0) rfl (fun w' _ => x_and8 rfl rfl rfl HG.out.2.1) ?_; try simp only [Act.put, ppA, ppB, ppC]
                          refine k_in (v := .bool false) rfl (fun w' _ => x_ne8 rfl rfl rfl rfl) ?_; try simp only [Act.put, ppA, ppB, ppC]
                          refine k_boola rfl _ rfl rfl ?_; try simp only [Act.put, ppA, ppB, ppC]
                          refine k_end ?_
                          clear hS
                          intro w2 hS
                          go_upto_region 43 with (fail)
                          try simp only [Act.put, ppA, ppB, ppC]
                          refine l_plain ?_
                          refine l_ptr ⟨bf, 0, none⟩ rfl _ rfl rfl ?_; try simp only [Act.put, ppA, ppB, ppC]
                          refine l_ptr ⟨bf, 0, none⟩ rfl _ rfl rfl ?_; try simp only [Act.put, ppA, ppB, ppC]
                          refine l_nil _ rfl _ rfl rfl ?_; try simp only [Act.put, ppA, ppB, ppC]
                          refine l_cell (j := 0) hS rfl 5 _ rfl rfl (.tail .head) rfl u8_agg ?_; try simp only [Act.put, ppA, ppB, ppC]
                          refine l_pure (v := .int .u8 ((2 * L % 256 : Nat) : Int)) rfl (fun w => x_shl8 rfl rfl rfl HG.out.2.2.1) ?_; try simp only [Act.put, ppA, ppB, ppC]
                          refine l_nil _ rfl _ rfl rfl ?_; try simp only [Act.put, ppA, ppB, ppC]
                          refine l_store (j := 0) (c := #[.int .u8 (L : Int)]) (c' := #[.int .u8 ((2 * L % 256 : Nat) : Int)]) hS rfl 5 _ _ rfl rfl rfl u8_size rfl (by repeat (first | exact Upd.head | apply Upd.tail)) (show 0 < 1 by decide) ?_
                          clear hS
                          intro w3 hS
                          try simp only [Act.put, ppA, ppB, ppC]
                          refine l_end ?_
                          rw [← HLS.out] at hS
                          rw [← HIS.out] at hS
                          go_upto_region 40 with (fail)
                          go_wp2
                          go_roundw
                          case rel => exact ⟨j + 1, by have := HG.out.2.2.2.1; omega, by go_num, hS⟩
                          case measure => have := HG.out.2.2.2.1; simp [intOf]; omega
                    · obtain rfl : j = 7 := by omega
                      clear hlt hj
                      rw [show ((7 : Nat) : Int) = 7 from rfl]
                      go_wp2
                      exact bodyPost_end (results_none rfl _ _ _) rfl ⟨rfl, hS.frame, hS.get .head, hS.get (.tail .head)⟩
end Go.Proofs.YtopfmaoeebgjmaaGreatDoor
