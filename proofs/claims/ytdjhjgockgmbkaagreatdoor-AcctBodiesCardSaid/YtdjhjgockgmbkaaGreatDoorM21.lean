/- word.Of; Num and Int whole. -/
import Derived.Test.YtdjhjgockgmbkaaGreatDoorM20
set_option linter.unusedVariables false
set_option linter.unusedSimpArgs false
namespace Go.Proofs.YtdjhjgockgmbkaaGreatDoor
open Go.RowKit

theorem dig_of {n : Int} (hn : -9223372036854775808 ≤ n ∧ n ≤ 9223372036854775807) :
    #[Value.int .u64 (n % 18446744073709551616), Value.int .u64 ((n / 9223372036854775808) % 18446744073709551616), Value.int .u64 ((n / 9223372036854775808) % 18446744073709551616), Value.int .u64 ((n / 9223372036854775808) % 18446744073709551616)] = dig 4 (wint n) := by
  have h : dig 4 (wint n) = #[Value.int .u64 ((wint n / 2 ^ (64 * 0) % 2 ^ 64 : Nat) : Int), Value.int .u64 ((wint n / 2 ^ (64 * 1) % 2 ^ 64 : Nat) : Int), Value.int .u64 ((wint n / 2 ^ (64 * 2) % 2 ^ 64 : Nat) : Int), Value.int .u64 ((wint n / 2 ^ (64 * 3) % 2 ^ 64 : Nat) : Int)] := rfl
  rw [h]
  rcases Int.lt_or_le n 0 with hneg | hpos
  · have hw : wint n = 115792089237316195423570985008687907853269984665640564039457584007913129639936 - (-n).toNat := by
      have e : n % (M256 : Int) = n + 115792089237316195423570985008687907853269984665640564039457584007913129639936 := by
        show n % (115792089237316195423570985008687907853269984665640564039457584007913129639936 : Int) = _
        omega
      unfold wint; rw [e]; omega
    rw [hw]
    obtain ⟨m, rfl, hm⟩ : ∃ m : Nat, n = -(m : Int) ∧ 1 ≤ m := ⟨(-n).toNat, by omega, by omega⟩
    have e1 : -(m : Int) / 9223372036854775808 % 18446744073709551616 = 18446744073709551615 := by omega
    rw [e1, show (- -(m : Int)).toNat = m by omega]
    have e0 : ((115792089237316195423570985008687907853269984665640564039457584007913129639936 - m) / 2 ^ (64 * 0) % 2 ^ 64 : Nat) = 18446744073709551616 - m := by omega
    have e2 : ((115792089237316195423570985008687907853269984665640564039457584007913129639936 - m) / 2 ^ (64 * 1) % 2 ^ 64 : Nat) = 18446744073709551615 := by omega
    have e3 : ((115792089237316195423570985008687907853269984665640564039457584007913129639936 - m) / 2 ^ (64 * 2) % 2 ^ 64 : Nat) = 18446744073709551615 := by omega
    have e4 : ((115792089237316195423570985008687907853269984665640564039457584007913129639936 - m) / 2 ^ (64 * 3) % 2 ^ 64 : Nat) = 18446744073709551615 := by omega
    rw [e0, e2, e3, e4]
    have e5 : -(m : Int) % 18446744073709551616 = ((18446744073709551616 - m : Nat) : Int) := by omega
    rw [e5]; rfl
  · obtain ⟨m, rfl⟩ := Int.eq_ofNat_of_zero_le hpos
    have hm : m < M256 := by unfold M256; omega
    rw [wint_nat hm]
    have e1 : (m : Int) / 9223372036854775808 % 18446744073709551616 = 0 := by omega
    rw [e1]
    have e0 : (m / 2 ^ (64 * 0) % 2 ^ 64 : Nat) = m := by omega
    have e2 : (m / 2 ^ (64 * 1) % 2 ^ 64 : Nat) = 0 := by omega
    have e3 : (m / 2 ^ (64 * 2) % 2 ^ 64 : Nat) = 0 := by omega
    have e4 : (m / 2 ^ (64 * 3) % 2 ^ 64 : Nat) = 0 := by omega
    rw [e0, e2, e3, e4]
    have e5 : (m : Int) % 18446744073709551616 = (m : Int) := by omega
    rw [e5]; rfl
theorem word_of {cs : Array Value} {x : Nat} (h : cs = dig 4 x) (w : World) :
    Calls Tryz.prog 142 #[.agg cs] w fun e w' => e = .returned (.agg (wcells x)) ∧ Below w.heap.size w w' := by
  subst h; exact word_any x w
set_option maxHeartbeats 1000000 in
set_option maxRecDepth 100000 in
theorem of_any (n : Int) (hn : -9223372036854775808 ≤ n ∧ n ≤ 9223372036854775807) (w : World) :
    Calls Tryz.prog 116 #[.int .i64 n] w fun e w' => e = .returned (.agg (wcells (wint n))) ∧ Tch [] w w' := by
  have hd := dig_of hn
  rw [← IntKind.wrap_u64, ← IntKind.wrap_u64] at hd
  have HD := Lib.hid hd
  clear hd
  have hS := St.start w
  go_enter Tryz.func116, Tryz.ntmps116
  go_wp2_with (first
    | (refine st_new (L := []) hS rfl 23 rfl word_zero ?_; clear hS; intro w1 b1 hS)
    | (go_at_call 142; go_must (refine (word_of HD.out _).mono ?_; rintro e w2 ⟨rfl, hb⟩; replace hS := hS.call (Tch.of_below hb); clear hb))
    | (refine st_store (b := b1) hS rfl 23 _ _ rfl rfl rfl .head wordN_size (bc_size _ _) (bc_size _ _) (bc_one _ _) ?_; clear hS; intro w3 hS))
  refine post_cell 2 23 rfl rfl rfl (hS.get .head) wordN_type rfl wordN_size (bc_size _ _) ?_
  exact ⟨rfl, hS.frame⟩
/-- The bytes of a number. -/
def bytesN (x : Nat) : List Nat := (List.range 32).map (byt x)
theorem bytesN_len (x : Nat) : (bytesN x).length = 32 := by simp [bytesN]
theorem bytesN_lt (x : Nat) : ∀ y ∈ bytesN x, y < 256 := by
  intro y hy
  obtain ⟨i, _, rfl⟩ := List.mem_map.1 hy
  exact byt_lt _ _
theorem wv_bytesN (x : Nat) : wv (bytesN x) = bc 32 (byt x) := bc_congr fun i hi => by
  unfold bytesN
  rw [List.getD_eq_getElem?_getD, List.getElem?_map, List.getElem?_range hi]; rfl
theorem rnum_all (n : Int) (w : World) (hn : n ≤ 9223372036854775807) : Calls Tryz.prog 29 #[.int .i64 n] w (BytesPost [] (stripZ (bytesN n.toNat)) w) :=
  rnum_any n _ w (bytesN_len _) (bytesN_lt _) fun k w' hk => by
    have h := rOf_any k (by omega) w'
    rw [wv_bytesN, show n.toNat = wint k by rw [hk, wint_nat (by unfold M256; omega)]]
    exact h
end Go.Proofs.YtdjhjgockgmbkaaGreatDoor

/- rlp.Int and the document's IntOf, whole. -/
namespace Go.Proofs.YtdjhjgockgmbkaaGreatDoor
open Go.RowKit

theorem pint_str (yb yl : Value) (L : List Nat) (w : World) (hv : RdA [] w yb L) : Calls Tryz.prog 93 #[.agg #[.bool false, yb, yl]] w (IntP (intOfN (.str L)) w) :=
  pint_any false yb yl (.str L) w (fun L' h => by cases h; exact hv.lt) (fun w' hT => pword_any yb yl L w' (hv.tch hT)) (fun W w' hn hl => pInt_any W w' hn hl)
theorem pint_lst (yb yl : Value) (its : List It) (w : World) : Calls Tryz.prog 93 #[.agg #[.bool true, yb, yl]] w (IntP (intOfN (.lst its)) w) :=
  pint_any true yb yl (.lst its) w (fun L' h => by cases h) (fun w' hT => pword_lst yb yl its w') (fun W w' hn hl => pInt_any W w' hn hl)
theorem rint_str (yb yl : Value) (L : List Nat) (w : World) (hv : RdA [] w yb L) : Calls Tryz.prog 35 #[.agg #[.bool false, yb, yl]] w (IntP (intOfN (.str L)) w) :=
  rint_any false yb yl (.str L) w (fun L' h => by cases h; exact hv.lt) (fun w' hT => rword_any yb yl L w' (hv.tch hT)) (fun W w' hn hl => rInt_any W w' hn hl)
theorem rint_lst (yb yl : Value) (its : List It) (w : World) : Calls Tryz.prog 35 #[.agg #[.bool true, yb, yl]] w (IntP (intOfN (.lst its)) w) :=
  rint_any true yb yl (.lst its) w (fun L' h => by cases h) (fun w' hT => rword_lst yb yl its w') (fun W w' hn hl => rInt_any W w' hn hl)
end Go.Proofs.YtdjhjgockgmbkaaGreatDoor

/- Bodies of accounts as plain mathematics: their items, and which items are some. -/
namespace Go.Proofs.YtdjhjgockgmbkaaGreatDoor
open Go.RowKit

/-- What a body is: its nonce, and three words' bytes. -/
structure Bd where
  n : Nat
  b : List Nat
  r : List Nat
  h : List Nat
/-- A body that may be. -/
structure Bd.Ok (x : Bd) : Prop where
  n : x.n < 9223372036854775808
  b : x.b.length = 32 ∧ ∀ y ∈ x.b, y < 256
  r : x.r.length = 32 ∧ ∀ y ∈ x.r, y < 256
  h : x.h.length = 32 ∧ ∀ y ∈ x.h, y < 256
def Bd.it (x : Bd) : It := .lst [.str (stripZ (bytesN x.n)), .str (stripZ x.b), .str x.r, .str x.h]
/-- The body of an item, if it is one's. -/
def bdOf : It → Option Bd
  | .lst [i, j, .str r, .str h] => match intOfN i, wordOf j with
    | some n, some b => if r.length = 32 ∧ h.length = 32 then some ⟨n, b, r, h⟩ else none
    | _, _ => none
  | _ => none
def bdRead (l : List Nat) : Option Bd := if rdErr l = 0 then bdOf (rdItem l) else none
theorem stripZ_head : ∀ l : List Nat, (stripZ l).head? ≠ some 0
  | [] => by simp [stripZ]
  | x :: r => by
    by_cases h : x = 0
    · subst h; rw [stripZ_zero]; exact stripZ_head r
    · rw [stripZ_pos r h]; simpa using h
theorem stripZ_le : ∀ l : List Nat, (stripZ l).length ≤ l.length
  | [] => Nat.le_refl _
  | x :: r => by
    by_cases h : x = 0
    · subst h; rw [stripZ_zero]; exact Nat.le_succ_of_le (stripZ_le r)
    · rw [stripZ_pos r h]; exact Nat.le_refl _
theorem stripZ_pad : ∀ l : List Nat, List.replicate (l.length - (stripZ l).length) 0 ++ stripZ l = l
  | [] => rfl
  | x :: r => by
    by_cases h : x = 0
    · subst h
      have hl := stripZ_le r
      rw [stripZ_zero, List.length_cons, show r.length + 1 - (stripZ r).length = (r.length - (stripZ r).length) + 1 by omega, List.replicate_succ, List.cons_append, stripZ_pad r]
    · rw [stripZ_pos r h]; simp
theorem wordOf_strip {W : List Nat} (hn : W.length = 32) : wordOf (.str (stripZ W)) = some W := by
  unfold wordOf
  have hl := stripZ_le W
  simp only
  rw [if_pos ⟨by omega, stripZ_head W⟩]
  unfold padW
  have := stripZ_pad W
  rw [hn] at this
  rw [this]
theorem bval_bytesN {n : Nat} (h : n < 9223372036854775808) : bval (bytesN n) = n := by
  have key : ∀ k, k ≤ 32 → bval ((List.range k).map (byt n)) = n / 2 ^ (8 * (32 - k)) % 256 ^ k := by
    intro k
    induction k with
    | zero => intro _; simp [bval, Nat.mod_one]
    | succ k ih =>
      intro hk
      have hk' := ih (by omega)
      rw [List.range_succ, List.map_append, List.map_singleton]
      unfold bval at hk' ⊢
      rw [List.foldl_append, List.foldl_cons, List.foldl_nil, hk']
      unfold byt
      rw [show 31 - k = 32 - (k + 1) by omega]
      have e1 : 8 * (32 - k) = 8 * (32 - (k + 1)) + 8 := by omega
      have e2 : n / 2 ^ (8 * (32 - k)) = n / 2 ^ (8 * (32 - (k + 1))) / 256 := by
        rw [e1, Nat.pow_add, ← Nat.div_div_eq_div_mul]
      rw [e2]
      generalize n / 2 ^ (8 * (32 - (k + 1))) = m
      rw [Nat.pow_succ 256 k, Nat.mul_comm (256 ^ k) 256, Nat.mod_mul]
      omega
  have := key 32 (Nat.le_refl _)
  unfold bytesN
  rw [this]
  simp only [Nat.sub_self, Nat.mul_zero, Nat.pow_zero, Nat.div_one]
  exact Nat.mod_eq_of_lt (Nat.lt_of_lt_of_le h (by decide))
theorem intOfN_strip {n : Nat} (h : n < 9223372036854775808) : intOfN (.str (stripZ (bytesN n))) = some n := by
  unfold intOfN
  rw [wordOf_strip (bytesN_len n)]
  show wInt (bytesN n) = some n
  unfold wInt
  rw [bval_bytesN h, if_pos h]
theorem Bd.Ok.of_it {x : Bd} (h : x.Ok) : bdOf x.it = some x := by
  unfold Bd.it bdOf
  simp only [intOfN_strip h.n, wordOf_strip h.b.1, h.r.1, h.h.1, and_self, if_true]
theorem encS_leQ (l : List Nat) (h : l.length ≤ 55) : (encS l).length ≤ l.length + 1 := by
  unfold encS
  split
  · omega
  · rw [List.length_append, hd_length]; unfold hsz; rw [if_pos h]; omega
theorem Bd.Ok.len {x : Bd} (h : x.Ok) : (enc x.it).length ≤ 200 := by
  unfold Bd.it
  have h1 := stripZ_le (bytesN x.n)
  have h2 := stripZ_le x.b
  rw [bytesN_len] at h1
  rw [h.b.1] at h2
  have e1 := encS_leQ (stripZ (bytesN x.n)) (by omega)
  have e2 := encS_leQ (stripZ x.b) (by omega)
  have e3 := encS_leQ x.r (by rw [h.r.1]; decide)
  have e4 := encS_leQ x.h (by rw [h.h.1]; decide)
  rw [h.r.1] at e3
  rw [h.h.1] at e4
  have ht : (encs [It.str (stripZ (bytesN x.n)), .str (stripZ x.b), .str x.r, .str x.h]).length ≤ 132 := by
    simp only [encs, enc, List.length_append, List.length_nil]
    omega
  rw [enc, List.length_append, hd_length]
  have : hsz (encs [It.str (stripZ (bytesN x.n)), .str (stripZ x.b), .str x.r, .str x.h]).length ≤ 2 := by
    unfold hsz
    split
    · omega
    · rename_i hgt
      generalize (encs [It.str (stripZ (bytesN x.n)), .str (stripZ x.b), .str x.r, .str x.h]).length = m at ht hgt
      unfold lsz
      rw [be_pos (by omega), show m / 256 = 0 by omega, be_zero]
      simp
  omega
theorem Bd.it_dep (x : Bd) : dep x.it = 1 := by
  unfold Bd.it
  simp [dep, deps]
theorem Bd.Ok.back {x : Bd} (h : x.Ok) : bdRead (enc x.it) = some x := by
  have hl := h.len
  have hr : rd (enc x.it) = .ok x.it := by rw [enc_rd (by omega), if_pos (by rw [Bd.it_dep]; decide)]
  unfold bdRead rdErr rdItem
  rw [hr]
  simp only [if_true]
  exact h.of_it
theorem bdOf_ok {t : It} {x : Bd} (hb : ∀ l, (∃ ts, t = .lst ts ∧ .str l ∈ ts) → ∀ y ∈ l, y < 256) (h : bdOf t = some x) : x.Ok := by
  unfold bdOf at h
  split at h
  · rename_i i j r h'
    split at h
    · rename_i n b hi hj
      split at h
      · rename_i hl
        cases h
        have hw := wordOf_ok (fun L hL => hb L ⟨_, rfl, by rw [← hL]; simp⟩) hj
        refine ⟨?_, hw, ⟨hl.1, hb r ⟨_, rfl, by simp⟩⟩, ⟨hl.2, hb h' ⟨_, rfl, by simp⟩⟩⟩
        unfold intOfN at hi
        cases hw2 : wordOf i with
        | none => rw [hw2] at hi; cases hi
        | some W =>
          rw [hw2] at hi
          have : wInt W = some n := hi
          unfold wInt at this
          split at this
          · rename_i hlt; cases this; exact hlt
          · cases this
      · cases h
    · cases h
  · cases h
end Go.Proofs.YtdjhjgockgmbkaaGreatDoor

/- Bodies as values; a body among a law's arguments. -/
namespace Go.Proofs.YtdjhjgockgmbkaaGreatDoor
open Go.ChangeShapes Go.WideShapes Go.ChangeAt Go.RowKit
set_option maxRecDepth 100000
set_option linter.unusedVariables false

/-- The cells of a body. -/
def bodyC (n : Int) (B R H : List Nat) : Array Value := (Value.int .i64 n :: ((wv B).toList ++ ((wv R).toList ++ (wv H).toList))).toArray
theorem bodyC_size (n : Int) (B R H : List Nat) : (bodyC n B R H).size = 97 := by
  have h : ∀ W, (wv W).size = 32 := fun W => bc_size _ _
  simp [bodyC, h]
theorem bodyC_0 (n : Int) (B R H : List Nat) : (bodyC n B R H)[0]? = some (.int .i64 n) := rfl
theorem bodyC_b (n : Int) (B R H : List Nat) {i : Nat} (hi : i < 32) : (bodyC n B R H)[1 + i]? = (wv B)[i]? := by
  have h : ∀ W, (wv W).size = 32 := fun W => bc_size _ _
  rw [Nat.add_comm]
  simp only [bodyC, List.getElem?_toArray, List.getElem?_cons_succ]
  rw [List.getElem?_append_left (by simp [h]; omega)]; simp
theorem bodyC_r (n : Int) (B R H : List Nat) {i : Nat} (hi : i < 32) : (bodyC n B R H)[33 + i]? = (wv R)[i]? := by
  have h : ∀ W, (wv W).size = 32 := fun W => bc_size _ _
  rw [show 33 + i = (32 + i) + 1 by omega]
  simp only [bodyC, List.getElem?_toArray, List.getElem?_cons_succ]
  rw [List.getElem?_append_right (by simp [h]), List.getElem?_append_left (by simp [h]; omega)]
  simp [h]
theorem bodyC_h (n : Int) (B R H : List Nat) {i : Nat} (hi : i < 32) : (bodyC n B R H)[65 + i]? = (wv H)[i]? := by
  have h : ∀ W, (wv W).size = 32 := fun W => bc_size _ _
  rw [show 65 + i = (64 + i) + 1 by omega]
  simp only [bodyC, List.getElem?_toArray, List.getElem?_cons_succ]
  rw [List.getElem?_append_right (by simp [h]; omega), List.getElem?_append_right (by simp [h]; omega)]
  simp [h]
  congr 1; omega
theorem bodyC_one (n : Int) (B R H : List Nat) : (bodyC n B R H).all (·.oneCell') = true := by
  have h : ∀ W, ∀ x ∈ (wv W).toList, x.oneCell' = true := fun W x hx => by
    have := bc_one 32 fun i => W.getD i 0
    rw [Array.all_eq_true_iff_forall_mem] at this
    exact this x (Array.mem_toList_iff.1 hx)
  rw [Array.all_eq_true_iff_forall_mem]
  intro x hx
  have hx' : x ∈ Value.int .i64 n :: ((wv B).toList ++ ((wv R).toList ++ (wv H).toList)) := by
    unfold bodyC at hx; exact List.mem_toArray.1 hx
  rcases List.mem_cons.1 hx' with rfl | hx'
  · rfl
  · rcases List.mem_append.1 hx' with hx' | hx'
    · exact h _ _ hx'
    · rcases List.mem_append.1 hx' with hx' | hx'
      · exact h _ _ hx'
      · exact h _ _ hx'
theorem body_cells : Tryz.prog.cellsOf 25 = 97 := by kernel_rfl
theorem body_size : (Tryz.prog.info? 25).map (·.size) = some 97 := by kernel_rfl
theorem int_cellsQ : Tryz.prog.cellsOf 3 = 1 := by kernel_rfl
theorem word_cellsQ : Tryz.prog.cellsOf 23 = 32 := by kernel_rfl
theorem int_tyQ : Tryz.prog.underlying 3 = some (.int .i64) := by kernel_rfl
theorem byte_tyQ : Tryz.prog.underlying 5 = some (.int .u8) := by kernel_rfl
theorem body_fields : (Tryz.prog.underlying 25).map (fun d => match d with | .struct fs => fs.map (fun f => (f.type, f.offset)) | _ => #[]) = some #[(3, 0), (23, 1), (23, 33), (23, 65)] := by kernel_rfl
theorem body_ty : ∃ f0 f1 f2 f3 : Field, Tryz.prog.underlying 25 = some (.struct #[f0, f1, f2, f3]) ∧ (f0.type = 3 ∧ f0.offset = 0) ∧ (f1.type = 23 ∧ f1.offset = 1) ∧ (f2.type = 23 ∧ f2.offset = 33) ∧ f3.type = 23 ∧ f3.offset = 65 := by
  have h := body_fields
  cases hq : Tryz.prog.underlying 25 with
  | none => rw [hq] at h; cases h
  | some d =>
    rw [hq] at h
    simp only [Option.map_some, Option.some.injEq] at h
    split at h
    · rename_i fs
      have hl := congrArg Array.size h
      simp at hl
      obtain ⟨l⟩ := fs
      match l, hl, h with
      | [f0, f1, f2, f3], _, h =>
        simp at h
        exact ⟨f0, f1, f2, f3, rfl, h.1, h.2.1, h.2.2.1, h.2.2.2⟩
    · simp at h
section
variable {H : Type} {enc' : TypeId × Value → H} {w : World}
theorem word_trod {fuel : Nat} {cs : List Value} {x : DataW H × List MemPlace} {base : Nat} {spare : Nat → Bool} {held : Bool} (hf : DataW.trod enc' Tryz.prog w base spare held fuel 23 cs = some x) : ∃ W : List Nat, W.length = 32 ∧ (∀ y ∈ W, y < 256) ∧ cs = (wv W).toList := by
  obtain ⟨xs, m, rfl, hx, hcl, hlen, hel⟩ := DataW.trod_array wordN_type hf
  have hcl' : cs.length = 32 := by rw [hcl, word_cellsQ]
  have key : ∀ i, i < 32 → ∃ n : Nat, n < 256 ∧ cs[i]? = some (.int .u8 (n : Int)) := by
    intro i hi
    have hi' : i < cs.length := by omega
    have e := hel i hi
    rw [byte_cells, Nat.mul_one] at e
    have e2 : (cs.drop i).take 1 = [cs[i]] := by
      rw [List.drop_eq_getElem_cons hi', List.take_succ_cons, List.take_zero]
    rw [e2, List.getElem?_eq_getElem (by omega)] at e
    obtain ⟨n, hc, hxn, hw⟩ := DataW.trod_int byte_tyQ e
    have hn : 0 ≤ n ∧ n ≤ 255 := by
      simp [Lit.wf, IntKind.min, IntKind.max, IntKind.bits, IntKind.signed] at hw
      omega
    refine ⟨n.toNat, by omega, ?_⟩
    rw [List.getElem?_eq_getElem hi', List.cons.inj hc |>.1]
    congr 2; omega
  have hex : ∃ g : Nat → Nat, ∀ i, g i < 256 ∧ (i < 32 → cs[i]? = some (.int .u8 ((g i : Nat) : Int))) := by
    refine ⟨fun i => if h : i < 32 then (key i h).choose else 0, fun i => ?_⟩
    by_cases hi : i < 32
    · simp only [hi, dif_pos]
      exact ⟨(key i hi).choose_spec.1, fun _ => (key i hi).choose_spec.2⟩
    · simp only [hi, dif_neg, not_false_eq_true]
      exact ⟨by omega, fun h => h.elim⟩
  obtain ⟨g, hg⟩ := hex
  refine ⟨(List.range 32).map g, by simp, ?_, ?_⟩
  · intro y hy
    obtain ⟨i, _, rfl⟩ := List.mem_map.1 hy
    exact (hg i).1
  · apply List.ext_getElem?
    intro i
    have e : (wv ((List.range 32).map g)).toList[i]? = (wv ((List.range 32).map g))[i]? := Array.getElem?_toList
    rw [e]
    unfold wv
    by_cases hi : i < 32
    · rw [bc_get hi, (hg i).2 hi]
      congr 3
      rw [List.getD_eq_getElem?_getD, List.getElem?_map, List.getElem?_range hi]
      rfl
    · rw [bc_none (by omega), List.getElem?_eq_none (by rw [hcl']; omega)]
/-- A body among the arguments. -/
theorem open_body {r : Reach} {b0 : Nat} {v : Value} {d : DataW H} {p : List MemPlace} {base : Nat} {spare : Nat → Bool} {held : Bool} (hv : Value.okWide Tryz.prog w r b0 25 v) (h : DataW.Trod enc' Tryz.prog w base spare held 25 v d p) :
    ∃ (n : Int) (B R H : List Nat), v = .agg (bodyC n B R H) ∧ (-9223372036854775808 ≤ n ∧ n ≤ 9223372036854775807) ∧ (B.length = 32 ∧ ∀ y ∈ B, y < 256) ∧ (R.length = 32 ∧ ∀ y ∈ R, y < 256) ∧ (H.length = 32 ∧ ∀ y ∈ H, y < 256) := by
  obtain ⟨f0, f1, f2, f3, hty, ⟨t0, o0⟩, ⟨t1, o1⟩, ⟨t2, o2⟩, t3, o3⟩ := body_ty
  obtain ⟨cs, rfl, hsz⟩ : ∃ cs, v = .agg cs ∧ cs.size = 97 := by
    unfold Value.okWide at hv
    rw [hty] at hv
    obtain ⟨cs, h1, h2, _⟩ := hv
    exact ⟨cs, h1, by rw [h2, body_cells]⟩
  obtain ⟨fuel, hf⟩ := h
  obtain ⟨xs, m, rfl, hx, hlen, hxl, hel⟩ := DataW.trod_struct hty hf
  have e0 := hel 0 f0 rfl
  have e1 := hel 1 f1 rfl
  have e2 := hel 2 f2 rfl
  have e3 := hel 3 f3 rfl
  have hs : xs.length = 4 := by simpa using hxl
  rw [t0, o0, int_cellsQ, List.getElem?_eq_getElem (by omega)] at e0
  rw [t1, o1, word_cellsQ, List.getElem?_eq_getElem (by omega)] at e1
  rw [t2, o2, word_cellsQ, List.getElem?_eq_getElem (by omega)] at e2
  rw [t3, o3, word_cellsQ, List.getElem?_eq_getElem (by omega)] at e3
  obtain ⟨n, hc, hxn, hw⟩ := DataW.trod_int int_tyQ e0
  obtain ⟨B, hB, hBl, hBe⟩ := word_trod e1
  obtain ⟨R, hR, hRl, hRe⟩ := word_trod e2
  obtain ⟨H', hH, hHl, hHe⟩ := word_trod e3
  have hn : -9223372036854775808 ≤ n ∧ n ≤ 9223372036854775807 := by
    simp [Lit.wf, IntKind.min, IntKind.max, IntKind.bits, IntKind.signed] at hw
    omega
  refine ⟨n, B, R, H', ?_, hn, ⟨hB, hBl⟩, ⟨hR, hRl⟩, ⟨hH, hHl⟩⟩
  have hcl : (Value.agg cs).cells.toList = cs.toList := rfl
  rw [hcl] at hc hBe hRe hHe
  have hl : cs.toList.length = 97 := by simpa using hsz
  have h97 : cs.toList = (cs.toList.drop 0).take 1 ++ ((cs.toList.drop 1).take 32 ++ ((cs.toList.drop 33).take 32 ++ (cs.toList.drop 65).take 32)) := by
    generalize cs.toList = l at hl
    apply List.ext_getElem?
    intro i
    rcases Nat.lt_or_ge i 1 with h | h
    · rw [List.getElem?_append_left (by simp; omega), List.getElem?_take_of_lt h, List.getElem?_drop, Nat.zero_add]
    · rw [List.getElem?_append_right (by simp; omega)]
      rcases Nat.lt_or_ge i 33 with h2 | h2
      · rw [List.getElem?_append_left (by simp; omega), List.getElem?_take_of_lt (by simp; omega), List.getElem?_drop]
        congr 1; simp; omega
      · rw [List.getElem?_append_right (by simp; omega)]
        rcases Nat.lt_or_ge i 65 with h3 | h3
        · rw [List.getElem?_append_left (by simp; omega), List.getElem?_take_of_lt (by simp; omega), List.getElem?_drop]
          congr 1; simp; omega
        · rw [List.getElem?_append_right (by simp; omega)]
          rcases Nat.lt_or_ge i 97 with h4 | h4
          · rw [List.getElem?_take_of_lt (by simp; omega), List.getElem?_drop]
            congr 1; simp; omega
          · rw [List.getElem?_eq_none (by omega), List.getElem?_eq_none (by simp; omega)]
  have hcs : cs = bodyC n B R H' := by
    apply Array.toList_inj.1
    rw [h97, hc, hBe, hRe, hHe]
    rfl
  rw [hcs]
end
end Go.Proofs.YtdjhjgockgmbkaaGreatDoor
